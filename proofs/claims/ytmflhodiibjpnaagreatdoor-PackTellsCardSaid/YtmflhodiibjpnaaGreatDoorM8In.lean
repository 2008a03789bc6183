/- Several of my texts, laid as one. -/
import Derived.Test.YtmflhodiibjpnaaGreatDoorW8Off
import Derived.Test.YtmflhodiibjpnaaGreatDoorU1From
import Derived.Shelf.Abstract
import Derived.Test.YtmflhodiibjpnaaGreatDoorD8Rd
import Derived.Laws.CopyRow
import Derived.Laws.IdiomCopy
import Derived.Laws.CopyOwn
/-
  octet.In, walked: Spoil, Spoilt, Rest, Close, Open, read.
-/
namespace Go.Proofs.YtmflhodiibjpnaaGreatDoor
set_option linter.unusedVariables false
set_option linter.unusedSimpArgs false
set_option maxRecDepth 10000
open Go.RowKit Go.Shelf

/-- What is read, where it lies: the bytes that are left; none: it is spoilt. -/
def InS (w : World) (g : Nat) : Option (List UInt8) → Prop
  | none => Box w g 146 #[.slice none 0 0, .bool true]
  | some l => ∃ a o c, Box w g 146 #[.slice (some ⟨a, o, none⟩) l.length c, .bool false] ∧ TyAt w a 5 ∧ l.length ≤ c ∧ c ≤ maxLen ∧ BytesA w a o l
theorem InS.box {w : World} {g : Nat} {st : Option (List UInt8)} (h : InS w g st) : ∃ cs, Box w g 146 cs := by
  cases st with
  | none => exact ⟨_, h⟩
  | some l => obtain ⟨a, o, c, h, -⟩ := h; exact ⟨_, h⟩
theorem InS.inside {w : World} {g : Nat} {st : Option (List UInt8)} (h : InS w g st) : g < w.heap.size := by obtain ⟨cs, h⟩ := h.box; exact h.inside
theorem InS.keep {w w' : World} {g : Nat} {st : Option (List UInt8)} (h : InS w g st) (e : ∀ k, k < w.heap.size → (k = g ∨ TyAt w k 5) → w'.heap[k]? = w.heap[k]?) : InS w' g st := by
  cases st with
  | none => exact (e g h.inside (Or.inl rfl)).trans h
  | some l =>
    obtain ⟨a, o, c, h1, h2, h3, h4, h5⟩ := h
    have ea := e a h2.inside (Or.inr h2)
    exact ⟨a, o, c, (e g h1.inside (Or.inl rfl)).trans h1, h2.keep ea, h3, h4, h5.keep ea⟩
theorem InS.call {w w' : World} {g : Nat} {st : Option (List UInt8)} (h : InS w g st) (hb : Below w.heap.size w w') : InS w' g st := h.keep fun k hk _ => hb.block k hk
/-- A block of another type than bytes, and another one, has turned. -/
theorem InS.off {w w' : World} {g b : Nat} {t : TypeId} {cs : Array Value} {st : Option (List UInt8)} (h : InS w g st) (k : Off (One b) w w') (hb : Box w b t cs) (hne : g ≠ b) (ht : 5 ≠ t) : InS w' g st :=
  h.keep fun i hi hx => k.block i hi (fun e => by
    rcases hx with hx | hx
    · exact hne (hx.symm.trans e)
    · exact hx.ne hb ht e)
/-- A new block of whatever type has turned. -/
theorem InS.new {w W w' : World} {g b : Nat} {st : Option (List UInt8)} (h : InS w g st) (hb : Below w.heap.size w W) (k : Off (One b) W w') (hne : w.heap.size ≤ b) : InS w' g st :=
  h.keep fun i hi hx => (k.block i (Nat.lt_of_lt_of_le hi hb.size) (fun e => by have : i = b := e; omega)).trans (hb.block i hi)

theorem in_spoil_none (w : World) : Calls Tryz.prog 121 #[.pointer none] w (Still (.tuple #[]) w) := by
  go_enter Tryz.func121, Tryz.ntmps121
  go_wp2
  go_end0
  exact ⟨rfl, rfl⟩
theorem in_spoil (w : World) (g : Nat) (st : Option (List UInt8)) (h : InS w g st) : Calls Tryz.prog 121 #[.pointer (some ⟨g, 0, none⟩)] w fun e w' => e = .returned (.tuple #[]) ∧ InS w' g none ∧ Off (One g) w w' := by
  obtain ⟨x, y, hbx⟩ : ∃ x y, Box w g 146 #[x, y] := by
    cases st with
    | none => exact ⟨_, _, h⟩
    | some l => obtain ⟨a, o, c, h, -⟩ := h; exact ⟨_, _, h⟩
  obtain ⟨c0, c1, f0, f1, hin⟩ := hbx.two
  have b1 := (hbx.wrote 0 (.slice none 0 0)).wrote 1 (.bool true)
  have k1 := ((Off.refl (One g) w).set_ (p := ⟨g, 0, none⟩) (Or.inl rfl) (.slice none 0 0)).set_ (p := ⟨g, 1, none⟩) (Or.inl rfl) (.bool true)
  go_enter Tryz.func121, Tryz.ntmps121
  go_wp2
  go_end0
  exact ⟨rfl, b1, k1⟩
theorem in_spoilt_none (w : World) : Calls Tryz.prog 33 #[.pointer none] w (Still (.bool true) w) := by
  go_enter Tryz.func33, Tryz.ntmps33
  go_wp2
  go_ret
  exact ⟨rfl, rfl⟩
theorem in_spoilt (w : World) (g : Nat) (st : Option (List UInt8)) (h : InS w g st) : Calls Tryz.prog 33 #[.pointer (some ⟨g, 0, none⟩)] w (Still (.bool st.isNone) w) := by
  obtain ⟨x, hbx⟩ : ∃ x, Box w g 146 #[x, .bool st.isNone] := by
    cases st with
    | none => exact ⟨_, h⟩
    | some l => obtain ⟨a, o, c, h, -⟩ := h; exact ⟨_, h⟩
  obtain ⟨c0, c1, f0, f1, hin⟩ := hbx.two
  go_enter Tryz.func33, Tryz.ntmps33
  go_wp2
  go_ret
  exact ⟨rfl, rfl⟩
theorem in_rest_none (w : World) : Calls Tryz.prog 34 #[.pointer none] w (Still (.int .i64 0) w) := by
  have c := in_spoilt_none w
  go_enter Tryz.func34, Tryz.ntmps34
  go_wp2_with (first | (go_at_call 33; refine c.mono ?_; rintro e w' ⟨rfl, rfl⟩))
  go_ret
  exact ⟨rfl, rfl⟩
/-- How many bytes are left. -/
def restN (st : Option (List UInt8)) : Nat := match st with | none => 0 | some l => l.length
theorem in_rest (w : World) (g : Nat) (st : Option (List UInt8)) (h : InS w g st) : Calls Tryz.prog 34 #[.pointer (some ⟨g, 0, none⟩)] w (Still (.int .i64 (restN st : Nat)) w) := by
  have c := in_spoilt w g st h
  cases st with
  | none =>
    go_enter Tryz.func34, Tryz.ntmps34
    go_wp2_with (first | (go_at_call 33; refine c.mono ?_; rintro e w' ⟨rfl, rfl⟩))
    go_ret
    exact ⟨rfl, rfl⟩
  | some l =>
    obtain ⟨a, o, cap, hbx, -⟩ := h
    obtain ⟨c0, c1, f0, f1, hin⟩ := hbx.two
    go_enter Tryz.func34, Tryz.ntmps34
    go_wp2_with (first | (go_at_call 33; refine c.mono ?_; rintro e w' ⟨rfl, rfl⟩))
    go_ret
    exact ⟨rfl, rfl⟩
theorem in_close_none (w : World) : Calls Tryz.prog 126 #[.pointer none] w (Still (.int .i64 1) w) := by
  go_enter Tryz.func126, Tryz.ntmps126
  go_wp2
  go_ret
  exact ⟨rfl, rfl⟩
/-- What Close tells. -/
def closeN (st : Option (List UInt8)) : Int := if st = some [] then 0 else 80
theorem in_close (w : World) (g : Nat) (st : Option (List UInt8)) (h : InS w g st) : Calls Tryz.prog 126 #[.pointer (some ⟨g, 0, none⟩)] w (Still (.int .i64 (closeN st)) w) := by
  cases st with
  | none =>
    obtain ⟨c0, c1, f0, f1, hin⟩ := Box.two (show Box w g 146 #[.slice none 0 0, .bool true] from h)
    go_enter Tryz.func126, Tryz.ntmps126
    go_wp2
    go_ret
    exact ⟨rfl, rfl⟩
  | some l =>
    obtain ⟨a, o, cap, hbx, -⟩ := h
    obtain ⟨c0, c1, f0, f1, hin⟩ := hbx.two
    by_cases hl : l.length = 0
    · have e : l = [] := List.length_eq_zero_iff.1 hl
      subst e
      have hl0 : ¬ ((0 : Int) < 0) := by omega
      go_enter Tryz.func126, Tryz.ntmps126
      go_wp2
      go_ret
      exact ⟨rfl, rfl⟩
    · have e : closeN (some l) = 80 := by
        unfold closeN
        rw [if_neg]
        intro e
        injection e with e
        rw [e] at hl
        exact hl rfl
      rw [e]
      have hl0 : (0 : Int) < (l.length : Int) := by omega
      go_enter Tryz.func126, Tryz.ntmps126
      go_wp2
      go_ret
      exact ⟨rfl, rfl⟩

set_option maxHeartbeats 1000000 in
theorem in_open (s : ByteArray) (hs : s.size ≤ 4611686018427387903) (w : World) : Calls Tryz.prog 30 #[.string s] w fun e w' => ∃ g, e = .returned (.pointer (some ⟨g, 0, none⟩)) ∧ w.heap.size ≤ g ∧ InS w' g (some s.data.toList) ∧ Below w.heap.size w w' := by
  have hcv := run_bytes_of_string (P := Tryz.prog) w 9 100 5 s Tryz.underlying9 Tryz.underlying100 Tryz.underlying5
  have hge := grownCap_ge w s.size 0 5
  have hle := grownCap_le_maxLen w s.size 0 5 (by unfold maxLen; omega)
  have hB := bytesA_made w 5 s (grownCap w s.size 0 5) ((bytesRow s (grownCap w s.size 0 5)).size, (bytesRow s (grownCap w s.size 0 5)).size + 1)
  have hT := tyAt_made w 5 (bytesRow s (grownCap w s.size 0 5)) ((bytesRow s (grownCap w s.size 0 5)).size, (bytesRow s (grownCap w s.size 0 5)).size + 1)
  have L1 : Below w.heap.size w (w.drew.alloc (.cells (bytesRow s (grownCap w s.size 0 5)) 5 ((bytesRow s (grownCap w s.size 0 5)).size, (bytesRow s (grownCap w s.size 0 5)).size + 1))) := ((Below.refl _ w).drew).alloc (Nat.le_refl _) _
  have hz : (w.drew.alloc (.cells (bytesRow s (grownCap w s.size 0 5)) 5 ((bytesRow s (grownCap w s.size 0 5)).size, (bytesRow s (grownCap w s.size 0 5)).size + 1))).heap.size = w.heap.size + 1 := by simp
  generalize w.drew.alloc (.cells (bytesRow s (grownCap w s.size 0 5)) 5 ((bytesRow s (grownCap w s.size 0 5)).size, (bytesRow s (grownCap w s.size 0 5)).size + 1)) = W at *
  generalize grownCap w s.size 0 5 = cap at *
  generalize w.heap.size = n at *
  have hX := Box.made W 146 #[.slice (some ⟨n, 0, none⟩) s.size cap, .bool false]
  have L2 := L1.alloc (by omega) (.cells #[.slice (some ⟨n, 0, none⟩) s.size cap, .bool false] 146)
  have hk := Below.heap_alloc W (.cells #[.slice (some ⟨n, 0, none⟩) s.size cap, .bool false] 146) n hT.inside
  have hT2 := hT.keep hk
  have hB2 := hB.keep hk
  go_enter Tryz.func30, Tryz.ntmps30
  go_wp2
  go_ret
  rw [hz] at hX
  refine ⟨n + 1, rfl, by omega, ⟨n, 0, cap, ?_, hT2, ?_, hle, hB2⟩, L2⟩
  · rw [osize]; exact hX
  · rw [osize]; exact hge

set_option maxHeartbeats 1000000 in
theorem in_read_nil (n : Int) (f : Value) (w : World) : Calls Tryz.prog 138 #[.pointer none, .int .u64 n, f] w (Still (.tuple #[]) w) := by
  have c := in_spoilt_none w
  go_enter Tryz.func138, Tryz.ntmps138
  go_wp2_with (first | (go_at_call 33; refine c.mono ?_; rintro e w' ⟨rfl, rfl⟩))
  go_end0
  exact ⟨rfl, rfl⟩
set_option maxHeartbeats 1000000 in
theorem in_read_spoilt (n : Int) (f : Value) (w : World) (g : Nat) (h : InS w g none) : Calls Tryz.prog 138 #[.pointer (some ⟨g, 0, none⟩), .int .u64 n, f] w (Still (.tuple #[]) w) := by
  have c := in_spoilt w g none h
  go_enter Tryz.func138, Tryz.ntmps138
  go_wp2_with (first | (go_at_call 33; refine c.mono ?_; rintro e w' ⟨rfl, rfl⟩))
  go_end0
  exact ⟨rfl, rfl⟩
set_option maxHeartbeats 1000000 in
theorem in_read_short (n : Nat) (hn : n < 18446744073709551616) (f : Value) (w : World) (g : Nat) (l : List UInt8) (hl : l.length < n) (h : InS w g (some l)) :
    Calls Tryz.prog 138 #[.pointer (some ⟨g, 0, none⟩), .int .u64 n, f] w fun e w' => e = .returned (.tuple #[]) ∧ InS w' g none ∧ Off (One g) w w' := by
  have c := in_spoilt w g _ h
  have cS := in_spoil w g _ h
  obtain ⟨a, o, cap, hbx, hT, h1, h2, hB⟩ := h
  obtain ⟨c0, c1, f0, f1, hin⟩ := hbx.two
  have e1 : (l.length : Int) % 18446744073709551616 = l.length := by unfold maxLen at h2; omega
  have e2 : (l.length : Int) < (n : Int) := by omega
  have e3 : decide (l.length < n) = true := decide_eq_true hl
  go_enter Tryz.func138, Tryz.ntmps138
  go_wp2_with (first
    | (go_at_call 33; refine c.mono ?_; rintro e w' ⟨rfl, rfl⟩)
    | (go_at_call 121; refine cS.mono ?_; rintro e w' ⟨rfl, s1, s2⟩))
  refine bodyPost_ret (results_none rfl _ _ _) rfl ?_
  exact ⟨rfl, s1, s2⟩
set_option maxHeartbeats 2000000 in
theorem in_read_any (k : FuncId) (he : ∀ args w, (callFunc k args).run Tryz.prog w = .ok (.enter k args) w) (T : TypeId) (cs cs' : Array Value) (c g : Nat) (l : List UInt8) (n : Nat) (ok : Bool) (w : World)
    (h : InS w g (some l)) (hc : Box w c T cs) (hne : g ≠ c) (hac : ∀ a, TyAt w a 5 → (∃ o m q, w.cell? ⟨g, 0, none⟩ = some (.slice (some ⟨a, o, none⟩) m q)) → a ≠ c) (hn : n ≤ l.length)
    (hcl : ∀ a o, a < w.heap.size → a ≠ c → BytesA w a o (l.take n) → Calls Tryz.prog k #[.slice (some ⟨a, o, none⟩) n n, .pointer (some ⟨c, 0, none⟩)] w fun e w' => e = .returned (.bool ok) ∧ Box w' c T cs' ∧ Off (One c) w w') :
    Calls Tryz.prog 138 #[.pointer (some ⟨g, 0, none⟩), .int .u64 n, .func (.func k) #[] #[.pointer (some ⟨c, 0, none⟩)]] w fun e w' =>
      e = .returned (.tuple #[]) ∧ InS w' g (if ok then some (l.drop n) else none) ∧ Box w' c T cs' ∧ Off (fun i => i = g ∨ i = c) w w' := by
  have cS := in_spoilt w g _ h
  obtain ⟨a, o, cap, hbx, hT, h1, h2, hB⟩ := h
  obtain ⟨c0, c1, f0, f1, hin⟩ := hbx.two
  have hac2 := hac a hT ⟨o, _, _, c0⟩
  have e1 : (l.length : Int) % 18446744073709551616 = l.length := by unfold maxLen at h2; omega
  have e2 : ¬ ((l.length : Int) < (n : Int)) := by omega
  have hcl2 := (hcl a o hT.inside hac2 (hB.take n)).mono fun e w' (q : _ ∧ _ ∧ _) => (show e = .returned (.bool ok) ∧ Box w' g 146 #[.slice (some ⟨a, o, none⟩) l.length cap, .bool false] ∧ TyAt w' a 5 ∧ BytesA w' a o l ∧ Box w' c T cs' ∧ Off (One c) w w' from
    have ka := q.2.2.block a hT.inside (fun e => hac2 e)
    ⟨q.1, q.2.2.box hbx (fun e => hne e), hT.keep ka, hB.keep ka, q.2.1, q.2.2⟩)
  clear hcl hac hT hB hbx hc
  have e3 : decide (l.length < n) = false := decide_eq_false (by omega)
  have e4 : ¬ l.length < n := by omega
  cases ok with
  | false =>
    have cF := fun (u : World) (hu : InS u g (some l)) => in_spoil u g _ hu
    go_enter Tryz.func138, Tryz.ntmps138
    go_wp2_with (first
      | (go_at_call 33; refine cS.mono ?_; rintro e w' ⟨rfl, rfl⟩)
      | (go_at_call 121; refine (cF _ ⟨a, o, cap, b1, b2, h1, h2, b3⟩).mono ?_; rintro e w2 ⟨rfl, s1, s2⟩)
      | (go_at_fn k; refine hcl2.mono ?_; rintro e w' ⟨rfl, b1, b2, b3, b4, b5⟩; obtain ⟨y0, y1, z0, z1, hin1⟩ := b1.two))
    refine bodyPost_ret (results_none rfl _ _ _) rfl ?_
    exact ⟨rfl, s1, s2.box b4 (fun e => hne e.symm), (b5.mono fun i hi => Or.inr hi).trans (s2.mono fun i hi => Or.inl hi)⟩
  | true =>
    go_enter Tryz.func138, Tryz.ntmps138
    go_wp2_with (first
      | (go_at_call 33; refine cS.mono ?_; rintro e w' ⟨rfl, rfl⟩)
      | (go_at_fn k; refine hcl2.mono ?_; rintro e w' ⟨rfl, b1, b2, b3, b4, b5⟩; obtain ⟨y0, y1, z0, z1, hin1⟩ := b1.two))
    · next hcn =>
      go_end0
      have ka : (w'.setCell ⟨g, 0, none⟩ (.slice (some ⟨a, o, none⟩) (l.length - n) 0)).heap[a]? = w'.heap[a]? := Below.heap_setCell _ _ _ _ (by exact b2.ne b1 (by decide))
      refine ⟨rfl, ⟨a, o, 0, ?_, b2.keep ka, by rw [List.length_drop]; omega, by omega, ?_⟩, b4.apart (fun e => hne e.symm) _, (show Off (fun i => i = g ∨ i = c) w w' from b5.mono fun i hi => Or.inr hi).set_ (p := ⟨g, 0, none⟩) (Or.inl (Or.inl rfl)) _⟩
      · rw [List.length_drop]; exact b1.wrote 0 _
      · rw [List.drop_of_length_le (by omega)]; intro i hi; simp at hi
    · next hcn =>
      go_end0
      have ka : (w'.setCell ⟨g, 0, none⟩ (.slice (some ⟨a, o + n, none⟩) (l.length - n) (cap - n))).heap[a]? = w'.heap[a]? := Below.heap_setCell _ _ _ _ (by exact b2.ne b1 (by decide))
      refine ⟨rfl, ⟨a, o + n, cap - n, ?_, b2.keep ka, by rw [List.length_drop]; omega, by omega, (b3.drop n).keep ka⟩, b4.apart (fun e => hne e.symm) _, (show Off (fun i => i = g ∨ i = c) w w' from b5.mono fun i hi => Or.inr hi).set_ (p := ⟨g, 0, none⟩) (Or.inl (Or.inl rfl)) _⟩
      rw [List.length_drop]; exact b1.wrote 0 _
end Go.Proofs.YtmflhodiibjpnaaGreatDoor
/-
  octet.In, walked: Byte, Flag, number, Num, Wide, Text, each by its closure.
-/
namespace Go.Proofs.YtmflhodiibjpnaaGreatDoor
set_option linter.unusedVariables false
set_option linter.unusedSimpArgs false
set_option maxRecDepth 10000
open Go.RowKit Go.Shelf

/-- Sixteen bytes, noughts ahead. -/
def p16 (d : List UInt8) : List UInt8 := List.replicate (16 - d.length) 0 ++ d
theorem p16_len (d : List UInt8) (h : d.length ≤ 16) : (p16 d).length = 16 := by unfold p16; rw [List.length_append, List.length_replicate]; omega
theorem be_noughts : ∀ (k : Nat) (d : List UInt8), beN (List.replicate k 0 ++ d) = beN d
  | 0, d => rfl
  | k + 1, d => by rw [List.replicate_succ, List.cons_append, beN_zero]; exact be_noughts k d
theorem p16_be (d : List UInt8) : beN (p16 d) = beN d := be_noughts _ _
theorem p16_parts (d : List UInt8) (h : d.length ≤ 16) : fromH (ofL (p16 d)) = hiD d ∧ fromL (ofL (p16 d)) = loD d := by
  have hl := p16_len d h
  have hb := beN_append ((p16 d).take 8) ((p16 d).drop 8)
  rw [List.take_append_drop, p16_be, List.length_drop, hl] at hb
  have h2 := beN_lt ((p16 d).drop 8)
  rw [List.length_drop, hl] at h2
  have e3 : (256 : Nat) ^ (16 - 8) = 18446744073709551616 := rfl
  rw [e3] at hb h2
  unfold fromH fromL hiD loD
  rw [ofL_size, if_pos hl, if_pos hl, ofL_list]
  constructor <;> omega
theorem InS.apart {w : World} {g : Nat} {l : List UInt8} (h : InS w g (some l)) (o : Obj) :
    ∀ a, TyAt (w.alloc o) a 5 → (∃ p m q, (w.alloc o).cell? ⟨g, 0, none⟩ = some (.slice (some ⟨a, p, none⟩) m q)) → a ≠ w.heap.size := by
  obtain ⟨b, p, c, h1, h2, -⟩ := h
  rintro a - ⟨p', m, q, hc⟩
  rw [(h1.past o).read 0] at hc
  injection hc with hc
  injection hc with e1 e2 e3
  injection e1 with e1
  injection e1 with e1
  subst e1
  have := h2.inside
  omega

theorem cl_byte (a o c : Nat) (x : UInt8) (old : Value) (w : World) (hB : BytesA w a o [x]) (hc : Box w c 5 #[old]) : Calls Tryz.prog 161 #[.slice (some ⟨a, o, none⟩) 1 1, .pointer (some ⟨c, 0, none⟩)] w fun e w' =>
    e = .returned (.bool true) ∧ Box w' c 5 #[.int .u8 (x.toNat : Int)] ∧ Off (One c) w w' := by
  have hx := hB.first
  have h0 := hc.read 0
  have hf := hc.free 0
  have b1 := hc.wrote 0 (.int .u8 (x.toNat : Int))
  have k1 := (Off.refl (One c) w).set_ (p := ⟨c, 0, none⟩) (Or.inl rfl) (.int .u8 (x.toNat : Int))
  go_enter Tryz.func161, Tryz.ntmps161
  go_wp2
  go_ret
  exact ⟨rfl, b1, k1⟩
theorem cl_flag (a o c : Nat) (x : UInt8) (old : Value) (w : World) (hB : BytesA w a o [x]) (hc : Box w c 4 #[old]) (hac : a ≠ c) : Calls Tryz.prog 141 #[.slice (some ⟨a, o, none⟩) 1 1, .pointer (some ⟨c, 0, none⟩)] w fun e w' =>
    e = .returned (.bool (decide (x.toNat ≤ 1))) ∧ Box w' c 4 #[.bool (decide (x.toNat = 1))] ∧ Off (One c) w w' := by
  have hx := hB.first
  have h0 := hc.read 0
  have hf := hc.free 0
  obtain ⟨q, hq⟩ : ∃ q, decide (x.toNat = 1) = q := ⟨_, rfl⟩
  have hq2 : ((x.toNat : Int) == 1) = q := by rw [← hq]; simp [BEq.beq]; omega
  have hq3 : decide ((x.toNat : Int) = 1) = q := by rw [← hq]; exact decide_eq_decide.2 (by omega)
  rw [hq]
  clear hq
  have b1 := hc.wrote 0 (.bool q)
  have k1 := (Off.refl (One c) w).set_ (p := ⟨c, 0, none⟩) (Or.inl rfl) (.bool q)
  have hx2 : (w.setCell ⟨c, 0, none⟩ (.bool q)).cell? ⟨a, o, none⟩ = some (.int .u8 (x.toNat : Int)) := by
    rw [World.cell?_setCell_other _ _ _ _ (by
      intro e
      injection e with e
      exact hac e.symm)]
    exact hx
  have hq4 : decide ((x.toNat : Int) ≤ 1) = decide (x.toNat ≤ 1) := decide_eq_decide.2 (by omega)
  go_enter Tryz.func141, Tryz.ntmps141
  go_wp2
  go_ret
  exact ⟨by rw [← hq4]; rfl, b1, k1⟩
theorem cl_text (a o c n : Nat) (l : List UInt8) (hl : l.length = n) (old : Value) (w : World) (hB : BytesA w a o l) (hc : Box w c 9 #[old]) : Calls Tryz.prog 139 #[.slice (some ⟨a, o, none⟩) n n, .pointer (some ⟨c, 0, none⟩)] w fun e w' =>
    e = .returned (.bool true) ∧ Box w' c 9 #[.string (ofL l)] ∧ Off (One c) w w' := by
  have hcv := hB.conv n n hl
  have h0 := hc.read 0
  have hf := hc.free 0
  have b1 := hc.wrote 0 (.string (ofL l))
  have k1 := (Off.refl (One c) w).set_ (p := ⟨c, 0, none⟩) (Or.inl rfl) (.string (ofL l))
  go_enter Tryz.func139, Tryz.ntmps139
  go_wp2
  go_ret
  exact ⟨rfl, b1, k1⟩
def v16 (d : List UInt8) : List Value := d.map fun c => .int .u8 (c.toNat : Int)
theorem v16_at (d : List UInt8) (i : Nat) (hi : i < d.length) : (v16 d)[i]? = some (.int .u8 ((d.getD i 0).toNat : Int)) := by
  simp [v16, List.getD_eq_getElem?_getD, hi]
theorem v16_len (d : List UInt8) : (v16 d).length = d.length := by simp [v16]
theorem v16_one (d : List UInt8) : ∀ v ∈ v16 d, v.oneCell' = true := by
  intro v hv
  simp only [v16, List.mem_map] at hv
  obtain ⟨c, -, rfl⟩ := hv
  rfl
theorem BytesA.cells {w : World} {a o : Nat} {d : List UInt8} (h : BytesA w a o d) : ∀ j v, (v16 d)[j]? = some v → w.cell? ((⟨a, o, none⟩ : Addr).add j) = some v := by
  intro j v hv
  have hj : j < d.length := by rw [← v16_len]; exact (List.getElem?_eq_some_iff.1 hv).1
  have e : (⟨a, o, none⟩ : Addr).add j = ⟨a, o + j, none⟩ := by unfold Addr.add; split <;> simp_all
  rw [e, h j hj, ← hv, v16_at d j hj]
theorem bytesA_box {w : World} {g : Nat} {t : TypeId} {d : List UInt8} (h : Box w g t (v16 d).toArray) : BytesA w g 0 d := by
  intro i hi
  rw [Nat.zero_add, h.read i, List.getElem?_toArray, v16_at d i hi]
theorem nought16_v : nought16 = (v16 (List.replicate 16 0)).toArray := rfl
theorem spliced (d : List UInt8) (h : d.length ≤ 16) : (nought16.toList.take (16 - d.length) ++ v16 d ++ nought16.toList.drop (16 - d.length + (v16 d).length)).toArray = (v16 (p16 d)).toArray := by
  congr 1
  rw [nought16_v]
  show List.take (16 - d.length) (v16 (List.replicate 16 0)) ++ v16 d ++ List.drop (16 - d.length + (v16 d).length) (v16 (List.replicate 16 0)) = _
  rw [v16_len, List.drop_of_length_le (by rw [v16_len, List.length_replicate]; omega), List.append_nil]
  unfold p16 v16
  rw [List.map_append, ← List.map_take, List.take_replicate]
  congr 3
  omega
theorem info_b1 : (Tryz.prog.info? 5).map (·.size) = some 1 := by kernel_rfl

set_option maxHeartbeats 2000000 in
theorem cl_num (a o c n : Nat) (d : List UInt8) (hn : d.length = n) (hd : d.length ≤ 16) (w : World) (hB : BytesA w a o d) (ha : a < w.heap.size) (hc : Box w c 24 #[.int .u64 0, .int .u64 0]) (hm : Mn d) :
    Calls Tryz.prog 169 #[.slice (some ⟨a, o, none⟩) n n, .pointer (some ⟨c, 0, none⟩)] w fun e w' =>
      e = .returned (.bool true) ∧ Box w' c 24 #[.int .u64 (hiD d), .int .u64 (loD d)] ∧ Off (One c) w w' := by
  have B1 := Box.made w 221 nought16
  have D1 := hc.past (.cells nought16 221)
  have K1 := (Off.refl (One c) w).past (.cells nought16 221)
  have hB1 := hB.keep (w' := w.alloc (.cells nought16 221)) (Below.heap_alloc w _ a ha)
  have hnc := hc.inside
  by_cases h0 : n = 0
  · have e : d = [] := List.length_eq_zero_iff.1 (by omega)
    have B2 : Box (w.alloc (.cells nought16 221)) w.heap.size 221 (v16 (p16 d)).toArray := by rw [e]; exact B1
    clear e B1
    subst h0
    have hn' := hideIt hn
    clear hn
    go_enter Tryz.func169, Tryz.ntmps169
    go_upto_region 4 with fail
    change Code.wp _ _ _ _ (w.alloc (.cells nought16 221))
    generalize w.alloc (.cells nought16 221) = W at *
    have hcp := fun ty => run_copy_none (P := Tryz.prog) W 100 100 ty 5 (some ⟨w.heap.size, 0, none⟩) (some ⟨a, o, none⟩) 0 0 0 0 Tryz.underlying100 info_b1 rfl
    go_upto_region 5 with fail
    have D2 := D1
    have K2 := K1
    clear D1 K1
    have hcv := (bytesA_box B2).conv 16 16 (p16_len d hd)
    obtain ⟨c0, c1, f0, f1, hin2⟩ := D2.two
    have cF := fun u => from_any (ofL (p16 d)) (by rw [ofL_size, p16_len d hd]; omega) u
    obtain ⟨eh, el⟩ := p16_parts d hd
    unfold FromTells at cF
    rw [eh, el] at cF
    go_wp2_with (first
      | (go_at_call 170; refine (cF _).mono ?_; rintro e w' ⟨rfl, b3⟩; have D3 := D2.call b3; obtain ⟨q0, q1, g0, g1, hin3⟩ := D3.two)
      | fail)
    go_ret
    exact ⟨rfl, (D3.wrote 0 _).wrote 1 _, ((K2.call b3).set_ (p := ⟨c, 0, none⟩) (Or.inl rfl) _).set_ (p := ⟨c, 1, none⟩) (Or.inl rfl) _⟩
  · have hx : w.cell? ⟨a, o, none⟩ = some (.int .u8 ((d.getD 0 0).toNat : Int)) := hB 0 (by omega)
    have hne : ¬ (((d.getD 0 0).toNat : Int) = 0) := by
      intro e
      apply hm
      have e0 : d.getD 0 0 = 0 := UInt8.toNat_inj.1 (by rw [show ((0 : UInt8).toNat) = 0 from rfl]; omega)
      cases d with
      | nil => simp at hn; omega
      | cons y r => simpa using e0
    have hne2 : (((d.getD 0 0).toNat : Int) == 0) = false := by simpa using hne
    generalize ((d.getD 0 0).toNat : Int) = x at *
    have hn1 : (0 : Int) < (n : Int) := by omega
    have hn16 : n ≤ 16 := by omega
    go_enter Tryz.func169, Tryz.ntmps169
    go_upto_region 4 with fail
    change Code.wp _ _ _ _ (w.alloc (.cells nought16 221))
    generalize w.alloc (.cells nought16 221) = W at *
    have hcp := fun ty => run_copy_row (P := Tryz.prog) W 100 100 ty 5 w.heap.size (16 - n) n n ⟨a, o, none⟩ n n nought16 221 (v16 d) Tryz.underlying100 info_b1 B1 (by rw [v16_len, hn]; simp) hB1.cells (by rw [v16_len, hn]; show 16 - n + n ≤ 16; omega) (v16_one d)
    have hsp := spliced d hd
    rw [hn] at hsp
    rw [hsp, v16_len, hn] at hcp
    have B2 : Box (W.setRow w.heap.size (v16 (p16 d)).toArray) w.heap.size 221 (v16 (p16 d)).toArray := setRow_heap W w.heap.size _ _ _ _ B1
    have D2 : Box (W.setRow w.heap.size (v16 (p16 d)).toArray) c 24 #[.int .u64 0, .int .u64 0] := (setRow_other W w.heap.size c _ (by omega)).trans D1
    have K2 : Off (One c) w (W.setRow w.heap.size (v16 (p16 d)).toArray) := K1.behind (T := One w.heap.size) ⟨rfl, rfl, rfl, by simp, fun k hk hne => setRow_other W w.heap.size k _ (fun e => hne e)⟩ (fun i hi => Or.inr (by have : i = w.heap.size := hi; omega))
    obtain ⟨k, hk⟩ : ∃ k, 16 - n = k := ⟨_, rfl⟩
    rw [hk] at hcp hsp
    have w1 : IntKind.i64.wrap (16 - (n : Int)) = (k : Int) := by rw [show (16 : Int) - n = k by omega]; exact IntWalk.i64_in _ (by omega)
    have w2 : (k : Int) ≤ 16 := by omega
    have w3 : ¬ (16 = k) := by omega
    have w4 : 16 - k = n := by omega
    clear hsp hB1
    go_upto_region 5 with fail
    clear B1 D1 K1 hk w1 w2 w3 w4 hcp
    have hcv := (bytesA_box B2).conv 16 16 (p16_len d hd)
    obtain ⟨c0, c1, f0, f1, hin2⟩ := D2.two
    have cF := fun u => from_any (ofL (p16 d)) (by rw [ofL_size, p16_len d hd]; omega) u
    obtain ⟨eh, el⟩ := p16_parts d hd
    unfold FromTells at cF
    rw [eh, el] at cF
    go_wp2_with (first
      | (go_at_call 170; refine (cF _).mono ?_; rintro e w' ⟨rfl, b3⟩; have D3 := D2.call b3; obtain ⟨q0, q1, g0, g1, hin3⟩ := D3.two)
      | fail)
    go_ret
    exact ⟨rfl, (D3.wrote 0 _).wrote 1 _, ((K2.call b3).set_ (p := ⟨c, 0, none⟩) (Or.inl rfl) _).set_ (p := ⟨c, 1, none⟩) (Or.inl rfl) _⟩
set_option maxHeartbeats 2000000 in
theorem cl_num_no (a o c n : Nat) (d : List UInt8) (hn : d.length = n) (w : World) (hB : BytesA w a o d) (hc : Box w c 24 #[.int .u64 0, .int .u64 0]) (hm : d.head? = some 0) :
    Calls Tryz.prog 169 #[.slice (some ⟨a, o, none⟩) n n, .pointer (some ⟨c, 0, none⟩)] w fun e w' =>
      e = .returned (.bool false) ∧ Box w' c 24 #[.int .u64 0, .int .u64 0] ∧ Off (One c) w w' := by
  cases d with
  | nil => cases hm
  | cons y r =>
    injection hm with hm
    subst hm
    have hx : w.cell? ⟨a, o, none⟩ = some (.int .u8 0) := hB.first
    have hn1 : (0 : Int) < (n : Int) := by rw [List.length_cons] at hn; omega
    go_enter Tryz.func169, Tryz.ntmps169
    go_wp2
    go_ret
    exact ⟨rfl, hc, Off.refl _ _⟩

/-- What a closure is handed, in whatever state: what is left behind it, and whether it was called. -/
def rdS (st : Option (List UInt8)) (n : Nat) (ok : Bool) : Option (List UInt8) := st.bind fun l => if l.length < n then none else if ok then some (l.drop n) else none
def rdC (st : Option (List UInt8)) (n : Nat) : Bool := match st with | none => false | some l => decide (n ≤ l.length)
theorem in_read_call (k : FuncId) (he : ∀ args w, (callFunc k args).run Tryz.prog w = .ok (.enter k args) w) (T : TypeId) (cs cs' : Array Value) (g : Nat) (st : Option (List UInt8)) (n : Nat) (hn : n < 18446744073709551616) (ok : Bool) (w : World) (h : InS w g st)
    (hcl : ∀ l, st = some l → n ≤ l.length → ∀ a o, a < w.heap.size → BytesA (w.alloc (.cells cs T)) a o (l.take n) → Calls Tryz.prog k #[.slice (some ⟨a, o, none⟩) n n, .pointer (some ⟨w.heap.size, 0, none⟩)] (w.alloc (.cells cs T)) fun e w' =>
      e = .returned (.bool ok) ∧ Box w' w.heap.size T cs' ∧ Off (One w.heap.size) (w.alloc (.cells cs T)) w') :
    Calls Tryz.prog 138 #[.pointer (some ⟨g, 0, none⟩), .int .u64 n, .func (.func k) #[] #[.pointer (some ⟨w.heap.size, 0, none⟩)]] (w.alloc (.cells cs T)) fun e w' =>
      e = .returned (.tuple #[]) ∧ InS w' g (rdS st n ok) ∧ Box w' w.heap.size T (if rdC st n then cs' else cs) ∧ Off (One g) w w' := by
  have L1 : Below w.heap.size w (w.alloc (.cells cs T)) := (Below.refl _ w).alloc (Nat.le_refl _) _
  have B1 := Box.made w T cs
  have H1 := h.call L1
  have hg := h.inside
  cases st with
  | none =>
    refine (in_read_spoilt n _ _ g H1).mono ?_
    rintro e w' ⟨rfl, rfl⟩
    exact ⟨rfl, H1, B1, Off.of L1⟩
  | some l =>
    by_cases hl : l.length < n
    · refine (in_read_short n hn _ _ g l hl H1).mono ?_
      rintro e w' ⟨rfl, s1, s2⟩
      have e1 : rdS (some l) n ok = none := by show (if _ then _ else _) = _; rw [if_pos hl]
      have e2 : rdC (some l) n = false := decide_eq_false (by omega)
      rw [e1, e2]
      exact ⟨rfl, s1, s2.box B1 (fun e => by have : w.heap.size = g := e; omega), (Off.of L1).trans s2⟩
    · refine (in_read_any k he T cs cs' w.heap.size g l n ok _ H1 B1 (by omega) (h.apart _) (by omega) (fun a o ha hne hB => ?_)).mono ?_
      · refine hcl l rfl (by omega) a o ?_ hB
        simp at ha
        omega
      · rintro e w' ⟨rfl, s1, s2, s3⟩
        have e1 : rdS (some l) n ok = if ok then some (l.drop n) else none := by show (if _ then _ else _) = _; rw [if_neg hl]
        have e2 : rdC (some l) n = true := decide_eq_true (by omega)
        rw [e1, e2]
        refine ⟨rfl, s1, s2, (Off.of L1).behind s3 (fun i hi => ?_)⟩
        rcases hi with hi | hi
        · exact Or.inl hi
        · exact Or.inr (by omega)

set_option maxHeartbeats 1000000 in
theorem in_byte (w : World) (g : Nat) (st : Option (List UInt8)) (h : InS w g st) : Calls Tryz.prog 125 #[.pointer (some ⟨g, 0, none⟩)] w fun e w' =>
    e = .returned (.int .u8 (bV (opB st))) ∧ InS w' g (nxt (opB st)) ∧ Off (One g) w w' := by
  have c := in_read_call 161 (enters_of Tryz.func161 (by kernel_rfl) rfl) 5 #[.int .u8 0] #[.int .u8 (bV (opB st))] g st 1 (by decide) true w h (fun l hl hn a o ha hB => by
    cases l with
    | nil => simp at hn
    | cons x r =>
      subst hl
      exact cl_byte a o _ x _ _ hB (Box.made w _ _))
  have e1 : rdS st 1 true = nxt (opB st) := by
    cases st with
    | none => rfl
    | some l =>
      cases l with
      | nil => rfl
      | cons x r =>
        show (if (x :: r).length < 1 then none else if true then some ((x :: r).drop 1) else none) = _
        rw [if_neg (by simp)]
        rfl
  have e2 : (if rdC st 1 then #[Value.int .u8 (bV (opB st))] else #[Value.int .u8 0]) = #[Value.int .u8 (bV (opB st))] := by
    cases st with
    | none => rfl
    | some l =>
      cases l with
      | nil => rfl
      | cons x r => rfl
  rw [e1, e2] at c
  clear e1 e2
  generalize bV (opB st) = v at *
  have hg := h.inside
  go_enter Tryz.func125, Tryz.ntmps125
  go_upto_region 2 with fail
  change Code.wp _ _ _ _ (w.alloc (.cells #[.int .u8 0] 5))
  generalize w.alloc (.cells #[.int .u8 0] 5) = W at *
  go_wp2_with (first
    | (go_at_call 138; refine c.mono ?_; rintro e w' ⟨rfl, s1, s2, s3⟩; have c0 := s2.read 0; have hin := s2.inside))
  go_ret
  exact ⟨rfl, s1, s3⟩
theorem in_byte_none (w : World) : Calls Tryz.prog 125 #[.pointer none] w (Tells (.int .u8 0) w.heap.size w) := by
  have c := fun n f u => in_read_nil n f u
  have B1 := Box.made w 5 #[.int .u8 0]
  have L1 : Below w.heap.size w (w.alloc (.cells #[.int .u8 0] 5)) := (Below.refl _ w).alloc (Nat.le_refl _) _
  go_enter Tryz.func125, Tryz.ntmps125
  go_upto_region 2 with fail
  change Code.wp _ _ _ _ (w.alloc (.cells #[.int .u8 0] 5))
  generalize w.alloc (.cells #[.int .u8 0] 5) = W at *
  have c0 := B1.read 0
  go_wp2_with (first
    | (go_at_call 138; refine (c _ _ _).mono ?_; rintro e w' ⟨rfl, rfl⟩))
  go_ret
  exact ⟨rfl, L1⟩

def okF (st : Option (List UInt8)) : Bool := match st with | some (x :: _) => decide (x.toNat ≤ 1) | _ => true
def isF (st : Option (List UInt8)) : Bool := match st with | some (x :: _) => decide (x.toNat = 1) | _ => false
set_option maxHeartbeats 1000000 in
theorem in_flag (w : World) (g : Nat) (st : Option (List UInt8)) (h : InS w g st) : Calls Tryz.prog 100 #[.pointer (some ⟨g, 0, none⟩)] w fun e w' =>
    e = .returned (.bool (fV (opF st))) ∧ InS w' g (nxt (opF st)) ∧ Off (One g) w w' := by
  have c := in_read_call 141 (enters_of Tryz.func141 (by kernel_rfl) rfl) 4 #[.bool false] #[.bool (isF st)] g st 1 (by decide) (okF st) w h (fun l hl hn a o ha hB => by
    cases l with
    | nil => simp at hn
    | cons x r =>
      subst hl
      exact cl_flag a o _ x _ _ hB (Box.made w _ _) (by omega))
  have e1 : rdS st 1 (okF st) = nxt (opF st) := by
    cases st with
    | none => rfl
    | some l =>
      cases l with
      | nil => rfl
      | cons x r =>
        show (if (x :: r).length < 1 then none else if decide (x.toNat ≤ 1) = true then some ((x :: r).drop 1) else none) = Option.map _ (if 1 < x.toNat then none else some (decide (x.toNat = 1), r))
        rw [if_neg (by simp)]
        by_cases hx : 1 < x.toNat
        · rw [if_pos hx, if_neg (by rw [decide_eq_true_eq]; omega)]; rfl
        · rw [if_neg hx, if_pos (by rw [decide_eq_true_eq]; omega)]; rfl
  have e2 : (if rdC st 1 then #[Value.bool (isF st)] else #[Value.bool false]) = #[Value.bool (fV (opF st))] := by
    cases st with
    | none => rfl
    | some l =>
      cases l with
      | nil => rfl
      | cons x r =>
        show #[Value.bool (decide (x.toNat = 1))] = #[Value.bool (fV (if 1 < x.toNat then none else some (decide (x.toNat = 1), r)))]
        by_cases hx : 1 < x.toNat
        · rw [if_pos hx, decide_eq_false (by omega)]; rfl
        · rw [if_neg hx]; rfl
  rw [e1, e2] at c
  clear e1 e2
  generalize fV (opF st) = v at *
  have hg := h.inside
  go_enter Tryz.func100, Tryz.ntmps100
  go_upto_region 2 with fail
  change Code.wp _ _ _ _ (w.alloc (.cells #[.bool false] 4))
  generalize w.alloc (.cells #[.bool false] 4) = W at *
  go_wp2_with (first
    | (go_at_call 138; refine c.mono ?_; rintro e w' ⟨rfl, s1, s2, s3⟩; have c0 := s2.read 0; have hin := s2.inside))
  go_ret
  exact ⟨rfl, s1, s3⟩
theorem in_flag_none (w : World) : Calls Tryz.prog 100 #[.pointer none] w (Tells (.bool false) w.heap.size w) := by
  have c := fun n f u => in_read_nil n f u
  have B1 := Box.made w 4 #[.bool false]
  have L1 : Below w.heap.size w (w.alloc (.cells #[.bool false] 4)) := (Below.refl _ w).alloc (Nat.le_refl _) _
  go_enter Tryz.func100, Tryz.ntmps100
  go_upto_region 2 with fail
  change Code.wp _ _ _ _ (w.alloc (.cells #[.bool false] 4))
  generalize w.alloc (.cells #[.bool false] 4) = W at *
  have c0 := B1.read 0
  go_wp2_with (first
    | (go_at_call 138; refine (c _ _ _).mono ?_; rintro e w' ⟨rfl, rfl⟩))
  go_ret
  exact ⟨rfl, L1⟩

/-- How many bytes a number says that it needs; what is left behind that, where they aren't too many; the digits. -/
def nN (st : Option (List UInt8)) : Nat := match st with | some (c :: _) => c.toNat | _ => 0
def stN (most : Nat) (st : Option (List UInt8)) : Option (List UInt8) := if most < nN st then none else nxt (opB st)
def dN (st : Option (List UInt8)) (n : Nat) : List UInt8 := match st with | none => [] | some l => l.take n
def okN (d : List UInt8) : Bool := if d.head? = some 0 then false else true
def csN (d : List UInt8) : Array Value := if d.head? = some 0 then #[.int .u64 0, .int .u64 0] else #[.int .u64 (hiD d), .int .u64 (loD d)]
theorem bV_nN (st : Option (List UInt8)) : bV (opB st) = (nN st : Int) := by
  cases st with
  | none => rfl
  | some l => cases l with
    | nil => rfl
    | cons c r => rfl
theorem nN_lt (st : Option (List UInt8)) : nN st < 256 := by
  cases st with
  | none => show 0 < 256; omega
  | some l => cases l with
    | nil => show 0 < 256; omega
    | cons c r => exact c.toNat_lt
theorem num_next (most : Nat) (st : Option (List UInt8)) : rdS (stN most st) (nN st) (okN (dN (stN most st) (nN st))) = nxt (opN most st) ∧
    (if rdC (stN most st) (nN st) then csN (dN (stN most st) (nN st)) else #[.int .u64 0, .int .u64 0]) = #[.int .u64 (hV (opN most st)), .int .u64 (lV (opN most st))] := by
  cases st with
  | none => unfold stN; split <;> exact ⟨rfl, rfl⟩
  | some l =>
    cases l with
    | nil => unfold stN; split <;> exact ⟨rfl, rfl⟩
    | cons c r =>
      have en : nN (some (c :: r)) = c.toNat := rfl
      have eo : opN most (some (c :: r)) = if most < c.toNat ∨ r.length < c.toNat ∨ (r.take c.toNat).head? = some 0 then none else some (r.take c.toNat, r.drop c.toNat) := rfl
      rw [eo, en]
      unfold stN
      rw [en]
      by_cases h1 : most < c.toNat
      · rw [if_pos h1, if_pos (Or.inl h1)]
        exact ⟨rfl, rfl⟩
      · rw [if_neg h1]
        have e1 : nxt (opB (some (c :: r))) = some r := rfl
        rw [e1]
        show (if r.length < c.toNat then none else if okN (r.take c.toNat) then some (r.drop c.toNat) else none) = _ ∧ (if decide (c.toNat ≤ r.length) = true then csN (r.take c.toNat) else _) = _
        by_cases h2 : r.length < c.toNat
        · rw [if_pos h2, if_pos (Or.inr (Or.inl h2)), if_neg (by rw [decide_eq_true_eq]; omega)]
          exact ⟨rfl, rfl⟩
        · have e4 : decide (c.toNat ≤ r.length) = true := decide_eq_true (by omega)
          rw [if_neg h2, e4]
          unfold okN csN
          simp only [if_true]
          by_cases h3 : (r.take c.toNat).head? = some 0
          · rw [if_pos h3, if_pos h3, if_pos (Or.inr (Or.inr h3))]
            exact ⟨rfl, rfl⟩
          · have h4 : ¬ (most < c.toNat ∨ r.length < c.toNat ∨ (r.take c.toNat).head? = some 0) := by
              rintro (h | h | h)
              · exact h1 h
              · exact h2 h
              · exact h3 h
            rw [if_neg h3, if_neg h3, if_neg h4]
            exact ⟨rfl, rfl⟩

set_option maxHeartbeats 2000000 in
theorem in_number (most : Nat) (hm : most ≤ 16) (w : World) (g : Nat) (st : Option (List UInt8)) (h : InS w g st) : Calls Tryz.prog 140 #[.pointer (some ⟨g, 0, none⟩), .int .u8 most] w fun e w' =>
    e = .returned (.agg #[.int .u64 (hV (opN most st)), .int .u64 (lV (opN most st))]) ∧ InS w' g (nxt (opN most st)) ∧ Off (One g) w w' := by
  have B0 := Box.made w 24 #[.int .u64 0, .int .u64 0]
  have L0 : Below w.heap.size w (w.alloc (.cells #[.int .u64 0, .int .u64 0] 24)) := (Below.refl _ w).alloc (Nat.le_refl _) _
  have cB := in_byte _ g st (h.call L0)
  have hg := h.inside
  rw [bV_nN] at cB
  have hlt := nN_lt st
  have hw : IntKind.u64.wrap (nN st : Int) = (nN st : Int) := by rw [IntKind.wrap_u64]; omega
  obtain ⟨x, hx⟩ : ∃ x, hV (opN most st) = x := ⟨_, rfl⟩
  obtain ⟨y, hy⟩ : ∃ y, lV (opN most st) = y := ⟨_, rfl⟩
  rw [hx, hy]
  have HX := hideIt hx
  have HY := hideIt hy
  clear hx hy
  go_enter Tryz.func140, Tryz.ntmps140
  go_upto_region 2 with (first
    | (go_at_call 125; refine cB.mono ?_; rintro e w1 ⟨rfl, s1, k1⟩)
    | fail)
  have r1 := k1.box B0 (fun e => by have : w.heap.size = g := e; omega)
  have o1 := (Off.of (S := One g) L0).trans k1
  clear cB k1 B0 L0
  by_cases hv : most < nN st
  · have hvi : (most : Int) < (nN st : Int) := by omega
    have cS := in_spoil w1 g _ s1
    go_upto_region 4 with (first
      | (go_at_call 121; refine cS.mono ?_; rintro e w2 ⟨rfl, s2, k2⟩)
      | fail)
    have r2 := k2.box r1 (fun e => by have : w.heap.size = g := e; omega)
    have o2 := o1.trans k2
    have es : stN most st = none := if_pos hv
    rw [← es] at s2
    have c := in_read_call 169 (enters_of Tryz.func169 (by kernel_rfl) rfl) 24 #[.int .u64 0, .int .u64 0] (csN (dN (stN most st) (nN st))) g (stN most st) (nN st) (by have := nN_lt st; omega) (okN (dN (stN most st) (nN st))) w2 s2 (fun l hl hn a o ha hB => by
      rw [hl]
      have hb : nN st ≤ 16 := by
        unfold stN at hl
        split at hl
        · cases hl
        · omega
      have hlen : (l.take (nN st)).length = nN st := by rw [List.length_take]; omega
      show Calls _ _ _ _ fun e w' => e = .returned (.bool (okN (l.take (nN st)))) ∧ Box w' _ _ (csN (l.take (nN st))) ∧ _
      unfold okN csN
      by_cases h3 : (l.take (nN st)).head? = some 0
      · rw [if_pos h3, if_pos h3]
        exact cl_num_no a o _ _ _ hlen _ hB (Box.made w2 _ _) h3
      · rw [if_neg h3, if_neg h3]
        exact cl_num a o _ _ _ hlen (by omega) _ hB (by simp; omega) (Box.made w2 _ _) h3)
    obtain ⟨q1, q2⟩ := num_next most st
    rw [q1, q2, HX.out, HY.out] at c
    clear q1 q2
    clear es s1 s2 r1 o1
    go_upto_region 5 with fail
    change Code.wp _ _ _ _ (w2.alloc (.cells #[.int .u64 0, .int .u64 0] 24))
    generalize w2.alloc (.cells #[.int .u64 0, .int .u64 0] 24) = W at *
    go_wp2_with (first
      | (go_at_call 138; refine c.mono ?_; rintro e w' ⟨rfl, t1, t2, t3⟩
         have r4 := t3.box r2 (fun e => by have : w.heap.size = g := e; omega)
         obtain ⟨y0, y1, y2, y3, y4⟩ := r4.two
         obtain ⟨z0, z1, z2, z3, z4⟩ := t2.two))
    have r5 := (r4.wrote 0 (.int .u64 x)).wrote 1 (.int .u64 y)
    have k5 := (((o2.trans t3).set_ (p := ⟨w.heap.size, 0, none⟩) (Or.inr (Nat.le_refl _)) (.int .u64 x)).set_ (p := ⟨w.heap.size, 1, none⟩) (Or.inr (Nat.le_refl _)) (.int .u64 y))
    have hrc : InS ((w'.setCell ⟨w.heap.size, 0, none⟩ (.int .u64 x)).setCell ⟨w.heap.size, 1, none⟩ (.int .u64 y)) g (nxt (opN most st)) :=
      t1.off ((((Off.refl (One w.heap.size) w').set_ (p := ⟨w.heap.size, 0, none⟩) (Or.inl rfl) (.int .u64 x))).set_ (p := ⟨w.heap.size, 1, none⟩) (Or.inl rfl) (.int .u64 y)) r4 (by omega) (by decide)
    generalize World.setCell (World.setCell _ _ _) _ _ = Z at *
    obtain ⟨x0, x1, x2, x3, x4⟩ := r5.two
    exact bodyPost_ret (v := .agg #[.int .u64 x, .int .u64 y]) (by simp [results, Tryz.results140, go_sem, x0, x1]) rfl ⟨rfl, hrc, k5⟩
  · have hvi : ¬ ((most : Int) < (nN st : Int)) := by omega
    have es : nxt (opB st) = stN most st := (if_neg hv).symm
    obtain ⟨w2, hw2⟩ : ∃ w2, w1 = w2 := ⟨_, rfl⟩
    have s2 := s1
    have r2 := r1
    have o2 := o1
    rw [es] at s2
    rw [hw2] at s2 r2 o2 ⊢
    clear hw2
    have c := in_read_call 169 (enters_of Tryz.func169 (by kernel_rfl) rfl) 24 #[.int .u64 0, .int .u64 0] (csN (dN (stN most st) (nN st))) g (stN most st) (nN st) (by have := nN_lt st; omega) (okN (dN (stN most st) (nN st))) w2 s2 (fun l hl hn a o ha hB => by
      rw [hl]
      have hb : nN st ≤ 16 := by
        unfold stN at hl
        split at hl
        · cases hl
        · omega
      have hlen : (l.take (nN st)).length = nN st := by rw [List.length_take]; omega
      show Calls _ _ _ _ fun e w' => e = .returned (.bool (okN (l.take (nN st)))) ∧ Box w' _ _ (csN (l.take (nN st))) ∧ _
      unfold okN csN
      by_cases h3 : (l.take (nN st)).head? = some 0
      · rw [if_pos h3, if_pos h3]
        exact cl_num_no a o _ _ _ hlen _ hB (Box.made w2 _ _) h3
      · rw [if_neg h3, if_neg h3]
        exact cl_num a o _ _ _ hlen (by omega) _ hB (by simp; omega) (Box.made w2 _ _) h3)
    obtain ⟨q1, q2⟩ := num_next most st
    rw [q1, q2, HX.out, HY.out] at c
    clear q1 q2
    clear es s1 s2 r1 o1
    go_upto_region 5 with fail
    change Code.wp _ _ _ _ (w2.alloc (.cells #[.int .u64 0, .int .u64 0] 24))
    generalize w2.alloc (.cells #[.int .u64 0, .int .u64 0] 24) = W at *
    go_wp2_with (first
      | (go_at_call 138; refine c.mono ?_; rintro e w' ⟨rfl, t1, t2, t3⟩
         have r4 := t3.box r2 (fun e => by have : w.heap.size = g := e; omega)
         obtain ⟨y0, y1, y2, y3, y4⟩ := r4.two
         obtain ⟨z0, z1, z2, z3, z4⟩ := t2.two))
    have r5 := (r4.wrote 0 (.int .u64 x)).wrote 1 (.int .u64 y)
    have k5 := (((o2.trans t3).set_ (p := ⟨w.heap.size, 0, none⟩) (Or.inr (Nat.le_refl _)) (.int .u64 x)).set_ (p := ⟨w.heap.size, 1, none⟩) (Or.inr (Nat.le_refl _)) (.int .u64 y))
    have hrc : InS ((w'.setCell ⟨w.heap.size, 0, none⟩ (.int .u64 x)).setCell ⟨w.heap.size, 1, none⟩ (.int .u64 y)) g (nxt (opN most st)) :=
      t1.off ((((Off.refl (One w.heap.size) w').set_ (p := ⟨w.heap.size, 0, none⟩) (Or.inl rfl) (.int .u64 x))).set_ (p := ⟨w.heap.size, 1, none⟩) (Or.inl rfl) (.int .u64 y)) r4 (by omega) (by decide)
    generalize World.setCell (World.setCell _ _ _) _ _ = Z at *
    obtain ⟨x0, x1, x2, x3, x4⟩ := r5.two
    exact bodyPost_ret (v := .agg #[.int .u64 x, .int .u64 y]) (by simp [results, Tryz.results140, go_sem, x0, x1]) rfl ⟨rfl, hrc, k5⟩
theorem opN_le {most : Nat} {st : Option (List UInt8)} {x : List UInt8 × List UInt8} (h : opN most st = some x) : x.1.length ≤ most := by
  cases st with
  | none => cases h
  | some l => exact (rNum_some (l := l) (d := x.1) (r := x.2) h).2.1
theorem hV_word (st : Option (List UInt8)) : Word (hV (opN 16 st)) ∧ Word (lV (opN 16 st)) := by
  cases h : opN 16 st with
  | none => exact ⟨⟨by decide, by decide⟩, ⟨by decide, by decide⟩⟩
  | some x => exact ⟨hiD_word _ (opN_le h), loD_word _⟩
theorem lV_word (most : Nat) (st : Option (List UInt8)) : Word (lV (opN most st)) := by
  cases h : opN most st with
  | none => exact ⟨by decide, by decide⟩
  | some x => exact loD_word _
theorem fld_lo (a b : Int) (w : World) : (Instr.field 24 (.agg #[.int .u64 a, .int .u64 b]) 1).run Tryz.prog w = .ok (.int .u64 b) w := by kernel_rfl
theorem in_num (w : World) (g : Nat) (st : Option (List UInt8)) (h : InS w g st) : Calls Tryz.prog 93 #[.pointer (some ⟨g, 0, none⟩)] w fun e w' =>
    e = .returned (.int .u64 (lV (opN 8 st))) ∧ InS w' g (nxt (opN 8 st)) ∧ Off (One g) w w' := by
  have c : Calls Tryz.prog 140 #[.pointer (some ⟨g, 0, none⟩), .int .u8 8] w _ := in_number 8 (by decide) w g st h
  generalize opN 8 st = r at *
  have hfl := fld_lo
  go_enter Tryz.func93, Tryz.ntmps93
  go_wp2_with (first
    | (go_at_call 140; refine c.mono ?_; rintro e w' ⟨rfl, s1, k1⟩))
  go_ret
  exact ⟨rfl, s1, k1⟩
set_option maxHeartbeats 1000000 in
theorem in_wide (w : World) (g : Nat) (st : Option (List UInt8)) (h : InS w g st) : Calls Tryz.prog 92 #[.pointer (some ⟨g, 0, none⟩)] w fun e w' =>
    e = .returned (.agg #[.int .u64 (hV (opN 16 st)), .int .u64 (lV (opN 16 st))]) ∧ InS w' g (nxt (opN 16 st)) ∧ Off (One g) w w' := by
  have B0 := Box.made w 24 #[.int .u64 0, .int .u64 0]
  have L0 : Below w.heap.size w (w.alloc (.cells #[.int .u64 0, .int .u64 0] 24)) := (Below.refl _ w).alloc (Nat.le_refl _) _
  have c : Calls Tryz.prog 140 #[.pointer (some ⟨g, 0, none⟩), .int .u8 16] _ _ := in_number 16 (by decide) (w.alloc (.cells #[.int .u64 0, .int .u64 0] 24)) g st (h.call L0)
  have hg := h.inside
  generalize opN 16 st = r at *
  obtain ⟨x, hx⟩ : ∃ x, hV r = x := ⟨_, rfl⟩
  obtain ⟨y, hy⟩ : ∃ y, lV r = y := ⟨_, rfl⟩
  rw [hx, hy] at c ⊢
  clear hx hy
  go_enter Tryz.func92, Tryz.ntmps92
  go_upto_region 1 with fail
  change Code.wp _ _ _ _ (w.alloc (.cells #[.int .u64 0, .int .u64 0] 24))
  generalize w.alloc (.cells #[.int .u64 0, .int .u64 0] 24) = W at *
  go_wp2_with (first
    | (go_at_call 140; refine c.mono ?_; rintro e w' ⟨rfl, t1, t3⟩
       have r4 := t3.box B0 (fun e => by have : w.heap.size = g := e; omega)
       obtain ⟨y0, y1, y2, y3, y4⟩ := r4.two))
  have r5 := (r4.wrote 0 (.int .u64 x)).wrote 1 (.int .u64 y)
  have k5 := ((((Off.of (S := One g) L0).trans t3).set_ (p := ⟨w.heap.size, 0, none⟩) (Or.inr (Nat.le_refl _)) (.int .u64 x)).set_ (p := ⟨w.heap.size, 1, none⟩) (Or.inr (Nat.le_refl _)) (.int .u64 y))
  have hrc : InS ((w'.setCell ⟨w.heap.size, 0, none⟩ (.int .u64 x)).setCell ⟨w.heap.size, 1, none⟩ (.int .u64 y)) g (nxt r) :=
    t1.off ((((Off.refl (One w.heap.size) w').set_ (p := ⟨w.heap.size, 0, none⟩) (Or.inl rfl) (.int .u64 x))).set_ (p := ⟨w.heap.size, 1, none⟩) (Or.inl rfl) (.int .u64 y)) r4 (by omega) (by decide)
  generalize World.setCell (World.setCell _ _ _) _ _ = Z at *
  obtain ⟨x0, x1, x2, x3, x4⟩ := r5.two
  exact bodyPost_ret (v := .agg #[.int .u64 x, .int .u64 y]) (by simp [results, Tryz.results92, go_sem, x0, x1]) rfl ⟨rfl, hrc, k5⟩
/-- A text's size as it was told; what is left behind it, where it isn't too long. -/
def zN (st : Option (List UInt8)) : Nat := match opN 8 st with | none => 0 | some x => beN x.1
def stT (m : Nat) (st : Option (List UInt8)) : Option (List UInt8) := if m < zN st then none else nxt (opN 8 st)
theorem lV_zN (st : Option (List UInt8)) : lV (opN 8 st) = (zN st : Int) := by
  unfold zN
  cases h : opN 8 st with
  | none => rfl
  | some x => exact loD_8 _ (opN_le h)
theorem text_next (m : Nat) (st : Option (List UInt8)) : rdS (stT m st) (zN st) true = nxt (opT m st) ∧
    (if rdC (stT m st) (zN st) then #[.string (ofL (dN (stT m st) (zN st)))] else #[.string ⟨#[]⟩]) = #[Value.string (tV (opT m st))] := by
  have eo : opT m st = (opN 8 st).bind fun x => if m < beN x.1 ∨ x.2.length < beN x.1 then none else some (x.2.take (beN x.1), x.2.drop (beN x.1)) := by
    cases st with
    | none => rfl
    | some l =>
      show rText m l = (rNum 8 l).bind _
      unfold rText
      cases rNum 8 l with
      | none => rfl
      | some x => obtain ⟨d, r⟩ := x; rfl
  rw [eo]
  unfold stT zN
  cases h : opN 8 st with
  | none =>
    show rdS (if m < 0 then none else none) 0 true = none ∧ (if rdC (if m < 0 then none else none) 0 then #[Value.string (ofL (dN (if m < 0 then none else none) 0))] else #[.string ⟨#[]⟩]) = #[Value.string ⟨#[]⟩]
    rw [if_neg (Nat.not_lt_zero m)]
    exact ⟨rfl, rfl⟩
  | some x =>
    obtain ⟨d, r⟩ := x
    show rdS (if m < beN d then none else some r) (beN d) true = nxt (if m < beN d ∨ r.length < beN d then none else some (r.take (beN d), r.drop (beN d))) ∧
      (if rdC (if m < beN d then none else some r) (beN d) then #[Value.string (ofL (dN (if m < beN d then none else some r) (beN d)))] else #[.string ⟨#[]⟩]) = #[Value.string (tV (if m < beN d ∨ r.length < beN d then none else some (r.take (beN d), r.drop (beN d))))]
    by_cases h1 : m < beN d
    · rw [if_pos h1, if_pos (Or.inl h1)]
      exact ⟨rfl, rfl⟩
    · rw [if_neg h1]
      show (if r.length < beN d then none else if true then some (r.drop (beN d)) else none) = _ ∧ (if decide (beN d ≤ r.length) = true then #[Value.string (ofL (r.take (beN d)))] else _) = _
      by_cases h2 : r.length < beN d
      · rw [if_pos h2, if_pos (Or.inr h2), if_neg (by rw [decide_eq_true_eq]; omega)]
        exact ⟨rfl, rfl⟩
      · have h4 : ¬ (m < beN d ∨ r.length < beN d) := by
          rintro (h | h)
          · exact h1 h
          · exact h2 h
        have e4 : decide (beN d ≤ r.length) = true := decide_eq_true (by omega)
        rw [if_neg h2, if_neg h4, e4]
        exact ⟨rfl, rfl⟩

set_option maxHeartbeats 2000000 in
theorem in_text (m : Nat) (hm2 : m < 9223372036854775808) (w : World) (g : Nat) (st : Option (List UInt8)) (h : InS w g st) : Calls Tryz.prog 91 #[.pointer (some ⟨g, 0, none⟩), .int .i64 m] w fun e w' =>
    e = .returned (.string (tV (opT m st))) ∧ InS w' g (nxt (opT m st)) ∧ Off (One g) w w' := by
  have hw : IntKind.u64.wrap (m : Int) = (m : Int) := by rw [IntKind.wrap_u64]; omega
  have hneg : ¬ ((m : Int) < 0) := by omega
  have hmax : max (m : Int) 0 = (m : Int) := by omega
  have hmod : (m : Int) % 18446744073709551616 = (m : Int) := by omega
  have cB := in_num w g st h
  rw [lV_zN] at cB
  have hz : zN st < 18446744073709551616 := by
    have := (lV_word 8 st).2
    rw [lV_zN] at this
    omega
  have hg := h.inside
  obtain ⟨x, hx⟩ : ∃ x, tV (opT m st) = x := ⟨_, rfl⟩
  rw [hx]
  have HX := hideIt hx
  clear hx
  go_enter Tryz.func91, Tryz.ntmps91
  go_upto_region 2 with (first
    | (go_at_call 93; refine cB.mono ?_; rintro e w1 ⟨rfl, s1, k1⟩)
    | fail)
  clear cB
  by_cases hv : m < zN st
  · have hvi : (m:Int) < (zN st : Int) := by (try have := HM.out); omega
    have cS := in_spoil w1 g _ s1
    go_upto_region 4 with (first
      | (go_at_call 121; refine cS.mono ?_; rintro e w2 ⟨rfl, s2, k2⟩)
      | fail)
    have o2 := k1.trans k2
    have es : stT m st = none := if_pos hv
    rw [← es] at s2
    have c := in_read_call 139 (enters_of Tryz.func139 (by kernel_rfl) rfl) 9 #[.string ⟨#[]⟩] #[.string (ofL (dN (stT m st) (zN st)))] g (stT m st) (zN st) hz true w2 s2 (fun l hl hn a o ha hB => by
      rw [hl]
      have hlen : (l.take (zN st)).length = zN st := by rw [List.length_take]; omega
      exact cl_text a o _ _ _ hlen _ _ hB (Box.made w2 _ _))
    obtain ⟨q1, q2⟩ := text_next m st
    rw [q1, q2, HX.out] at c
    clear q1 q2
    go_upto_region 5 with fail
    change Code.wp _ _ _ _ (w2.alloc (.cells #[.string ⟨#[]⟩] 9))
    generalize w2.alloc (.cells #[.string ⟨#[]⟩] 9) = W at *
    go_wp2_with (first
      | (go_at_call 138; refine c.mono ?_; rintro e w' ⟨rfl, t1, t2, t3⟩
         have z0 := t2.read 0
         have z1 := t2.inside))
    go_ret
    exact ⟨rfl, t1, o2.trans t3⟩
  · have hvi : ¬ ((m:Int) < (zN st : Int)) := by (try have := HM.out); omega
    have es : nxt (opN 8 st) = stT m st := (if_neg hv).symm
    obtain ⟨w2, hw2⟩ : ∃ w2, w1 = w2 := ⟨_, rfl⟩
    have s2 := s1
    have o2 := k1
    rw [es] at s2
    rw [hw2] at s2 o2 ⊢
    clear hw2
    have c := in_read_call 139 (enters_of Tryz.func139 (by kernel_rfl) rfl) 9 #[.string ⟨#[]⟩] #[.string (ofL (dN (stT m st) (zN st)))] g (stT m st) (zN st) hz true w2 s2 (fun l hl hn a o ha hB => by
      rw [hl]
      have hlen : (l.take (zN st)).length = zN st := by rw [List.length_take]; omega
      exact cl_text a o _ _ _ hlen _ _ hB (Box.made w2 _ _))
    obtain ⟨q1, q2⟩ := text_next m st
    rw [q1, q2, HX.out] at c
    clear q1 q2
    go_upto_region 5 with fail
    change Code.wp _ _ _ _ (w2.alloc (.cells #[.string ⟨#[]⟩] 9))
    generalize w2.alloc (.cells #[.string ⟨#[]⟩] 9) = W at *
    go_wp2_with (first
      | (go_at_call 138; refine c.mono ?_; rintro e w' ⟨rfl, t1, t2, t3⟩
         have z0 := t2.read 0
         have z1 := t2.inside))
    go_ret
    exact ⟨rfl, t1, o2.trans t3⟩
set_option maxHeartbeats 2000000 in
theorem in_text_neg (mi : Int) (hneg : mi < 0) (m : Nat) (hm : 0 = m) (w : World) (g : Nat) (st : Option (List UInt8)) (h : InS w g st) : Calls Tryz.prog 91 #[.pointer (some ⟨g, 0, none⟩), .int .i64 mi] w fun e w' =>
    e = .returned (.string (tV (opT m st))) ∧ InS w' g (nxt (opT m st)) ∧ Off (One g) w w' := by
  have hmax : max mi 0 = 0 := by omega
  have HM := hideIt hm
  clear hm
  have cB := in_num w g st h
  rw [lV_zN] at cB
  have hz : zN st < 18446744073709551616 := by
    have := (lV_word 8 st).2
    rw [lV_zN] at this
    omega
  have hg := h.inside
  obtain ⟨x, hx⟩ : ∃ x, tV (opT m st) = x := ⟨_, rfl⟩
  rw [hx]
  have HX := hideIt hx
  clear hx
  go_enter Tryz.func91, Tryz.ntmps91
  go_upto_region 2 with (first
    | (go_at_call 93; refine cB.mono ?_; rintro e w1 ⟨rfl, s1, k1⟩)
    | fail)
  clear cB
  by_cases hv : m < zN st
  · have hvi : (0:Int) < (zN st : Int) := by (try have := HM.out); omega
    have cS := in_spoil w1 g _ s1
    go_upto_region 4 with (first
      | (go_at_call 121; refine cS.mono ?_; rintro e w2 ⟨rfl, s2, k2⟩)
      | fail)
    have o2 := k1.trans k2
    have es : stT m st = none := if_pos hv
    rw [← es] at s2
    have c := in_read_call 139 (enters_of Tryz.func139 (by kernel_rfl) rfl) 9 #[.string ⟨#[]⟩] #[.string (ofL (dN (stT m st) (zN st)))] g (stT m st) (zN st) hz true w2 s2 (fun l hl hn a o ha hB => by
      rw [hl]
      have hlen : (l.take (zN st)).length = zN st := by rw [List.length_take]; omega
      exact cl_text a o _ _ _ hlen _ _ hB (Box.made w2 _ _))
    obtain ⟨q1, q2⟩ := text_next m st
    rw [q1, q2, HX.out] at c
    clear q1 q2
    go_upto_region 5 with fail
    change Code.wp _ _ _ _ (w2.alloc (.cells #[.string ⟨#[]⟩] 9))
    generalize w2.alloc (.cells #[.string ⟨#[]⟩] 9) = W at *
    go_wp2_with (first
      | (go_at_call 138; refine c.mono ?_; rintro e w' ⟨rfl, t1, t2, t3⟩
         have z0 := t2.read 0
         have z1 := t2.inside))
    go_ret
    exact ⟨rfl, t1, o2.trans t3⟩
  · have hvi : ¬ ((0:Int) < (zN st : Int)) := by (try have := HM.out); omega
    have es : nxt (opN 8 st) = stT m st := (if_neg hv).symm
    obtain ⟨w2, hw2⟩ : ∃ w2, w1 = w2 := ⟨_, rfl⟩
    have s2 := s1
    have o2 := k1
    rw [es] at s2
    rw [hw2] at s2 o2 ⊢
    clear hw2
    have c := in_read_call 139 (enters_of Tryz.func139 (by kernel_rfl) rfl) 9 #[.string ⟨#[]⟩] #[.string (ofL (dN (stT m st) (zN st)))] g (stT m st) (zN st) hz true w2 s2 (fun l hl hn a o ha hB => by
      rw [hl]
      have hlen : (l.take (zN st)).length = zN st := by rw [List.length_take]; omega
      exact cl_text a o _ _ _ hlen _ _ hB (Box.made w2 _ _))
    obtain ⟨q1, q2⟩ := text_next m st
    rw [q1, q2, HX.out] at c
    clear q1 q2
    go_upto_region 5 with fail
    change Code.wp _ _ _ _ (w2.alloc (.cells #[.string ⟨#[]⟩] 9))
    generalize w2.alloc (.cells #[.string ⟨#[]⟩] 9) = W at *
    go_wp2_with (first
      | (go_at_call 138; refine c.mono ?_; rintro e w' ⟨rfl, t1, t2, t3⟩
         have z0 := t2.read 0
         have z1 := t2.inside))
    go_ret
    exact ⟨rfl, t1, o2.trans t3⟩
/-- Whatever most is. -/
theorem in_text_any (mi : Int) (hm : mi < 9223372036854775808) (w : World) (g : Nat) (st : Option (List UInt8)) (h : InS w g st) : Calls Tryz.prog 91 #[.pointer (some ⟨g, 0, none⟩), .int .i64 mi] w fun e w' =>
    e = .returned (.string (tV (opT mi.toNat st))) ∧ InS w' g (nxt (opT mi.toNat st)) ∧ Off (One g) w w' := by
  by_cases hn : mi < 0
  · rw [show mi.toNat = 0 by omega]
    exact in_text_neg mi hn 0 rfl w g st h
  · have := in_text mi.toNat (by omega) w g st h
    rw [show ((mi.toNat : Nat) : Int) = mi by omega] at this
    exact this

theorem in_number_none (most : Nat) (hm : most < 256) (w : World) : Calls Tryz.prog 140 #[.pointer none, .int .u8 most] w (Tells (.agg #[.int .u64 0, .int .u64 0]) w.heap.size w) := by
  have c := fun n f u => in_read_nil n f u
  have cB := fun u => in_byte_none u
  have cS := fun u => in_spoil_none u
  have B0 := Box.made w 24 #[.int .u64 0, .int .u64 0]
  have L0 : Below w.heap.size w (w.alloc (.cells #[.int .u64 0, .int .u64 0] 24)) := (Below.refl _ w).alloc (Nat.le_refl _) _
  have h0 : ¬ ((most : Int) < 0) := by omega
  go_enter Tryz.func140, Tryz.ntmps140
  go_upto_region 4 with (first
    | (go_at_call 125; refine (cB _).mono ?_; rintro e w1 ⟨rfl, b1⟩)
    | fail)
  have r1 := B0.call b1
  have L1 := chain L0 b1
  have B2 := Box.made w1 24 #[.int .u64 0, .int .u64 0]
  have r2 := r1.past (.cells #[.int .u64 0, .int .u64 0] 24)
  have L2 := chainA L1 (.cells #[.int .u64 0, .int .u64 0] 24)
  go_upto_region 5 with fail
  change Code.wp _ _ _ _ (w1.alloc (.cells #[.int .u64 0, .int .u64 0] 24))
  generalize w1.alloc (.cells #[.int .u64 0, .int .u64 0] 24) = W at *
  obtain ⟨y0, y1, y2, y3, y4⟩ := r2.two
  obtain ⟨z0, z1, z2, z3, z4⟩ := B2.two
  go_wp2_with (first
    | (go_at_call 138; refine (c _ _ _).mono ?_; rintro e w' ⟨rfl, rfl⟩))
  have r5 := (r2.wrote 0 (.int .u64 0)).wrote 1 (.int .u64 0)
  have k5 := (L2.setCell (p := ⟨w.heap.size, 0, none⟩) (Nat.le_refl _) (.int .u64 0)).setCell (p := ⟨w.heap.size, 1, none⟩) (Nat.le_refl _) (.int .u64 0)
  generalize World.setCell (World.setCell _ _ _) _ _ = Z at *
  obtain ⟨x0, x1, x2, x3, x4⟩ := r5.two
  exact bodyPost_ret (v := .agg #[.int .u64 0, .int .u64 0]) (by simp [results, Tryz.results140, go_sem, x0, x1]) rfl ⟨rfl, k5⟩
theorem in_num_none (w : World) : Calls Tryz.prog 93 #[.pointer none] w (Tells (.int .u64 0) w.heap.size w) := by
  have c : Calls Tryz.prog 140 #[.pointer none, .int .u8 8] w _ := in_number_none 8 (by decide) w
  have hfl := fld_lo
  go_enter Tryz.func93, Tryz.ntmps93
  go_wp2_with (first
    | (go_at_call 140; refine c.mono ?_; rintro e w' ⟨rfl, k1⟩))
  go_ret
  exact ⟨rfl, k1⟩
theorem in_wide_none (w : World) : Calls Tryz.prog 92 #[.pointer none] w (Tells (.agg #[.int .u64 0, .int .u64 0]) w.heap.size w) := by
  have B0 := Box.made w 24 #[.int .u64 0, .int .u64 0]
  have L0 : Below w.heap.size w (w.alloc (.cells #[.int .u64 0, .int .u64 0] 24)) := (Below.refl _ w).alloc (Nat.le_refl _) _
  have c : Calls Tryz.prog 140 #[.pointer none, .int .u8 16] _ _ := in_number_none 16 (by decide) (w.alloc (.cells #[.int .u64 0, .int .u64 0] 24))
  go_enter Tryz.func92, Tryz.ntmps92
  go_upto_region 1 with fail
  change Code.wp _ _ _ _ (w.alloc (.cells #[.int .u64 0, .int .u64 0] 24))
  generalize w.alloc (.cells #[.int .u64 0, .int .u64 0] 24) = W at *
  go_wp2_with (first
    | (go_at_call 140; refine c.mono ?_; rintro e w' ⟨rfl, t3⟩
       have r4 := B0.call t3
       have L4 := chain L0 t3
       obtain ⟨y0, y1, y2, y3, y4⟩ := r4.two))
  have r5 := (r4.wrote 0 (.int .u64 0)).wrote 1 (.int .u64 0)
  have k5 := (L4.setCell (p := ⟨w.heap.size, 0, none⟩) (Nat.le_refl _) (.int .u64 0)).setCell (p := ⟨w.heap.size, 1, none⟩) (Nat.le_refl _) (.int .u64 0)
  generalize World.setCell (World.setCell _ _ _) _ _ = Z at *
  obtain ⟨x0, x1, x2, x3, x4⟩ := r5.two
  exact bodyPost_ret (v := .agg #[.int .u64 0, .int .u64 0]) (by simp [results, Tryz.results92, go_sem, x0, x1]) rfl ⟨rfl, k5⟩
theorem in_text_none (w : World) : Calls Tryz.prog 91 #[.pointer none, .int .i64 9] w (Tells (.string ⟨#[]⟩) w.heap.size w) := by
  have c := fun n f u => in_read_nil n f u
  have cB := fun u => in_num_none u
  go_enter Tryz.func91, Tryz.ntmps91
  go_upto_region 4 with (first
    | (go_at_call 93; refine (cB _).mono ?_; rintro e w1 ⟨rfl, b1⟩)
    | fail)
  have B2 := Box.made w1 9 #[.string ⟨#[]⟩]
  have L2 := chainA b1 (.cells #[.string ⟨#[]⟩] 9)
  go_upto_region 5 with fail
  change Code.wp _ _ _ _ (w1.alloc (.cells #[.string ⟨#[]⟩] 9))
  generalize w1.alloc (.cells #[.string ⟨#[]⟩] 9) = W at *
  have z0 := B2.read 0
  have z1 := B2.inside
  go_wp2_with (first
    | (go_at_call 138; refine (c _ _ _).mono ?_; rintro e w' ⟨rfl, rfl⟩))
  go_ret
  exact ⟨rfl, L2⟩
end Go.Proofs.YtmflhodiibjpnaaGreatDoor
