/-
  octet.In, walked: Spoil, Spoilt, Rest, Close, Open, read.
-/
import Derived.Test.YtakhdhbalmcohaaDoorW8Off
import Derived.Test.YtakhdhbalmcohaaDoorU1From
import Derived.Shelf.Abstract
namespace Go.Proofs.YtakhdhbalmcohaaDoor
set_option linter.unusedVariables false
set_option linter.unusedSimpArgs false
set_option maxRecDepth 10000
open Go.RowKit Go.Shelf

/-- What is read, where it lies: the bytes that are left; none: it is spoilt. -/
def InS (w : World) (g : Nat) : Option (List UInt8) → Prop
  | none => Box w g 69 #[.slice none 0 0, .bool true]
  | some l => ∃ a o c, Box w g 69 #[.slice (some ⟨a, o, none⟩) l.length c, .bool false] ∧ TyAt w a 5 ∧ l.length ≤ c ∧ c ≤ maxLen ∧ BytesA w a o l
theorem InS.box {w : World} {g : Nat} {st : Option (List UInt8)} (h : InS w g st) : ∃ cs, Box w g 69 cs := by
  cases st with
  | none => exact ⟨_, h⟩
  | some l => obtain ⟨a, o, c, h, -⟩ := h; exact ⟨_, h⟩
theorem InS.inside {w : World} {g : Nat} {st : Option (List UInt8)} (h : InS w g st) : g < w.heap.size := by obtain ⟨cs, h⟩ := h.box; exact h.inside
theorem InS.keep {w w' : World} {g : Nat} {st : Option (List UInt8)} (h : InS w g st) (e : ∀ k, k < w.heap.size → (k = g ∨ TyAt w k 5) → w'.heap[k]? = w.heap[k]?) : InS w' g st := by
  cases st with
  | none => exact (e g h.inside (Or.inl rfl)).trans h
  | some l =>
    obtain ⟨a, o, c, h1, h2, h3, h4, h5⟩ := h
    have ea := e a h2.inside (Or.inr h2)
    exact ⟨a, o, c, (e g h1.inside (Or.inl rfl)).trans h1, h2.keep ea, h3, h4, h5.keep ea⟩
theorem InS.call {w w' : World} {g : Nat} {st : Option (List UInt8)} (h : InS w g st) (hb : Below w.heap.size w w') : InS w' g st := h.keep fun k hk _ => hb.block k hk
/-- A block of another type than bytes, and another one, has turned. -/
theorem InS.off {w w' : World} {g b : Nat} {t : TypeId} {cs : Array Value} {st : Option (List UInt8)} (h : InS w g st) (k : Off (One b) w w') (hb : Box w b t cs) (hne : g ≠ b) (ht : 5 ≠ t) : InS w' g st :=
  h.keep fun i hi hx => k.block i hi (fun e => by
    rcases hx with hx | hx
    · exact hne (hx.symm.trans e)
    · exact hx.ne hb ht e)
/-- A new block of whatever type has turned. -/
theorem InS.new {w W w' : World} {g b : Nat} {st : Option (List UInt8)} (h : InS w g st) (hb : Below w.heap.size w W) (k : Off (One b) W w') (hne : w.heap.size ≤ b) : InS w' g st :=
  h.keep fun i hi hx => (k.block i (Nat.lt_of_lt_of_le hi hb.size) (fun e => by have : i = b := e; omega)).trans (hb.block i hi)

theorem in_spoil_none (w : World) : Calls Tryd.prog 15 #[.pointer none] w (Still (.tuple #[]) w) := by
  go_enter Tryd.func15, Tryd.ntmps15
  go_wp2
  go_end0
  exact ⟨rfl, rfl⟩
theorem in_spoil (w : World) (g : Nat) (st : Option (List UInt8)) (h : InS w g st) : Calls Tryd.prog 15 #[.pointer (some ⟨g, 0, none⟩)] w fun e w' => e = .returned (.tuple #[]) ∧ InS w' g none ∧ Off (One g) w w' := by
  obtain ⟨x, y, hbx⟩ : ∃ x y, Box w g 69 #[x, y] := by
    cases st with
    | none => exact ⟨_, _, h⟩
    | some l => obtain ⟨a, o, c, h, -⟩ := h; exact ⟨_, _, h⟩
  obtain ⟨c0, c1, f0, f1, hin⟩ := hbx.two
  have b1 := (hbx.wrote 0 (.slice none 0 0)).wrote 1 (.bool true)
  have k1 := ((Off.refl (One g) w).set_ (p := ⟨g, 0, none⟩) (Or.inl rfl) (.slice none 0 0)).set_ (p := ⟨g, 1, none⟩) (Or.inl rfl) (.bool true)
  go_enter Tryd.func15, Tryd.ntmps15
  go_wp2
  go_end0
  exact ⟨rfl, b1, k1⟩
theorem in_spoilt_none (w : World) : Calls Tryd.prog 21 #[.pointer none] w (Still (.bool true) w) := by
  go_enter Tryd.func21, Tryd.ntmps21
  go_wp2
  go_ret
  exact ⟨rfl, rfl⟩
theorem in_spoilt (w : World) (g : Nat) (st : Option (List UInt8)) (h : InS w g st) : Calls Tryd.prog 21 #[.pointer (some ⟨g, 0, none⟩)] w (Still (.bool st.isNone) w) := by
  obtain ⟨x, hbx⟩ : ∃ x, Box w g 69 #[x, .bool st.isNone] := by
    cases st with
    | none => exact ⟨_, h⟩
    | some l => obtain ⟨a, o, c, h, -⟩ := h; exact ⟨_, h⟩
  obtain ⟨c0, c1, f0, f1, hin⟩ := hbx.two
  go_enter Tryd.func21, Tryd.ntmps21
  go_wp2
  go_ret
  exact ⟨rfl, rfl⟩
theorem in_rest_none (w : World) : Calls Tryd.prog 22 #[.pointer none] w (Still (.int .i64 0) w) := by
  have c := in_spoilt_none w
  go_enter Tryd.func22, Tryd.ntmps22
  go_wp2_with (first | (go_at_call 21; refine c.mono ?_; rintro e w' ⟨rfl, rfl⟩))
  go_ret
  exact ⟨rfl, rfl⟩
/-- How many bytes are left. -/
def restN (st : Option (List UInt8)) : Nat := match st with | none => 0 | some l => l.length
theorem in_rest (w : World) (g : Nat) (st : Option (List UInt8)) (h : InS w g st) : Calls Tryd.prog 22 #[.pointer (some ⟨g, 0, none⟩)] w (Still (.int .i64 (restN st : Nat)) w) := by
  have c := in_spoilt w g st h
  cases st with
  | none =>
    go_enter Tryd.func22, Tryd.ntmps22
    go_wp2_with (first | (go_at_call 21; refine c.mono ?_; rintro e w' ⟨rfl, rfl⟩))
    go_ret
    exact ⟨rfl, rfl⟩
  | some l =>
    obtain ⟨a, o, cap, hbx, -⟩ := h
    obtain ⟨c0, c1, f0, f1, hin⟩ := hbx.two
    go_enter Tryd.func22, Tryd.ntmps22
    go_wp2_with (first | (go_at_call 21; refine c.mono ?_; rintro e w' ⟨rfl, rfl⟩))
    go_ret
    exact ⟨rfl, rfl⟩
theorem in_close_none (w : World) : Calls Tryd.prog 23 #[.pointer none] w (Still (.int .i64 1) w) := by
  go_enter Tryd.func23, Tryd.ntmps23
  go_wp2
  go_ret
  exact ⟨rfl, rfl⟩
/-- What Close tells. -/
def closeN (st : Option (List UInt8)) : Int := if st = some [] then 0 else 80
theorem in_close (w : World) (g : Nat) (st : Option (List UInt8)) (h : InS w g st) : Calls Tryd.prog 23 #[.pointer (some ⟨g, 0, none⟩)] w (Still (.int .i64 (closeN st)) w) := by
  cases st with
  | none =>
    obtain ⟨c0, c1, f0, f1, hin⟩ := Box.two (show Box w g 69 #[.slice none 0 0, .bool true] from h)
    go_enter Tryd.func23, Tryd.ntmps23
    go_wp2
    go_ret
    exact ⟨rfl, rfl⟩
  | some l =>
    obtain ⟨a, o, cap, hbx, -⟩ := h
    obtain ⟨c0, c1, f0, f1, hin⟩ := hbx.two
    by_cases hl : l.length = 0
    · have e : l = [] := List.length_eq_zero_iff.1 hl
      subst e
      have hl0 : ¬ ((0 : Int) < 0) := by omega
      go_enter Tryd.func23, Tryd.ntmps23
      go_wp2
      go_ret
      exact ⟨rfl, rfl⟩
    · have e : closeN (some l) = 80 := by
        unfold closeN
        rw [if_neg]
        intro e
        injection e with e
        rw [e] at hl
        exact hl rfl
      rw [e]
      have hl0 : (0 : Int) < (l.length : Int) := by omega
      go_enter Tryd.func23, Tryd.ntmps23
      go_wp2
      go_ret
      exact ⟨rfl, rfl⟩

set_option maxHeartbeats 1000000 in
theorem in_open (s : ByteArray) (hs : s.size ≤ 4611686018427387903) (w : World) : Calls Tryd.prog 26 #[.string s] w fun e w' => ∃ g, e = .returned (.pointer (some ⟨g, 0, none⟩)) ∧ w.heap.size ≤ g ∧ InS w' g (some s.data.toList) ∧ Below w.heap.size w w' := by
  have hcv := run_bytes_of_string (P := Tryd.prog) w 9 28 5 s Tryd.underlying9 Tryd.underlying28 Tryd.underlying5
  have hge := grownCap_ge w s.size 0 5
  have hle := grownCap_le_maxLen w s.size 0 5 (by unfold maxLen; omega)
  have hB := bytesA_made w 5 s (grownCap w s.size 0 5) ((bytesRow s (grownCap w s.size 0 5)).size, (bytesRow s (grownCap w s.size 0 5)).size + 1)
  have hT := tyAt_made w 5 (bytesRow s (grownCap w s.size 0 5)) ((bytesRow s (grownCap w s.size 0 5)).size, (bytesRow s (grownCap w s.size 0 5)).size + 1)
  have L1 : Below w.heap.size w (w.drew.alloc (.cells (bytesRow s (grownCap w s.size 0 5)) 5 ((bytesRow s (grownCap w s.size 0 5)).size, (bytesRow s (grownCap w s.size 0 5)).size + 1))) := ((Below.refl _ w).drew).alloc (Nat.le_refl _) _
  have hz : (w.drew.alloc (.cells (bytesRow s (grownCap w s.size 0 5)) 5 ((bytesRow s (grownCap w s.size 0 5)).size, (bytesRow s (grownCap w s.size 0 5)).size + 1))).heap.size = w.heap.size + 1 := by simp
  generalize w.drew.alloc (.cells (bytesRow s (grownCap w s.size 0 5)) 5 ((bytesRow s (grownCap w s.size 0 5)).size, (bytesRow s (grownCap w s.size 0 5)).size + 1)) = W at *
  generalize grownCap w s.size 0 5 = cap at *
  generalize w.heap.size = n at *
  have hX := Box.made W 69 #[.slice (some ⟨n, 0, none⟩) s.size cap, .bool false]
  have L2 := L1.alloc (by omega) (.cells #[.slice (some ⟨n, 0, none⟩) s.size cap, .bool false] 69)
  have hk := Below.heap_alloc W (.cells #[.slice (some ⟨n, 0, none⟩) s.size cap, .bool false] 69) n hT.inside
  have hT2 := hT.keep hk
  have hB2 := hB.keep hk
  go_enter Tryd.func26, Tryd.ntmps26
  go_wp2
  go_ret
  rw [hz] at hX
  refine ⟨n + 1, rfl, by omega, ⟨n, 0, cap, ?_, hT2, ?_, hle, hB2⟩, L2⟩
  · rw [osize]; exact hX
  · rw [osize]; exact hge

set_option maxHeartbeats 1000000 in
theorem in_read_nil (n : Int) (f : Value) (w : World) : Calls Tryd.prog 38 #[.pointer none, .int .u64 n, f] w (Still (.tuple #[]) w) := by
  have c := in_spoilt_none w
  go_enter Tryd.func38, Tryd.ntmps38
  go_wp2_with (first | (go_at_call 21; refine c.mono ?_; rintro e w' ⟨rfl, rfl⟩))
  go_end0
  exact ⟨rfl, rfl⟩
set_option maxHeartbeats 1000000 in
theorem in_read_spoilt (n : Int) (f : Value) (w : World) (g : Nat) (h : InS w g none) : Calls Tryd.prog 38 #[.pointer (some ⟨g, 0, none⟩), .int .u64 n, f] w (Still (.tuple #[]) w) := by
  have c := in_spoilt w g none h
  go_enter Tryd.func38, Tryd.ntmps38
  go_wp2_with (first | (go_at_call 21; refine c.mono ?_; rintro e w' ⟨rfl, rfl⟩))
  go_end0
  exact ⟨rfl, rfl⟩
set_option maxHeartbeats 1000000 in
theorem in_read_short (n : Nat) (hn : n < 18446744073709551616) (f : Value) (w : World) (g : Nat) (l : List UInt8) (hl : l.length < n) (h : InS w g (some l)) :
    Calls Tryd.prog 38 #[.pointer (some ⟨g, 0, none⟩), .int .u64 n, f] w fun e w' => e = .returned (.tuple #[]) ∧ InS w' g none ∧ Off (One g) w w' := by
  have c := in_spoilt w g _ h
  have cS := in_spoil w g _ h
  obtain ⟨a, o, cap, hbx, hT, h1, h2, hB⟩ := h
  obtain ⟨c0, c1, f0, f1, hin⟩ := hbx.two
  have e1 : (l.length : Int) % 18446744073709551616 = l.length := by unfold maxLen at h2; omega
  have e2 : (l.length : Int) < (n : Int) := by omega
  have e3 : decide (l.length < n) = true := decide_eq_true hl
  go_enter Tryd.func38, Tryd.ntmps38
  go_wp2_with (first
    | (go_at_call 21; refine c.mono ?_; rintro e w' ⟨rfl, rfl⟩)
    | (go_at_call 15; refine cS.mono ?_; rintro e w' ⟨rfl, s1, s2⟩))
  refine bodyPost_ret (results_none rfl _ _ _) rfl ?_
  exact ⟨rfl, s1, s2⟩
set_option maxHeartbeats 2000000 in
theorem in_read_any (k : FuncId) (he : ∀ args w, (callFunc k args).run Tryd.prog w = .ok (.enter k args) w) (T : TypeId) (cs cs' : Array Value) (c g : Nat) (l : List UInt8) (n : Nat) (ok : Bool) (w : World)
    (h : InS w g (some l)) (hc : Box w c T cs) (hne : g ≠ c) (hac : ∀ a, TyAt w a 5 → (∃ o m q, w.cell? ⟨g, 0, none⟩ = some (.slice (some ⟨a, o, none⟩) m q)) → a ≠ c) (hn : n ≤ l.length)
    (hcl : ∀ a o, a < w.heap.size → a ≠ c → BytesA w a o (l.take n) → Calls Tryd.prog k #[.slice (some ⟨a, o, none⟩) n n, .pointer (some ⟨c, 0, none⟩)] w fun e w' => e = .returned (.bool ok) ∧ Box w' c T cs' ∧ Off (One c) w w') :
    Calls Tryd.prog 38 #[.pointer (some ⟨g, 0, none⟩), .int .u64 n, .func (.func k) #[] #[.pointer (some ⟨c, 0, none⟩)]] w fun e w' =>
      e = .returned (.tuple #[]) ∧ InS w' g (if ok then some (l.drop n) else none) ∧ Box w' c T cs' ∧ Off (fun i => i = g ∨ i = c) w w' := by
  have cS := in_spoilt w g _ h
  obtain ⟨a, o, cap, hbx, hT, h1, h2, hB⟩ := h
  obtain ⟨c0, c1, f0, f1, hin⟩ := hbx.two
  have hac2 := hac a hT ⟨o, _, _, c0⟩
  have e1 : (l.length : Int) % 18446744073709551616 = l.length := by unfold maxLen at h2; omega
  have e2 : ¬ ((l.length : Int) < (n : Int)) := by omega
  have hcl2 := (hcl a o hT.inside hac2 (hB.take n)).mono fun e w' (q : _ ∧ _ ∧ _) => (show e = .returned (.bool ok) ∧ Box w' g 69 #[.slice (some ⟨a, o, none⟩) l.length cap, .bool false] ∧ TyAt w' a 5 ∧ BytesA w' a o l ∧ Box w' c T cs' ∧ Off (One c) w w' from
    have ka := q.2.2.block a hT.inside (fun e => hac2 e)
    ⟨q.1, q.2.2.box hbx (fun e => hne e), hT.keep ka, hB.keep ka, q.2.1, q.2.2⟩)
  clear hcl hac hT hB hbx hc
  have e3 : decide (l.length < n) = false := decide_eq_false (by omega)
  have e4 : ¬ l.length < n := by omega
  cases ok with
  | false =>
    have cF := fun (u : World) (hu : InS u g (some l)) => in_spoil u g _ hu
    go_enter Tryd.func38, Tryd.ntmps38
    go_wp2_with (first
      | (go_at_call 21; refine cS.mono ?_; rintro e w' ⟨rfl, rfl⟩)
      | (go_at_call 15; refine (cF _ ⟨a, o, cap, b1, b2, h1, h2, b3⟩).mono ?_; rintro e w2 ⟨rfl, s1, s2⟩)
      | (go_at_fn k; refine hcl2.mono ?_; rintro e w' ⟨rfl, b1, b2, b3, b4, b5⟩; obtain ⟨y0, y1, z0, z1, hin1⟩ := b1.two))
    refine bodyPost_ret (results_none rfl _ _ _) rfl ?_
    exact ⟨rfl, s1, s2.box b4 (fun e => hne e.symm), (b5.mono fun i hi => Or.inr hi).trans (s2.mono fun i hi => Or.inl hi)⟩
  | true =>
    go_enter Tryd.func38, Tryd.ntmps38
    go_wp2_with (first
      | (go_at_call 21; refine cS.mono ?_; rintro e w' ⟨rfl, rfl⟩)
      | (go_at_fn k; refine hcl2.mono ?_; rintro e w' ⟨rfl, b1, b2, b3, b4, b5⟩; obtain ⟨y0, y1, z0, z1, hin1⟩ := b1.two))
    · next hcn =>
      go_end0
      have ka : (w'.setCell ⟨g, 0, none⟩ (.slice (some ⟨a, o, none⟩) (l.length - n) 0)).heap[a]? = w'.heap[a]? := Below.heap_setCell _ _ _ _ (by exact b2.ne b1 (by decide))
      refine ⟨rfl, ⟨a, o, 0, ?_, b2.keep ka, by rw [List.length_drop]; omega, by omega, ?_⟩, b4.apart (fun e => hne e.symm) _, (show Off (fun i => i = g ∨ i = c) w w' from b5.mono fun i hi => Or.inr hi).set_ (p := ⟨g, 0, none⟩) (Or.inl (Or.inl rfl)) _⟩
      · rw [List.length_drop]; exact b1.wrote 0 _
      · rw [List.drop_of_length_le (by omega)]; intro i hi; simp at hi
    · next hcn =>
      go_end0
      have ka : (w'.setCell ⟨g, 0, none⟩ (.slice (some ⟨a, o + n, none⟩) (l.length - n) (cap - n))).heap[a]? = w'.heap[a]? := Below.heap_setCell _ _ _ _ (by exact b2.ne b1 (by decide))
      refine ⟨rfl, ⟨a, o + n, cap - n, ?_, b2.keep ka, by rw [List.length_drop]; omega, by omega, (b3.drop n).keep ka⟩, b4.apart (fun e => hne e.symm) _, (show Off (fun i => i = g ∨ i = c) w w' from b5.mono fun i hi => Or.inr hi).set_ (p := ⟨g, 0, none⟩) (Or.inl (Or.inl rfl)) _⟩
      rw [List.length_drop]; exact b1.wrote 0 _
end Go.Proofs.YtakhdhbalmcohaaDoor
