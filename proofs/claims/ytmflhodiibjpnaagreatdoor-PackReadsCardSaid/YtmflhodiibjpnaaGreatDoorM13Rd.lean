/- Several of my texts, laid as one. -/
import Derived.Test.YtmflhodiibjpnaaGreatDoorM8In
import Derived.Test.YtmflhodiibjpnaaGreatDoorR1From
import Derived.LoopTactic
import Derived.Deep.LoopGhost
import Derived.Laws.Concat
import Derived.Test.YtmflhodiibjpnaaGreatDoorM13Nod
import Derived.Test.YtmflhodiibjpnaaGreatDoorW8Low
import Derived.Test.YtmflhodiibjpnaaGreatDoorM13Rf
import Derived.Test.YtmflhodiibjpnaaGreatDoorM13Dec
/-
  The document's own In (paymasterref08), walked: Spoil, take, Byte, number, Wide, Num, Flag, Text, Done.
-/
namespace Go.Proofs.YtmflhodiibjpnaaGreatDoor
set_option linter.unusedVariables false
set_option linter.unusedSimpArgs false
set_option maxRecDepth 10000
open Go.RowKit Go.Shelf

def rS (st : Option (List UInt8)) : ByteArray := match st with | none => ⟨#[]⟩ | some l => ofL l
/-- What the document's In has left, where it lies. -/
def RInS (w : World) (g : Nat) (st : Option (List UInt8)) : Prop := Box w g 70 #[.string (rS st), .bool st.isNone]
theorem RInS.inside {w : World} {g : Nat} {st : Option (List UInt8)} (h : RInS w g st) : g < w.heap.size := Box.inside h
theorem RInS.call {w w' : World} {g : Nat} {st : Option (List UInt8)} (h : RInS w g st) (hb : Below w.heap.size w w') : RInS w' g st := Box.call h hb
theorem RInS.off {w w' : World} {g : Nat} {S : Nat → Prop} {st : Option (List UInt8)} (h : RInS w g st) (k : Off S w w') (hne : ¬ S g) : RInS w' g st := k.box h hne
theorem restN_size (st : Option (List UInt8)) : (rS st).size = restN st := by
  cases st with
  | none => rfl
  | some l => exact ofL_size l
theorem r_spoil (w : World) (g : Nat) (x y : Value) (hbx : Box w g 70 #[x, y]) : Calls Tryz.prog 74 #[.pointer (some ⟨g, 0, none⟩)] w fun e w' => e = .returned (.tuple #[]) ∧ RInS w' g none ∧ Off (One g) w w' := by
  obtain ⟨c0, c1, f0, f1, hin⟩ := hbx.two
  have b1 := (hbx.wrote 0 (.string ⟨#[]⟩)).wrote 1 (.bool true)
  have k1 := ((Off.refl (One g) w).set_ (p := ⟨g, 0, none⟩) (Or.inl rfl) (.string ⟨#[]⟩)).set_ (p := ⟨g, 1, none⟩) (Or.inl rfl) (.bool true)
  go_enter Tryz.func74, Tryz.ntmps74
  go_wp2
  go_end0
  exact ⟨rfl, b1, k1⟩
theorem r_done (w : World) (g : Nat) (st : Option (List UInt8)) (h : RInS w g st) : Calls Tryz.prog 77 #[.pointer (some ⟨g, 0, none⟩)] w (Still (.bool (decide (st = some []))) w) := by
  obtain ⟨c0, c1, f0, f1, hin⟩ := Box.two (show Box w g _ #[_, _] from h)
  cases st with
  | none =>
    go_enter Tryz.func77, Tryz.ntmps77
    go_wp2
    go_ret
    exact ⟨rfl, rfl⟩
  | some l =>
    have hz : (ofL l).size = l.length := ofL_size l
    have e : decide (some l = some []) = ((l.length : Int) == 0) := by
      cases l with
      | nil => rfl
      | cons c r =>
        rw [decide_eq_false (by intro e; injection e with e; cases e)]
        symm
        rw [beq_eq_false_iff_ne, List.length_cons]
        omega
    rw [e]
    change w.cell? _ = some (.string (ofL l)) at c0
    change w.cell? _ = some (.bool false) at c1
    generalize ofL l = L at *
    go_enter Tryz.func77, Tryz.ntmps77
    go_wp2
    go_ret
    exact ⟨rfl, rfl⟩
/-- So many bytes, taken. -/
def tkO (n : Nat) (st : Option (List UInt8)) : Option (List UInt8 × List UInt8) := st.bind fun l => if l.length < n then none else some (l.take n, l.drop n)
theorem ofL_cut (l : List UInt8) (n : Nat) (hn : n ≤ l.length) : (ofL l).extract 0 n = ofL (l.take n) ∧ (ofL l).extract n (ofL l).size = ofL (l.drop n) := by
  constructor
  · refine oext ?_
    rw [ByteArray.data_extract, Array.toList_extract, List.extract_eq_take_drop, ofL_list, ofL_list]
    simp
  · refine oext ?_
    rw [ByteArray.data_extract, Array.toList_extract, List.extract_eq_take_drop, ofL_list, ofL_list, ofL_size]
    rw [List.take_of_length_le (by rw [List.length_drop]; exact Nat.le_refl _)]
set_option maxHeartbeats 1000000 in
theorem r_take (n : Nat) (hn : n < 18446744073709551616) (w : World) (g : Nat) (st : Option (List UInt8)) (hz : restN st ≤ 4611686018427387903) (h : RInS w g st) : Calls Tryz.prog 127 #[.pointer (some ⟨g, 0, none⟩), .int .u64 n] w fun e w' =>
    e = .returned (.string (tV (tkO n st))) ∧ RInS w' g (nxt (tkO n st)) ∧ Off (One g) w w' := by
  have hbx : Box w g 70 #[.string (rS st), .bool st.isNone] := h
  have cS := r_spoil w g _ _ hbx
  obtain ⟨c0, c1, f0, f1, hin⟩ := hbx.two
  cases st with
  | none =>
    go_enter Tryz.func127, Tryz.ntmps127
    go_wp2_with (first | (go_at_call 74; refine cS.mono ?_; rintro e w' ⟨rfl, s1, s2⟩))
    go_ret
    exact ⟨rfl, s1, s2⟩
  | some l =>
    have hl : (ofL l).size = l.length := ofL_size l
    have hz2 : l.length ≤ 4611686018427387903 := hz
    have e1 : (l.length : Int) % 18446744073709551616 = (l.length : Int) := by omega
    have e5 : IntKind.u64.wrap (l.length : Int) = (l.length : Int) := by rw [IntKind.wrap_u64]; exact e1
    change w.cell? _ = some (.string (ofL l)) at c0
    change w.cell? _ = some (.bool false) at c1
    by_cases hlt : l.length < n
    · have e2 : (l.length : Int) < (n : Int) := by omega
      have e3 : decide (l.length < n) = true := decide_eq_true hlt
      have eo : tkO n (some l) = none := if_pos hlt
      rw [eo]
      clear hbx h eo
      generalize ofL l = L at *
      go_enter Tryz.func127, Tryz.ntmps127
      go_wp2_with (first | (go_at_call 74; refine cS.mono ?_; rintro e w' ⟨rfl, s1, s2⟩))
      go_ret
      exact ⟨rfl, s1, s2⟩
    · have e2 : ¬ ((l.length : Int) < (n : Int)) := by omega
      have e3 : decide (l.length < n) = false := decide_eq_false hlt
      have eo : tkO n (some l) = some (l.take n, l.drop n) := if_neg hlt
      obtain ⟨x1, x2⟩ := ofL_cut l n (by omega)
      rw [hl] at x2
      have b1 : Box (w.setCell ⟨g, 0, none⟩ (.string (ofL (l.drop n)))) g 70 #[.string (ofL (l.drop n)), .bool false] := hbx.wrote 0 (.string (ofL (l.drop n)))
      have k1 := (Off.refl (One g) w).set_ (p := ⟨g, 0, none⟩) (Or.inl rfl) (.string (ofL (l.drop n)))
      have hnl : (n : Int) ≤ (l.length : Int) := by omega
      rw [eo]
      show Calls _ _ _ _ fun e w' => e = .returned (.string (ofL (l.take n))) ∧ Box w' g _ #[.string (ofL (l.drop n)), .bool false] ∧ _
      clear hbx h eo cS hz hz2
      generalize ofL (l.drop n) = D at *
      generalize ofL (l.take n) = T at *
      generalize ofL l = L at *
      go_enter Tryz.func127, Tryz.ntmps127
      go_wp2
      go_ret
      exact ⟨rfl, b1, k1⟩
theorem nxt_rest {α : Type} {st : Option (List UInt8)} {r : Option (α × List UInt8)} (h : ∀ x, r = some x → ∃ l, st = some l ∧ x.2.length ≤ l.length) : restN (nxt r) ≤ restN st := by
  cases r with
  | none => exact Nat.zero_le _
  | some x =>
    obtain ⟨l, hl, h2⟩ := h x rfl
    rw [hl]
    exact h2
theorem rest_opB (st : Option (List UInt8)) : restN (nxt (opB st)) ≤ restN st := by
  cases st with
  | none => exact Nat.le_refl _
  | some l => cases l with
    | nil => exact Nat.le_refl _
    | cons c r => show r.length ≤ (c :: r).length; rw [List.length_cons]; omega
theorem tkO_one (st : Option (List UInt8)) : nxt (tkO 1 st) = nxt (opB st) := by
  cases st with
  | none => rfl
  | some l => cases l with
    | nil => rfl
    | cons c r =>
      show nxt (if (c :: r).length < 1 then none else some ((c :: r).take 1, (c :: r).drop 1)) = _
      rw [if_neg (by simp)]
      rfl
set_option maxHeartbeats 1000000 in
theorem r_byte (w : World) (g : Nat) (st : Option (List UInt8)) (hz : restN st ≤ 4611686018427387903) (h : RInS w g st) : Calls Tryz.prog 76 #[.pointer (some ⟨g, 0, none⟩)] w fun e w' =>
    e = .returned (.int .u8 (bV (opB st))) ∧ RInS w' g (nxt (opB st)) ∧ Off (One g) w w' := by
  have c : Calls Tryz.prog 127 #[.pointer (some ⟨g, 0, none⟩), .int .u64 1] w _ := r_take 1 (by decide) w g st hz h
  rw [tkO_one] at c
  have hc : (tV (tkO 1 st) = ⟨#[]⟩ ∧ bV (opB st) = 0) ∨ ∃ x : UInt8, tV (tkO 1 st) = ofL [x] ∧ bV (opB st) = (x.toNat : Int) := by
    cases st with
    | none => exact Or.inl ⟨rfl, rfl⟩
    | some l => cases l with
      | nil => exact Or.inl ⟨rfl, rfl⟩
      | cons x r =>
        refine Or.inr ⟨x, ?_, rfl⟩
        show tV (if (x :: r).length < 1 then none else some ((x :: r).take 1, (x :: r).drop 1)) = _
        rw [if_neg (by simp)]
        rfl
  rcases hc with ⟨h1, h2⟩ | ⟨x, h1, h2⟩
  · rw [h1] at c
    rw [h2]
    go_enter Tryz.func76, Tryz.ntmps76
    go_wp2_with (first | (go_at_call 127; refine c.mono ?_; rintro e w' ⟨rfl, s1, s2⟩))
    go_ret
    exact ⟨rfl, s1, s2⟩
  · rw [h1] at c
    rw [h2]
    have hs : (ofL [x]).size = 1 := rfl
    have hp : 0 < (ofL [x]).size := by rw [hs]; omega
    have hx : ((ofL [x])[0]'hp).toNat = x.toNat := rfl
    generalize ofL [x] = X at *
    go_enter Tryz.func76, Tryz.ntmps76
    go_wp2_with (first | (go_at_call 127; refine c.mono ?_; rintro e w' ⟨rfl, s1, s2⟩))
    go_ret
    exact ⟨rfl, s1, s2⟩
end Go.Proofs.YtmflhodiibjpnaaGreatDoor
/-
  The document's own In (paymasterref08), walked: number, Wide, Num, Flag, Text.
-/
namespace Go.Proofs.YtmflhodiibjpnaaGreatDoor
set_option linter.unusedVariables false
set_option linter.unusedSimpArgs false
set_option maxRecDepth 10000
open Go.RowKit Go.Shelf

theorem rest_opN (most : Nat) (st : Option (List UInt8)) : restN (nxt (opN most st)) ≤ restN st := by
  refine nxt_rest (fun x hx => ?_)
  cases st with
  | none => cases hx
  | some l => exact ⟨l, rfl, rNum_len (l := l) (d := x.1) (r := x.2) hx⟩
/-- A number's digits and what is left, by way of what is taken. -/
theorem num_taken (most : Nat) (st : Option (List UInt8)) :
    (most < nN st ∧ opN most st = none) ∨ (¬ most < nN st ∧ tkO (nN st) (nxt (opB st)) = none ∧ opN most st = none) ∨
    (∃ d r, ¬ most < nN st ∧ tkO (nN st) (nxt (opB st)) = some (d, r) ∧ d.length = nN st ∧ ((d.head? = some 0 ∧ opN most st = none) ∨ (Mn d ∧ opN most st = some (d, r)))) := by
  cases st with
  | none => exact Or.inr (Or.inl ⟨by show ¬ most < 0; omega, rfl, rfl⟩)
  | some l =>
    cases l with
    | nil => exact Or.inr (Or.inl ⟨by show ¬ most < 0; omega, rfl, rfl⟩)
    | cons c r =>
      have en : nN (some (c :: r)) = c.toNat := rfl
      have eo : opN most (some (c :: r)) = if most < c.toNat ∨ r.length < c.toNat ∨ (r.take c.toNat).head? = some 0 then none else some (r.take c.toNat, r.drop c.toNat) := rfl
      have e1 : nxt (opB (some (c :: r))) = some r := rfl
      rw [en, eo, e1]
      by_cases h1 : most < c.toNat
      · exact Or.inl ⟨h1, if_pos (Or.inl h1)⟩
      · by_cases h2 : r.length < c.toNat
        · exact Or.inr (Or.inl ⟨h1, if_pos h2, if_pos (Or.inr (Or.inl h2))⟩)
        · refine Or.inr (Or.inr ⟨r.take c.toNat, r.drop c.toNat, h1, if_neg h2, by rw [List.length_take]; omega, ?_⟩)
          by_cases h3 : (r.take c.toNat).head? = some 0
          · exact Or.inl ⟨h3, if_pos (Or.inr (Or.inr h3))⟩
          · refine Or.inr ⟨h3, if_neg ?_⟩
            rintro (h | h | h)
            · exact h1 h
            · exact h2 h
            · exact h3 h

set_option maxHeartbeats 4000000 in
theorem r_number (most : Nat) (hm : most ≤ 16) (w : World) (g : Nat) (st : Option (List UInt8)) (hz : restN st ≤ 4611686018427387903) (h : RInS w g st) : Calls Tryz.prog 124 #[.pointer (some ⟨g, 0, none⟩), .int .i64 most] w fun e w' =>
    e = .returned (.agg #[.int .u64 (hV (opN most st)), .int .u64 (lV (opN most st))]) ∧ RInS w' g (nxt (opN most st)) ∧ Off (One g) w w' := by
  have B0 := Box.made w 24 #[.int .u64 0, .int .u64 0]
  have L0 : Below w.heap.size w (w.alloc (.cells #[.int .u64 0, .int .u64 0] 24)) := (Below.refl _ w).alloc (Nat.le_refl _) _
  have cB := r_byte _ g st hz (h.call L0)
  have hg := h.inside
  rw [bV_nN] at cB
  have hlt := nN_lt st
  have hw : IntKind.u64.wrap (nN st : Int) = (nN st : Int) := by rw [IntKind.wrap_u64]; omega
  have hw2 : IntKind.i64.wrap (nN st : Int) = (nN st : Int) := IntWalk.i64_in _ (by omega)
  rcases num_taken most st with ⟨hv, ho⟩ | ⟨hv, ht, ho⟩ | ⟨d, r, hv, ht, hd, hx⟩
  · rw [ho]
    have hvi : (most : Int) < (nN st : Int) := by omega
    have cS := fun u (hu : RInS u g (nxt (opB st))) => r_spoil u g _ _ hu
    show Calls _ _ _ _ fun e w' => e = .returned (.agg #[.int .u64 0, .int .u64 0]) ∧ RInS w' g none ∧ Off (One g) w w'
    clear ho
    go_enter Tryz.func124, Tryz.ntmps124
    go_upto_region 4 with (first
      | (go_at_call 76; refine cB.mono ?_; rintro e w1 ⟨rfl, s1, k1⟩)
      | (go_at_call 74; refine (cS _ s1).mono ?_; rintro e w3 ⟨rfl, t2, k2⟩)
      | fail)
    have r2 := k1.box B0 (fun e => by have : w.heap.size = g := e; omega)
    have o2 := (Off.of (S := One g) L0).trans k1
    clear cB k1 B0 L0
    have r3 := k2.box r2 (fun e => by have : w.heap.size = g := e; omega)
    have o3 := o2.trans k2
    obtain ⟨y0, y1, y2, y3, y4⟩ := r3.two
    go_wp2
    have r5 := (r3.wrote 0 (.int .u64 0)).wrote 1 (.int .u64 0)
    have k5 := ((o3.set_ (p := ⟨w.heap.size, 0, none⟩) (Or.inr (Nat.le_refl _)) (.int .u64 0)).set_ (p := ⟨w.heap.size, 1, none⟩) (Or.inr (Nat.le_refl _)) (.int .u64 0))
    have hrc := t2.off (((Off.refl (One w.heap.size) w3).set_ (p := ⟨w.heap.size, 0, none⟩) (Or.inl rfl) (.int .u64 0)).set_ (p := ⟨w.heap.size, 1, none⟩) (Or.inl rfl) (.int .u64 0)) (fun e => by have : g = w.heap.size := e; omega)
    generalize World.setCell (World.setCell _ _ _) _ _ = Z at *
    obtain ⟨x0, x1, x2, x3, x4⟩ := r5.two
    exact bodyPost_ret (v := .agg #[.int .u64 0, .int .u64 0]) (by simp [results, Tryz.results124, go_sem, x0, x1]) rfl ⟨rfl, hrc, k5⟩
  · rw [ho]
    have hvi : ¬ ((most : Int) < (nN st : Int)) := by omega
    have cT := fun u hu => r_take (nN st) (by omega) u g (nxt (opB st)) (by have := rest_opB st; omega) hu
    rw [ht] at cT
    have cS := fun u (hu : RInS u g none) => r_spoil u g _ _ hu
    show Calls _ _ _ _ fun e w' => e = .returned (.agg #[.int .u64 0, .int .u64 0]) ∧ RInS w' g none ∧ Off (One g) w w'
    rw [show tV (none : Option (List UInt8 × List UInt8)) = ⟨#[]⟩ from rfl, show nxt (none : Option (List UInt8 × List UInt8)) = none from rfl] at cT
    clear ho ht
    go_enter Tryz.func124, Tryz.ntmps124
    go_upto_region 8 with (first
      | (go_at_call 76; refine cB.mono ?_; rintro e w1 ⟨rfl, s1, k1⟩)
      | (go_at_call 127; refine (cT _ s1).mono ?_; rintro e w2 ⟨rfl, s2, k2⟩; obtain ⟨m0, m1, m2, m3, m4⟩ := Box.two (show Box w2 g 70 #[.string ⟨#[]⟩, .bool true] from s2))
      | (go_at_call 74; refine (cS _ s2).mono ?_; rintro e w3 ⟨rfl, t2, k3⟩)
      | fail)
    have r2 := (k2.box (k1.box B0 (fun e => by have : w.heap.size = g := e; omega)) (fun e => by have : w.heap.size = g := e; omega))
    have o2 := ((Off.of (S := One g) L0).trans k1).trans k2
    clear cB k1 k2 B0 L0 m0 m1 m2 m3 m4
    have k2 := k3
    have r3 := k2.box r2 (fun e => by have : w.heap.size = g := e; omega)
    have o3 := o2.trans k2
    obtain ⟨y0, y1, y2, y3, y4⟩ := r3.two
    go_wp2
    have r5 := (r3.wrote 0 (.int .u64 0)).wrote 1 (.int .u64 0)
    have k5 := ((o3.set_ (p := ⟨w.heap.size, 0, none⟩) (Or.inr (Nat.le_refl _)) (.int .u64 0)).set_ (p := ⟨w.heap.size, 1, none⟩) (Or.inr (Nat.le_refl _)) (.int .u64 0))
    have hrc := t2.off (((Off.refl (One w.heap.size) w3).set_ (p := ⟨w.heap.size, 0, none⟩) (Or.inl rfl) (.int .u64 0)).set_ (p := ⟨w.heap.size, 1, none⟩) (Or.inl rfl) (.int .u64 0)) (fun e => by have : g = w.heap.size := e; omega)
    generalize World.setCell (World.setCell _ _ _) _ _ = Z at *
    obtain ⟨x0, x1, x2, x3, x4⟩ := r5.two
    exact bodyPost_ret (v := .agg #[.int .u64 0, .int .u64 0]) (by simp [results, Tryz.results124, go_sem, x0, x1]) rfl ⟨rfl, hrc, k5⟩
  · have hvi : ¬ ((most : Int) < (nN st : Int)) := by omega
    have cT := fun u hu => r_take (nN st) (by omega) u g (nxt (opB st)) (by have := rest_opB st; omega) hu
    rw [ht] at cT
    rw [show tV (some (d, r)) = ofL d from rfl, show nxt (some (d, r)) = some r from rfl] at cT
    rcases hx with ⟨hx, ho⟩ | ⟨hx, ho⟩
    · rw [ho]
      have cS := fun u (hu : RInS u g (some r)) => r_spoil u g _ _ hu
      show Calls _ _ _ _ fun e w' => e = .returned (.agg #[.int .u64 0, .int .u64 0]) ∧ RInS w' g none ∧ Off (One g) w w'
      obtain ⟨q, rfl⟩ : ∃ q, d = 0 :: q := by
        cases d with
        | nil => cases hx
        | cons y q => injection hx with hx; exact ⟨q, by rw [hx]⟩
      have hs : (ofL (0 :: q)).size = q.length + 1 := by rw [ofL_size, List.length_cons]
      have hp : 0 < (ofL (0 :: q)).size := by rw [hs]; omega
      have hpi : (0 : Int) < ((ofL (0 :: q)).size : Int) := by omega
      have hx0 : (((ofL (0 :: q))[0]'hp).toNat : Int) = 0 := rfl
      clear ho ht hs hx hd
      generalize ofL (0 :: q) = S at *
      go_enter Tryz.func124, Tryz.ntmps124
      go_upto_region 8 with (first
        | (go_at_call 76; refine cB.mono ?_; rintro e w1 ⟨rfl, s1, k1⟩)
        | (go_at_call 127; refine (cT _ s1).mono ?_; rintro e w2 ⟨rfl, s2, k2⟩; obtain ⟨m0, m1, m2, m3, m4⟩ := Box.two (show Box w2 g 70 #[.string (ofL r), .bool false] from s2))
        | (go_at_call 74; refine (cS _ s2).mono ?_; rintro e w3 ⟨rfl, t2, k3⟩)
        | fail)
      have r2 := (k2.box (k1.box B0 (fun e => by have : w.heap.size = g := e; omega)) (fun e => by have : w.heap.size = g := e; omega))
      have o2 := ((Off.of (S := One g) L0).trans k1).trans k2
      clear cB k1 k2 B0 L0 m0 m1 m2 m3 m4
      have k2 := k3
      have r3 := k2.box r2 (fun e => by have : w.heap.size = g := e; omega)
      have o3 := o2.trans k2
      obtain ⟨y0, y1, y2, y3, y4⟩ := r3.two
      go_wp2
      have r5 := (r3.wrote 0 (.int .u64 0)).wrote 1 (.int .u64 0)
      have k5 := ((o3.set_ (p := ⟨w.heap.size, 0, none⟩) (Or.inr (Nat.le_refl _)) (.int .u64 0)).set_ (p := ⟨w.heap.size, 1, none⟩) (Or.inr (Nat.le_refl _)) (.int .u64 0))
      have hrc := t2.off (((Off.refl (One w.heap.size) w3).set_ (p := ⟨w.heap.size, 0, none⟩) (Or.inl rfl) (.int .u64 0)).set_ (p := ⟨w.heap.size, 1, none⟩) (Or.inl rfl) (.int .u64 0)) (fun e => by have : g = w.heap.size := e; omega)
      generalize World.setCell (World.setCell _ _ _) _ _ = Z at *
      obtain ⟨x0, x1, x2, x3, x4⟩ := r5.two
      exact bodyPost_ret (v := .agg #[.int .u64 0, .int .u64 0]) (by simp [results, Tryz.results124, go_sem, x0, x1]) rfl ⟨rfl, hrc, k5⟩
    · rw [ho]
      show Calls _ _ _ _ fun e w' => e = .returned (.agg #[.int .u64 (hiD d), .int .u64 (loD d)]) ∧ RInS w' g (some r) ∧ Off (One g) w w'
      have hd16 : d.length ≤ 16 := by omega
      have hs : (ofL d).size = d.length := ofL_size d
      have hbad : d.length = 0 ∨ (0 < d.length ∧ ∀ hp, ¬ ((((ofL d)[0]'hp).toNat : Int) = 0)) := by
        cases d with
        | nil => exact Or.inl rfl
        | cons y q =>
          refine Or.inr ⟨by rw [List.length_cons]; omega, fun hp e => hx ?_⟩
          have e2 : (y.toNat : Int) = 0 := e
          have : y = 0 := UInt8.toNat_inj.1 (by rw [show ((0 : UInt8).toNat) = 0 from rfl]; omega)
          rw [this]; rfl
      have cF := fun u => rfrom_any (ofL (p16 d)) (by rw [ofL_size, p16_len d hd16]; omega) u
      obtain ⟨eh, el⟩ := p16_parts d hd16
      unfold FromTells at cF
      rw [eh, el] at cF
      have HD16 := hideIt hd16
      have HD := hideIt hd
      clear ho ht eh el hd16
      rcases hbad with hb | ⟨hb, hb2⟩
      · have e : d = [] := List.length_eq_zero_iff.1 hb
        have hsz : (ofL d).size = 0 := by rw [hs, hb]
        have HB := hideIt hb
        clear hs hb hx e hd
        go_enter Tryz.func124, Tryz.ntmps124
        go_upto_region 9 with (first
          | (go_at_call 76; refine cB.mono ?_; rintro e w1 ⟨rfl, s1, k1⟩)
          | (go_at_call 127; refine (cT _ s1).mono ?_; rintro e w2 ⟨rfl, s2, k2⟩; obtain ⟨m0, m1, m2, m3, m4⟩ := Box.two (show Box w2 g 70 #[.string (ofL r), .bool false] from s2))
          | fail)
        have r2 := (k2.box (k1.box B0 (fun e => by have : w.heap.size = g := e; omega)) (fun e => by have : w.heap.size = g := e; omega))
        have o2 := ((Off.of (S := One g) L0).trans k1).trans k2
        clear cB k1 k2 B0 L0 m0 m1 m2 m3 m4 hw hw2
        go_loopg [6] (16 - d.length) (fun gk v wr => ∃ j : Nat, j ≤ 16 - d.length ∧ gk = 16 - d.length - j ∧ v = .string (ofL (List.replicate j 0 ++ d)) ∧ wr = w2)
        case atStart => exact ⟨0, Nat.zero_le _, rfl, rfl, rfl⟩
        case round =>
          obtain ⟨j, hj, hgk, rfl, rfl⟩ := hrel
          have HG := hideIt hgk
          have HJ := hideIt hj
          clear hgk hj
          have hjs : (ofL (List.replicate j 0 ++ d)).size = j + d.length := by rw [ofL_size, List.length_append, List.length_replicate]
          by_cases hlt2 : j + d.length < 16
          · have hadd : ∀ u : World, (Op.stringOp .add ⟨#[0]⟩ (ofL (List.replicate j 0 ++ d))).run Tryz.prog u = .ok (.string (ofL (List.replicate (j + 1) 0 ++ d))) u := fun u => by
              have e9 : ofL (List.replicate (j + 1) 0 ++ d) = (⟨#[0]⟩ : ByteArray) ++ ofL (List.replicate j 0 ++ d) := by
                rw [show (⟨#[0]⟩ : ByteArray) = ofL [0] from rfl, ← ofL_app, List.replicate_succ]; rfl
              rw [e9]
              exact run_string_add_sum u _ _ (by rw [hjs]; show 1 + _ ≤ _; omega)
            obtain ⟨n, hn⟩ : ∃ n, j + d.length = n := ⟨_, rfl⟩
            rw [hn] at hjs hlt2
            have hni : (n : Int) < 16 := by omega
            have HN := hideIt hn
            clear hn
            have HA := hideIt (show ofL (List.replicate (j + 1) 0 ++ d) = ofL (List.replicate (j + 1) 0 ++ d) from rfl)
            generalize ofL (List.replicate j 0 ++ d) = S at *
            go_wp2
            go_roundg (16 - d.length - (j + 1))
            case measure => have := HG.out; have := HN.out; have := HJ.out; omega
            case rel => exact ⟨j + 1, by have := HN.out; have := HJ.out; omega, rfl, rfl, rfl⟩
          · have ej : j = 16 - d.length := by have := HJ.out; omega
            have ep : List.replicate j 0 ++ d = p16 d := by rw [ej]; rfl
            rw [ep] at hjs ⊢
            have hjn : j + d.length = 16 := by have := HD16.out; omega
            rw [hjn] at hjs
            clear ep ej hjn hlt2
            generalize ofL (p16 d) = S at *
            obtain ⟨y0, y1, y2, y3, y4⟩ := r2.two
            go_wp2_with (first
              | (go_at_call 160; refine (cF _).mono ?_; rintro e w3 ⟨rfl, b3⟩
                 have r3 := r2.call b3
                 obtain ⟨y0, y1, y2, y3, y4⟩ := r3.two
                 have t3 := s2.call b3
                 have o3 := o2.call b3))
            have r5 := ((r3.wrote 0 (.int .u64 (hiD d))).wrote 1 (.int .u64 (loD d))).past (.cells #[.int .u64 (hiD d), .int .u64 (loD d)] 24)
            have k5 := (((o3.set_ (p := ⟨w.heap.size, 0, none⟩) (Or.inr (Nat.le_refl _)) (.int .u64 (hiD d))).set_ (p := ⟨w.heap.size, 1, none⟩) (Or.inr (Nat.le_refl _)) (.int .u64 (loD d)))).past (.cells #[.int .u64 (hiD d), .int .u64 (loD d)] 24)
            have hrc := Box.past (t3.off (((Off.refl (One w.heap.size) w3).set_ (p := ⟨w.heap.size, 0, none⟩) (Or.inl rfl) (.int .u64 (hiD d))).set_ (p := ⟨w.heap.size, 1, none⟩) (Or.inl rfl) (.int .u64 (loD d))) (fun e => by have : g = w.heap.size := e; omega)) (.cells #[.int .u64 (hiD d), .int .u64 (loD d)] 24)
            generalize World.alloc (World.setCell (World.setCell _ _ _) _ _) _ = Z at *
            obtain ⟨x0, x1, x2, x3, x4⟩ := r5.two
            exact bodyPost_ret (v := .agg #[.int .u64 (hiD d), .int .u64 (loD d)]) (by simp [results, Tryz.results124, go_sem, x0, x1]) rfl ⟨rfl, hrc, k5⟩
      · have hsz : (0 : Int) < ((ofL d).size : Int) := by rw [hs]; omega
        have hsp : 0 < (ofL d).size := by rw [hs]; omega
        have hb3 := hb2 hsp
        obtain ⟨x, hxx⟩ : ∃ x, (((ofL d)[0]'hsp).toNat : Int) = x := ⟨_, rfl⟩
        rw [hxx] at hb3
        have hb4 : (x == 0) = false := by rw [beq_eq_false_iff_ne]; exact hb3
        clear hs hb hb2 hx hd hb3
        go_enter Tryz.func124, Tryz.ntmps124
        go_upto_region 9 with (first
          | (go_at_call 76; refine cB.mono ?_; rintro e w1 ⟨rfl, s1, k1⟩)
          | (go_at_call 127; refine (cT _ s1).mono ?_; rintro e w2 ⟨rfl, s2, k2⟩; obtain ⟨m0, m1, m2, m3, m4⟩ := Box.two (show Box w2 g 70 #[.string (ofL r), .bool false] from s2))
          | fail)
        have r2 := (k2.box (k1.box B0 (fun e => by have : w.heap.size = g := e; omega)) (fun e => by have : w.heap.size = g := e; omega))
        have o2 := ((Off.of (S := One g) L0).trans k1).trans k2
        clear cB k1 k2 B0 L0 m0 m1 m2 m3 m4 hw hw2
        go_loopg [6] (16 - d.length) (fun gk v wr => ∃ j : Nat, j ≤ 16 - d.length ∧ gk = 16 - d.length - j ∧ v = .string (ofL (List.replicate j 0 ++ d)) ∧ wr = w2)
        case atStart => exact ⟨0, Nat.zero_le _, rfl, rfl, rfl⟩
        case round =>
          obtain ⟨j, hj, hgk, rfl, rfl⟩ := hrel
          have HG := hideIt hgk
          have HJ := hideIt hj
          clear hgk hj
          have hjs : (ofL (List.replicate j 0 ++ d)).size = j + d.length := by rw [ofL_size, List.length_append, List.length_replicate]
          by_cases hlt2 : j + d.length < 16
          · have hadd : ∀ u : World, (Op.stringOp .add ⟨#[0]⟩ (ofL (List.replicate j 0 ++ d))).run Tryz.prog u = .ok (.string (ofL (List.replicate (j + 1) 0 ++ d))) u := fun u => by
              have e9 : ofL (List.replicate (j + 1) 0 ++ d) = (⟨#[0]⟩ : ByteArray) ++ ofL (List.replicate j 0 ++ d) := by
                rw [show (⟨#[0]⟩ : ByteArray) = ofL [0] from rfl, ← ofL_app, List.replicate_succ]; rfl
              rw [e9]
              exact run_string_add_sum u _ _ (by rw [hjs]; show 1 + _ ≤ _; omega)
            obtain ⟨n, hn⟩ : ∃ n, j + d.length = n := ⟨_, rfl⟩
            rw [hn] at hjs hlt2
            have hni : (n : Int) < 16 := by omega
            have HN := hideIt hn
            clear hn
            have HA := hideIt (show ofL (List.replicate (j + 1) 0 ++ d) = ofL (List.replicate (j + 1) 0 ++ d) from rfl)
            generalize ofL (List.replicate j 0 ++ d) = S at *
            go_wp2
            go_roundg (16 - d.length - (j + 1))
            case measure => have := HG.out; have := HN.out; have := HJ.out; omega
            case rel => exact ⟨j + 1, by have := HN.out; have := HJ.out; omega, rfl, rfl, rfl⟩
          · have ej : j = 16 - d.length := by have := HJ.out; omega
            have ep : List.replicate j 0 ++ d = p16 d := by rw [ej]; rfl
            rw [ep] at hjs ⊢
            have hjn : j + d.length = 16 := by have := HD16.out; omega
            rw [hjn] at hjs
            clear ep ej hjn hlt2
            generalize ofL (p16 d) = S at *
            obtain ⟨y0, y1, y2, y3, y4⟩ := r2.two
            go_wp2_with (first
              | (go_at_call 160; refine (cF _).mono ?_; rintro e w3 ⟨rfl, b3⟩
                 have r3 := r2.call b3
                 obtain ⟨y0, y1, y2, y3, y4⟩ := r3.two
                 have t3 := s2.call b3
                 have o3 := o2.call b3))
            have r5 := ((r3.wrote 0 (.int .u64 (hiD d))).wrote 1 (.int .u64 (loD d))).past (.cells #[.int .u64 (hiD d), .int .u64 (loD d)] 24)
            have k5 := (((o3.set_ (p := ⟨w.heap.size, 0, none⟩) (Or.inr (Nat.le_refl _)) (.int .u64 (hiD d))).set_ (p := ⟨w.heap.size, 1, none⟩) (Or.inr (Nat.le_refl _)) (.int .u64 (loD d)))).past (.cells #[.int .u64 (hiD d), .int .u64 (loD d)] 24)
            have hrc := Box.past (t3.off (((Off.refl (One w.heap.size) w3).set_ (p := ⟨w.heap.size, 0, none⟩) (Or.inl rfl) (.int .u64 (hiD d))).set_ (p := ⟨w.heap.size, 1, none⟩) (Or.inl rfl) (.int .u64 (loD d))) (fun e => by have : g = w.heap.size := e; omega)) (.cells #[.int .u64 (hiD d), .int .u64 (loD d)] 24)
            generalize World.alloc (World.setCell (World.setCell _ _ _) _ _) _ = Z at *
            obtain ⟨x0, x1, x2, x3, x4⟩ := r5.two
            exact bodyPost_ret (v := .agg #[.int .u64 (hiD d), .int .u64 (loD d)]) (by simp [results, Tryz.results124, go_sem, x0, x1]) rfl ⟨rfl, hrc, k5⟩

set_option maxHeartbeats 1000000 in
theorem r_wide (w : World) (g : Nat) (st : Option (List UInt8)) (hz : restN st ≤ 4611686018427387903) (h : RInS w g st) : Calls Tryz.prog 123 #[.pointer (some ⟨g, 0, none⟩)] w fun e w' =>
    e = .returned (.agg #[.int .u64 (hV (opN 16 st)), .int .u64 (lV (opN 16 st))]) ∧ RInS w' g (nxt (opN 16 st)) ∧ Off (One g) w w' := by
  have B0 := Box.made w 24 #[.int .u64 0, .int .u64 0]
  have L0 : Below w.heap.size w (w.alloc (.cells #[.int .u64 0, .int .u64 0] 24)) := (Below.refl _ w).alloc (Nat.le_refl _) _
  have c : Calls Tryz.prog 124 #[.pointer (some ⟨g, 0, none⟩), .int .i64 16] _ _ := r_number 16 (by decide) (w.alloc (.cells #[.int .u64 0, .int .u64 0] 24)) g st hz (h.call L0)
  have hg := h.inside
  generalize opN 16 st = r at *
  obtain ⟨x, hx⟩ : ∃ x, hV r = x := ⟨_, rfl⟩
  obtain ⟨y, hy⟩ : ∃ y, lV r = y := ⟨_, rfl⟩
  rw [hx, hy] at c ⊢
  clear hx hy
  go_enter Tryz.func123, Tryz.ntmps123
  go_upto_region 1 with fail
  change Code.wp _ _ _ _ (w.alloc (.cells #[.int .u64 0, .int .u64 0] 24))
  generalize w.alloc (.cells #[.int .u64 0, .int .u64 0] 24) = W at *
  go_wp2_with (first
    | (go_at_call 124; refine c.mono ?_; rintro e w' ⟨rfl, t1, t3⟩
       have r4 := t3.box B0 (fun e => by have : w.heap.size = g := e; omega)
       obtain ⟨y0, y1, y2, y3, y4⟩ := r4.two))
  have r5 := (r4.wrote 0 (.int .u64 x)).wrote 1 (.int .u64 y)
  have k5 := ((((Off.of (S := One g) L0).trans t3).set_ (p := ⟨w.heap.size, 0, none⟩) (Or.inr (Nat.le_refl _)) (.int .u64 x)).set_ (p := ⟨w.heap.size, 1, none⟩) (Or.inr (Nat.le_refl _)) (.int .u64 y))
  have hrc : RInS ((w'.setCell ⟨w.heap.size, 0, none⟩ (.int .u64 x)).setCell ⟨w.heap.size, 1, none⟩ (.int .u64 y)) g (nxt r) :=
    t1.off ((((Off.refl (One w.heap.size) w').set_ (p := ⟨w.heap.size, 0, none⟩) (Or.inl rfl) (.int .u64 x))).set_ (p := ⟨w.heap.size, 1, none⟩) (Or.inl rfl) (.int .u64 y)) (fun e => by have : g = w.heap.size := e; omega)
  generalize World.setCell (World.setCell _ _ _) _ _ = Z at *
  obtain ⟨x0, x1, x2, x3, x4⟩ := r5.two
  exact bodyPost_ret (v := .agg #[.int .u64 x, .int .u64 y]) (by simp [results, Tryz.results123, go_sem, x0, x1]) rfl ⟨rfl, hrc, k5⟩
set_option maxHeartbeats 1000000 in
theorem r_num (w : World) (g : Nat) (st : Option (List UInt8)) (hz : restN st ≤ 4611686018427387903) (h : RInS w g st) : Calls Tryz.prog 73 #[.pointer (some ⟨g, 0, none⟩)] w fun e w' =>
    e = .returned (.int .u64 (lV (opN 8 st))) ∧ RInS w' g (nxt (opN 8 st)) ∧ Off (One g) w w' := by
  have c : Calls Tryz.prog 124 #[.pointer (some ⟨g, 0, none⟩), .int .i64 8] w _ := r_number 8 (by decide) w g st hz h
  generalize opN 8 st = r at *
  generalize hV r = x at *
  generalize lV r = y at *
  go_enter Tryz.func73, Tryz.ntmps73
  go_upto_region 2 with (first
    | (go_at_call 124; refine c.mono ?_; rintro e w' ⟨rfl, s1, k1⟩)
    | fail)
  have B1 := Box.made w' 24 #[.int .u64 x, .int .u64 y]
  have s2 : RInS (w'.alloc (.cells #[.int .u64 x, .int .u64 y] 24)) g (nxt r) := s1.call ((Below.refl _ w').alloc (Nat.le_refl _) _)
  have k2 := k1.past (.cells #[.int .u64 x, .int .u64 y] 24)
  change Code.wp _ _ _ _ (w'.alloc (.cells #[.int .u64 x, .int .u64 y] 24))
  generalize w'.alloc (.cells #[.int .u64 x, .int .u64 y] 24) = W at *
  obtain ⟨y0, y1, y2, y3, y4⟩ := B1.two
  go_wp2
  go_ret
  exact ⟨rfl, s2, k2⟩
theorem flag_parts (st : Option (List UInt8)) : (1 < nN st ∧ opF st = none) ∨ (¬ 1 < nN st ∧ nxt (opF st) = nxt (opB st) ∧ fV (opF st) = decide (nN st = 1)) := by
  cases st with
  | none => exact Or.inr ⟨by show ¬ 1 < 0; omega, rfl, rfl⟩
  | some l => cases l with
    | nil => exact Or.inr ⟨by show ¬ 1 < 0; omega, rfl, rfl⟩
    | cons c r =>
      have en : nN (some (c :: r)) = c.toNat := rfl
      have eo : opF (some (c :: r)) = if 1 < c.toNat then none else some (decide (c.toNat = 1), r) := rfl
      rw [en, eo]
      by_cases h : 1 < c.toNat
      · exact Or.inl ⟨h, if_pos h⟩
      · rw [if_neg h]
        exact Or.inr ⟨h, rfl, rfl⟩
set_option maxHeartbeats 1000000 in
theorem r_flag (w : World) (g : Nat) (st : Option (List UInt8)) (hz : restN st ≤ 4611686018427387903) (h : RInS w g st) : Calls Tryz.prog 129 #[.pointer (some ⟨g, 0, none⟩)] w fun e w' =>
    e = .returned (.bool (fV (opF st))) ∧ RInS w' g (nxt (opF st)) ∧ Off (One g) w w' := by
  have cB := r_byte w g st hz h
  rw [bV_nN] at cB
  rcases flag_parts st with ⟨hv, ho⟩ | ⟨hv, h1, h2⟩
  · have hvi : (1 : Int) < (nN st : Int) := by omega
    have cS := fun u (hu : RInS u g (nxt (opB st))) => r_spoil u g _ _ hu
    rw [ho]
    show Calls _ _ _ _ fun e w' => e = .returned (.bool false) ∧ RInS w' g none ∧ Off (One g) w w'
    clear ho
    go_enter Tryz.func129, Tryz.ntmps129
    go_wp2_with (first
      | (go_at_call 76; refine cB.mono ?_; rintro e w1 ⟨rfl, s1, k1⟩)
      | (go_at_call 74; refine (cS _ s1).mono ?_; rintro e w2 ⟨rfl, s2, k2⟩))
    go_ret
    exact ⟨rfl, s2, k1.trans k2⟩
  · have hvi : ¬ ((1 : Int) < (nN st : Int)) := by omega
    have hq : ((nN st : Int) == 1) = decide (nN st = 1) := by
      by_cases e : nN st = 1
      · rw [decide_eq_true e, e]; rfl
      · rw [decide_eq_false e, beq_eq_false_iff_ne]; omega
    rw [h1, h2]
    rw [← hq]
    clear h1 h2 hq hv
    generalize (nN st : Int) = x at *
    go_enter Tryz.func129, Tryz.ntmps129
    go_wp2_with (first
      | (go_at_call 76; refine cB.mono ?_; rintro e w1 ⟨rfl, s1, k1⟩))
    go_ret
    exact ⟨rfl, s1, k1⟩
theorem text_taken (m : Nat) (st : Option (List UInt8)) : (m < zN st ∧ opT m st = none) ∨ (¬ m < zN st ∧ opT m st = tkO (zN st) (nxt (opN 8 st))) := by
  have eo : opT m st = (opN 8 st).bind fun x => if m < beN x.1 ∨ x.2.length < beN x.1 then none else some (x.2.take (beN x.1), x.2.drop (beN x.1)) := by
    cases st with
    | none => rfl
    | some l =>
      show rText m l = (rNum 8 l).bind _
      unfold rText
      cases rNum 8 l with
      | none => rfl
      | some x => obtain ⟨d, r⟩ := x; rfl
  rw [eo]
  unfold zN
  cases h : opN 8 st with
  | none => exact Or.inr ⟨by show ¬ m < 0; omega, rfl⟩
  | some x =>
    obtain ⟨d, r⟩ := x
    show (m < beN d ∧ (if m < beN d ∨ r.length < beN d then none else some (r.take (beN d), r.drop (beN d))) = none) ∨
      (¬ m < beN d ∧ (if m < beN d ∨ r.length < beN d then none else some (r.take (beN d), r.drop (beN d))) = if r.length < beN d then none else some (r.take (beN d), r.drop (beN d)))
    by_cases h1 : m < beN d
    · exact Or.inl ⟨h1, if_pos (Or.inl h1)⟩
    · refine Or.inr ⟨h1, ?_⟩
      by_cases h2 : r.length < beN d
      · rw [if_pos (Or.inr h2), if_pos h2]
      · rw [if_neg (by rintro (h | h); exact h1 h; exact h2 h), if_neg h2]
set_option maxHeartbeats 2000000 in
theorem r_text_pos (m : Nat) (hm2 : m < 9223372036854775808) (w : World) (g : Nat) (st : Option (List UInt8)) (hz : restN st ≤ 4611686018427387903) (h : RInS w g st) : Calls Tryz.prog 122 #[.pointer (some ⟨g, 0, none⟩), .int .i64 m] w fun e w' =>
    e = .returned (.string (tV (opT m st))) ∧ RInS w' g (nxt (opT m st)) ∧ Off (One g) w w' := by
  have hw : IntKind.u64.wrap (m : Int) = (m : Int) := by rw [IntKind.wrap_u64]; omega
  have hneg : ¬ ((m : Int) < 0) := by omega
  have hge : (0 : Int) ≤ (m : Int) := by omega
  have hmod : (m : Int) % 18446744073709551616 = (m : Int) := by omega
  have cN := r_num w g st hz h
  rw [lV_zN] at cN
  have hz64 : zN st < 18446744073709551616 := by
    have := (lV_word 8 st).2
    rw [lV_zN] at this
    omega
  have hz0 := rest_opN 8 st
  rcases text_taken m st with ⟨hv, ho⟩ | ⟨hv, ho⟩
  · have hvi : (m:Int) < (zN st : Int) := by (try have := HM.out); omega
    have cS := fun u (hu : RInS u g (nxt (opN 8 st))) => r_spoil u g _ _ hu
    rw [ho]
    show Calls _ _ _ _ fun e w' => e = .returned (.string ⟨#[]⟩) ∧ RInS w' g none ∧ Off (One g) w w'
    clear ho hv
    generalize zN st = z at *
    go_enter Tryz.func122, Tryz.ntmps122
    go_wp2_with (first
      | (go_at_call 73; refine cN.mono ?_; rintro e w1 ⟨rfl, s1, k1⟩)
      | (go_at_call 74; refine (cS _ s1).mono ?_; rintro e w2 ⟨rfl, s2, k2⟩))
    go_ret
    exact ⟨rfl, s2, k1.trans k2⟩
  · have hvi : ¬ ((m:Int) < (zN st : Int)) := by (try have := HM.out); omega
    have cT := fun u (hu : RInS u g (nxt (opN 8 st))) => r_take (zN st) hz64 u g _ (by omega) hu
    rw [← ho] at cT
    clear ho hv
    generalize zN st = z at *
    generalize tV (opT m st) = T at *
    generalize nxt (opT m st) = N at *
    go_enter Tryz.func122, Tryz.ntmps122
    go_wp2_with (first
      | (go_at_call 73; refine cN.mono ?_; rintro e w1 ⟨rfl, s1, k1⟩)
      | (go_at_call 127; refine (cT _ s1).mono ?_; rintro e w2 ⟨rfl, s2, k2⟩))
    go_ret
    exact ⟨rfl, s2, k1.trans k2⟩
set_option maxHeartbeats 2000000 in
theorem r_text_neg (mi : Int) (hneg : mi < 0) (m : Nat) (hm : 0 = m) (w : World) (g : Nat) (st : Option (List UInt8)) (hz : restN st ≤ 4611686018427387903) (h : RInS w g st) : Calls Tryz.prog 122 #[.pointer (some ⟨g, 0, none⟩), .int .i64 mi] w fun e w' =>
    e = .returned (.string (tV (opT m st))) ∧ RInS w' g (nxt (opT m st)) ∧ Off (One g) w w' := by
  have hge : ¬ ((0 : Int) ≤ mi) := by omega
  have cN := r_num w g st hz h
  rw [lV_zN] at cN
  have hz0 := rest_opN 8 st
  rcases text_taken m st with ⟨hv, ho⟩ | ⟨hv, ho⟩
  · have hvi : (0 : Int) < (zN st : Int) := by omega
    have cS := fun u (hu : RInS u g (nxt (opN 8 st))) => r_spoil u g _ _ hu
    rw [ho]
    show Calls _ _ _ _ fun e w' => e = .returned (.string ⟨#[]⟩) ∧ RInS w' g none ∧ Off (One g) w w'
    clear ho hv hm
    generalize zN st = z at *
    go_enter Tryz.func122, Tryz.ntmps122
    go_wp2_with (first
      | (go_at_call 73; refine cN.mono ?_; rintro e w1 ⟨rfl, s1, k1⟩)
      | (go_at_call 74; refine (cS _ s1).mono ?_; rintro e w2 ⟨rfl, s2, k2⟩))
    go_ret
    exact ⟨rfl, s2, k1.trans k2⟩
  · have e0 : zN st = 0 := by omega
    rw [e0] at ho cN
    have cT : ∀ u, RInS u g (nxt (opN 8 st)) → Calls Tryz.prog 127 #[.pointer (some ⟨g, 0, none⟩), .int .u64 0] u fun e w' => e = .returned (.string (tV (tkO 0 (nxt (opN 8 st))))) ∧ RInS w' g (nxt (tkO 0 (nxt (opN 8 st)))) ∧ Off (One g) u w' :=
      fun u hu => r_take 0 (by decide) u g _ (by omega) hu
    have cN0 : Calls Tryz.prog 73 #[.pointer (some ⟨g, 0, none⟩)] w fun e w' => e = .returned (.int .u64 0) ∧ RInS w' g (nxt (opN 8 st)) ∧ Off (One g) w w' := cN
    rw [← ho] at cT
    clear ho hv hm e0 cN
    generalize tV (opT m st) = T at *
    generalize nxt (opT m st) = N at *
    go_enter Tryz.func122, Tryz.ntmps122
    go_wp2_with (first
      | (go_at_call 73; refine cN0.mono ?_; rintro e w1 ⟨rfl, s1, k1⟩)
      | (go_at_call 127; refine (cT _ s1).mono ?_; rintro e w2 ⟨rfl, s2, k2⟩))
    go_ret
    exact ⟨rfl, s2, k1.trans k2⟩
theorem r_text (mi : Int) (hm : mi < 9223372036854775808) (w : World) (g : Nat) (st : Option (List UInt8)) (hz : restN st ≤ 4611686018427387903) (h : RInS w g st) : Calls Tryz.prog 122 #[.pointer (some ⟨g, 0, none⟩), .int .i64 mi] w fun e w' =>
    e = .returned (.string (tV (opT mi.toNat st))) ∧ RInS w' g (nxt (opT mi.toNat st)) ∧ Off (One g) w w' := by
  by_cases hn : mi < 0
  · rw [show mi.toNat = 0 by omega]
    exact r_text_neg mi hn 0 rfl w g st hz h
  · have := r_text_pos mi.toNat (by omega) w g st hz h
    rw [show ((mi.toNat : Nat) : Int) = mi by omega] at this
    exact this
end Go.Proofs.YtmflhodiibjpnaaGreatDoor
/-
  What the document's In reads, beside blocks of the call's own.
-/
namespace Go.Proofs.YtmflhodiibjpnaaGreatDoor
set_option linter.unusedVariables false
set_option linter.unusedSimpArgs false
set_option maxRecDepth 10000
open Go.RowKit

theorem RInS.low {W w' : World} {g B : Nat} {st : StR} (h : RInS W g st) (L : Below B W w') (hg : g < B) : RInS w' g st := (L.block g hg).trans h
/-- The In lies at g with what is left; these blocks are the call's own; all else is as it was. -/
def Rd (w : World) (g : Nat) (st : StR) (l : List Blk) (W : World) : Prop := RInS W g st ∧ (∀ x ∈ l, Box W x.1 x.2.1 x.2.2 ∧ w.heap.size ≤ x.1 ∧ x.1 ≠ g) ∧ Off (One g) w W
section
variable {w W w' : World} {g b : Nat} {st st' : StR} {l : List Blk} {t : TypeId} {cs : Array Value}
theorem Rd.start (h : RInS w g st) : Rd w g st [] w := ⟨h, fun x hx => by simp at hx, Off.refl _ _⟩
theorem Rd.inS (h : Rd w g st l W) : RInS W g st := h.1
theorem Rd.off (h : Rd w g st l W) : Off (One g) w W := h.2.2
theorem Rd.size (h : Rd w g st l W) : w.heap.size ≤ W.heap.size := h.2.2.size
theorem Rd.add (h : Rd w g st l W) (t : TypeId) (cs : Array Value) : Rd w g st ((W.heap.size, t, cs) :: l) (W.alloc (.cells cs t)) :=
  ⟨h.1.call (chainA (Below.refl _ _) _), fun x hx => by
    rcases List.mem_cons.1 hx with rfl | hx
    · exact ⟨Box.made W t cs, h.size, Nat.ne_of_gt h.1.inside⟩
    · exact ⟨(h.2.1 x hx).1.past _, (h.2.1 x hx).2⟩, h.2.2.past _⟩
theorem Rd.past (h : Rd w g st l W) (o : Obj) : Rd w g st l (W.alloc o) := ⟨h.1.call (chainA (Below.refl _ _) _), fun x hx => ⟨(h.2.1 x hx).1.past o, (h.2.1 x hx).2⟩, h.2.2.past _⟩
theorem Rd.read (h : Rd w g st l W) (hs : RInS w' g st') (k : Off (One g) W w') : Rd w g st' l w' :=
  ⟨hs, fun x hx => ⟨k.box (h.2.1 x hx).1 (fun e => (h.2.1 x hx).2.2 e), (h.2.1 x hx).2⟩, h.2.2.trans k⟩
theorem Rd.call (h : Rd w g st l W) (hb : Below W.heap.size W w') : Rd w g st l w' := ⟨h.1.call hb, fun x hx => ⟨(h.2.1 x hx).1.call hb, (h.2.1 x hx).2⟩, h.2.2.call hb⟩
theorem Rd.swap {x y : Blk} (h : Rd w g st (x :: y :: l) W) : Rd w g st (y :: x :: l) W :=
  ⟨h.1, fun z hz => h.2.1 z (by simp only [List.mem_cons] at hz ⊢; rcases hz with h | h | h <;> simp [h]), h.2.2⟩
theorem Rd.tail {x : Blk} (h : Rd w g st (x :: l) W) : Rd w g st l W := ⟨h.1, fun y hy => h.2.1 y (by simp [hy]), h.2.2⟩
theorem Rd.box (h : Rd w g st l W) (n : Nat) (e : l[n]? = some (b, t, cs) := by rfl) : Box W b t cs := (h.2.1 (b, t, cs) (List.mem_of_getElem? e)).1
theorem Rd.wrote (h : Rd w g st ((b, t, cs) :: l) W) (hl : ∀ x ∈ l, x.1 ≠ b) (i : Nat) (u : Value) : Rd w g st ((b, t, cs.setIfInBounds i u) :: l) (W.setCell ⟨b, i, none⟩ u) := by
  have hb := h.2.1 (b, t, cs) (by simp)
  have hk : Off (One b) W (W.setCell ⟨b, i, none⟩ u) := (Off.refl (One b) W).set_ (p := ⟨b, i, none⟩) (Or.inl rfl) u
  refine ⟨h.1.off hk (fun e => hb.2.2 e.symm), fun x hx => ?_, h.2.2.set_ (p := ⟨b, i, none⟩) (Or.inr hb.2.1) u⟩
  rcases List.mem_cons.1 hx with rfl | hx
  · exact ⟨hb.1.wrote i u, hb.2⟩
  · exact ⟨hk.box (h.2.1 x (by simp [hx])).1 (fun e => hl x hx e), (h.2.1 x (by simp [hx])).2⟩
/-- An In of the call's own, behind a block for what is told. -/
theorem Rd.open_ (w : World) (t : TypeId) (cs : Array Value) (s : ByteArray) : Rd w (w.heap.size + 1) (some s.data.toList) [(w.heap.size, t, cs)] ((w.alloc (.cells cs t)).alloc (.cells #[.string s, .bool false] 70)) := by
  refine ⟨?_, fun x hx => ?_, ((Off.refl _ w).past _).past _⟩
  · show Box _ _ _ #[.string (ofL s.data.toList), .bool false]
    rw [ofL_data]
    exact Box.madeAt (by simp) _ _
  · obtain rfl : x = (w.heap.size, t, cs) := by simpa using hx
    exact ⟨(Box.made w t cs).past _, Nat.le_refl _, by simp⟩
theorem Rd.low {B : Nat} (h : Rd w g st l W) (L : Below B W w') (hB : w.heap.size ≤ B) (hg : g < B) (hl : ∀ x ∈ l, x.1 < B) : Rd w g st l w' :=
  ⟨h.1.low L hg, fun x hx => ⟨(L.block x.1 (hl x hx)).trans (h.2.1 x hx).1, (h.2.1 x hx).2⟩, h.2.2.low ⟨L.os, L.tape, L.output, L.size, fun k hk => L.block k (by omega)⟩⟩
theorem Rd.below (h : Rd w g st l W) (hg : w.heap.size ≤ g) : Below w.heap.size w W := h.2.2.below (fun i hi => by have : i = g := hi; omega) (Nat.le_refl _)
end
theorem RInS.parts {w : World} {g : Nat} {st : StR} (h : RInS w g st) : w.cell? ⟨g, 0, none⟩ = some (.string (rS st)) ∧ w.cell? ⟨g, 1, none⟩ = some (.bool st.isNone) ∧ g < w.heap.size := by
  obtain ⟨c0, c1, -, -, hin⟩ := Box.two (show Box w g _ #[_, _] from h)
  exact ⟨c0, c1, hin⟩
/-- What is left grows no longer. -/
theorem rest_text (m : Nat) (st : StR) : restN (nxt (opT m st)) ≤ restN st := by
  cases st with
  | none => exact Nat.le_refl _
  | some l =>
    cases ho : rText m l with
    | none => rw [show opT m (some l) = none from ho]; exact Nat.zero_le _
    | some p =>
      obtain ⟨d, q⟩ := p
      obtain ⟨-, -, k3⟩ := rText_some ho
      rw [show opT m (some l) = some (d, q) from ho]
      show q.length ≤ l.length
      rw [k3, List.length_append, List.length_append]
      omega
theorem rest_flag (st : StR) : restN (nxt (opF st)) ≤ restN st := by
  cases st with
  | none => exact Nat.le_refl _
  | some l =>
    cases l with
    | nil => exact Nat.le_refl _
    | cons c r =>
      show restN (nxt (if 1 < c.toNat then none else some (decide (c.toNat = 1), r))) ≤ r.length + 1
      split
      · exact Nat.zero_le _
      · show r.length ≤ _; omega
theorem rest_nd (st : StR) : restN (ndG st).2 ≤ restN st := Nat.le_trans (rest_opN 16 _) (rest_text 32 st)
theorem rest_lf (st : StR) : restN (lfG st).2 ≤ restN st := Nat.le_trans (rest_opN 16 _) (Nat.le_trans (rest_text 255 _) (Nat.le_trans (rest_text 255 _) (rest_flag st)))
theorem rest_rep {α : Type} {d : StR → α × StR} (h : ∀ st, restN (d st).2 ≤ restN st) : ∀ n st, restN (repG d n st).2 ≤ restN st
  | 0, st => Nat.le_refl _
  | _ + 1, none => Nat.le_refl _
  | n + 1, some l => Nat.le_trans (rest_rep h n _) (h _)
theorem rest_row {α : Type} {d : StR → α × StR} (h : ∀ st, restN (d st).2 ≤ restN st) (st : StR) : restN (rowG d st).2 ≤ restN st := by
  unfold rowG
  refine Nat.le_trans (rest_rep h _ _) ?_
  split
  · exact Nat.zero_le _
  · exact rest_opN 8 st
end Go.Proofs.YtmflhodiibjpnaaGreatDoor
/-
  paymasterref13's getNode, getNodes, getLeaf, GetRoot, walked.
-/
namespace Go.Proofs.YtmflhodiibjpnaaGreatDoor
set_option linter.unusedVariables false
set_option linter.unusedSimpArgs false
set_option maxRecDepth 10000
open Go.RowKit

set_option maxHeartbeats 2000000 in
theorem rgetNode_any (w : World) (g : Nat) (st : StR) (hz : restN st ≤ 4611686018427387903) (h : RInS w g st) : Calls Tryz.prog 72 #[.pointer (some ⟨g, 0, none⟩)] w fun e w' =>
    e = .returned (ndG st).1.val ∧ RInS w' g (ndG st).2 ∧ Off (One g) w w' := by
  have D0 := (Rd.start h).add 143 (ndB ⟨#[]⟩ 0 0)
  have z1 := rest_text 32 st
  show Calls _ _ _ _ fun e w' => e = .returned (.agg (ndB (tV (opT 32 st)) (hV (opN 16 (nxt (opT 32 st)))) (lV (opN 16 (nxt (opT 32 st)))))) ∧ RInS w' g (nxt (opN 16 (nxt (opT 32 st)))) ∧ Off (One g) w w'
  have c1 := fun u hu => r_text 32 (by decide) u g st hz hu
  rw [show (32 : Int).toNat = 32 from rfl] at c1
  have c2 := fun u hu => r_wide u g (nxt (opT 32 st)) (by omega) hu
  generalize tV (opT 32 st) = T at *
  generalize nxt (opT 32 st) = s1 at *
  generalize hV (opN 16 s1) = H at *
  generalize lV (opN 16 s1) = L at *
  generalize nxt (opN 16 s1) = s2 at *
  go_enter Tryz.func72, Tryz.ntmps72
  go_upto_region 1 with fail
  change Code.wp _ _ _ _ (w.alloc (.cells (ndB ⟨#[]⟩ 0 0) 143))
  generalize w.alloc (.cells (ndB ⟨#[]⟩ 0 0) 143) = W0 at *
  go_upto_region 2 with (first | (go_at_call 122; refine (c1 _ D0.inS).mono ?_; rintro e w1 ⟨rfl, t1, k1⟩) | fail)
  have D1 := (D0.read t1 k1).add 143 (ndB T 0 0)
  change Code.wp _ _ _ _ (w1.alloc (.cells (ndB T 0 0) 143))
  have hbz := D0.inS.inside
  have hlt : w.heap.size < w1.heap.size := Nat.lt_of_lt_of_le ((D0.box 0).inside) k1.size
  obtain ⟨b, hb⟩ : ∃ b, w1.heap.size = b := ⟨_, rfl⟩
  rw [hb] at D1 hlt ⊢
  generalize w1.alloc (.cells (ndB T 0 0) 143) = W1 at *
  clear D0 k1 t1 hb
  have hx := (D1.box 0).inside
  obtain ⟨q0, q1, q2, f0, f1, f2, hin⟩ := (D1.box 0).three
  go_upto_region 3 with (first | (go_at_call 123; refine (c2 _ D1.inS).mono ?_; rintro e w2 ⟨rfl, t2, k2⟩; have D2 := D1.read t2 k2; obtain ⟨y0, y1, y2, e0, e1, e2, hin2⟩ := (D2.box 0).three) | fail)
  have D3 := (D2.wrote (fun x hx => by simp at hx; subst hx; exact Nat.ne_of_lt hlt) 1 (.int .u64 H)).wrote (fun x hx => by simp at hx; subst hx; exact Nat.ne_of_lt hlt) 2 (.int .u64 L)
  change Rd w g s2 [(b, 143, ndB T H L), (w.heap.size, 143, ndB ⟨#[]⟩ 0 0)] _ at D3
  generalize World.setCell (World.setCell w2 _ _) _ _ = W3 at *
  obtain ⟨y0, y1, y2, -, -, -, hin3⟩ := (D3.box 0).three
  obtain ⟨x0, x1, x2, e0, e1, e2, hin4⟩ := (D3.box 1).three
  go_wp2
  have D4 := ((D3.swap.wrote (fun x hx => by simp at hx; subst hx; exact (Nat.ne_of_lt hlt).symm) 0 (.string T)).wrote (fun x hx => by simp at hx; subst hx; exact (Nat.ne_of_lt hlt).symm) 1 (.int .u64 H)).wrote (fun x hx => by simp at hx; subst hx; exact (Nat.ne_of_lt hlt).symm) 2 (.int .u64 L)
  change Rd w g s2 [(w.heap.size, 143, ndB T H L), (b, 143, ndB T H L)] _ at D4
  generalize World.setCell (World.setCell (World.setCell W3 _ _) _ _) _ _ = W4 at *
  obtain ⟨v0, v1, v2, -, -, -, hin5⟩ := (D4.box 0).three
  exact bodyPost_ret (v := .agg (ndB T H L)) (by simp [results, Tryz.results72, go_sem, v0, v1, v2]) rfl ⟨rfl, D4.inS, D4.off⟩
set_option maxRecDepth 20000 in
set_option maxHeartbeats 4000000 in
theorem rgetLeaf_any (w : World) (g : Nat) (st : StR) (hz : restN st ≤ 4611686018427387903) (h : RInS w g st) : Calls Tryz.prog 79 #[.pointer (some ⟨g, 0, none⟩)] w fun e w' =>
    e = .returned (lfG st).1.val ∧ RInS w' g (lfG st).2 ∧ Off (One g) w w' := by
  have D0 := (Rd.start h).add 28 (lfB false ⟨#[]⟩ ⟨#[]⟩ 0 0)
  have z0 := rest_flag st
  have z1 := rest_text 255 (nxt (opF st))
  have z2 := rest_text 255 (nxt (opT 255 (nxt (opF st))))
  obtain ⟨s1, h1⟩ : ∃ s1, nxt (opF st) = s1 := ⟨_, rfl⟩
  obtain ⟨s2, h2⟩ : ∃ s2, nxt (opT 255 s1) = s2 := ⟨_, rfl⟩
  obtain ⟨s3, h3⟩ : ∃ s3, nxt (opT 255 s2) = s3 := ⟨_, rfl⟩
  rw [h1] at z0 z1 z2
  rw [h2] at z1 z2
  rw [h3] at z2
  have hl : lfG st = (⟨fV (opF st), tV (opT 255 s1), tV (opT 255 s2), hV (opN 16 s3), lV (opN 16 s3)⟩, nxt (opN 16 s3)) := by
    unfold lfG flagG textG wideG
    simp only [h1, h2, h3]
  rw [hl]
  show Calls _ _ _ _ fun e w' => e = .returned (.agg (lfB (fV (opF st)) (tV (opT 255 s1)) (tV (opT 255 s2)) (hV (opN 16 s3)) (lV (opN 16 s3)))) ∧ RInS w' g (nxt (opN 16 s3)) ∧ Off (One g) w w'
  have c0 := fun u hu => r_flag u g st hz hu
  have c1 := fun u hu => r_text 255 (by decide) u g s1 (by omega) hu
  have c2 := fun u hu => r_text 255 (by decide) u g s2 (by omega) hu
  rw [show (255 : Int).toNat = 255 from rfl, h2] at c1
  rw [show (255 : Int).toNat = 255 from rfl, h3] at c2
  rw [h1] at c0
  have c3 := fun u hu => r_wide u g s3 (by omega) hu
  generalize fV (opF st) = F at *
  generalize tV (opT 255 s1) = I at *
  generalize tV (opT 255 s2) = S at *
  generalize hV (opN 16 s3) = H at *
  generalize lV (opN 16 s3) = L at *
  generalize nxt (opN 16 s3) = s4 at *
  clear z0 z1 z2 h1 h2 h3 hl hz
  go_enter Tryz.func79, Tryz.ntmps79
  go_upto_region 1 with fail
  change Code.wp _ _ _ _ (w.alloc (.cells (lfB false ⟨#[]⟩ ⟨#[]⟩ 0 0) 28))
  generalize w.alloc (.cells (lfB false ⟨#[]⟩ ⟨#[]⟩ 0 0) 28) = W0 at *
  go_upto_region 2 with (first | (go_at_call 129; refine (c0 _ D0.inS).mono ?_; rintro e w1 ⟨rfl, t1, k1⟩) | fail)
  have D1 := (D0.read t1 k1).add 28 (lfB F ⟨#[]⟩ ⟨#[]⟩ 0 0)
  change Code.wp _ _ _ _ (w1.alloc (.cells (lfB F ⟨#[]⟩ ⟨#[]⟩ 0 0) 28))
  have hlt : w.heap.size < w1.heap.size := Nat.lt_of_lt_of_le ((D0.box 0).inside) k1.size
  obtain ⟨b, hb⟩ : ∃ b, w1.heap.size = b := ⟨_, rfl⟩
  rw [hb] at D1 hlt ⊢
  generalize w1.alloc (.cells (lfB F ⟨#[]⟩ ⟨#[]⟩ 0 0) 28) = W1 at *
  clear D0 k1 t1 hb c0
  have hne : ∀ x ∈ [((w.heap.size, 28, lfB false ⟨#[]⟩ ⟨#[]⟩ 0 0) : Blk)], x.1 ≠ b := fun x hx => by simp at hx; subst hx; exact Nat.ne_of_lt hlt
  have hne2 : ∀ cs : Array Value, ∀ x ∈ [((b, 28, cs) : Blk)], x.1 ≠ w.heap.size := fun cs x hx => by simp at hx; subst hx; exact (Nat.ne_of_lt hlt).symm
  go_upto_region 3 with (first | (go_at_call 122; refine (c1 _ D1.inS).mono ?_; rintro e w2 ⟨rfl, t2, k2⟩; have D2 := D1.read t2 k2; obtain ⟨⟨y0, y1, y2, y3, y4⟩, ⟨e0, e1, e2, e3, e4⟩, hin2⟩ := (D2.box 0).five0) | fail)
  have D3 := D2.wrote hne 1 (.string I)
  change Rd w g s2 [(b, 28, lfB F I ⟨#[]⟩ 0 0), (w.heap.size, 28, lfB false ⟨#[]⟩ ⟨#[]⟩ 0 0)] _ at D3
  generalize World.setCell w2 _ _ = W3 at *
  clear D1 D2 t2 k2 c1 y0 y1 y2 y3 y4 e0 e1 e2 e3 e4 hin2
  go_upto_region 4 with (first | (go_at_call 122; refine (c2 _ D3.inS).mono ?_; rintro e w4 ⟨rfl, t4, k4⟩; have D4 := D3.read t4 k4; obtain ⟨⟨y0, y1, y2, y3, y4⟩, ⟨e0, e1, e2, e3, e4⟩, hin2⟩ := (D4.box 0).five0) | fail)
  have D5 := D4.wrote hne 2 (.string S)
  change Rd w g s3 [(b, 28, lfB F I S 0 0), (w.heap.size, 28, lfB false ⟨#[]⟩ ⟨#[]⟩ 0 0)] _ at D5
  generalize World.setCell w4 _ _ = W5 at *
  clear D3 D4 t4 k4 c2 y0 y1 y2 y3 y4 e0 e1 e2 e3 e4 hin2
  go_upto_region 5 with (first | (go_at_call 123; refine (c3 _ D5.inS).mono ?_; rintro e w6 ⟨rfl, t6, k6⟩; have D6 := D5.read t6 k6; obtain ⟨⟨y0, y1, y2, y3, y4⟩, ⟨e0, e1, e2, e3, e4⟩, hin2⟩ := (D6.box 0).five0) | fail)
  have D7 := (D6.wrote hne 3 (.int .u64 H)).wrote hne 4 (.int .u64 L)
  change Rd w g s4 [(b, 28, lfB F I S H L), (w.heap.size, 28, lfB false ⟨#[]⟩ ⟨#[]⟩ 0 0)] _ at D7
  generalize World.setCell (World.setCell w6 _ _) _ _ = W7 at *
  clear D5 D6 t6 k6 c3 y0 y1 y2 y3 y4 e0 e1 e2 e3 e4 hin2
  obtain ⟨⟨y0, y1, y2, y3, y4⟩, -, hin2⟩ := (D7.box 0).five0
  obtain ⟨⟨x0, x1, x2, x3, x4⟩, ⟨e0, e1, e2, e3, e4⟩, hin3⟩ := (D7.box 1).five0
  go_wp2
  have D8 := ((((D7.swap.wrote (hne2 _) 0 (.bool F)).wrote (hne2 _) 1 (.string I)).wrote (hne2 _) 2 (.string S)).wrote (hne2 _) 3 (.int .u64 H)).wrote (hne2 _) 4 (.int .u64 L)
  change Rd w g s4 [(w.heap.size, 28, lfB F I S H L), (b, 28, lfB F I S H L)] _ at D8
  generalize World.setCell (World.setCell (World.setCell (World.setCell (World.setCell W7 _ _) _ _) _ _) _ _) _ _ = W8 at *
  obtain ⟨⟨v0, v1, v2, v3, v4⟩, -, -⟩ := (D8.box 0).five0
  exact bodyPost_ret (v := .agg (lfB F I S H L)) (by simp [results, Tryz.results79, go_sem, v0, v1, v2, v3, v4]) rfl ⟨rfl, D8.inS, D8.off⟩
set_option maxHeartbeats 4000000 in
theorem rgetNodes_any (w : World) (g : Nat) (st : StR) (hz : restN st ≤ 4611686018427387903) (h : RInS w g st) : Calls Tryz.prog 81 #[.pointer (some ⟨g, 0, none⟩)] w fun e w' =>
    ∃ v, e = .returned v ∧ w'.ownsRow w.heap.size 143 3 v (rowG ndG st).1.length (ndS.flat (rowG ndG st).1) ∧ RInS w' g (rowG ndG st).2 ∧ Off (One g) w w' := by
  have cN := r_num w g st hz h
  have z0 := rest_opN 8 st
  unfold rowG
  have hg := h.inside
  obtain ⟨⟨hn0, -⟩, -⟩ := (⟨lV_word 8 st, trivial⟩ : Word (lV (opN 8 st)) ∧ True)
  obtain ⟨n, hn⟩ := Int.eq_ofNat_of_zero_le hn0
  obtain ⟨s1, h1⟩ : ∃ s1, nxt (opN 8 st) = s1 := ⟨_, rfl⟩
  rw [hn, h1] at cN ⊢
  rw [h1] at z0
  rw [Int.toNat_natCast]
  clear hn hn0 h1
  by_cases hm : 2048 < n
  · have hmi : (2048 : Int) < (n : Int) := by omega
    rw [if_pos hmi, repG_none]
    have cS := fun u (hu : RInS u g s1) => r_spoil u g _ _ hu
    go_enter Tryz.func81, Tryz.ntmps81
    go_upto_region 6 with (first
      | (go_at_call 73; refine cN.mono ?_; rintro e w1 ⟨rfl, t1, k1⟩)
      | (go_at_call 74; refine (cS _ t1).mono ?_; rintro e w2 ⟨rfl, t2, k2⟩)
      | fail)
    have k12 := k1.trans k2
    clear cN cS t1 k1 k2
    go_loopg [3, 5] 0 (fun gk v i wr => v = .slice none 0 0 ∧ i = .int .u64 0 ∧ wr = w2)
    case atStart => exact ⟨rfl, rfl, rfl⟩
    case round =>
      obtain ⟨rfl, rfl, rfl⟩ := hrel
      obtain ⟨q0, q1, hin⟩ := t2.parts
      have hmi2 : (0 : Int) < (n : Int) := by omega
      simp only [Option.isNone_none] at q1
      go_wp2
      go_ret
      exact ⟨_, rfl, World.ownsRow_nil _ _ _ _, t2, k12⟩
  · have hmi : ¬ ((2048 : Int) < (n : Int)) := by omega
    rw [if_neg hmi]
    have HR : Hid (repG ndG n s1 = ([] ++ (repG ndG (n - 0) s1).1, (repG ndG (n - 0) s1).2)) := by
      show repG ndG n s1 = _
      rw [Nat.sub_zero, List.nil_append]
    obtain ⟨V, hV⟩ : ∃ V, repG ndG n s1 = V := ⟨_, rfl⟩
    rw [hV]
    have HV := hideIt hV
    clear hV
    go_enter Tryz.func81, Tryz.ntmps81
    go_upto_region 6 with (first
      | (go_at_call 73; refine cN.mono ?_; rintro e w1 ⟨rfl, t1, k1⟩)
      | fail)
    clear cN
    go_loopg [3, 5] n (fun gk v i wr => ∃ (k : Nat) (L : List Nd) (s2 : StR), k ≤ n ∧ n - k ≤ gk ∧ i = .int .u64 k ∧ L.length = k ∧ restN s2 ≤ 4611686018427387903 ∧ wr.ownsRow w.heap.size 143 3 v k (ndS.flat L) ∧ RInS wr g s2 ∧ Off (One g) w wr ∧ Hid (repG ndG n s1 = (L ++ (repG ndG (n - k) s2).1, (repG ndG (n - k) s2).2)))
    case atStart => exact ⟨0, [], s1, Nat.zero_le _, by omega, rfl, rfl, by omega, World.ownsRow_nil _ _ _ _, t1, k1, HR⟩
    case round =>
      obtain ⟨k, L, s2, hk, hgk, rfl, hL, hz2, O, t2, k2, HQ⟩ := hrel
      have HG := hideIt hgk
      have HLn := hideIt hL
      clear hgk t1 k1 HR hL
      obtain ⟨q0, q1, hin⟩ := t2.parts
      by_cases hlt : k < n
      · have hlti : (k : Int) < (n : Int) := by omega
        have hw1 : IntKind.u64.wrap ((k : Int) + 1) = ((k + 1 : Nat) : Int) := by rw [IntKind.wrap_u64]; omega
        cases s2 with
        | none =>
          have e := HQ.out
          rw [repG_none, HV.out, List.append_nil] at e
          subst e
          simp only [Option.isNone_none] at q1
          go_wp2
          go_ret
          exact ⟨_, rfl, by rw [HLn.out]; exact O, t2, k2⟩
        | some l =>
          simp only [Option.isNone_some] at q1
          have cD := fun u hu => rgetNode_any u g (some l) hz2 hu
          have hr := rest_nd (some l)
          obtain ⟨m, hm2⟩ : ∃ m, n - k = m + 1 := ⟨n - k - 1, by omega⟩
          have e := HQ.out
          rw [hm2, repG] at e
          obtain ⟨⟨⟨xs, xh, xl⟩, s3⟩, hd⟩ : ∃ V, ndG (some l) = V := ⟨_, rfl⟩
          rw [hd] at cD hr e
          simp only [Nd.val] at cD hr e
          have e2 : repG ndG n s1 = ((L ++ [⟨xs, xh, xl⟩]) ++ (repG ndG (n - (k + 1)) s3).1, (repG ndG (n - (k + 1)) s3).2) := by
            rw [e, show n - (k + 1) = m by omega]
            simp
          have HE := hideIt e2
          clear e e2 hd HQ
          go_wp2_with (first
            | (go_at_call 72; refine (cD _ t2).mono ?_; rintro e w3 ⟨rfl, t3, k3⟩
               have O2 := own_off O k3 hg
               have hws := Nat.le_trans k2.size k3.size
               obtain ⟨v', W', hr2, O3, L3⟩ := nd_app1 w3 w.heap.size _ _ _ O2 ⟨xs, xh, xl⟩ (by omega) hws)
            | (at_builtin; refine gen_run rfl _ _ _ rfl _ _ rfl rfl v' W' hr2 ?_)
            | fail)
          go_roundg (n - (k + 1))
          case measure => have := HG.out; omega
          case rel => exact ⟨k + 1, L ++ [⟨xs, xh, xl⟩], s3, by omega, Nat.le_refl _, by first | rfl | go_num, by rw [List.length_append, HLn.out]; rfl, by omega, O3, t3.low L3 hg, (k2.trans k3).low L3, HE⟩
      · have e : k = n := by omega
        subst e
        have e := HQ.out
        rw [Nat.sub_self, HV.out, repG, List.append_nil] at e
        subst e
        have hlti : ¬ ((k : Int) < (k : Int)) := by omega
        go_wp2
        go_ret
        exact ⟨_, rfl, by rw [HLn.out]; exact O, t2, k2⟩
set_option maxHeartbeats 4000000 in
theorem rgetRoot_any (w : World) (g : Nat) (st : StR) (hz : restN st ≤ 4611686018427387903) (h : RInS w g st) : Calls Tryz.prog 32 #[.pointer (some ⟨g, 0, none⟩)] w fun e w' =>
    e = .returned (rtG st).1.val ∧ RInS w' g (rtG st).2 ∧ Off (One g) w w' := by
  have D0 := (Rd.start h).add 26 (rtB ⟨#[]⟩ 0 0 0)
  have z0 := rest_nd st
  have cD := fun u hu => rgetNode_any u g st hz hu
  have cN := fun u hu => r_num u g (ndG st).2 (by omega) hu
  obtain ⟨V, hV⟩ : ∃ V, rtG st = V := ⟨_, rfl⟩
  rw [hV]
  unfold rtG numG at hV
  have hw := lV_word 8 (ndG st).2
  obtain ⟨⟨⟨xs, xh, xl⟩, s1⟩, hd⟩ : ∃ V, ndG st = V := ⟨_, rfl⟩
  rw [hd] at cD cN hV hw
  simp only [Nd.val] at cD cN hV hw
  obtain ⟨n, hn⟩ := Int.eq_ofNat_of_zero_le hw.1
  have cS := fun u (hu : RInS u g (nxt (opN 8 s1))) => r_spoil u g _ _ hu
  rw [hn] at cN hV hw
  generalize nxt (opN 8 s1) = s2 at *
  have HV := hideIt hV
  clear hV hn hd z0 hz
  go_enter Tryz.func32, Tryz.ntmps32
  go_upto_region 1 with fail
  change Code.wp _ _ _ _ (w.alloc (.cells (rtB ⟨#[]⟩ 0 0 0) 26))
  generalize w.alloc (.cells (rtB ⟨#[]⟩ 0 0 0) 26) = W0 at *
  go_upto_region 2 with (first | (go_at_call 72; refine (cD _ D0.inS).mono ?_; rintro e w1 ⟨rfl, t1, k1⟩) | fail)
  have D1 := (D0.read t1 k1).add 143 (ndB xs xh xl)
  change Code.wp _ _ _ _ (w1.alloc (.cells (ndB xs xh xl) 143))
  have hlt : w.heap.size < w1.heap.size := Nat.lt_of_lt_of_le ((D0.box 0).inside) k1.size
  obtain ⟨b, hb⟩ : ∃ b, w1.heap.size = b := ⟨_, rfl⟩
  rw [hb] at D1 hlt ⊢
  generalize w1.alloc (.cells (ndB xs xh xl) 143) = W1 at *
  clear D0 k1 t1 hb cD
  have hne2 : ∀ x ∈ [((b, 143, ndB xs xh xl) : Blk)], x.1 ≠ w.heap.size := fun x hx => by simp at hx; subst hx; exact (Nat.ne_of_lt hlt).symm
  by_cases hm : 63 < n
  · have hmi : (63 : Int) < (n : Int) := by omega
    have e := HV.out
    rw [if_neg (show ¬ ((n : Int) ≤ 63) by omega), if_pos rfl] at e
    subst e
    go_upto_region 5 with (first
      | (go_at_call 73; refine (cN _ D1.inS).mono ?_; rintro e w2 ⟨rfl, t2, k2⟩; have D2 := D1.read t2 k2)
      | (go_at_call 74; refine (cS _ t2).mono ?_; rintro e w3 ⟨rfl, t3, k3⟩; have D3 := D2.read t3 k3)
      | fail)
    obtain ⟨q0, q1, hin⟩ := D3.inS.parts
    simp only [Option.isNone_none] at q1
    obtain ⟨⟨x0, x1, x2, x3⟩, hin2⟩ := (D3.box 1).four0
    have f0 := (D3.box 1).free 0
    have f1 := (D3.box 1).free 1
    have f2 := (D3.box 1).free 2
    have f3 := (D3.box 1).free 3
    go_wp2
    have D4 := (((D3.swap.wrote hne2 0 (.string ⟨#[]⟩)).wrote hne2 1 (.int .u64 0)).wrote hne2 2 (.int .u64 0)).wrote hne2 3 (.int .i64 0)
    change Rd w g none [(w.heap.size, 26, rtB ⟨#[]⟩ 0 0 0), (b, 143, ndB xs xh xl)] _ at D4
    generalize World.setCell (World.setCell (World.setCell (World.setCell w3 _ _) _ _) _ _) _ _ = W4 at *
    obtain ⟨⟨v0, v1, v2, v3⟩, -⟩ := (D4.box 0).four0
    exact bodyPost_ret (v := .agg (rtB ⟨#[]⟩ 0 0 0)) (by simp [results, Tryz.results32, go_sem, v0, v1, v2, v3]) rfl ⟨rfl, D4.inS, D4.off⟩
  · have hmi : ¬ ((63 : Int) < (n : Int)) := by omega
    have e := HV.out
    rw [if_pos (show (n : Int) ≤ 63 by omega)] at e
    have hw64 : IntKind.i64.wrap (n : Int) = (n : Int) := by rw [IntKind.wrap_i64]; omega
    go_upto_region 5 with (first
      | (go_at_call 73; refine (cN _ D1.inS).mono ?_; rintro e w2 ⟨rfl, t2, k2⟩; have D2 := D1.read t2 k2)
      | fail)
    obtain ⟨q0, q1, hin⟩ := D2.inS.parts
    obtain ⟨⟨x0, x1, x2, x3⟩, hin2⟩ := (D2.box 1).four0
    have f0 := (D2.box 1).free 0
    have f1 := (D2.box 1).free 1
    have f2 := (D2.box 1).free 2
    have f3 := (D2.box 1).free 3
    obtain ⟨y0, y1, y2, -, -, -, hin3⟩ := (D2.box 0).three
    cases s2 with
    | none =>
      rw [if_pos rfl] at e
      subst e
      simp only [Option.isNone_none] at q1
      go_wp2
      have D4 := (((D2.swap.wrote hne2 0 (.string ⟨#[]⟩)).wrote hne2 1 (.int .u64 0)).wrote hne2 2 (.int .u64 0)).wrote hne2 3 (.int .i64 0)
      change Rd w g none [(w.heap.size, 26, rtB ⟨#[]⟩ 0 0 0), (b, 143, ndB xs xh xl)] _ at D4
      generalize World.setCell (World.setCell (World.setCell (World.setCell w2 _ _) _ _) _ _) _ _ = W4 at *
      obtain ⟨⟨v0, v1, v2, v3⟩, -⟩ := (D4.box 0).four0
      exact bodyPost_ret (v := .agg (rtB ⟨#[]⟩ 0 0 0)) (by simp [results, Tryz.results32, go_sem, v0, v1, v2, v3]) rfl ⟨rfl, D4.inS, D4.off⟩
    | some l =>
      rw [if_neg (by simp)] at e
      subst e
      simp only [Option.isNone_some] at q1
      go_wp2
      have D4 := (((D2.swap.wrote hne2 0 (.string xs)).wrote hne2 1 (.int .u64 xh)).wrote hne2 2 (.int .u64 xl)).wrote hne2 3 (.int .i64 n)
      change Rd w g (some l) [(w.heap.size, 26, rtB xs xh xl n), (b, 143, ndB xs xh xl)] _ at D4
      generalize World.setCell (World.setCell (World.setCell (World.setCell w2 _ _) _ _) _ _) _ _ = W4 at *
      obtain ⟨⟨v0, v1, v2, v3⟩, -⟩ := (D4.box 0).four0
      exact bodyPost_ret (v := .agg (rtB xs xh xl n)) (by simp [results, Tryz.results32, go_sem, v0, v1, v2, v3]) rfl ⟨rfl, D4.inS, D4.off⟩
end Go.Proofs.YtmflhodiibjpnaaGreatDoor
/-
  paymasterref13's ReadRoot, ReadLeaf, walked.
-/
namespace Go.Proofs.YtmflhodiibjpnaaGreatDoor
set_option linter.unusedVariables false
set_option linter.unusedSimpArgs false
set_option maxRecDepth 10000
open Go.RowKit

set_option maxRecDepth 20000 in
set_option maxHeartbeats 4000000 in
theorem rreadRoot_any (s : ByteArray) (hs : s.size ≤ 1000000) (w : World) : Calls Tryz.prog 36 #[.string s] w (Tells (.tuple #[(readO rtG rtO RtP.zero s).1.val, .int .i64 (readO rtG rtO RtP.zero s).2]) w.heap.size w) := by
  obtain ⟨s1, h1⟩ : ∃ s1, nxt (opB (some s.data.toList)) = s1 := ⟨_, rfl⟩
  have z0 := rest_opB (some s.data.toList)
  rw [show restN (some s.data.toList) = s.size from osize s, h1] at z0
  have cB := fun u hu => r_byte u (w.heap.size + 1) (some s.data.toList) (by show s.data.toList.length ≤ _; rw [osize]; omega) hu
  rw [h1] at cB
  generalize bV (opB (some s.data.toList)) = b0 at *
  have cG := fun u hu => rgetRoot_any u (w.heap.size + 1) s1 (by omega) hu
  have hok := rtG_ok s1
  obtain ⟨⟨x, s2⟩, hd⟩ : ∃ V, rtG s1 = V := ⟨_, rfl⟩
  rw [hd] at cG hok
  have cT := fun u => rroot_any x (by have := hok.1; simp only at this; omega) hok.2 u
  obtain ⟨⟨T, n⟩, ht⟩ : ∃ V, rtO x = V := ⟨_, rfl⟩
  rw [ht] at cT
  simp only at cT cG
  have cO := fun u hu => r_done u (w.heap.size + 1) s2 hu
  have hrd := read_if (z := RtP.zero) h1 hd ht
  obtain ⟨RR, hRR⟩ : ∃ R, readO rtG rtO RtP.zero s = R := ⟨_, rfl⟩
  rw [hRR] at hrd ⊢
  generalize decide (s2 = some []) = b1 at *
  obtain ⟨b2, hb2⟩ : ∃ b2, (n == 0) = b2 := ⟨_, rfl⟩
  obtain ⟨b3, hb3⟩ : ∃ b3, (T.toList == s.toList) = b3 := ⟨_, rfl⟩
  rw [hb2, hb3] at hrd
  have HR := hideIt hrd
  have hb2n : (n != 0) = !b2 := by rw [bne, hb2]
  have hb3n : (T.toList != s.toList) = !b3 := by rw [bne, hb3]
  clear hrd hRR h1 hd ht
  have D0 := Rd.open_ w 26 (rtB ⟨#[]⟩ 0 0 0) s
  obtain ⟨g, hg⟩ : ∃ g, w.heap.size + 1 = g := ⟨_, rfl⟩
  rw [hg] at D0 cB cG cO
  obtain ⟨xs, xh, xl, xn⟩ := x
  simp only [RtP.val] at cT cG
  go_enter Tryz.func36, Tryz.ntmps36
  go_upto_region 2 with fail
  change Code.wp _ _ _ _ ((w.alloc (.cells (rtB ⟨#[]⟩ 0 0 0) 26)).alloc (.cells #[.string s, .bool false] 70))
  try rw [hg]
  generalize (w.alloc (.cells (rtB ⟨#[]⟩ 0 0 0) 26)).alloc (.cells #[.string s, .bool false] 70) = W0 at *
  have hgw : w.heap.size ≤ g := by omega
  go_upto_region 4 with (first
    | (go_at_call 76; refine (cB _ D0.inS).mono ?_; rintro e w1 ⟨rfl, t1, k1⟩; have D1 := D0.read t1 k1)
    | (go_at_call 32; refine (cG _ t1).mono ?_; rintro e w2 ⟨rfl, t2, k2⟩; have D2 := D1.read t2 k2)
    | fail)
  have D3 := D2.add 26 (rtB xs xh xl xn)
  change Code.wp _ _ _ _ (w2.alloc (.cells (rtB xs xh xl xn) 26))
  have hlt : w.heap.size < w2.heap.size := (D2.box 0).inside
  obtain ⟨b, hb⟩ : ∃ b, w2.heap.size = b := ⟨_, rfl⟩
  rw [hb] at D3 hlt ⊢
  generalize w2.alloc (.cells (rtB xs xh xl xn) 26) = W3 at *
  clear D0 D1 D2 t1 k1 t2 k2 hb cB cG
  have hne2 : ∀ x ∈ [((b, 26, rtB xs xh xl xn) : Blk)], x.1 ≠ w.heap.size := fun x hx => by simp at hx; subst hx; exact (Nat.ne_of_lt hlt).symm
  obtain ⟨⟨y0, y1, y2, y3⟩, hin⟩ := (D3.box 0).four0
  go_upto_region 5 with (first | (go_at_call 14; refine (cT _).mono ?_; rintro e w5 ⟨rfl, j5⟩) | fail)
  have D5 := D3.call j5
  clear D3 j5 cT y0 y1 y2 y3 hin
  cases b1 with
  | false =>
    have e := HR.out
    simp only [Bool.false_eq_true, false_and, and_false, if_false] at e
    subst e
    obtain ⟨⟨x0, x1, x2, x3⟩, hin2⟩ := (D5.box 1).four0
    have f0 := (D5.box 1).free 0
    have f1 := (D5.box 1).free 1
    have f2 := (D5.box 1).free 2
    have f3 := (D5.box 1).free 3
    go_wp2_with (first | (go_at_call 77; refine (cO _ D5.inS).mono ?_; rintro e v6 ⟨rfl, rfl⟩) | fail)
    have D7 := (((D5.swap.wrote hne2 0 (.string ⟨#[]⟩)).wrote hne2 1 (.int .u64 0)).wrote hne2 2 (.int .u64 0)).wrote hne2 3 (.int .i64 0)
    change Rd w g s2 [(w.heap.size, 26, rtB ⟨#[]⟩ 0 0 0), (b, 26, rtB xs xh xl xn)] _ at D7
    generalize World.setCell (World.setCell (World.setCell (World.setCell w5 _ _) _ _) _ _) _ _ = W7 at *
    obtain ⟨⟨v0, v1, v2, v3⟩, -⟩ := (D7.box 0).four0
    exact bodyPost_ret (v := .tuple #[.agg (rtB ⟨#[]⟩ 0 0 0), .int .i64 80]) (by simp [results, Tryz.results36, go_sem, v0, v1, v2, v3]) rfl ⟨rfl, D7.below hgw⟩
  | true =>
    cases b2 with
    | false =>
      have e := HR.out
      simp only [Bool.false_eq_true, false_and, and_false, if_false] at e
      subst e
      obtain ⟨⟨x0, x1, x2, x3⟩, hin2⟩ := (D5.box 1).four0
      have f0 := (D5.box 1).free 0
      have f1 := (D5.box 1).free 1
      have f2 := (D5.box 1).free 2
      have f3 := (D5.box 1).free 3
      go_wp2_with (first | (go_at_call 77; refine (cO _ D5.inS).mono ?_; rintro e v6 ⟨rfl, rfl⟩) | fail)
      have D7 := (((D5.swap.wrote hne2 0 (.string ⟨#[]⟩)).wrote hne2 1 (.int .u64 0)).wrote hne2 2 (.int .u64 0)).wrote hne2 3 (.int .i64 0)
      change Rd w g s2 [(w.heap.size, 26, rtB ⟨#[]⟩ 0 0 0), (b, 26, rtB xs xh xl xn)] _ at D7
      generalize World.setCell (World.setCell (World.setCell (World.setCell w5 _ _) _ _) _ _) _ _ = W7 at *
      obtain ⟨⟨v0, v1, v2, v3⟩, -⟩ := (D7.box 0).four0
      exact bodyPost_ret (v := .tuple #[.agg (rtB ⟨#[]⟩ 0 0 0), .int .i64 80]) (by simp [results, Tryz.results36, go_sem, v0, v1, v2, v3]) rfl ⟨rfl, D7.below hgw⟩
    | true =>
      cases b3 with
      | false =>
        have e := HR.out
        simp only [Bool.false_eq_true, false_and, and_false, if_false] at e
        subst e
        obtain ⟨⟨x0, x1, x2, x3⟩, hin2⟩ := (D5.box 1).four0
        have f0 := (D5.box 1).free 0
        have f1 := (D5.box 1).free 1
        have f2 := (D5.box 1).free 2
        have f3 := (D5.box 1).free 3
        go_wp2_with (first | (go_at_call 77; refine (cO _ D5.inS).mono ?_; rintro e v6 ⟨rfl, rfl⟩) | fail)
        have D7 := (((D5.swap.wrote hne2 0 (.string ⟨#[]⟩)).wrote hne2 1 (.int .u64 0)).wrote hne2 2 (.int .u64 0)).wrote hne2 3 (.int .i64 0)
        change Rd w g s2 [(w.heap.size, 26, rtB ⟨#[]⟩ 0 0 0), (b, 26, rtB xs xh xl xn)] _ at D7
        generalize World.setCell (World.setCell (World.setCell (World.setCell w5 _ _) _ _) _ _) _ _ = W7 at *
        obtain ⟨⟨v0, v1, v2, v3⟩, -⟩ := (D7.box 0).four0
        exact bodyPost_ret (v := .tuple #[.agg (rtB ⟨#[]⟩ 0 0 0), .int .i64 80]) (by simp [results, Tryz.results36, go_sem, v0, v1, v2, v3]) rfl ⟨rfl, D7.below hgw⟩
      | true =>
        have e := HR.out
        rw [if_pos ⟨rfl, rfl, rfl⟩] at e
        subst e
        obtain ⟨⟨x0, x1, x2, x3⟩, hin2⟩ := (D5.box 1).four0
        obtain ⟨⟨y0, y1, y2, y3⟩, hin⟩ := (D5.box 0).four0
        have f0 := (D5.box 1).free 0
        have f1 := (D5.box 1).free 1
        have f2 := (D5.box 1).free 2
        have f3 := (D5.box 1).free 3
        go_wp2_with (first | (go_at_call 77; refine (cO _ D5.inS).mono ?_; rintro e v6 ⟨rfl, rfl⟩) | fail)
        have D7 := (((D5.swap.wrote hne2 0 (.string xs)).wrote hne2 1 (.int .u64 xh)).wrote hne2 2 (.int .u64 xl)).wrote hne2 3 (.int .i64 xn)
        change Rd w g s2 [(w.heap.size, 26, rtB xs xh xl xn), (b, 26, rtB xs xh xl xn)] _ at D7
        generalize World.setCell (World.setCell (World.setCell (World.setCell w5 _ _) _ _) _ _) _ _ = W7 at *
        obtain ⟨⟨v0, v1, v2, v3⟩, -⟩ := (D7.box 0).four0
        exact bodyPost_ret (v := .tuple #[.agg (rtB xs xh xl xn), .int .i64 0]) (by simp [results, Tryz.results36, go_sem, v0, v1, v2, v3]) rfl ⟨rfl, D7.below hgw⟩
set_option maxRecDepth 20000 in
set_option maxHeartbeats 4000000 in
theorem rreadLeaf_any (s : ByteArray) (hs : s.size ≤ 1000000) (w : World) : Calls Tryz.prog 38 #[.string s] w (Tells (.tuple #[(readO lfG lfO Lf.zero s).1.val, .int .i64 (readO lfG lfO Lf.zero s).2]) w.heap.size w) := by
  obtain ⟨s1, h1⟩ : ∃ s1, nxt (opB (some s.data.toList)) = s1 := ⟨_, rfl⟩
  have z0 := rest_opB (some s.data.toList)
  rw [show restN (some s.data.toList) = s.size from osize s, h1] at z0
  have cB := fun u hu => r_byte u (w.heap.size + 1) (some s.data.toList) (by show s.data.toList.length ≤ _; rw [osize]; omega) hu
  rw [h1] at cB
  generalize bV (opB (some s.data.toList)) = b0 at *
  have cG := fun u hu => rgetLeaf_any u (w.heap.size + 1) s1 (by omega) hu
  have hok := lfG_ok s1
  obtain ⟨⟨x, s2⟩, hd⟩ : ∃ V, lfG s1 = V := ⟨_, rfl⟩
  rw [hd] at cG hok
  have cT := fun u => rleafT_any x (by have := hok.1; simp only at this; omega) (by have := hok.2.1; simp only at this; omega) hok.2.2 u
  obtain ⟨⟨T, n⟩, ht⟩ : ∃ V, lfO x = V := ⟨_, rfl⟩
  rw [ht] at cT
  simp only at cT cG
  have cO := fun u hu => r_done u (w.heap.size + 1) s2 hu
  have hrd := read_if (z := Lf.zero) h1 hd ht
  obtain ⟨RR, hRR⟩ : ∃ R, readO lfG lfO Lf.zero s = R := ⟨_, rfl⟩
  rw [hRR] at hrd ⊢
  generalize decide (s2 = some []) = b1 at *
  obtain ⟨b2, hb2⟩ : ∃ b2, (n == 0) = b2 := ⟨_, rfl⟩
  obtain ⟨b3, hb3⟩ : ∃ b3, (T.toList == s.toList) = b3 := ⟨_, rfl⟩
  rw [hb2, hb3] at hrd
  have HR := hideIt hrd
  have hb2n : (n != 0) = !b2 := by rw [bne, hb2]
  have hb3n : (T.toList != s.toList) = !b3 := by rw [bne, hb3]
  clear hrd hRR h1 hd ht
  have D0 := Rd.open_ w 28 (lfB false ⟨#[]⟩ ⟨#[]⟩ 0 0) s
  obtain ⟨g, hg⟩ : ∃ g, w.heap.size + 1 = g := ⟨_, rfl⟩
  rw [hg] at D0 cB cG cO
  obtain ⟨xp, xi, xs, xh, xl⟩ := x
  simp only [Lf.val] at cT cG
  go_enter Tryz.func38, Tryz.ntmps38
  go_upto_region 2 with fail
  change Code.wp _ _ _ _ ((w.alloc (.cells (lfB false ⟨#[]⟩ ⟨#[]⟩ 0 0) 28)).alloc (.cells #[.string s, .bool false] 70))
  try rw [hg]
  generalize (w.alloc (.cells (lfB false ⟨#[]⟩ ⟨#[]⟩ 0 0) 28)).alloc (.cells #[.string s, .bool false] 70) = W0 at *
  have hgw : w.heap.size ≤ g := by omega
  go_upto_region 4 with (first
    | (go_at_call 76; refine (cB _ D0.inS).mono ?_; rintro e w1 ⟨rfl, t1, k1⟩; have D1 := D0.read t1 k1)
    | (go_at_call 79; refine (cG _ t1).mono ?_; rintro e w2 ⟨rfl, t2, k2⟩; have D2 := D1.read t2 k2)
    | fail)
  have D3 := D2.add 28 (lfB xp xi xs xh xl)
  change Code.wp _ _ _ _ (w2.alloc (.cells (lfB xp xi xs xh xl) 28))
  have hlt : w.heap.size < w2.heap.size := (D2.box 0).inside
  obtain ⟨b, hb⟩ : ∃ b, w2.heap.size = b := ⟨_, rfl⟩
  rw [hb] at D3 hlt ⊢
  generalize w2.alloc (.cells (lfB xp xi xs xh xl) 28) = W3 at *
  clear D0 D1 D2 t1 k1 t2 k2 hb cB cG
  have hne2 : ∀ x ∈ [((b, 28, lfB xp xi xs xh xl) : Blk)], x.1 ≠ w.heap.size := fun x hx => by simp at hx; subst hx; exact (Nat.ne_of_lt hlt).symm
  obtain ⟨⟨y0, y1, y2, y3, y4⟩, -, hin⟩ := (D3.box 0).five0
  go_upto_region 5 with (first | (go_at_call 16; refine (cT _).mono ?_; rintro e w5 ⟨rfl, j5⟩) | fail)
  have D5 := D3.call j5
  clear D3 j5 cT y0 y1 y2 y3 y4 hin
  cases b1 with
  | false =>
    have e := HR.out
    simp only [Bool.false_eq_true, false_and, and_false, if_false] at e
    subst e
    obtain ⟨⟨x0, x1, x2, x3, x4⟩, ⟨f0, f1, f2, f3, f4⟩, hin2⟩ := (D5.box 1).five0
    obtain ⟨⟨y0, y1, y2, y3, y4⟩, -, hin⟩ := (D5.box 0).five0
    go_wp2_with (first | (go_at_call 77; refine (cO _ D5.inS).mono ?_; rintro e v6 ⟨rfl, rfl⟩) | fail)
    have D7 := ((((D5.swap.wrote hne2 0 (.bool false)).wrote hne2 1 (.string ⟨#[]⟩)).wrote hne2 2 (.string ⟨#[]⟩)).wrote hne2 3 (.int .u64 0)).wrote hne2 4 (.int .u64 0)
    change Rd w g s2 [(w.heap.size, 28, lfB false ⟨#[]⟩ ⟨#[]⟩ 0 0), (b, 28, lfB xp xi xs xh xl)] _ at D7
    generalize World.setCell (World.setCell (World.setCell (World.setCell (World.setCell w5 _ _) _ _) _ _) _ _) _ _ = W7 at *
    obtain ⟨⟨v0, v1, v2, v3, v4⟩, -, -⟩ := (D7.box 0).five0
    exact bodyPost_ret (v := .tuple #[.agg (lfB false ⟨#[]⟩ ⟨#[]⟩ 0 0), .int .i64 80]) (by simp [results, Tryz.results38, go_sem, v0, v1, v2, v3, v4]) rfl ⟨rfl, D7.below hgw⟩
  | true =>
    cases b2 with
    | false =>
      have e := HR.out
      simp only [Bool.false_eq_true, false_and, and_false, if_false] at e
      subst e
      obtain ⟨⟨x0, x1, x2, x3, x4⟩, ⟨f0, f1, f2, f3, f4⟩, hin2⟩ := (D5.box 1).five0
      obtain ⟨⟨y0, y1, y2, y3, y4⟩, -, hin⟩ := (D5.box 0).five0
      go_wp2_with (first | (go_at_call 77; refine (cO _ D5.inS).mono ?_; rintro e v6 ⟨rfl, rfl⟩) | fail)
      have D7 := ((((D5.swap.wrote hne2 0 (.bool false)).wrote hne2 1 (.string ⟨#[]⟩)).wrote hne2 2 (.string ⟨#[]⟩)).wrote hne2 3 (.int .u64 0)).wrote hne2 4 (.int .u64 0)
      change Rd w g s2 [(w.heap.size, 28, lfB false ⟨#[]⟩ ⟨#[]⟩ 0 0), (b, 28, lfB xp xi xs xh xl)] _ at D7
      generalize World.setCell (World.setCell (World.setCell (World.setCell (World.setCell w5 _ _) _ _) _ _) _ _) _ _ = W7 at *
      obtain ⟨⟨v0, v1, v2, v3, v4⟩, -, -⟩ := (D7.box 0).five0
      exact bodyPost_ret (v := .tuple #[.agg (lfB false ⟨#[]⟩ ⟨#[]⟩ 0 0), .int .i64 80]) (by simp [results, Tryz.results38, go_sem, v0, v1, v2, v3, v4]) rfl ⟨rfl, D7.below hgw⟩
    | true =>
      cases b3 with
      | false =>
        have e := HR.out
        simp only [Bool.false_eq_true, false_and, and_false, if_false] at e
        subst e
        obtain ⟨⟨x0, x1, x2, x3, x4⟩, ⟨f0, f1, f2, f3, f4⟩, hin2⟩ := (D5.box 1).five0
        obtain ⟨⟨y0, y1, y2, y3, y4⟩, -, hin⟩ := (D5.box 0).five0
        go_wp2_with (first | (go_at_call 77; refine (cO _ D5.inS).mono ?_; rintro e v6 ⟨rfl, rfl⟩) | fail)
        have D7 := ((((D5.swap.wrote hne2 0 (.bool false)).wrote hne2 1 (.string ⟨#[]⟩)).wrote hne2 2 (.string ⟨#[]⟩)).wrote hne2 3 (.int .u64 0)).wrote hne2 4 (.int .u64 0)
        change Rd w g s2 [(w.heap.size, 28, lfB false ⟨#[]⟩ ⟨#[]⟩ 0 0), (b, 28, lfB xp xi xs xh xl)] _ at D7
        generalize World.setCell (World.setCell (World.setCell (World.setCell (World.setCell w5 _ _) _ _) _ _) _ _) _ _ = W7 at *
        obtain ⟨⟨v0, v1, v2, v3, v4⟩, -, -⟩ := (D7.box 0).five0
        exact bodyPost_ret (v := .tuple #[.agg (lfB false ⟨#[]⟩ ⟨#[]⟩ 0 0), .int .i64 80]) (by simp [results, Tryz.results38, go_sem, v0, v1, v2, v3, v4]) rfl ⟨rfl, D7.below hgw⟩
      | true =>
        have e := HR.out
        rw [if_pos ⟨rfl, rfl, rfl⟩] at e
        subst e
        obtain ⟨⟨x0, x1, x2, x3, x4⟩, ⟨f0, f1, f2, f3, f4⟩, hin2⟩ := (D5.box 1).five0
        obtain ⟨⟨y0, y1, y2, y3, y4⟩, -, hin⟩ := (D5.box 0).five0
        go_wp2_with (first | (go_at_call 77; refine (cO _ D5.inS).mono ?_; rintro e v6 ⟨rfl, rfl⟩) | fail)
        have D7 := ((((D5.swap.wrote hne2 0 (.bool xp)).wrote hne2 1 (.string xi)).wrote hne2 2 (.string xs)).wrote hne2 3 (.int .u64 xh)).wrote hne2 4 (.int .u64 xl)
        change Rd w g s2 [(w.heap.size, 28, lfB xp xi xs xh xl), (b, 28, lfB xp xi xs xh xl)] _ at D7
        generalize World.setCell (World.setCell (World.setCell (World.setCell (World.setCell w5 _ _) _ _) _ _) _ _) _ _ = W7 at *
        obtain ⟨⟨v0, v1, v2, v3, v4⟩, -, -⟩ := (D7.box 0).five0
        exact bodyPost_ret (v := .tuple #[.agg (lfB xp xi xs xh xl), .int .i64 0]) (by simp [results, Tryz.results38, go_sem, v0, v1, v2, v3, v4]) rfl ⟨rfl, D7.below hgw⟩

theorem Box.seven0 {w : World} {g : Nat} {t : TypeId} {a b c d e f h : Value} (H : Box w g t #[a, b, c, d, e, f, h]) : (w.cell? ⟨g, 0, none⟩ = some a ∧ w.cell? ⟨g, 1, none⟩ = some b ∧ w.cell? ⟨g, 2, none⟩ = some c ∧ w.cell? ⟨g, 3, none⟩ = some d ∧ w.cell? ⟨g, 4, none⟩ = some e ∧ w.cell? ⟨g, 5, none⟩ = some f ∧ w.cell? ⟨g, 6, none⟩ = some h) ∧
    (w.frozen? ⟨g, 0, none⟩ = false ∧ w.frozen? ⟨g, 1, none⟩ = false ∧ w.frozen? ⟨g, 2, none⟩ = false ∧ w.frozen? ⟨g, 3, none⟩ = false ∧ w.frozen? ⟨g, 4, none⟩ = false ∧ w.frozen? ⟨g, 5, none⟩ = false ∧ w.frozen? ⟨g, 6, none⟩ = false) ∧ g < w.heap.size :=
  ⟨⟨H.read 0, H.read 1, H.read 2, H.read 3, H.read 4, H.read 5, H.read 6⟩, ⟨H.free 0, H.free 1, H.free 2, H.free 3, H.free 4, H.free 5, H.free 6⟩, H.inside⟩
/-- What an entry's reading tells: its slice lies in memory of its own. -/
def EnTold (x : EnP) (n : Int) (w : World) (e : Ending) (w' : World) : Prop := ∃ (A : Option Addr) (c : Nat), e = .returned (.tuple #[.agg (enB x.leaf.pad x.leaf.id x.leaf.salt x.leaf.h x.leaf.l x.pos A x.sides.length c), .int .i64 n]) ∧ (A = none → c = 0) ∧ ndS.Row w' w'.heap.size A x.sides ∧ Below w.heap.size w w'
theorem enG_ok (st : StR) : ((enG st).1.leaf.id.size ≤ 255 ∧ (enG st).1.leaf.salt.size ≤ 255 ∧ (enG st).1.leaf.words) ∧ Word (enG st).1.pos ∧ (enG st).1.sides.length ≤ 2048 ∧ ∀ y ∈ (enG st).1.sides, y.hash.size ≤ 32 ∧ y.words := ⟨lfG_ok st, lV_word 8 _, row_ok (p := fun y : Nd => y.hash.size ≤ 32 ∧ y.words) ndG_ok _⟩
set_option maxRecDepth 20000 in
set_option maxHeartbeats 8000000 in
theorem rreadEntry_any (s : ByteArray) (hs : s.size ≤ 1000000) (w : World) : Calls Tryz.prog 40 #[.string s] w (EnTold (readO enG enO EnP.zero s).1 (readO enG enO EnP.zero s).2 w) := by
  obtain ⟨s1, h1⟩ : ∃ s1, nxt (opB (some s.data.toList)) = s1 := ⟨_, rfl⟩
  have z0 := rest_opB (some s.data.toList)
  rw [show restN (some s.data.toList) = s.size from osize s, h1] at z0
  have cB := fun u hu => r_byte u (w.heap.size + 1) (some s.data.toList) (by show s.data.toList.length ≤ _; rw [osize]; omega) hu
  rw [h1] at cB
  generalize bV (opB (some s.data.toList)) = b0 at *
  have z1 := rest_lf s1
  have cG := fun u hu => rgetLeaf_any u (w.heap.size + 1) s1 (by omega) hu
  have hok := enG_ok s1
  have hd : enG s1 = (⟨(lfG s1).1, (numG (lfG s1).2).1, (rowG ndG (numG (lfG s1).2).2).1⟩, (rowG ndG (numG (lfG s1).2).2).2) := rfl
  unfold numG at hd
  rw [hd] at hok
  obtain ⟨⟨⟨xp, xi, xs, xh, xl⟩, sa⟩, ha⟩ : ∃ V, lfG s1 = V := ⟨_, rfl⟩
  rw [ha] at cG hok hd z1
  simp only [Lf.val] at cG hok hd z1
  have z2 := rest_opN 8 sa
  have cN := fun u hu => r_num u (w.heap.size + 1) sa (by omega) hu
  obtain ⟨xq, hxq⟩ : ∃ q, lV (opN 8 sa) = q := ⟨_, rfl⟩
  obtain ⟨sb, hsb⟩ : ∃ q, nxt (opN 8 sa) = q := ⟨_, rfl⟩
  rw [hxq, hsb] at cN hok hd
  rw [hsb] at z2
  have cR := fun u hu => rgetNodes_any u (w.heap.size + 1) sb (by omega) hu
  obtain ⟨⟨sd, s2⟩, hr⟩ : ∃ V, rowG ndG sb = V := ⟨_, rfl⟩
  rw [hr] at cR hok hd
  simp only at cR hok hd
  have cT := fun (A : Option Addr) (c : Nat) u hu => rentry_any ⟨⟨xp, xi, xs, xh, xl⟩, xq, sd⟩ A c (by have := hok.2.2.1; simp only; omega) (fun y hy => by have := (hok.2.2.2 y hy).1; omega) (fun y hy => (hok.2.2.2 y hy).2) (by have := hok.1.1; simp only; omega) (by have := hok.1.2.1; simp only; omega) hok.1.2.2 hok.2.1 u hu
  obtain ⟨⟨T, n⟩, ht⟩ : ∃ V, enO ⟨⟨xp, xi, xs, xh, xl⟩, xq, sd⟩ = V := ⟨_, rfl⟩
  rw [ht] at cT
  simp only at cT
  have cO := fun u hu => r_done u (w.heap.size + 1) s2 hu
  have hrd := read_if (z := EnP.zero) h1 hd ht
  obtain ⟨RR, hRR⟩ : ∃ R, readO enG enO EnP.zero s = R := ⟨_, rfl⟩
  rw [hRR] at hrd ⊢
  generalize decide (s2 = some []) = b1 at *
  obtain ⟨b2, hb2⟩ : ∃ b2, (n == 0) = b2 := ⟨_, rfl⟩
  obtain ⟨b3, hb3⟩ : ∃ b3, (T.toList == s.toList) = b3 := ⟨_, rfl⟩
  rw [hb2, hb3] at hrd
  have HR := hideIt hrd
  have hb2n : (n != 0) = !b2 := by rw [bne, hb2]
  have hb3n : (T.toList != s.toList) = !b3 := by rw [bne, hb3]
  clear hrd hRR h1 hd ht
  clear hok hxq hsb hr ha z0 z1 z2
  have D0 := Rd.open_ w 33 (enB false ⟨#[]⟩ ⟨#[]⟩ 0 0 0 none 0 0) s
  obtain ⟨g, hg⟩ : ∃ g, w.heap.size + 1 = g := ⟨_, rfl⟩
  rw [hg] at D0 cB cG cO cN cR
  go_enter Tryz.func40, Tryz.ntmps40
  go_upto_region 2 with fail
  change Code.wp _ _ _ _ ((w.alloc (.cells (enB false ⟨#[]⟩ ⟨#[]⟩ 0 0 0 none 0 0) 33)).alloc (.cells #[.string s, .bool false] 70))
  try rw [hg]
  generalize (w.alloc (.cells (enB false ⟨#[]⟩ ⟨#[]⟩ 0 0 0 none 0 0) 33)).alloc (.cells #[.string s, .bool false] 70) = W0 at *
  have hgw : w.heap.size ≤ g := by omega
  go_upto_region 4 with (first
    | (go_at_call 76; refine (cB _ D0.inS).mono ?_; rintro e w1 ⟨rfl, t1, k1⟩; have D1 := D0.read t1 k1)
    | (go_at_call 79; refine (cG _ t1).mono ?_; rintro e w2 ⟨rfl, t2, k2⟩; have D2 := D1.read t2 k2)
    | fail)
  have D3 := D2.add 33 (enB xp xi xs xh xl 0 none 0 0)
  change Code.wp _ _ _ _ (w2.alloc (.cells (enB xp xi xs xh xl 0 none 0 0) 33))
  have hlt : w.heap.size < w2.heap.size := (D2.box 0).inside
  obtain ⟨b, hb⟩ : ∃ b, w2.heap.size = b := ⟨_, rfl⟩
  rw [hb] at D3 hlt ⊢
  have hgb : g < b := by rw [← hb]; exact t2.inside
  generalize w2.alloc (.cells (enB xp xi xs xh xl 0 none 0 0) 33) = W3 at *
  clear D0 D1 D2 t1 k1 t2 k2 hb cB cG
  have hne : ∀ x ∈ [((w.heap.size, 33, enB false ⟨#[]⟩ ⟨#[]⟩ 0 0 0 none 0 0) : Blk)], x.1 ≠ b := fun x hx => by simp at hx; subst hx; exact Nat.ne_of_lt hlt
  have hne2 : ∀ {cs : Array Value}, ∀ x ∈ [((b, 33, cs) : Blk)], x.1 ≠ w.heap.size := fun x hx => by simp at hx; subst hx; exact (Nat.ne_of_lt hlt).symm
  go_upto_region 5 with (first | (go_at_call 73; refine (cN _ D3.inS).mono ?_; rintro e w4 ⟨rfl, t4, k4⟩; have D4 := D3.read t4 k4; obtain ⟨⟨y0, y1, y2, y3, y4, y5, y6⟩, ⟨e0, e1, e2, e3, e4, e5, e6⟩, hin⟩ := (D4.box 0).seven0) | fail)
  have D5 := D4.wrote hne 5 (.int .u64 xq)
  change Rd w g sb [(b, 33, enB xp xi xs xh xl xq none 0 0), (w.heap.size, 33, enB false ⟨#[]⟩ ⟨#[]⟩ 0 0 0 none 0 0)] _ at D5
  generalize World.setCell w4 _ _ = W5 at *
  clear D3 D4 t4 k4 cN y0 y1 y2 y3 y4 y5 y6 e0 e1 e2 e3 e4 e5 e6 hin
  go_upto_region 6 with (first | (go_at_call 81; refine (cR _ D5.inS).mono ?_; rintro e w6 ⟨v6, rfl, O6, t6, k6⟩; have D6 := D5.read t6 k6; obtain ⟨⟨y0, y1, y2, y3, y4, y5, y6⟩, ⟨e0, e1, e2, e3, e4, e5, e6⟩, hin⟩ := (D6.box 0).seven0; obtain ⟨A, c, hv, hA, R6⟩ := Sh.own_row (S := ndS) O6; subst hv) | fail)
  have hb5 := (D5.box 0).inside
  have D7' := D6.wrote hne 6 (.slice A sd.length c)
  change Rd w g s2 [(b, 33, enB xp xi xs xh xl xq A sd.length c), (w.heap.size, 33, enB false ⟨#[]⟩ ⟨#[]⟩ 0 0 0 none 0 0)] _ at D7'
  have O7 : (w6.setCell ⟨b, 6, none⟩ (.slice A sd.length c)).ownsRow W5.heap.size 143 3 (.slice A sd.length c) sd.length (ndS.flat sd) := own_off O6 ((Off.refl (One b) w6).set_ (p := ⟨b, 6, none⟩) (Or.inl rfl) _) hb5
  obtain ⟨B, hB⟩ : ∃ B, W5.heap.size = B := ⟨_, rfl⟩
  rw [hB] at O7 hb5
  have hrB : w.heap.size < B := by omega
  generalize World.setCell w6 _ _ = W6 at *
  have R7 : ndS.Row W6 W6.heap.size A sd := by
    obtain ⟨A', c', hv', -, R⟩ := Sh.own_row (S := ndS) O7
    injection hv' with e1 e2 e3
    rw [e1]
    exact R
  clear D5 D6 t6 k6 cR O6 R6 y0 y1 y2 y3 y4 y5 y6 e0 e1 e2 e3 e4 e5 e6 hin hb5 hB
  have cT1 := cT A c W6 R7
  obtain ⟨N, hN⟩ : ∃ N, sd.length = N := ⟨_, rfl⟩
  rw [hN] at cT1 D7'
  obtain ⟨⟨y0, y1, y2, y3, y4, y5, y6⟩, -, hin⟩ := (D7'.box 0).seven0
  rw [hN]
  go_upto_region 7 with (first | (go_at_call 18; refine cT1.mono ?_; rintro e w7 ⟨rfl, j7⟩) | fail)
  have D7 := D7'.call j7
  have O8 := own_below O7 j7
  clear D7' j7 cT cT1 O7 y0 y1 y2 y3 y4 y5 y6 hin R7
  cases b1 with
  | false =>
    have e := HR.out
    simp only [Bool.false_eq_true, false_and, and_false, if_false] at e
    subst e
    obtain ⟨⟨x0, x1, x2, x3, x4, x5, x6⟩, ⟨f0, f1, f2, f3, f4, f5, f6⟩, hin2⟩ := (D7.box 1).seven0
    obtain ⟨⟨y0, y1, y2, y3, y4, y5, y6⟩, -, hin⟩ := (D7.box 0).seven0
    go_wp2_with (first | (go_at_call 77; refine (cO _ D7.inS).mono ?_; rintro e v6 ⟨rfl, rfl⟩) | fail)
    have D9 := ((((((D7.swap.wrote hne2 0 (.bool false)).wrote hne2 1 (.string ⟨#[]⟩)).wrote hne2 2 (.string ⟨#[]⟩)).wrote hne2 3 (.int .u64 0)).wrote hne2 4 (.int .u64 0)).wrote hne2 5 (.int .u64 0)).wrote hne2 6 (.slice none 0 0)
    change Rd w g s2 [(w.heap.size, 33, enB false ⟨#[]⟩ ⟨#[]⟩ 0 0 0 none 0 0), (b, 33, enB xp xi xs xh xl xq A N c)] _ at D9
    generalize World.setCell (World.setCell (World.setCell (World.setCell (World.setCell (World.setCell (World.setCell w7 _ _) _ _) _ _) _ _) _ _) _ _) _ _ = W9 at *
    obtain ⟨⟨v0, v1, v2, v3, v4, v5, v6⟩, -, -⟩ := (D9.box 0).seven0
    exact bodyPost_ret (v := .tuple #[.agg (enB false ⟨#[]⟩ ⟨#[]⟩ 0 0 0 none 0 0), .int .i64 80]) (by simp [results, Tryz.results40, go_sem, v0, v1, v2, v3, v4, v5, v6]) rfl ⟨none, 0, rfl, fun _ => rfl, Sh.Row.nil ndS _ _ _, D9.below hgw⟩
  | true =>
    cases b2 with
    | false =>
      have e := HR.out
      simp only [Bool.false_eq_true, false_and, and_false, if_false] at e
      subst e
      obtain ⟨⟨x0, x1, x2, x3, x4, x5, x6⟩, ⟨f0, f1, f2, f3, f4, f5, f6⟩, hin2⟩ := (D7.box 1).seven0
      obtain ⟨⟨y0, y1, y2, y3, y4, y5, y6⟩, -, hin⟩ := (D7.box 0).seven0
      go_wp2_with (first | (go_at_call 77; refine (cO _ D7.inS).mono ?_; rintro e v6 ⟨rfl, rfl⟩) | fail)
      have D9 := ((((((D7.swap.wrote hne2 0 (.bool false)).wrote hne2 1 (.string ⟨#[]⟩)).wrote hne2 2 (.string ⟨#[]⟩)).wrote hne2 3 (.int .u64 0)).wrote hne2 4 (.int .u64 0)).wrote hne2 5 (.int .u64 0)).wrote hne2 6 (.slice none 0 0)
      change Rd w g s2 [(w.heap.size, 33, enB false ⟨#[]⟩ ⟨#[]⟩ 0 0 0 none 0 0), (b, 33, enB xp xi xs xh xl xq A N c)] _ at D9
      generalize World.setCell (World.setCell (World.setCell (World.setCell (World.setCell (World.setCell (World.setCell w7 _ _) _ _) _ _) _ _) _ _) _ _) _ _ = W9 at *
      obtain ⟨⟨v0, v1, v2, v3, v4, v5, v6⟩, -, -⟩ := (D9.box 0).seven0
      exact bodyPost_ret (v := .tuple #[.agg (enB false ⟨#[]⟩ ⟨#[]⟩ 0 0 0 none 0 0), .int .i64 80]) (by simp [results, Tryz.results40, go_sem, v0, v1, v2, v3, v4, v5, v6]) rfl ⟨none, 0, rfl, fun _ => rfl, Sh.Row.nil ndS _ _ _, D9.below hgw⟩
    | true =>
      cases b3 with
      | false =>
        have e := HR.out
        simp only [Bool.false_eq_true, false_and, and_false, if_false] at e
        subst e
        obtain ⟨⟨x0, x1, x2, x3, x4, x5, x6⟩, ⟨f0, f1, f2, f3, f4, f5, f6⟩, hin2⟩ := (D7.box 1).seven0
        obtain ⟨⟨y0, y1, y2, y3, y4, y5, y6⟩, -, hin⟩ := (D7.box 0).seven0
        go_wp2_with (first | (go_at_call 77; refine (cO _ D7.inS).mono ?_; rintro e v6 ⟨rfl, rfl⟩) | fail)
        have D9 := ((((((D7.swap.wrote hne2 0 (.bool false)).wrote hne2 1 (.string ⟨#[]⟩)).wrote hne2 2 (.string ⟨#[]⟩)).wrote hne2 3 (.int .u64 0)).wrote hne2 4 (.int .u64 0)).wrote hne2 5 (.int .u64 0)).wrote hne2 6 (.slice none 0 0)
        change Rd w g s2 [(w.heap.size, 33, enB false ⟨#[]⟩ ⟨#[]⟩ 0 0 0 none 0 0), (b, 33, enB xp xi xs xh xl xq A N c)] _ at D9
        generalize World.setCell (World.setCell (World.setCell (World.setCell (World.setCell (World.setCell (World.setCell w7 _ _) _ _) _ _) _ _) _ _) _ _) _ _ = W9 at *
        obtain ⟨⟨v0, v1, v2, v3, v4, v5, v6⟩, -, -⟩ := (D9.box 0).seven0
        exact bodyPost_ret (v := .tuple #[.agg (enB false ⟨#[]⟩ ⟨#[]⟩ 0 0 0 none 0 0), .int .i64 80]) (by simp [results, Tryz.results40, go_sem, v0, v1, v2, v3, v4, v5, v6]) rfl ⟨none, 0, rfl, fun _ => rfl, Sh.Row.nil ndS _ _ _, D9.below hgw⟩
      | true =>
        have e := HR.out
        rw [if_pos ⟨rfl, rfl, rfl⟩] at e
        subst e
        obtain ⟨⟨x0, x1, x2, x3, x4, x5, x6⟩, ⟨f0, f1, f2, f3, f4, f5, f6⟩, hin2⟩ := (D7.box 1).seven0
        obtain ⟨⟨y0, y1, y2, y3, y4, y5, y6⟩, -, hin⟩ := (D7.box 0).seven0
        go_wp2_with (first | (go_at_call 77; refine (cO _ D7.inS).mono ?_; rintro e v6 ⟨rfl, rfl⟩) | fail)
        have D9 := ((((((D7.swap.wrote hne2 0 (.bool xp)).wrote hne2 1 (.string xi)).wrote hne2 2 (.string xs)).wrote hne2 3 (.int .u64 xh)).wrote hne2 4 (.int .u64 xl)).wrote hne2 5 (.int .u64 xq)).wrote hne2 6 (.slice A N c)
        change Rd w g s2 [(w.heap.size, 33, enB xp xi xs xh xl xq A N c), (b, 33, enB xp xi xs xh xl xq A N c)] _ at D9
        have O9 := own_off O8 ((((((((Off.refl (One w.heap.size) w7).set_ (p := ⟨w.heap.size, 0, none⟩) (Or.inl rfl) (.bool xp)).set_ (p := ⟨w.heap.size, 1, none⟩) (Or.inl rfl) (.string xi)).set_ (p := ⟨w.heap.size, 2, none⟩) (Or.inl rfl) (.string xs)).set_ (p := ⟨w.heap.size, 3, none⟩) (Or.inl rfl) (.int .u64 xh)).set_ (p := ⟨w.heap.size, 4, none⟩) (Or.inl rfl) (.int .u64 xl)).set_ (p := ⟨w.heap.size, 5, none⟩) (Or.inl rfl) (.int .u64 xq)).set_ (p := ⟨w.heap.size, 6, none⟩) (Or.inl rfl) (.slice A N c)) hrB
        generalize World.setCell (World.setCell (World.setCell (World.setCell (World.setCell (World.setCell (World.setCell w7 _ _) _ _) _ _) _ _) _ _) _ _) _ _ = W9 at *
        obtain ⟨⟨v0, v1, v2, v3, v4, v5, v6⟩, -, -⟩ := (D9.box 0).seven0
        obtain ⟨A', c', hv', hA', R9⟩ := Sh.own_row (S := ndS) O9
        injection hv' with e1 e2 e3
        refine bodyPost_ret (v := .tuple #[.agg (enB xp xi xs xh xl xq A N c), .int .i64 0]) (by simp [results, Tryz.results40, go_sem, v0, v1, v2, v3, v4, v5, v6]) rfl ⟨A, c, by rw [← hN], hA, by rw [e1]; exact R9, D9.below hgw⟩
end Go.Proofs.YtmflhodiibjpnaaGreatDoor
