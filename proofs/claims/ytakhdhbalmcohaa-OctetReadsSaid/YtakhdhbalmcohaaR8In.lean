/-
  The document's own In (paymasterref08), walked: Spoil, take, Byte, number, Wide, Num, Flag, Text, Done.
-/
import Derived.Test.YtakhdhbalmcohaaU8Read
import Derived.Test.YtakhdhbalmcohaaR1From
import Derived.LoopTactic
import Derived.Deep.LoopGhost
import Derived.Laws.Concat
namespace Go.Proofs.Ytakhdhbalmcohaa
set_option linter.unusedVariables false
set_option linter.unusedSimpArgs false
set_option maxRecDepth 10000
open Go.RowKit Go.Shelf

def rS (st : Option (List UInt8)) : ByteArray := match st with | none => ⟨#[]⟩ | some l => ofL l
/-- What the document's In has left, where it lies. -/
def RInS (w : World) (g : Nat) (st : Option (List UInt8)) : Prop := Box w g 28 #[.string (rS st), .bool st.isNone]
theorem RInS.inside {w : World} {g : Nat} {st : Option (List UInt8)} (h : RInS w g st) : g < w.heap.size := Box.inside h
theorem RInS.call {w w' : World} {g : Nat} {st : Option (List UInt8)} (h : RInS w g st) (hb : Below w.heap.size w w') : RInS w' g st := Box.call h hb
theorem RInS.off {w w' : World} {g : Nat} {S : Nat → Prop} {st : Option (List UInt8)} (h : RInS w g st) (k : Off S w w') (hne : ¬ S g) : RInS w' g st := k.box h hne
theorem restN_size (st : Option (List UInt8)) : (rS st).size = restN st := by
  cases st with
  | none => rfl
  | some l => exact ofL_size l
theorem r_spoil (w : World) (g : Nat) (x y : Value) (hbx : Box w g 28 #[x, y]) : Calls Try.prog 28 #[.pointer (some ⟨g, 0, none⟩)] w fun e w' => e = .returned (.tuple #[]) ∧ RInS w' g none ∧ Off (One g) w w' := by
  obtain ⟨c0, c1, f0, f1, hin⟩ := hbx.two
  have b1 := (hbx.wrote 0 (.string ⟨#[]⟩)).wrote 1 (.bool true)
  have k1 := ((Off.refl (One g) w).set_ (p := ⟨g, 0, none⟩) (Or.inl rfl) (.string ⟨#[]⟩)).set_ (p := ⟨g, 1, none⟩) (Or.inl rfl) (.bool true)
  go_enter Try.func28, Try.ntmps28
  go_wp2
  go_end0
  exact ⟨rfl, b1, k1⟩
theorem r_done (w : World) (g : Nat) (st : Option (List UInt8)) (h : RInS w g st) : Calls Try.prog 10 #[.pointer (some ⟨g, 0, none⟩)] w (Still (.bool (decide (st = some []))) w) := by
  obtain ⟨c0, c1, f0, f1, hin⟩ := Box.two (show Box w g _ #[_, _] from h)
  cases st with
  | none =>
    go_enter Try.func10, Try.ntmps10
    go_wp2
    go_ret
    exact ⟨rfl, rfl⟩
  | some l =>
    have hz : (ofL l).size = l.length := ofL_size l
    have e : decide (some l = some []) = ((l.length : Int) == 0) := by
      cases l with
      | nil => rfl
      | cons c r =>
        rw [decide_eq_false (by intro e; injection e with e; cases e)]
        symm
        rw [beq_eq_false_iff_ne, List.length_cons]
        omega
    rw [e]
    change w.cell? _ = some (.string (ofL l)) at c0
    change w.cell? _ = some (.bool false) at c1
    generalize ofL l = L at *
    go_enter Try.func10, Try.ntmps10
    go_wp2
    go_ret
    exact ⟨rfl, rfl⟩
/-- So many bytes, taken. -/
def tkO (n : Nat) (st : Option (List UInt8)) : Option (List UInt8 × List UInt8) := st.bind fun l => if l.length < n then none else some (l.take n, l.drop n)
theorem ofL_cut (l : List UInt8) (n : Nat) (hn : n ≤ l.length) : (ofL l).extract 0 n = ofL (l.take n) ∧ (ofL l).extract n (ofL l).size = ofL (l.drop n) := by
  constructor
  · refine oext ?_
    rw [ByteArray.data_extract, Array.toList_extract, List.extract_eq_take_drop, ofL_list, ofL_list]
    simp
  · refine oext ?_
    rw [ByteArray.data_extract, Array.toList_extract, List.extract_eq_take_drop, ofL_list, ofL_list, ofL_size]
    rw [List.take_of_length_le (by rw [List.length_drop]; exact Nat.le_refl _)]
set_option maxHeartbeats 1000000 in
theorem r_take (n : Nat) (hn : n < 18446744073709551616) (w : World) (g : Nat) (st : Option (List UInt8)) (hz : restN st ≤ 4611686018427387903) (h : RInS w g st) : Calls Try.prog 24 #[.pointer (some ⟨g, 0, none⟩), .int .u64 n] w fun e w' =>
    e = .returned (.string (tV (tkO n st))) ∧ RInS w' g (nxt (tkO n st)) ∧ Off (One g) w w' := by
  have hbx : Box w g 28 #[.string (rS st), .bool st.isNone] := h
  have cS := r_spoil w g _ _ hbx
  obtain ⟨c0, c1, f0, f1, hin⟩ := hbx.two
  cases st with
  | none =>
    go_enter Try.func24, Try.ntmps24
    go_wp2_with (first | (go_at_call 28; refine cS.mono ?_; rintro e w' ⟨rfl, s1, s2⟩))
    go_ret
    exact ⟨rfl, s1, s2⟩
  | some l =>
    have hl : (ofL l).size = l.length := ofL_size l
    have hz2 : l.length ≤ 4611686018427387903 := hz
    have e1 : (l.length : Int) % 18446744073709551616 = (l.length : Int) := by omega
    have e5 : IntKind.u64.wrap (l.length : Int) = (l.length : Int) := by rw [IntKind.wrap_u64]; exact e1
    change w.cell? _ = some (.string (ofL l)) at c0
    change w.cell? _ = some (.bool false) at c1
    by_cases hlt : l.length < n
    · have e2 : (l.length : Int) < (n : Int) := by omega
      have e3 : decide (l.length < n) = true := decide_eq_true hlt
      have eo : tkO n (some l) = none := if_pos hlt
      rw [eo]
      clear hbx h eo
      generalize ofL l = L at *
      go_enter Try.func24, Try.ntmps24
      go_wp2_with (first | (go_at_call 28; refine cS.mono ?_; rintro e w' ⟨rfl, s1, s2⟩))
      go_ret
      exact ⟨rfl, s1, s2⟩
    · have e2 : ¬ ((l.length : Int) < (n : Int)) := by omega
      have e3 : decide (l.length < n) = false := decide_eq_false hlt
      have eo : tkO n (some l) = some (l.take n, l.drop n) := if_neg hlt
      obtain ⟨x1, x2⟩ := ofL_cut l n (by omega)
      rw [hl] at x2
      have b1 : Box (w.setCell ⟨g, 0, none⟩ (.string (ofL (l.drop n)))) g 28 #[.string (ofL (l.drop n)), .bool false] := hbx.wrote 0 (.string (ofL (l.drop n)))
      have k1 := (Off.refl (One g) w).set_ (p := ⟨g, 0, none⟩) (Or.inl rfl) (.string (ofL (l.drop n)))
      have hnl : (n : Int) ≤ (l.length : Int) := by omega
      rw [eo]
      show Calls _ _ _ _ fun e w' => e = .returned (.string (ofL (l.take n))) ∧ Box w' g _ #[.string (ofL (l.drop n)), .bool false] ∧ _
      clear hbx h eo cS hz hz2
      generalize ofL (l.drop n) = D at *
      generalize ofL (l.take n) = T at *
      generalize ofL l = L at *
      go_enter Try.func24, Try.ntmps24
      go_wp2
      go_ret
      exact ⟨rfl, b1, k1⟩
theorem nxt_rest {α : Type} {st : Option (List UInt8)} {r : Option (α × List UInt8)} (h : ∀ x, r = some x → ∃ l, st = some l ∧ x.2.length ≤ l.length) : restN (nxt r) ≤ restN st := by
  cases r with
  | none => exact Nat.zero_le _
  | some x =>
    obtain ⟨l, hl, h2⟩ := h x rfl
    rw [hl]
    exact h2
theorem rest_opB (st : Option (List UInt8)) : restN (nxt (opB st)) ≤ restN st := by
  cases st with
  | none => exact Nat.le_refl _
  | some l => cases l with
    | nil => exact Nat.le_refl _
    | cons c r => show r.length ≤ (c :: r).length; rw [List.length_cons]; omega
theorem tkO_one (st : Option (List UInt8)) : nxt (tkO 1 st) = nxt (opB st) := by
  cases st with
  | none => rfl
  | some l => cases l with
    | nil => rfl
    | cons c r =>
      show nxt (if (c :: r).length < 1 then none else some ((c :: r).take 1, (c :: r).drop 1)) = _
      rw [if_neg (by simp)]
      rfl
set_option maxHeartbeats 1000000 in
theorem r_byte (w : World) (g : Nat) (st : Option (List UInt8)) (hz : restN st ≤ 4611686018427387903) (h : RInS w g st) : Calls Try.prog 13 #[.pointer (some ⟨g, 0, none⟩)] w fun e w' =>
    e = .returned (.int .u8 (bV (opB st))) ∧ RInS w' g (nxt (opB st)) ∧ Off (One g) w w' := by
  have c : Calls Try.prog 24 #[.pointer (some ⟨g, 0, none⟩), .int .u64 1] w _ := r_take 1 (by decide) w g st hz h
  rw [tkO_one] at c
  have hc : (tV (tkO 1 st) = ⟨#[]⟩ ∧ bV (opB st) = 0) ∨ ∃ x : UInt8, tV (tkO 1 st) = ofL [x] ∧ bV (opB st) = (x.toNat : Int) := by
    cases st with
    | none => exact Or.inl ⟨rfl, rfl⟩
    | some l => cases l with
      | nil => exact Or.inl ⟨rfl, rfl⟩
      | cons x r =>
        refine Or.inr ⟨x, ?_, rfl⟩
        show tV (if (x :: r).length < 1 then none else some ((x :: r).take 1, (x :: r).drop 1)) = _
        rw [if_neg (by simp)]
        rfl
  rcases hc with ⟨h1, h2⟩ | ⟨x, h1, h2⟩
  · rw [h1] at c
    rw [h2]
    go_enter Try.func13, Try.ntmps13
    go_wp2_with (first | (go_at_call 24; refine c.mono ?_; rintro e w' ⟨rfl, s1, s2⟩))
    go_ret
    exact ⟨rfl, s1, s2⟩
  · rw [h1] at c
    rw [h2]
    have hs : (ofL [x]).size = 1 := rfl
    have hp : 0 < (ofL [x]).size := by rw [hs]; omega
    have hx : ((ofL [x])[0]'hp).toNat = x.toNat := rfl
    generalize ofL [x] = X at *
    go_enter Try.func13, Try.ntmps13
    go_wp2_with (first | (go_at_call 24; refine c.mono ?_; rintro e w' ⟨rfl, s1, s2⟩))
    go_ret
    exact ⟨rfl, s1, s2⟩
end Go.Proofs.Ytakhdhbalmcohaa
