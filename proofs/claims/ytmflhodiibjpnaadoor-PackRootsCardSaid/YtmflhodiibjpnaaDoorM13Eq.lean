/- Several of my texts, laid as one. -/
import Derived.Test.YtmflhodiibjpnaaDoorM13Who
import Derived.Test.YtmflhodiibjpnaaDoorM13Dec
import Derived.Test.YtmflhodiibjpnaaDoorM13Wr
/-
  Plain words: what the program tells, and reads, of roots and leaves is what the document does.
-/
namespace Go.Proofs.YtmflhodiibjpnaaDoor
set_option linter.unusedVariables false
set_option linter.unusedSimpArgs false
set_option maxRecDepth 10000
open Go.RowKit

theorem whole_fit {l : List UInt8} (h : l.length ≤ 1048576) : wholeO l = (ofL l, 0) := by unfold wholeO; rw [if_neg (by omega)]
theorem tell_rt (x : RtP) : tellP 82 rtY wrR x = rtO x := by
  unfold tellP rtO wrR
  cases x.long <;> rfl
theorem tell_lf (x : Lf) : tellP 76 lfY wrLf x = lfO x := by
  unfold tellP lfO wrLf
  cases x.may <;> rfl
theorem take_rt (st : StR) : takeG rtP wrR RtP.zero st = rtG st := by
  have h1 : (ndG st).1.hash.size ≤ 32 := tV_size 32 st
  have h2 := (lV_word 8 (ndG st).2).1
  have hw : wrR (rtP st).1 = 0 ↔ (numG (ndG st).2).1 ≤ 63 := by
    unfold wrR RtP.long rtP
    simp only
    rw [decide_eq_false (show ¬ 32 < (ndG st).1.hash.size by omega), Bool.false_or]
    change wrLong (decide (min (lV (opN 8 (ndG st).2)) 64 < 0) || decide (63 < min (lV (opN 8 (ndG st).2)) 64)) = 0 ↔ lV (opN 8 (ndG st).2) ≤ 63
    rw [decide_eq_false (show ¬ min (lV (opN 8 (ndG st).2)) 64 < 0 by omega), Bool.false_or]
    by_cases h : lV (opN 8 (ndG st).2) ≤ 63
    · rw [decide_eq_false (show ¬ 63 < min (lV (opN 8 (ndG st).2)) 64 by omega)]
      exact ⟨fun _ => h, fun _ => rfl⟩
    · rw [decide_eq_true (show 63 < min (lV (opN 8 (ndG st).2)) 64 by omega)]
      exact ⟨(fun e => by cases e), fun e => absurd e h⟩
  unfold takeG rtG
  by_cases h : (numG (ndG st).2).1 ≤ 63
  · rw [if_pos (hw.2 h), if_pos h]
    have e : (rtP st).1 = ⟨(ndG st).1.hash, (ndG st).1.h, (ndG st).1.l, (numG (ndG st).2).1⟩ := by
      unfold rtP
      simp only
      rw [show min (numG (ndG st).2).1 64 = (numG (ndG st).2).1 by omega]
    rw [e]
    rfl
  · rw [if_neg (fun e => h (hw.1 e)), if_neg h, if_pos rfl, if_pos rfl]
theorem rtY_fit (x : RtP) (h : x.hash.size ≤ 32) : (82 :: rtY x).length ≤ 1048576 := by
  unfold rtY
  rw [List.length_cons, List.length_append]
  have h1 := ndY_len ⟨x.hash, x.h, x.l⟩
  simp only at h1
  have h2 := wideL_len 0 (x.n % 18446744073709551616)
  omega
theorem read_rt (s : ByteArray) : readO rtG rtO RtP.zero s = readT 82 (takeG rtP wrR RtP.zero) RtP.zero s := by
  rw [show takeG rtP wrR RtP.zero = rtG from funext take_rt]
  refine readT_eq rtC rtC (fun x hx => ⟨hx, ?_⟩) (fun x hx ht => rt_tells x s hx.1.2 ht)
  have hl : x.long = false := by
    unfold RtP.long
    rw [decide_eq_false (by have := hx.1.1; omega), decide_eq_false (by have := hx.2.1; omega), decide_eq_false (by have := hx.2.2; omega)]
    rfl
  unfold rtO
  rw [hl]
  exact whole_fit (rtY_fit x hx.1.1)
theorem wrLf_ok {x : Lf} : wrLf x = 0 ↔ x.may = true := by
  unfold wrLf
  cases x.may <;> simp
theorem lfY_fit {x : Lf} (h : x.id.size ≤ 96 ∧ x.salt.size ≤ 32) : (lfY x).length ≤ 188 := by
  have := lfY_len x
  omega
theorem read_lf (s : ByteArray) : readO lfG lfO Lf.zero s = readT 76 (takeG lfP wrLf Lf.zero) Lf.zero s := by
  refine readT_eq lfC (takeC lfPC) (fun x hx => ⟨⟨trivial, by have := hx.1.2.1; omega, by have := hx.1.2.2.1; omega, hx.1.2.2.2⟩, ?_⟩) (fun x hx ht => ?_)
  · unfold lfO
    rw [if_pos (wrLf_ok.1 hx.2)]
    refine whole_fit ?_
    have := lfY_fit (x := x) ⟨hx.1.2.1, hx.1.2.2.1⟩
    rw [List.length_cons]
    omega
  · have h2 := (lf_tells x s hx.2.2.2 ht).2
    have hm : x.may = true := by
      unfold lfO at ht
      split at ht
      · next h => exact h
      · injection ht with _ h; cases h
    have h3 := may_sizes hm
    exact ⟨⟨⟨trivial, h3.1, h3.2, hx.2.2.2⟩, wrLf_ok.2 hm⟩, h2⟩
end Go.Proofs.YtmflhodiibjpnaaDoor
/-
  Plain words: what the program tells, and reads, of entries, ranges, diffs is what the document does.
-/
namespace Go.Proofs.YtmflhodiibjpnaaDoor
set_option linter.unusedVariables false
set_option linter.unusedSimpArgs false
set_option maxRecDepth 10000
open Go.RowKit

end Go.Proofs.YtmflhodiibjpnaaDoor
