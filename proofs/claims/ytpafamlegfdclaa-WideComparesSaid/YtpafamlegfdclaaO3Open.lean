/-
  A wide number that came in, opened.
-/
import Derived.Test.YtpafamlegfdclaaU3Calls
import Derived.Test.YtpafamlegfdclaaW0Lift
namespace Go.Proofs.Ytpafamlegfdclaa
set_option linter.unusedVariables false
set_option linter.unusedSimpArgs false
open Go.ChangeShapes Go.WideShapes Go.ChangeAt Go.RowKit

/-- A wide number, opened. -/
theorem open_wide {H : Type} {enc : TypeId × Value → H} {W : World} {base : Nat} {v : Value} {d : DataW H} {p : List MemPlace} (hval : Value.okWide Try.prog W .any base 26 v)
    (h : DataW.Trod enc Try.prog W 0 (fun _ => true) true 26 v d p) : ∃ a b c : Int, v = wide a b c ∧ Word a ∧ Word b ∧ Word c := by
  obtain ⟨cs, rfl, hsz⟩ := okWide_struct Try.underlying26 hval
  obtain ⟨c0, c1, c2, rfl⟩ := Go.Joins.array3 (hsz.trans (show Try.prog.cellsOf 26 = 3 by kernel_rfl))
  obtain ⟨fuel, hf⟩ := h
  obtain ⟨y0, y1, n, -, -, t0, t1⟩ := trod_struct2 Try.underlying26 hf
  have o0 : Try.prog.cellsOf 22 = 1 := by kernel_rfl
  have o1 : Try.prog.cellsOf 24 = 2 := by kernel_rfl
  have t0' : DataW.trod enc Try.prog W 0 (fun _ => true) true n 22 [c0] = some y0 := by simpa [Value.cells, o0] using t0
  have t1' : DataW.trod enc Try.prog W 0 (fun _ => true) true n 24 [c1, c2] = some y1 := by simpa [Value.cells, o0, o1] using t1
  obtain ⟨z0, z1, k, -, -, s0, s1⟩ := trod_struct2 Try.underlying24 t1'
  have s0' : DataW.trod enc Try.prog W 0 (fun _ => true) true k 22 [c1] = some z0 := by simpa [o0] using s0
  have s1' : DataW.trod enc Try.prog W 0 (fun _ => true) true k 22 [c2] = some z1 := by simpa [o0] using s1
  obtain ⟨a, ea, -, wa⟩ := DataW.trod_int Try.underlying22 t0'
  obtain ⟨b, eb, -, wb⟩ := DataW.trod_int Try.underlying22 s0'
  obtain ⟨c, ec, -, wc⟩ := DataW.trod_int Try.underlying22 s1'
  simp at ea eb ec
  subst ea eb ec
  exact ⟨a, b, c, rfl, word_of wa, word_of wb, word_of wc⟩

end Go.Proofs.Ytpafamlegfdclaa
