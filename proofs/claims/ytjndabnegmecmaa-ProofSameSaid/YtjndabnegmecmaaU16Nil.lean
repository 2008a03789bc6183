/-
  Package proof of a tree that nobody made: Of tells ErrNil, All tells none.
-/
import Derived.Test.YtjndabnegmecmaaM16Ent
import Derived.Test.YtjndabnegmecmaaM15Tr
import Derived.Test.YtjndabnegmecmaaU16All
namespace Go.Proofs.Ytjndabnegmecmaa
set_option linter.unusedVariables false
set_option linter.unusedSimpArgs false
set_option maxRecDepth 10000
open Go.RowKit

/-- An entry of nothing. -/
def enZ : Value := .agg (enV Lf.zero 0 none 0 0)
set_option maxRecDepth 100000 in
set_option maxHeartbeats 2000000 in
theorem of16_no (v : Value) (p : Int) (W : World) (h : NoTree W v) : Calls Try.prog 8 #[v, .int .u64 p] W (Tells (.tuple #[enZ, .int .i64 1]) W.heap.size W) := by
  have cW := width15_no v _ (h.call (chainA (Below.refl W.heap.size W) (.cells (enV Lf.zero 0 none 0 0) 31)))
  clear h
  have E := (Has.start W).addAt 31 (enV Lf.zero 0 none 0 0) (g := W.heap.size) rfl
  simp only [Lf.zero] at cW E
  obtain ⟨⟨x0, x1, x2, x3, x4, x5, x6⟩, xin⟩ := (E.box 0).seven
  simp only at x0 x1 x2 x3 x4
  go_enter Try.func8, Try.ntmps8
  go_wp2_with (first | (go_at_call 19; refine cW.mono ?_; rintro e w1 ⟨rfl, rfl⟩) | fail)
  clear x0 x1 x2 x3 x4 x5 x6 xin
  change bodyPost _ _ _ _ _ (W.alloc (.cells (enV ⟨false, ⟨#[]⟩, ⟨#[]⟩, 0, 0⟩ 0 none 0 0) 31))
  generalize W.alloc (.cells (enV ⟨false, ⟨#[]⟩, ⟨#[]⟩, 0, 0⟩ 0 none 0 0) 31) = W9 at *
  obtain ⟨⟨x0, x1, x2, x3, x4, x5, x6⟩, -⟩ := (E.box 0).seven
  simp only at x0 x1 x2 x3 x4
  exact bodyPost_ret (v := .tuple #[enZ, .int .i64 1]) (by simp [results, Try.results8, go_sem, enZ, Lf.zero, x0, x1, x2, x3, x4, x5, x6]) rfl ⟨rfl, E.below⟩
theorem all16_none (w : World) : Calls Try.prog 10 #[.pointer none] w (fun e w' => Below w.heap.size w w' ∧ ∃ A c, e = .returned (.slice A 0 c)) := by
  refine (all16_any none [] (by simp) (fun _ => []) (fun _ => True) w trivial (fun _ _ _ _ => trivial) (fun u _ p hp => ?_) (fun u _ p x hx => by simp at hx)).mono ?_
  · exact leaf15_no (.pointer none) p u (Or.inl rfl)
  · rintro e w' ⟨hb, v, ms, rfl, ho, -⟩
    obtain ⟨A, c, rfl⟩ := own_slice16 ho
    exact ⟨hb, A, c, rfl⟩
end Go.Proofs.Ytjndabnegmecmaa
