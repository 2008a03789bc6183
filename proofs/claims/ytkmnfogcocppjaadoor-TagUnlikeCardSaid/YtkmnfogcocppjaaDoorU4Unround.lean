/-
  block.Unround and First, walked.
-/
import Derived.Test.YtkmnfogcocppjaaDoorU4Round
import Derived.StillTail
namespace Go.Proofs.YtkmnfogcocppjaaDoor
set_option linter.unusedVariables false
set_option linter.unusedSimpArgs false
set_option maxRecDepth 10000
open Go.RowKit

theorem far8v (W : World) {g g' : Nat} (h : g ≠ g') (i : Nat) (v0 v1 v2 v3 v4 v5 v6 v7 : Value) : (set8v W g v0 v1 v2 v3 v4 v5 v6 v7).cell? ⟨g', i, none⟩ = W.cell? ⟨g', i, none⟩ := by
  have f : ∀ (u : World) (j : Nat) (v : Value), (u.setCell ⟨g, j, none⟩ v).cell? ⟨g', i, none⟩ = u.cell? ⟨g', i, none⟩ := fun u j v => World.cell?_setCell_far u ⟨g, j, none⟩ ⟨g', i, none⟩ v h
  simp only [set8v, f]

theorem st0_iv : iv st0.a = 1779033703 ∧ iv st0.b = 3144134277 ∧ iv st0.c = 1013904242 ∧ iv st0.d = 2773480762 ∧ iv st0.e = 1359893119 ∧ iv st0.f = 2600822924 ∧ iv st0.g = 528734635 ∧ iv st0.h = 1541459225 := by decide +kernel
set_option maxHeartbeats 1000000 in
theorem first_any (w : World) : Calls Tryd.prog 69 #[] w (Tells (.agg #[.int .u32 (iv st0.a), .int .u32 (iv st0.b), .int .u32 (iv st0.c), .int .u32 (iv st0.d), .int .u32 (iv st0.e), .int .u32 (iv st0.f), .int .u32 (iv st0.g), .int .u32 (iv st0.h)]) w.heap.size w) := by
  have H0 : Has w [(w.heap.size, 90, St.cs ⟨0, 0, 0, 0, 0, 0, 0, 0⟩)] (w.alloc (.cells (St.cs ⟨0, 0, 0, 0, 0, 0, 0, 0⟩) 90)) := (Has.start w).add 90 (St.cs ⟨0, 0, 0, 0, 0, 0, 0, 0⟩)
  go_enter Tryd.func69, Tryd.ntmps69
  go_wp2
  obtain ⟨i0, i1, i2, i3, i4, i5, i6, i7⟩ := st0_iv
  exact bodyPost_ret (v := .agg #[.int .u32 (iv st0.a), .int .u32 (iv st0.b), .int .u32 (iv st0.c), .int .u32 (iv st0.d), .int .u32 (iv st0.e), .int .u32 (iv st0.f), .int .u32 (iv st0.g), .int .u32 (iv st0.h)]) (by simp [results, Tryd.results69, go_sem, i0, i1, i2, i3, i4, i5, i6, i7]) rfl ⟨rfl, (Below.refl _ _).alloc (Nat.le_refl _) _⟩

end Go.Proofs.YtkmnfogcocppjaaDoor
