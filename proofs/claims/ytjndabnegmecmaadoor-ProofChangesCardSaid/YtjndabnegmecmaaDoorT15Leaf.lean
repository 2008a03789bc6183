/-
  Leaves in memory, by the generic words on rows.
-/
import Derived.Test.YtjndabnegmecmaaDoorM13Nod
import Derived.Test.YtjndabnegmecmaaDoorW7Leaf
namespace Go.Proofs.YtjndabnegmecmaaDoor
set_option linter.unusedVariables false
set_option linter.unusedSimpArgs false
set_option maxRecDepth 10000
open Go.RowKit

/-- Leaves' cells. -/
def lfS : Sh Lf where
  cells x := [.bool x.pad, .string x.id, .string x.salt, .int .u64 x.h, .int .u64 x.l]
  k := 5
  len _ := rfl
  pos := by decide
  one x u hu := by
    simp only [List.mem_cons, List.not_mem_nil, or_false] at hu
    rcases hu with rfl | rfl | rfl | rfl | rfl <;> rfl
/-- The i-th leaf of a row. -/
theorem lf_get {w : World} {B : Nat} {A : Option Addr} {xs : List Lf} (h : lfS.Row w B A xs) {i : Nat} {x : Lf} (hx : xs[i]? = some x) : ∃ ad, A = some ad ∧ (ad.add (i * 5)).block < B ∧
    w.cell? (ad.add (i * 5)) = some (.bool x.pad) ∧ w.cell? ⟨(ad.add (i * 5)).block, (ad.add (i * 5)).off + 1, none⟩ = some (.string x.id) ∧ w.cell? ⟨(ad.add (i * 5)).block, (ad.add (i * 5)).off + 2, none⟩ = some (.string x.salt) ∧
    w.cell? ⟨(ad.add (i * 5)).block, (ad.add (i * 5)).off + 3, none⟩ = some (.int .u64 x.h) ∧ w.cell? ⟨(ad.add (i * 5)).block, (ad.add (i * 5)).off + 4, none⟩ = some (.int .u64 x.l) := by
  obtain ⟨ad, e, hl, hc⟩ := h i x hx
  exact ⟨ad, e, by rw [gen_block]; exact hl, hc 0 _ rfl, hc 1 _ rfl, hc 2 _ rfl, hc 3 _ rfl, hc 4 _ rfl⟩
def lfE : El lfS := ⟨22, 36, .agg #[.bool false, .string ⟨#[]⟩, .string ⟨#[]⟩, .int .u64 0, .int .u64 0], 56, Tryd.underlying22, by kernel_rfl, rfl, by decide⟩
end Go.Proofs.YtjndabnegmecmaaDoor
