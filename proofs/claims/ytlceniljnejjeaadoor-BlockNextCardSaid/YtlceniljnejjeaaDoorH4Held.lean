/-
  What is held in a region whose operations may run in any order, where calls ask for the table: the blocks, the table, and the facts that they tell.
-/
import Derived.Test.YtlceniljnejjeaaDoorU4Awake
namespace Go.Proofs.YtlceniljnejjeaaDoor
set_option linter.unusedVariables false
set_option linter.unusedSimpArgs false
open Go.RowKit

theorem size_al (w : World) (o : Obj) : (w.alloc o).heap.size = w.heap.size + 1 := by simp
theorem size_dr (w : World) : w.drew.heap.size = w.heap.size := rfl
def HasT (w : World) (l : List Blk) (u : World) : Prop := Has w l u ∧ Tab u
section
variable {w W w' : World} {l : List Blk} {C : World → Prop}
theorem heldT_start (fact : ∀ u, Has w l u → C u) (h : Has w l W) (t : Tab W) : HasT w l W ∧ C W := ⟨⟨h, t⟩, fact _ h⟩
theorem heldT_keep (fact : ∀ u, Has w l u → C u) (h : HasT w l W ∧ C W) (hb : Below W.heap.size W w') : HasT w l w' ∧ C w' := ⟨⟨h.1.1.call hb, h.1.2.call hb⟩, fact _ (h.1.1.call hb)⟩
theorem heldT_past (fact : ∀ u, Has w l u → C u) (h : HasT w l W ∧ C W) (o : Obj) : HasT w l (W.alloc o) ∧ C (W.alloc o) := ⟨⟨h.1.1.past o, h.1.2.past o⟩, fact _ (h.1.1.past o)⟩
theorem heldT_set (fact : ∀ u, Has w l u → C u) (h : HasT w l W ∧ C W) {g : Nat} (hg : w.heap.size ≤ g) (h0 : 0 < g) (hl : ∀ x ∈ l, x.1 ≠ g) (v0 v1 v2 v3 v4 v5 v6 v7 : Value) :
    HasT w l (set8v W g v0 v1 v2 v3 v4 v5 v6 v7) ∧ C (set8v W g v0 v1 v2 v3 v4 v5 v6 v7) :=
  have hs := h.1.1.set8v hg hl v0 v1 v2 v3 v4 v5 v6 v7
  ⟨⟨hs, h.1.2.set8v h0 v0 v1 v2 v3 v4 v5 v6 v7⟩, fact _ hs⟩
theorem heldT_set1 (fact : ∀ u, Has w l u → C u) {p : Addr} (hp : w.heap.size ≤ p.block) (h0 : 0 < p.block) (hl : ∀ x ∈ l, x.1 ≠ p.block) (v : Value) (h : HasT w l W ∧ C W) : HasT w l (W.setCell p v) ∧ C (W.setCell p v) := by
  obtain ⟨b, o, sp⟩ := p
  have hs := h.1.1.set_ (p := ⟨b, o, sp⟩) hp hl v
  exact ⟨⟨hs, by simpa [World.setCell] using h.1.2.1, fun j hj => (World.cell?_setCell_far W ⟨b, o, sp⟩ ⟨0, j, none⟩ v (Nat.ne_of_gt h0)).trans (h.1.2.2 j hj)⟩, fact _ hs⟩
theorem tabOf (h : HasT w l W ∧ C W) : Tab W := h.1.2
theorem hasOf (h : HasT w l W ∧ C W) : Has w l W := h.1.1
end
end Go.Proofs.YtlceniljnejjeaaDoor
