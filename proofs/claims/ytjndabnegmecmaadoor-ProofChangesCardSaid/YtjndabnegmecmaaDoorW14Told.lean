/-
  A node's block written anew. No program is named here.
-/
import Derived.Test.YtjndabnegmecmaaDoorW1Has
namespace Go.Proofs.YtjndabnegmecmaaDoor
set_option linter.unusedVariables false
set_option linter.unusedSimpArgs false
set_option maxRecDepth 10000
open Go.RowKit

/-- A node's block behind another one, written anew. -/
theorem told4 {w W : World} {b g : Nat} {U T : TypeId} {us : Array Value} {l : List Blk} {a0 b0 c0 : Value} (K : Has w ((b, U, us) :: (g, T, #[a0, b0, c0]) :: l) W) (hg : w.heap.size ≤ g) (hb : g < b) (hl : ∀ x ∈ l, x.1 < g) (x y z : Value) :
    Has w ((b, U, us) :: (g, T, #[x, y, z]) :: l) (((W.setCell ⟨g, 0, none⟩ x).setCell ⟨g, 1, none⟩ y).setCell ⟨g, 2, none⟩ z) := by
  have hn : ∀ x ∈ (b, U, us) :: l, x.1 ≠ g := fun x hx => by
    rcases List.mem_cons.1 hx with rfl | hx
    · exact Nat.ne_of_gt hb
    · exact Nat.ne_of_lt (hl x hx)
  exact (((K.swap.wrote hg hn 0 x).wrote hg hn 1 y).wrote hg hn 2 z).swap
theorem told3 {w W : World} {g : Nat} {T : TypeId} {l : List Blk} {a0 b0 c0 : Value} (K : Has w ((g, T, #[a0, b0, c0]) :: l) W) (hg : w.heap.size ≤ g) (hl : ∀ x ∈ l, x.1 < g) (x y z : Value) :
    Has w ((g, T, #[x, y, z]) :: l) (((W.setCell ⟨g, 0, none⟩ x).setCell ⟨g, 1, none⟩ y).setCell ⟨g, 2, none⟩ z) := by
  have hn : ∀ x ∈ l, x.1 ≠ g := fun x hx => Nat.ne_of_lt (hl x hx)
  exact ((K.wrote hg hn 0 x).wrote hg hn 1 y).wrote hg hn 2 z
/-- A leaf's block written anew. -/
theorem told5 {w W : World} {g : Nat} {T : TypeId} {l : List Blk} {a0 b0 c0 d0 e0 : Value} (K : Has w ((g, T, #[a0, b0, c0, d0, e0]) :: l) W) (hg : w.heap.size ≤ g) (hl : ∀ x ∈ l, x.1 < g) (x y z u v : Value) :
    Has w ((g, T, #[x, y, z, u, v]) :: l) (((((W.setCell ⟨g, 0, none⟩ x).setCell ⟨g, 1, none⟩ y).setCell ⟨g, 2, none⟩ z).setCell ⟨g, 3, none⟩ u).setCell ⟨g, 4, none⟩ v) := by
  have hn : ∀ x ∈ l, x.1 ≠ g := fun x hx => Nat.ne_of_lt (hl x hx)
  exact ((((K.wrote hg hn 0 x).wrote hg hn 1 y).wrote hg hn 2 z).wrote hg hn 3 u).wrote hg hn 4 v
end Go.Proofs.YtjndabnegmecmaaDoor
