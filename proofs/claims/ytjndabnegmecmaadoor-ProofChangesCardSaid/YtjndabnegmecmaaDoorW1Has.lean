/-
  My own words on memory, for all: a list of blocks that are known whole, with that nothing below a height has turned; carried by calls that only make new blocks, by new blocks, by draws, by writes.
-/
import Derived.Test.YtjndabnegmecmaaDoorW0Words
namespace Go.Proofs.YtjndabnegmecmaaDoor
set_option linter.unusedVariables false
set_option linter.unusedSimpArgs false
set_option maxRecDepth 10000
open Go.RowKit

theorem Box.two {w : World} {g : Nat} {t : TypeId} {x y : Value} (h : Box w g t #[x, y]) :
    w.cell? ⟨g, 0, none⟩ = some x ∧ w.cell? ⟨g, 1, none⟩ = some y ∧ w.frozen? ⟨g, 0, none⟩ = false ∧ w.frozen? ⟨g, 1, none⟩ = false ∧ g < w.heap.size := ⟨h.read 0, h.read 1, h.free 0, h.free 1, h.inside⟩
theorem Box.three {w : World} {g : Nat} {t : TypeId} {x y z : Value} (h : Box w g t #[x, y, z]) :
    w.cell? ⟨g, 0, none⟩ = some x ∧ w.cell? ⟨g, 1, none⟩ = some y ∧ w.cell? ⟨g, 2, none⟩ = some z ∧ w.frozen? ⟨g, 0, none⟩ = false ∧ w.frozen? ⟨g, 1, none⟩ = false ∧ w.frozen? ⟨g, 2, none⟩ = false ∧ g < w.heap.size :=
  ⟨h.read 0, h.read 1, h.read 2, h.free 0, h.free 1, h.free 2, h.inside⟩

/-- A block: where it lies, its cells' type, its cells. -/
abbrev Blk := Nat × TypeId × Array Value
/-- These blocks lie in W as said; nothing of w below its own height has turned. -/
def Has (w : World) (l : List Blk) (W : World) : Prop := (∀ x ∈ l, Box W x.1 x.2.1 x.2.2) ∧ Below w.heap.size w W
section
variable {w W w' : World} {l : List Blk}
theorem Has.start (w : World) : Has w [] w := ⟨fun x h => by simp at h, Below.refl _ _⟩
theorem Has.below (h : Has w l W) : Below w.heap.size w W := h.2
theorem Has.size (h : Has w l W) : w.heap.size ≤ W.heap.size := h.2.size
theorem Has.add (h : Has w l W) (t : TypeId) (cs : Array Value) : Has w ((W.heap.size, t, cs) :: l) (W.alloc (.cells cs t)) := by
  refine ⟨fun x hx => ?_, chainA h.2 _⟩
  rcases List.mem_cons.1 hx with rfl | hx
  · exact Box.made W t cs
  · exact (h.1 x hx).past _
theorem Has.addAt (h : Has w l W) (t : TypeId) (cs : Array Value) {g : Nat} (hg : W.heap.size = g) : Has w ((g, t, cs) :: l) (W.alloc (.cells cs t)) := hg ▸ h.add t cs
theorem Has.past (h : Has w l W) (o : Obj) : Has w l (W.alloc o) := ⟨fun x hx => (h.1 x hx).past o, chainA h.2 o⟩
theorem Has.call (h : Has w l W) (hb : Below W.heap.size W w') : Has w l w' := ⟨fun x hx => (h.1 x hx).call hb, chain h.2 hb⟩
theorem Has.drew (h : Has w l W) : Has w l W.drew := ⟨fun x hx => h.1 x hx, h.2.drew⟩
theorem Has.drewN (h : Has w l W) (n : Nat) : Has w l (W.drewN n) := ⟨fun x hx => h.1 x hx, below_drewN h.2 n⟩
theorem Has.box {g : Nat} {t : TypeId} {cs : Array Value} (h : Has w l W) (n : Nat) (e : l[n]? = some (g, t, cs) := by rfl) : Box W g t cs := h.1 (g, t, cs) (List.mem_of_getElem? e)
theorem Has.head {g : Nat} {t : TypeId} {cs : Array Value} (h : Has w ((g, t, cs) :: l) W) : Box W g t cs := h.1 (g, t, cs) (by simp)
theorem Has.tail {x : Blk} (h : Has w (x :: l) W) : Has w l W := ⟨fun y hy => h.1 y (by simp [hy]), h.2⟩
theorem Has.swap {x y : Blk} (h : Has w (x :: y :: l) W) : Has w (y :: x :: l) W := ⟨fun z hz => h.1 z (by simp only [List.mem_cons] at hz ⊢; rcases hz with h | h | h <;> simp [h]), h.2⟩
theorem Has.with {g : Nat} {t : TypeId} {cs : Array Value} (h : Has w l W) (hb : Box W g t cs) : Has w ((g, t, cs) :: l) W := ⟨fun x hx => by
  rcases List.mem_cons.1 hx with rfl | hx
  · exact hb
  · exact h.1 x hx, h.2⟩
/-- A cell of a block that isn't among them is written. -/
theorem Has.set_ (h : Has w l W) {p : Addr} (hp : w.heap.size ≤ p.block) (hl : ∀ x ∈ l, x.1 ≠ p.block) (u : Value) : Has w l (W.setCell p u) :=
  ⟨fun x hx => (h.1 x hx).apart (hl x hx) u, h.2.setCell hp u⟩
/-- A cell of the first of them is written. -/
theorem Has.wrote {g : Nat} {t : TypeId} {cs : Array Value} (h : Has w ((g, t, cs) :: l) W) (hg : w.heap.size ≤ g) (hl : ∀ x ∈ l, x.1 ≠ g) (i : Nat) (u : Value) :
    Has w ((g, t, cs.setIfInBounds i u) :: l) (W.setCell ⟨g, i, none⟩ u) := (h.tail.set_ (p := ⟨g, i, none⟩) hg hl u).with (h.head.wrote i u)
/-- A law's own: what another world has below a height is below it here too. -/
theorem Has.trans {l' : List Blk} (h : Has w l W) (h' : Has W l' w') : Has w (l' ++ l) w' := by
  refine ⟨fun x hx => ?_, Go.Proofs.YtjndabnegmecmaaDoor.chain h.2 h'.2⟩
  rcases List.mem_append.1 hx with hx | hx
  · exact h'.1 x hx
  · exact (h.1 x hx).call h'.2
/-- What is held in a region whose operations may run in any order: the blocks, and the facts that they tell. -/
theorem held_keep {C : World → Prop} (fact : ∀ u, Has w l u → C u) (h : Has w l W ∧ C W) (hb : Below W.heap.size W w') : Has w l w' ∧ C w' := ⟨h.1.call hb, fact _ (h.1.call hb)⟩
theorem held_past {C : World → Prop} (fact : ∀ u, Has w l u → C u) (h : Has w l W ∧ C W) (o : Obj) : Has w l (W.alloc o) ∧ C (W.alloc o) := ⟨h.1.past o, fact _ (h.1.past o)⟩
theorem held_drew {C : World → Prop} (fact : ∀ u, Has w l u → C u) (h : Has w l W) : Has w l W.drew ∧ C W.drew := ⟨h.drew, fact _ h.drew⟩
end
end Go.Proofs.YtjndabnegmecmaaDoor
