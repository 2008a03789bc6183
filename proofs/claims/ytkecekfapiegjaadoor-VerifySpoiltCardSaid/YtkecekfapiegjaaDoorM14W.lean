/- Several of my texts, laid as one. -/
import Derived.Test.YtkecekfapiegjaaDoorM0Wrd
import Derived.Test.YtkecekfapiegjaaDoorW5Round
import Derived.RangeFuncWrites
import Derived.RangeFuncBox
import Derived.RangeFuncKeeps
import Derived.TacticsInMore
import Derived.LoopNIn
import Derived.LoopIn
/-
  A node's block written anew. No program is named here.
-/
namespace Go.Proofs.YtkecekfapiegjaaDoor
set_option linter.unusedVariables false
set_option linter.unusedSimpArgs false
set_option maxRecDepth 10000
open Go.RowKit

/-- A node's block behind another one, written anew. -/
theorem told4 {w W : World} {b g : Nat} {U T : TypeId} {us : Array Value} {l : List Blk} {a0 b0 c0 : Value} (K : Has w ((b, U, us) :: (g, T, #[a0, b0, c0]) :: l) W) (hg : w.heap.size ≤ g) (hb : g < b) (hl : ∀ x ∈ l, x.1 < g) (x y z : Value) :
    Has w ((b, U, us) :: (g, T, #[x, y, z]) :: l) (((W.setCell ⟨g, 0, none⟩ x).setCell ⟨g, 1, none⟩ y).setCell ⟨g, 2, none⟩ z) := by
  have hn : ∀ x ∈ (b, U, us) :: l, x.1 ≠ g := fun x hx => by
    rcases List.mem_cons.1 hx with rfl | hx
    · exact Nat.ne_of_gt hb
    · exact Nat.ne_of_lt (hl x hx)
  exact (((K.swap.wrote hg hn 0 x).wrote hg hn 1 y).wrote hg hn 2 z).swap
theorem told3 {w W : World} {g : Nat} {T : TypeId} {l : List Blk} {a0 b0 c0 : Value} (K : Has w ((g, T, #[a0, b0, c0]) :: l) W) (hg : w.heap.size ≤ g) (hl : ∀ x ∈ l, x.1 < g) (x y z : Value) :
    Has w ((g, T, #[x, y, z]) :: l) (((W.setCell ⟨g, 0, none⟩ x).setCell ⟨g, 1, none⟩ y).setCell ⟨g, 2, none⟩ z) := by
  have hn : ∀ x ∈ l, x.1 ≠ g := fun x hx => Nat.ne_of_lt (hl x hx)
  exact ((K.wrote hg hn 0 x).wrote hg hn 1 y).wrote hg hn 2 z
/-- A leaf's block written anew. -/
theorem told5 {w W : World} {g : Nat} {T : TypeId} {l : List Blk} {a0 b0 c0 d0 e0 : Value} (K : Has w ((g, T, #[a0, b0, c0, d0, e0]) :: l) W) (hg : w.heap.size ≤ g) (hl : ∀ x ∈ l, x.1 < g) (x y z u v : Value) :
    Has w ((g, T, #[x, y, z, u, v]) :: l) (((((W.setCell ⟨g, 0, none⟩ x).setCell ⟨g, 1, none⟩ y).setCell ⟨g, 2, none⟩ z).setCell ⟨g, 3, none⟩ u).setCell ⟨g, 4, none⟩ v) := by
  have hn : ∀ x ∈ l, x.1 ≠ g := fun x hx => Nat.ne_of_lt (hl x hx)
  exact ((((K.wrote hg hn 0 x).wrote hg hn 1 y).wrote hg hn 2 z).wrote hg hn 3 u).wrote hg hn 4 v
end Go.Proofs.YtkecekfapiegjaaDoor
/-
  Words on what stays while another one writes, and on regions that draw inside a function that is ranged over: no program is named here.
-/
namespace Go.Proofs.YtkecekfapiegjaaDoor
set_option linter.unusedVariables false
set_option linter.unusedSimpArgs false
set_option maxRecDepth 10000
open Go.RowKit

/-- Of the blocks below a height all but some lie as they lay. -/
def KpE (D : Nat) (S : Nat → Prop) (W W' : World) : Prop := W.heap.size ≤ W'.heap.size ∧ ∀ k, k < D → ¬ S k → W'.heap[k]? = W.heap[k]?
section
variable {D : Nat} {S : Nat → Prop} {A B C : World}
theorem KpE.refl (W : World) : KpE D S W W := ⟨Nat.le_refl _, fun _ _ _ => rfl⟩
theorem KpE.trans (h : KpE D S A B) (k : KpE D S B C) : KpE D S A C := ⟨Nat.le_trans h.1 k.1, fun i hi hs => (k.2 i hi hs).trans (h.2 i hi hs)⟩
theorem KpE.below (h : Below A.heap.size A B) (hD : D ≤ A.heap.size) : KpE D S A B := ⟨h.size, fun i hi _ => h.block i (Nat.lt_of_lt_of_le hi hD)⟩
theorem KpE.putObj (W : World) (l : Nat) (o' : Obj) (hl : D ≤ l) : KpE D S W (W.putObj l o') := ⟨by simp, fun i hi _ => World.putObj_heap_other (fun e => by omega)⟩
theorem KpE.grown {row : Option Nat} (h : A.grownBy B row) (hD : D ≤ A.heap.size) (hr : ∀ r, row = some r → S r) : KpE D S A B := ⟨h.size, fun i hi hs => h.block i (Nat.lt_of_lt_of_le hi hD) (fun e => hs (hr i e.symm))⟩
theorem KpE.set_ (W : World) (p : Addr) (u : Value) (hS : S p.block) : KpE D S W (W.setCell p u) := ⟨by simp, fun i hi hs => Below.heap_setCell W p u i (fun e => hs (e ▸ hS))⟩
theorem KpE.high (W : World) (p : Addr) (u : Value) (hS : D ≤ p.block) : KpE D S W (W.setCell p u) := ⟨by simp, fun i hi hs => Below.heap_setCell W p u i (fun e => by omega)⟩
theorem KpE.drew (W : World) : KpE D S W W.drew := ⟨Nat.le_refl _, fun _ _ _ => rfl⟩
theorem KpE.box {g : Nat} {t : TypeId} {cs : Array Value} (h : KpE D S A B) (hg : g < D) (hs : ¬ S g) (hb : Box A g t cs) : Box B g t cs := (h.2 g hg hs).trans hb
theorem KpE.from_ {E : Nat} (h : KpE D S A B) (hE : ∀ k, S k → k < E) (hsz : A.heap.size ≤ D) : KeepsFrom E A B := ⟨h.1, fun k o hk ho => fun _ => by
  have hlt := (Array.getElem?_eq_some_iff.1 ‹_›).1
  exact (h.2 k (Nat.lt_of_lt_of_le hlt hsz) (fun hs => by have := hE k hs; omega)).trans ‹_›⟩
end
theorem abideE {α : Type} {J : List α → World → Prop} {B : Nat} (h : AbidesFrom B J) {s : List α} {W W' : World} (hs : J s W) (hb : Below W.heap.size W W') : J s W' :=
  h s W W' none hs ⟨hb.os, hb.tape, hb.output, hb.size, fun k hk _ => hb.block k hk⟩ (fun r e => by cases e)
theorem box_ownE {β : Type} (B D : Nat) (t : TypeId) (f : β → Array Value) : OwnFrom D (fun s W => Box W B t (f s)) := fun s X Y row hs hg hrow =>
  hs.grown hg fun e => by
    obtain ⟨-, o, ho, hc⟩ := hrow B e.symm
    rw [show X.heap[B]? = _ from hs] at ho
    cases ho
    cases hc
theorem keepsFrom_belowE {B : Nat} {W W' : World} (h : Below W.heap.size W W') : KeepsFrom B W W' := ⟨h.size, fun k o _ hk _ => (h.block k (Array.getElem?_eq_some_iff.1 hk).1).trans hk⟩
theorem box_putE {W : World} {g D : Nat} {t : TypeId} {cs : Array Value} {o' : Obj} (h : Box W g t cs) (hne : g ≠ D) : Box (W.putObj D o') g t cs := (World.putObj_heap_other hne).trans h
/-- The same, where nothing panics. -/
def noPan (Q : Exit → Act → World → Prop) : Exit → Act → World → Prop
  | .panic _, _, _ => False
  | e, a, w => Q e a w
theorem noPan_to (Q : Exit → Act → World → Prop) : ∀ e a w, noPan Q e a w → Q e a w := fun e a w h => by
  cases e <;> first | exact h | exact h.elim
theorem Has.grownE {w W W' : World} {l : List Blk} {row : Option Nat} (p : Has w l W) (hg : W.grownBy W' row) (hw : ∀ r, row = some r → w.heap.size ≤ r) (hl : ∀ r, row = some r → ∀ x ∈ l, x.1 < r) : Has w l W' :=
  ⟨fun x hx => (p.1 x hx).grown hg (fun e => by have := hl x.1 e.symm x hx; omega), p.2.grown hg p.2.size (fun j hj => hw j hj)⟩
theorem two_new (W : World) (t : TypeId) (x y : Array Value) : Box ((W.alloc (.cells x t)).alloc (.cells y t)).drew W.heap.size t x ∧ Box ((W.alloc (.cells x t)).alloc (.cells y t)).drew (W.heap.size + 1) t y := by
  refine ⟨(Box.made W t x).past _, ?_⟩
  have h := Box.made (W.alloc (.cells x t)) t y
  rw [World.size_alloc] at h
  exact h
theorem two_below (W : World) (o o' : Obj) : Below W.heap.size W ((W.alloc o).alloc o').drew := (chainA (chainA (Below.refl _ W) o) o').drew
theorem two_keeps (W : World) (o o' : Obj) (B : Nat) : KeepsFrom B W ((W.alloc o).alloc o').drew := (((KeepsOthers.alloc W o).trans (KeepsOthers.alloc _ o')).trans (KeepsOthers.drew _)).from _
theorem Has.some_ {w W : World} {l l' : List Blk} (h : Has w l W) (hs : ∀ x ∈ l', x ∈ l) : Has w l' W := ⟨fun x hx => h.1 x (hs x hx), h.2⟩
/-- Two blocks written anew, one behind the other. -/
theorem two_put {w W : World} {L R D : Nat} {S : Nat → Prop} {t : TypeId} {a0 a1 a2 b0 b1 b2 : Value} {l : List Blk} (hK : Has w l W) (bL : Box W L t #[a0, a1, a2]) (bR : Box W R t #[b0, b1, b2]) (hne : L ≠ R) (hwL : w.heap.size ≤ L) (hwR : w.heap.size ≤ R)
    (hl : ∀ x ∈ l, x.1 ≠ L ∧ x.1 ≠ R) (hDL : D ≤ L) (hDR : D ≤ R) (x0 x1 x2 y0 y1 y2 : Value) :
    Box (((((((W.setCell ⟨L, 0, none⟩ x0).setCell ⟨L, 1, none⟩ x1).setCell ⟨L, 2, none⟩ x2).setCell ⟨R, 0, none⟩ y0).setCell ⟨R, 1, none⟩ y1).setCell ⟨R, 2, none⟩ y2).drew) L t #[x0, x1, x2] ∧
    Box (((((((W.setCell ⟨L, 0, none⟩ x0).setCell ⟨L, 1, none⟩ x1).setCell ⟨L, 2, none⟩ x2).setCell ⟨R, 0, none⟩ y0).setCell ⟨R, 1, none⟩ y1).setCell ⟨R, 2, none⟩ y2).drew) R t #[y0, y1, y2] ∧
    Has w l (((((((W.setCell ⟨L, 0, none⟩ x0).setCell ⟨L, 1, none⟩ x1).setCell ⟨L, 2, none⟩ x2).setCell ⟨R, 0, none⟩ y0).setCell ⟨R, 1, none⟩ y1).setCell ⟨R, 2, none⟩ y2).drew) ∧
    KeepsFrom D W (((((((W.setCell ⟨L, 0, none⟩ x0).setCell ⟨L, 1, none⟩ x1).setCell ⟨L, 2, none⟩ x2).setCell ⟨R, 0, none⟩ y0).setCell ⟨R, 1, none⟩ y1).setCell ⟨R, 2, none⟩ y2).drew) ∧
    KpE D S W (((((((W.setCell ⟨L, 0, none⟩ x0).setCell ⟨L, 1, none⟩ x1).setCell ⟨L, 2, none⟩ x2).setCell ⟨R, 0, none⟩ y0).setCell ⟨R, 1, none⟩ y1).setCell ⟨R, 2, none⟩ y2).drew) := by
  have nL : ∀ x ∈ ((R, t, #[b0, b1, b2]) :: l : List Blk), x.1 ≠ L := fun x hx => by
    rcases List.mem_cons.1 hx with rfl | hx
    · exact fun e => hne e.symm
    · exact (hl x hx).1
  have nR : ∀ x ∈ ((L, t, #[x0, x1, x2]) :: l : List Blk), x.1 ≠ R := fun x hx => by
    rcases List.mem_cons.1 hx with rfl | hx
    · exact hne
    · exact (hl x hx).2
  have K3 : Has w ((L, t, #[x0, x1, x2]) :: (R, t, #[b0, b1, b2]) :: l) _ := ((((hK.with bR).with bL).wrote hwL nL 0 x0).wrote hwL nL 1 x1).wrote hwL nL 2 x2
  have K6 : Has w ((R, t, #[y0, y1, y2]) :: (L, t, #[x0, x1, x2]) :: l) _ := ((K3.swap.wrote hwR nR 0 y0).wrote hwR nR 1 y1).wrote hwR nR 2 y2
  refine ⟨(K6.drew.box 1), (K6.drew.box 0), K6.drew.tail.tail, ?_, ?_⟩
  · exact ((((((KeepsOthers.setCell W ⟨L, 0, none⟩ x0).trans (KeepsOthers.setCell _ ⟨L, 1, none⟩ x1)).trans (KeepsOthers.setCell _ ⟨L, 2, none⟩ x2)).trans (KeepsOthers.setCell _ ⟨R, 0, none⟩ y0)).trans (KeepsOthers.setCell _ ⟨R, 1, none⟩ y1)).trans (KeepsOthers.setCell _ ⟨R, 2, none⟩ y2)).trans (KeepsOthers.drew _) |>.from _
  · exact ((((((KpE.high W ⟨L, 0, none⟩ x0 hDL).trans (KpE.high _ ⟨L, 1, none⟩ x1 hDL)).trans (KpE.high _ ⟨L, 2, none⟩ x2 hDL)).trans (KpE.high _ ⟨R, 0, none⟩ y0 hDR)).trans (KpE.high _ ⟨R, 1, none⟩ y1 hDR)).trans (KpE.high _ ⟨R, 2, none⟩ y2 hDR)).trans (KpE.drew _)
/-- The same, where nothing draws behind. -/
theorem two_putN {w W : World} {L R : Nat} {t : TypeId} {a0 a1 a2 b0 b1 b2 : Value} {l : List Blk} (hK : Has w l W) (bL : Box W L t #[a0, a1, a2]) (bR : Box W R t #[b0, b1, b2]) (hne : L ≠ R) (hwL : w.heap.size ≤ L) (hwR : w.heap.size ≤ R)
    (hl : ∀ x ∈ l, x.1 ≠ L ∧ x.1 ≠ R) (x0 x1 x2 y0 y1 y2 : Value) :
    Has w ((R, t, #[y0, y1, y2]) :: (L, t, #[x0, x1, x2]) :: l) ((((((W.setCell ⟨L, 0, none⟩ x0).setCell ⟨L, 1, none⟩ x1).setCell ⟨L, 2, none⟩ x2).setCell ⟨R, 0, none⟩ y0).setCell ⟨R, 1, none⟩ y1).setCell ⟨R, 2, none⟩ y2) := by
  have nL : ∀ x ∈ ((R, t, #[b0, b1, b2]) :: l : List Blk), x.1 ≠ L := fun x hx => by
    rcases List.mem_cons.1 hx with rfl | hx
    · exact fun e => hne e.symm
    · exact (hl x hx).1
  have nR : ∀ x ∈ ((L, t, #[x0, x1, x2]) :: l : List Blk), x.1 ≠ R := fun x hx => by
    rcases List.mem_cons.1 hx with rfl | hx
    · exact hne
    · exact (hl x hx).2
  have K3 : Has w ((L, t, #[x0, x1, x2]) :: (R, t, #[b0, b1, b2]) :: l) _ := ((((hK.with bR).with bL).wrote hwL nL 0 x0).wrote hwL nL 1 x1).wrote hwL nL 2 x2
  exact ((K3.swap.wrote hwR nR 0 y0).wrote hwR nR 1 y1).wrote hwR nR 2 y2
end Go.Proofs.YtkecekfapiegjaaDoor
