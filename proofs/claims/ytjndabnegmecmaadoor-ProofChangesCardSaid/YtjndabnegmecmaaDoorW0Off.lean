/-
  My own words on memory: all but some blocks are as they were. No program is named here.
-/
import Derived.Test.YtjndabnegmecmaaDoorW1Has
namespace Go.Proofs.YtjndabnegmecmaaDoor
set_option linter.unusedVariables false
set_option linter.unusedSimpArgs false
set_option maxRecDepth 10000
open Go.RowKit

/-- Of what was there nothing has turned but the blocks in S. -/
structure Off (S : Nat → Prop) (w w' : World) : Prop where
  os : w'.os = w.os
  tape : w'.tape = w.tape
  output : w'.output = w.output
  size : w.heap.size ≤ w'.heap.size
  block : ∀ k, k < w.heap.size → ¬ S k → w'.heap[k]? = w.heap[k]?
section
variable {S T : Nat → Prop} {w W w' : World}
theorem Off.refl (S : Nat → Prop) (w : World) : Off S w w := ⟨rfl, rfl, rfl, Nat.le_refl _, fun _ _ _ => rfl⟩
theorem Off.call (h : Off S w W) (hb : Below W.heap.size W w') : Off S w w' :=
  ⟨hb.os.trans h.os, hb.tape.trans h.tape, hb.output.trans h.output, Nat.le_trans h.size hb.size, fun k hk hne => (hb.block k (Nat.lt_of_lt_of_le hk h.size)).trans (h.block k hk hne)⟩
theorem Off.past (h : Off S w W) (o : Obj) : Off S w (W.alloc o) := h.call ((Below.refl _ W).alloc (Nat.le_refl _) o)
theorem Off.drew (h : Off S w W) : Off S w W.drew := ⟨h.os, h.tape, h.output, h.size, h.block⟩
theorem Off.drewN (h : Off S w W) (n : Nat) : Off S w (W.drewN n) := ⟨h.os, h.tape, h.output, h.size, h.block⟩
theorem Off.set_ (h : Off S w W) {p : Addr} (hp : S p.block ∨ w.heap.size ≤ p.block) (v : Value) : Off S w (W.setCell p v) :=
  ⟨h.os, h.tape, h.output, by simpa [World.setCell] using h.size, fun k hk hne => (Below.heap_setCell W p v k (by rintro rfl; rcases hp with hp | hp; exact hne hp; omega)).trans (h.block k hk hne)⟩
theorem Off.trans (h : Off S w W) (k : Off S W w') : Off S w w' :=
  ⟨k.os.trans h.os, k.tape.trans h.tape, k.output.trans h.output, Nat.le_trans h.size k.size, fun i hi hne => (k.block i (Nat.lt_of_lt_of_le hi h.size) hne).trans (h.block i hi hne)⟩
/-- What is turned behind it: what S lists, or what was made since. -/
theorem Off.behind (h : Off S w W) (k : Off T W w') (hT : ∀ i, T i → S i ∨ w.heap.size ≤ i) : Off S w w' :=
  ⟨k.os.trans h.os, k.tape.trans h.tape, k.output.trans h.output, Nat.le_trans h.size k.size, fun i hi hne => (k.block i (Nat.lt_of_lt_of_le hi h.size) (fun ht => by rcases hT i ht with h | h; exact hne h; omega)).trans (h.block i hi hne)⟩
theorem Off.mono (h : Off S w W) (hS : ∀ i, S i → T i) : Off T w W := ⟨h.os, h.tape, h.output, h.size, fun k hk hne => h.block k hk (fun hs => hne (hS k hs))⟩
theorem Off.below {B : Nat} (h : Off S w w') (hB : ∀ i, S i → B ≤ i) (hw : B ≤ w.heap.size) : Below B w w' :=
  ⟨h.os, h.tape, h.output, h.size, fun k hk => h.block k (by omega) (fun hs => by have := hB k hs; omega)⟩
theorem Off.of {S : Nat → Prop} (hb : Below w.heap.size w w') : Off S w w' := (Off.refl S w).call hb
theorem Off.box {b : Nat} {t : TypeId} {cs : Array Value} (h : Off S w w') (hx : Box w b t cs) (hne : ¬ S b) : Box w' b t cs := (h.block b hx.inside hne).trans hx
end
/-- Only one block has turned. -/
abbrev One (g : Nat) : Nat → Prop := fun i => i = g
theorem Has.off {S : Nat → Prop} {w W w' : World} {l : List Blk} (h : Has w l W) (k : Off S W w') (hS : ∀ i, S i → w.heap.size ≤ i) (hl : ∀ x ∈ l, ¬ S x.1) : Has w l w' :=
  ⟨fun x hx => k.box (h.1 x hx) (hl x hx), h.2.trans (k.below hS h.2.size)⟩

theorem Off.grown {S : Nat → Prop} {w W w' : World} {row : Option Nat} (h : Off S w W) (hg : W.grownBy w' row) (hr : ∀ j, row = some j → S j ∨ w.heap.size ≤ j) : Off S w w' :=
  ⟨hg.os.trans h.os, hg.tape.trans h.tape, hg.output.trans h.output, Nat.le_trans h.size hg.size, fun k hk hne => (hg.block k (Nat.lt_of_lt_of_le hk h.size) (fun e => by
    rcases hr k e.symm with h1 | h1
    · exact hne h1
    · omega)).trans (h.block k hk hne)⟩
theorem Box.madeAt {w : World} {g : Nat} (hg : w.heap.size = g) (t : TypeId) (cs : Array Value) : Box (w.alloc (.cells cs t)) g t cs := hg ▸ Box.made w t cs
theorem Box.uniq {w : World} {g : Nat} {t t' : TypeId} {cs cs' : Array Value} (h : Box w g t cs) (h' : Box w g t' cs') : cs = cs' := by
  unfold Box at h h'
  rw [h] at h'
  injection h' with h'
  injection h' with h1 h2 h3
theorem Box.unlike {w : World} {g g' : Nat} {t t' : TypeId} {cs cs' : Array Value} (h : Box w g t cs) (h' : Box w g' t' cs') (hs : cs.size ≠ cs'.size) : g ≠ g' := by
  rintro rfl
  exact hs (by rw [h.uniq h'])
end Go.Proofs.YtjndabnegmecmaaDoor
