/- Several of my texts, laid as one. -/
import Derived.Test.YtkecekfapiegjaaDoorU1Nums
import Derived.Laws.OwnMore
import Derived.Laws.Rows
import Derived.Laws.AppendOwn
import Derived.OwnWalk
/-
  My own words on memory: a block known whole, a row that is owned, kept behind calls that only make new blocks.
-/
namespace Go.Proofs.YtkecekfapiegjaaDoor
set_option linter.unusedVariables false
set_option linter.unusedSimpArgs false
set_option maxRecDepth 10000
open Go.RowKit

/-- Block g holds just these cells, none of them fixed. -/
def Box (w : World) (g : Nat) (t : TypeId) (cs : Array Value) : Prop := w.heap[g]? = some (.cells cs t (0, 0))

section
variable {w w' : World} {g : Nat} {t : TypeId} {cs : Array Value}
theorem Box.inside (h : Box w g t cs) : g < w.heap.size := by
  unfold Box at h
  exact (Array.getElem?_eq_some_iff.1 h).1
theorem Box.read (h : Box w g t cs) (i : Nat) : w.cell? ⟨g, i, none⟩ = cs[i]? := cell_of_row w g i cs t (0, 0) h
theorem Box.free (h : Box w g t cs) (i : Nat) : w.frozen? ⟨g, i, none⟩ = false := by
  unfold Box at h
  simp [World.frozen?, h]
theorem Box.made (w : World) (t : TypeId) (cs : Array Value) : Box (w.alloc (.cells cs t)) w.heap.size t cs := by
  show (w.heap.push _)[w.heap.size]? = _
  simp
theorem Box.past (h : Box w g t cs) (o : Obj) : Box (w.alloc o) g t cs := (Below.heap_alloc w o g h.inside).trans h
theorem Box.draws (h : Box w g t cs) (n : Nat) : Box (w.drewN n) g t cs := h
theorem Box.draw (h : Box w g t cs) : Box w.drew g t cs := h
theorem Box.wrote (h : Box w g t cs) (i : Nat) (u : Value) : Box (w.setCell ⟨g, i, none⟩ u) g t (cs.setIfInBounds i u) := by
  unfold Box at h ⊢
  simp [World.setCell, Array.getElem?_modify, h]
theorem Box.apart (h : Box w g t cs) {p : Addr} (hp : g ≠ p.block) (u : Value) : Box (w.setCell p u) g t cs := (Below.heap_setCell w p u g hp).trans h
theorem Box.below {B : Nat} (h : Box w g t cs) (hb : Below B w w') (hg : g < B) : Box w' g t cs := (hb.block g hg).trans h
theorem Box.call (h : Box w g t cs) (hb : Below w.heap.size w w') : Box w' g t cs := h.below hb h.inside
theorem Box.grown {row : Option Nat} (h : Box w g t cs) (hb : w.grownBy w' row) (hg : some g ≠ row) : Box w' g t cs := (hb.block g h.inside hg).trans h
end

theorem Box.num {w : World} {g : Nat} {t : TypeId} {x y : Int} (h : Box w g t #[.int .u64 x, .int .u64 y]) :
    w.cell? ⟨g, 0, none⟩ = some (.int .u64 x) ∧ w.cell? ⟨g, 1, none⟩ = some (.int .u64 y) ∧ g < w.heap.size := ⟨h.read 0, h.read 1, h.inside⟩

theorem chain {w W w' : World} (h : Below w.heap.size w W) (hb : Below W.heap.size W w') : Below w.heap.size w w' := h.trans (hb.mono h.size)
theorem chainA {w W : World} (h : Below w.heap.size w W) (o : Obj) : Below w.heap.size w (W.alloc o) := h.alloc h.size o
/-- What is kept in a region that holds calls: all that W had, and with it every cell that was known of it. -/
theorem keep_first {W W1 w' : World} {P Q : Prop} (h : Below W.heap.size W W1 ∧ P) (hb : Below W1.heap.size W1 w') (k : Below W.heap.size W w' → Q) : Q := k (h.1.trans (hb.mono h.1.size))

section
variable {w w' : World} {base : Nat} {e : TypeId} {size : Nat} {v : Value} {n : Nat} {xs : List Value}
/-- An owned row stays behind a call that only makes new blocks. -/
theorem own_below (h : w.ownsRow base e size v n xs) (hb : Below w.heap.size w w') : w'.ownsRow base e size v n xs := by
  refine ⟨h.1, ?_⟩
  rcases h.2 with h2 | ⟨g, cap, cur, hv, hg, hh, r⟩
  · exact .inl h2
  · exact .inr ⟨g, cap, cur, hv, hg, (hb.block g (Array.getElem?_eq_some_iff.1 hh).1).trans hh, r⟩
theorem own_draws (h : w.ownsRow base e size v n xs) (k : Nat) : (w.drewN k).ownsRow base e size v n xs := h
theorem own_mono {base' : Nat} (h : w.ownsRow base e size v n xs) (hb : base' ≤ base) : w.ownsRow base' e size v n xs := by
  refine ⟨h.1, ?_⟩
  rcases h.2 with h2 | ⟨g, cap, cur, hv, hg, r⟩
  · exact .inl h2
  · exact .inr ⟨g, cap, cur, hv, Nat.le_trans hb hg, r⟩
/-- Another block's cell is written. -/
theorem own_apart (h : w.ownsRow base e size v n xs) {p : Addr} (hp : v.ownBlock ≠ some p.block) (u : Value) : (w.setCell p u).ownsRow base e size v n xs := by
  refine ⟨h.1, ?_⟩
  rcases h.2 with h2 | ⟨g, cap, cur, hv, hg, hh, r⟩
  · exact .inl h2
  · refine .inr ⟨g, cap, cur, hv, hg, (Below.heap_setCell w p u g ?_).trans hh, r⟩
    intro hgp
    exact hp (by rw [hv, hgp]; rfl)
/-- A row that is not empty: its block, its cells. -/
theorem own_row (h : w.ownsRow base e 1 v n xs) (hn : 0 < n) : ∃ g cap, v = .slice (some ⟨g, 0, none⟩) n cap ∧ base ≤ g ∧ g < w.heap.size ∧ n ≤ cap ∧ cap ≤ maxLen ∧
    (∀ j u, xs[j]? = some u → w.cell? ⟨g, j, none⟩ = some u) ∧ (∀ j, w.frozen? ⟨g, j, none⟩ = false) := by
  rcases h.2 with ⟨_, h2⟩ | ⟨g, cap, cur, hv, hg, hh, hc, hm, r⟩
  · omega
  · subst hv
    refine ⟨g, cap, rfl, hg, (Array.getElem?_eq_some_iff.1 hh).1, hc, hm, fun j u hu => ?_, fun j => h.frozenAt j⟩
    have hj : j < n * 1 := by rw [← h.1]; exact (List.getElem?_eq_some_iff.1 hu).1
    rw [h.cellAt j hj, hu]
end

/-- A number in its block, nothing else turned. -/
def OneIn (w : World) (ah al : Int) (w' : World) : Prop := Box w' w.heap.size 24 #[.int .u64 ah, .int .u64 al] ∧ Below w.heap.size w w'
section
variable {w W w' : World} {ah al : Int}
theorem OneIn.call (h : OneIn w ah al W) (hb : Below W.heap.size W w') : OneIn w ah al w' := ⟨h.1.call hb, chain h.2 hb⟩
theorem OneIn.past (h : OneIn w ah al W) (o : Obj) : OneIn w ah al (W.alloc o) := ⟨h.1.past o, chainA h.2 o⟩
theorem OneIn.drew (h : OneIn w ah al W) : OneIn w ah al W.drew := ⟨h.1.draw, h.2.drew⟩
theorem OneIn.set_ (h : OneIn w ah al W) {p : Addr} (hp : w.heap.size < p.block) (u : Value) : OneIn w ah al (W.setCell p u) := ⟨h.1.apart (by omega) u, h.2.setCell (by omega) u⟩
end
/-- Two numbers in their blocks, nothing else turned. -/
def AB (w : World) (ah al bh bl : Int) (w' : World) : Prop := Box w' w.heap.size 24 #[.int .u64 ah, .int .u64 al] ∧ Box w' (w.heap.size + 1) 24 #[.int .u64 bh, .int .u64 bl] ∧ Below w.heap.size w w'
section
variable {w W w' : World} {ah al bh bl : Int}
theorem AB.call (h : AB w ah al bh bl W) (hb : Below W.heap.size W w') : AB w ah al bh bl w' := ⟨h.1.call hb, h.2.1.call hb, chain h.2.2 hb⟩
theorem AB.past (h : AB w ah al bh bl W) (o : Obj) : AB w ah al bh bl (W.alloc o) := ⟨h.1.past o, h.2.1.past o, chainA h.2.2 o⟩
theorem AB.set_ (h : AB w ah al bh bl W) {p : Addr} (hp : w.heap.size + 1 < p.block) (u : Value) : AB w ah al bh bl (W.setCell p u) :=
  ⟨h.1.apart (by omega) u, h.2.1.apart (by omega) u, h.2.2.setCell (by omega) u⟩
theorem AB.drew (h : AB w ah al bh bl W) : AB w ah al bh bl W.drew := ⟨h.1.draw, h.2.1.draw, h.2.2.drew⟩
theorem AB.cells (h : AB w ah al bh bl W) : W.cell? ⟨w.heap.size, 0, none⟩ = some (.int .u64 ah) ∧ W.cell? ⟨w.heap.size, 1, none⟩ = some (.int .u64 al) ∧ W.cell? ⟨w.heap.size + 1, 0, none⟩ = some (.int .u64 bh) ∧
    W.cell? ⟨w.heap.size + 1, 1, none⟩ = some (.int .u64 bl) ∧ w.heap.size < W.heap.size ∧ w.heap.size + 1 < W.heap.size := ⟨h.1.read 0, h.1.read 1, h.2.1.read 0, h.2.1.read 1, h.1.inside, h.2.1.inside⟩
end

/-- 'out = append(out, x, ..)': the new elements lie in a fresh block; out is a row of the call's own. What is left: the row has grown; blocks below the row's base, and whatever was known of them, are as they were. -/
theorem wp_append_new {P : Program} {ops : Array Oper} {rest : List Oper} {o : Oper} {a : Act} {Q : Exit → Act → World → Prop} {w : World} (hgd : o.guard = none) (s x : Operand) (t : TypeId)
    (ho : o.op = .call { callee := .builtin .append, args := #[s, x], argTypes := #[t, t] })
    (base : Nat) (e : TypeId) (i : TypeInfo) (z : Value) (bytes : Nat) (ht : P.underlying t = some (.slice e)) (hi : P.info? e = some i) (hz : i.zero = some z)
    (hsize : i.size = 1) (hby : i.bytes = bytes) (hzs : z.cells.size = 1) (v : Value) (n : Nat) (xs : List Value) (hs : a.eval s = v) (hown : w.ownsRow base e 1 v n xs)
    (cs : Array Value) (hx : a.eval x = .slice (some ⟨w.heap.size, 0, none⟩) cs.size cs.size) (h1 : ∀ u ∈ cs.toList, u.oneCell' = true)
    (hn : (n + cs.size) * 8 ≤ 140737488355328) (hb8 : bytes ≤ 8) (hbase : base ≤ w.heap.size)
    (h : ∀ v' w', w'.ownsRow base e 1 v' (n + cs.size) (xs ++ cs.toList) → (∀ B, B ≤ base → Below B w w') → (∀ g t' cs', Box w g t' cs' → g < base → Box w' g t' cs') →
      wpList P ops Q rest (a.put o.dst v') w') : wpList P ops Q (o :: rest) a (w.alloc (.cells cs e)) := by
  have hmul : (n + cs.size) * bytes ≤ 140737488355328 := Nat.le_trans (Nat.mul_le_mul_left _ hb8) hn
  refine wpList_append_own (w := w.alloc (.cells cs e)) hgd s x t ho base e i z 1 bytes ht hi hz hsize hby hzs (by decide) v n xs hs (hown.alloc _) ⟨w.heap.size, 0, none⟩ cs.size cs.size cs.toList hx (by simp) ?_ h1
    (by unfold maxLen; omega) hmul (by simp; omega) ?_
  · intro j u hu
    have e1 : (⟨w.heap.size, 0, none⟩ : Addr).add j = ⟨w.heap.size, j, none⟩ := by simp [Addr.add]; exact fun hj => hj.symm
    rw [e1, (Box.made w e cs).read j]
    simpa using hu
  · intro v' w' hown' hg _
    refine h v' w' hown' (fun B hB => ?_) (fun g t' cs' hbx hgb => ?_)
    · exact ((Below.refl B w).alloc (by omega) _).grown hg (by simp; omega) (fun k hk => by have := (hown.lt k hk).1; omega)
    · exact (hbx.past _).grown hg (fun hx => by have := (hown.lt g hx.symm).1; omega)
end Go.Proofs.YtkecekfapiegjaaDoor
/-
  My own words on memory, for all: a list of blocks that are known whole, with that nothing below a height has turned; carried by calls that only make new blocks, by new blocks, by draws, by writes.
-/
namespace Go.Proofs.YtkecekfapiegjaaDoor
set_option linter.unusedVariables false
set_option linter.unusedSimpArgs false
set_option maxRecDepth 10000
open Go.RowKit

theorem Box.two {w : World} {g : Nat} {t : TypeId} {x y : Value} (h : Box w g t #[x, y]) :
    w.cell? ⟨g, 0, none⟩ = some x ∧ w.cell? ⟨g, 1, none⟩ = some y ∧ w.frozen? ⟨g, 0, none⟩ = false ∧ w.frozen? ⟨g, 1, none⟩ = false ∧ g < w.heap.size := ⟨h.read 0, h.read 1, h.free 0, h.free 1, h.inside⟩
theorem Box.three {w : World} {g : Nat} {t : TypeId} {x y z : Value} (h : Box w g t #[x, y, z]) :
    w.cell? ⟨g, 0, none⟩ = some x ∧ w.cell? ⟨g, 1, none⟩ = some y ∧ w.cell? ⟨g, 2, none⟩ = some z ∧ w.frozen? ⟨g, 0, none⟩ = false ∧ w.frozen? ⟨g, 1, none⟩ = false ∧ w.frozen? ⟨g, 2, none⟩ = false ∧ g < w.heap.size :=
  ⟨h.read 0, h.read 1, h.read 2, h.free 0, h.free 1, h.free 2, h.inside⟩

/-- A block: where it lies, its cells' type, its cells. -/
abbrev Blk := Nat × TypeId × Array Value
/-- These blocks lie in W as said; nothing of w below its own height has turned. -/
def Has (w : World) (l : List Blk) (W : World) : Prop := (∀ x ∈ l, Box W x.1 x.2.1 x.2.2) ∧ Below w.heap.size w W
section
variable {w W w' : World} {l : List Blk}
theorem Has.start (w : World) : Has w [] w := ⟨fun x h => by simp at h, Below.refl _ _⟩
theorem Has.below (h : Has w l W) : Below w.heap.size w W := h.2
theorem Has.size (h : Has w l W) : w.heap.size ≤ W.heap.size := h.2.size
theorem Has.add (h : Has w l W) (t : TypeId) (cs : Array Value) : Has w ((W.heap.size, t, cs) :: l) (W.alloc (.cells cs t)) := by
  refine ⟨fun x hx => ?_, chainA h.2 _⟩
  rcases List.mem_cons.1 hx with rfl | hx
  · exact Box.made W t cs
  · exact (h.1 x hx).past _
theorem Has.addAt (h : Has w l W) (t : TypeId) (cs : Array Value) {g : Nat} (hg : W.heap.size = g) : Has w ((g, t, cs) :: l) (W.alloc (.cells cs t)) := hg ▸ h.add t cs
theorem Has.past (h : Has w l W) (o : Obj) : Has w l (W.alloc o) := ⟨fun x hx => (h.1 x hx).past o, chainA h.2 o⟩
theorem Has.call (h : Has w l W) (hb : Below W.heap.size W w') : Has w l w' := ⟨fun x hx => (h.1 x hx).call hb, chain h.2 hb⟩
theorem Has.drew (h : Has w l W) : Has w l W.drew := ⟨fun x hx => h.1 x hx, h.2.drew⟩
theorem Has.drewN (h : Has w l W) (n : Nat) : Has w l (W.drewN n) := ⟨fun x hx => h.1 x hx, below_drewN h.2 n⟩
theorem Has.box {g : Nat} {t : TypeId} {cs : Array Value} (h : Has w l W) (n : Nat) (e : l[n]? = some (g, t, cs) := by rfl) : Box W g t cs := h.1 (g, t, cs) (List.mem_of_getElem? e)
theorem Has.head {g : Nat} {t : TypeId} {cs : Array Value} (h : Has w ((g, t, cs) :: l) W) : Box W g t cs := h.1 (g, t, cs) (by simp)
theorem Has.tail {x : Blk} (h : Has w (x :: l) W) : Has w l W := ⟨fun y hy => h.1 y (by simp [hy]), h.2⟩
theorem Has.swap {x y : Blk} (h : Has w (x :: y :: l) W) : Has w (y :: x :: l) W := ⟨fun z hz => h.1 z (by simp only [List.mem_cons] at hz ⊢; rcases hz with h | h | h <;> simp [h]), h.2⟩
theorem Has.with {g : Nat} {t : TypeId} {cs : Array Value} (h : Has w l W) (hb : Box W g t cs) : Has w ((g, t, cs) :: l) W := ⟨fun x hx => by
  rcases List.mem_cons.1 hx with rfl | hx
  · exact hb
  · exact h.1 x hx, h.2⟩
/-- A cell of a block that isn't among them is written. -/
theorem Has.set_ (h : Has w l W) {p : Addr} (hp : w.heap.size ≤ p.block) (hl : ∀ x ∈ l, x.1 ≠ p.block) (u : Value) : Has w l (W.setCell p u) :=
  ⟨fun x hx => (h.1 x hx).apart (hl x hx) u, h.2.setCell hp u⟩
/-- A cell of the first of them is written. -/
theorem Has.wrote {g : Nat} {t : TypeId} {cs : Array Value} (h : Has w ((g, t, cs) :: l) W) (hg : w.heap.size ≤ g) (hl : ∀ x ∈ l, x.1 ≠ g) (i : Nat) (u : Value) :
    Has w ((g, t, cs.setIfInBounds i u) :: l) (W.setCell ⟨g, i, none⟩ u) := (h.tail.set_ (p := ⟨g, i, none⟩) hg hl u).with (h.head.wrote i u)
/-- A law's own: what another world has below a height is below it here too. -/
theorem Has.trans {l' : List Blk} (h : Has w l W) (h' : Has W l' w') : Has w (l' ++ l) w' := by
  refine ⟨fun x hx => ?_, Go.Proofs.YtkecekfapiegjaaDoor.chain h.2 h'.2⟩
  rcases List.mem_append.1 hx with hx | hx
  · exact h'.1 x hx
  · exact (h.1 x hx).call h'.2
/-- What is held in a region whose operations may run in any order: the blocks, and the facts that they tell. -/
theorem held_keep {C : World → Prop} (fact : ∀ u, Has w l u → C u) (h : Has w l W ∧ C W) (hb : Below W.heap.size W w') : Has w l w' ∧ C w' := ⟨h.1.call hb, fact _ (h.1.call hb)⟩
theorem held_past {C : World → Prop} (fact : ∀ u, Has w l u → C u) (h : Has w l W ∧ C W) (o : Obj) : Has w l (W.alloc o) ∧ C (W.alloc o) := ⟨h.1.past o, fact _ (h.1.past o)⟩
theorem held_drew {C : World → Prop} (fact : ∀ u, Has w l u → C u) (h : Has w l W) : Has w l W.drew ∧ C W.drew := ⟨h.drew, fact _ h.drew⟩
end
end Go.Proofs.YtkecekfapiegjaaDoor
/-
  My own words on memory: all but some blocks are as they were. No program is named here.
-/
namespace Go.Proofs.YtkecekfapiegjaaDoor
set_option linter.unusedVariables false
set_option linter.unusedSimpArgs false
set_option maxRecDepth 10000
open Go.RowKit

/-- Of what was there nothing has turned but the blocks in S. -/
structure Off (S : Nat → Prop) (w w' : World) : Prop where
  os : w'.os = w.os
  tape : w'.tape = w.tape
  output : w'.output = w.output
  size : w.heap.size ≤ w'.heap.size
  block : ∀ k, k < w.heap.size → ¬ S k → w'.heap[k]? = w.heap[k]?
section
variable {S T : Nat → Prop} {w W w' : World}
theorem Off.refl (S : Nat → Prop) (w : World) : Off S w w := ⟨rfl, rfl, rfl, Nat.le_refl _, fun _ _ _ => rfl⟩
theorem Off.call (h : Off S w W) (hb : Below W.heap.size W w') : Off S w w' :=
  ⟨hb.os.trans h.os, hb.tape.trans h.tape, hb.output.trans h.output, Nat.le_trans h.size hb.size, fun k hk hne => (hb.block k (Nat.lt_of_lt_of_le hk h.size)).trans (h.block k hk hne)⟩
theorem Off.past (h : Off S w W) (o : Obj) : Off S w (W.alloc o) := h.call ((Below.refl _ W).alloc (Nat.le_refl _) o)
theorem Off.drew (h : Off S w W) : Off S w W.drew := ⟨h.os, h.tape, h.output, h.size, h.block⟩
theorem Off.drewN (h : Off S w W) (n : Nat) : Off S w (W.drewN n) := ⟨h.os, h.tape, h.output, h.size, h.block⟩
theorem Off.set_ (h : Off S w W) {p : Addr} (hp : S p.block ∨ w.heap.size ≤ p.block) (v : Value) : Off S w (W.setCell p v) :=
  ⟨h.os, h.tape, h.output, by simpa [World.setCell] using h.size, fun k hk hne => (Below.heap_setCell W p v k (by rintro rfl; rcases hp with hp | hp; exact hne hp; omega)).trans (h.block k hk hne)⟩
theorem Off.trans (h : Off S w W) (k : Off S W w') : Off S w w' :=
  ⟨k.os.trans h.os, k.tape.trans h.tape, k.output.trans h.output, Nat.le_trans h.size k.size, fun i hi hne => (k.block i (Nat.lt_of_lt_of_le hi h.size) hne).trans (h.block i hi hne)⟩
/-- What is turned behind it: what S lists, or what was made since. -/
theorem Off.behind (h : Off S w W) (k : Off T W w') (hT : ∀ i, T i → S i ∨ w.heap.size ≤ i) : Off S w w' :=
  ⟨k.os.trans h.os, k.tape.trans h.tape, k.output.trans h.output, Nat.le_trans h.size k.size, fun i hi hne => (k.block i (Nat.lt_of_lt_of_le hi h.size) (fun ht => by rcases hT i ht with h | h; exact hne h; omega)).trans (h.block i hi hne)⟩
theorem Off.mono (h : Off S w W) (hS : ∀ i, S i → T i) : Off T w W := ⟨h.os, h.tape, h.output, h.size, fun k hk hne => h.block k hk (fun hs => hne (hS k hs))⟩
theorem Off.below {B : Nat} (h : Off S w w') (hB : ∀ i, S i → B ≤ i) (hw : B ≤ w.heap.size) : Below B w w' :=
  ⟨h.os, h.tape, h.output, h.size, fun k hk => h.block k (by omega) (fun hs => by have := hB k hs; omega)⟩
theorem Off.of {S : Nat → Prop} (hb : Below w.heap.size w w') : Off S w w' := (Off.refl S w).call hb
theorem Off.box {b : Nat} {t : TypeId} {cs : Array Value} (h : Off S w w') (hx : Box w b t cs) (hne : ¬ S b) : Box w' b t cs := (h.block b hx.inside hne).trans hx
end
/-- Only one block has turned. -/
abbrev One (g : Nat) : Nat → Prop := fun i => i = g
theorem Has.off {S : Nat → Prop} {w W w' : World} {l : List Blk} (h : Has w l W) (k : Off S W w') (hS : ∀ i, S i → w.heap.size ≤ i) (hl : ∀ x ∈ l, ¬ S x.1) : Has w l w' :=
  ⟨fun x hx => k.box (h.1 x hx) (hl x hx), h.2.trans (k.below hS h.2.size)⟩

theorem Off.grown {S : Nat → Prop} {w W w' : World} {row : Option Nat} (h : Off S w W) (hg : W.grownBy w' row) (hr : ∀ j, row = some j → S j ∨ w.heap.size ≤ j) : Off S w w' :=
  ⟨hg.os.trans h.os, hg.tape.trans h.tape, hg.output.trans h.output, Nat.le_trans h.size hg.size, fun k hk hne => (hg.block k (Nat.lt_of_lt_of_le hk h.size) (fun e => by
    rcases hr k e.symm with h1 | h1
    · exact hne h1
    · omega)).trans (h.block k hk hne)⟩
theorem Box.madeAt {w : World} {g : Nat} (hg : w.heap.size = g) (t : TypeId) (cs : Array Value) : Box (w.alloc (.cells cs t)) g t cs := hg ▸ Box.made w t cs
theorem Box.uniq {w : World} {g : Nat} {t t' : TypeId} {cs cs' : Array Value} (h : Box w g t cs) (h' : Box w g t' cs') : cs = cs' := by
  unfold Box at h h'
  rw [h] at h'
  injection h' with h'
  injection h' with h1 h2 h3
theorem Box.unlike {w : World} {g g' : Nat} {t t' : TypeId} {cs cs' : Array Value} (h : Box w g t cs) (h' : Box w g' t' cs') (hs : cs.size ≠ cs'.size) : g ≠ g' := by
  rintro rfl
  exact hs (by rw [h.uniq h'])
end Go.Proofs.YtkecekfapiegjaaDoor
