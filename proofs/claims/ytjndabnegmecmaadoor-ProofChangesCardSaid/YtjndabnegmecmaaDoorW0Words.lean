/-
  My own words on memory: a block known whole, a row that is owned, kept behind calls that only make new blocks.
-/
import Derived.Test.YtjndabnegmecmaaDoorU1Nums
import Derived.Laws.OwnMore
import Derived.Laws.Rows
import Derived.Laws.AppendOwn
import Derived.OwnWalk
namespace Go.Proofs.YtjndabnegmecmaaDoor
set_option linter.unusedVariables false
set_option linter.unusedSimpArgs false
set_option maxRecDepth 10000
open Go.RowKit

/-- Block g holds just these cells, none of them fixed. -/
def Box (w : World) (g : Nat) (t : TypeId) (cs : Array Value) : Prop := w.heap[g]? = some (.cells cs t (0, 0))

section
variable {w w' : World} {g : Nat} {t : TypeId} {cs : Array Value}
theorem Box.inside (h : Box w g t cs) : g < w.heap.size := by
  unfold Box at h
  exact (Array.getElem?_eq_some_iff.1 h).1
theorem Box.read (h : Box w g t cs) (i : Nat) : w.cell? ⟨g, i, none⟩ = cs[i]? := cell_of_row w g i cs t (0, 0) h
theorem Box.free (h : Box w g t cs) (i : Nat) : w.frozen? ⟨g, i, none⟩ = false := by
  unfold Box at h
  simp [World.frozen?, h]
theorem Box.made (w : World) (t : TypeId) (cs : Array Value) : Box (w.alloc (.cells cs t)) w.heap.size t cs := by
  show (w.heap.push _)[w.heap.size]? = _
  simp
theorem Box.past (h : Box w g t cs) (o : Obj) : Box (w.alloc o) g t cs := (Below.heap_alloc w o g h.inside).trans h
theorem Box.draws (h : Box w g t cs) (n : Nat) : Box (w.drewN n) g t cs := h
theorem Box.draw (h : Box w g t cs) : Box w.drew g t cs := h
theorem Box.wrote (h : Box w g t cs) (i : Nat) (u : Value) : Box (w.setCell ⟨g, i, none⟩ u) g t (cs.setIfInBounds i u) := by
  unfold Box at h ⊢
  simp [World.setCell, Array.getElem?_modify, h]
theorem Box.apart (h : Box w g t cs) {p : Addr} (hp : g ≠ p.block) (u : Value) : Box (w.setCell p u) g t cs := (Below.heap_setCell w p u g hp).trans h
theorem Box.below {B : Nat} (h : Box w g t cs) (hb : Below B w w') (hg : g < B) : Box w' g t cs := (hb.block g hg).trans h
theorem Box.call (h : Box w g t cs) (hb : Below w.heap.size w w') : Box w' g t cs := h.below hb h.inside
theorem Box.grown {row : Option Nat} (h : Box w g t cs) (hb : w.grownBy w' row) (hg : some g ≠ row) : Box w' g t cs := (hb.block g h.inside hg).trans h
end

theorem Box.num {w : World} {g : Nat} {t : TypeId} {x y : Int} (h : Box w g t #[.int .u64 x, .int .u64 y]) :
    w.cell? ⟨g, 0, none⟩ = some (.int .u64 x) ∧ w.cell? ⟨g, 1, none⟩ = some (.int .u64 y) ∧ g < w.heap.size := ⟨h.read 0, h.read 1, h.inside⟩

theorem chain {w W w' : World} (h : Below w.heap.size w W) (hb : Below W.heap.size W w') : Below w.heap.size w w' := h.trans (hb.mono h.size)
theorem chainA {w W : World} (h : Below w.heap.size w W) (o : Obj) : Below w.heap.size w (W.alloc o) := h.alloc h.size o
/-- What is kept in a region that holds calls: all that W had, and with it every cell that was known of it. -/
theorem keep_first {W W1 w' : World} {P Q : Prop} (h : Below W.heap.size W W1 ∧ P) (hb : Below W1.heap.size W1 w') (k : Below W.heap.size W w' → Q) : Q := k (h.1.trans (hb.mono h.1.size))

section
variable {w w' : World} {base : Nat} {e : TypeId} {size : Nat} {v : Value} {n : Nat} {xs : List Value}
/-- An owned row stays behind a call that only makes new blocks. -/
theorem own_below (h : w.ownsRow base e size v n xs) (hb : Below w.heap.size w w') : w'.ownsRow base e size v n xs := by
  refine ⟨h.1, ?_⟩
  rcases h.2 with h2 | ⟨g, cap, cur, hv, hg, hh, r⟩
  · exact .inl h2
  · exact .inr ⟨g, cap, cur, hv, hg, (hb.block g (Array.getElem?_eq_some_iff.1 hh).1).trans hh, r⟩
theorem own_draws (h : w.ownsRow base e size v n xs) (k : Nat) : (w.drewN k).ownsRow base e size v n xs := h
theorem own_mono {base' : Nat} (h : w.ownsRow base e size v n xs) (hb : base' ≤ base) : w.ownsRow base' e size v n xs := by
  refine ⟨h.1, ?_⟩
  rcases h.2 with h2 | ⟨g, cap, cur, hv, hg, r⟩
  · exact .inl h2
  · exact .inr ⟨g, cap, cur, hv, Nat.le_trans hb hg, r⟩
/-- Another block's cell is written. -/
theorem own_apart (h : w.ownsRow base e size v n xs) {p : Addr} (hp : v.ownBlock ≠ some p.block) (u : Value) : (w.setCell p u).ownsRow base e size v n xs := by
  refine ⟨h.1, ?_⟩
  rcases h.2 with h2 | ⟨g, cap, cur, hv, hg, hh, r⟩
  · exact .inl h2
  · refine .inr ⟨g, cap, cur, hv, hg, (Below.heap_setCell w p u g ?_).trans hh, r⟩
    intro hgp
    exact hp (by rw [hv, hgp]; rfl)
/-- A row that is not empty: its block, its cells. -/
theorem own_row (h : w.ownsRow base e 1 v n xs) (hn : 0 < n) : ∃ g cap, v = .slice (some ⟨g, 0, none⟩) n cap ∧ base ≤ g ∧ g < w.heap.size ∧ n ≤ cap ∧ cap ≤ maxLen ∧
    (∀ j u, xs[j]? = some u → w.cell? ⟨g, j, none⟩ = some u) ∧ (∀ j, w.frozen? ⟨g, j, none⟩ = false) := by
  rcases h.2 with ⟨_, h2⟩ | ⟨g, cap, cur, hv, hg, hh, hc, hm, r⟩
  · omega
  · subst hv
    refine ⟨g, cap, rfl, hg, (Array.getElem?_eq_some_iff.1 hh).1, hc, hm, fun j u hu => ?_, fun j => h.frozenAt j⟩
    have hj : j < n * 1 := by rw [← h.1]; exact (List.getElem?_eq_some_iff.1 hu).1
    rw [h.cellAt j hj, hu]
end

/-- A number in its block, nothing else turned. -/
def OneIn (w : World) (ah al : Int) (w' : World) : Prop := Box w' w.heap.size 31 #[.int .u64 ah, .int .u64 al] ∧ Below w.heap.size w w'
section
variable {w W w' : World} {ah al : Int}
theorem OneIn.call (h : OneIn w ah al W) (hb : Below W.heap.size W w') : OneIn w ah al w' := ⟨h.1.call hb, chain h.2 hb⟩
theorem OneIn.past (h : OneIn w ah al W) (o : Obj) : OneIn w ah al (W.alloc o) := ⟨h.1.past o, chainA h.2 o⟩
theorem OneIn.drew (h : OneIn w ah al W) : OneIn w ah al W.drew := ⟨h.1.draw, h.2.drew⟩
theorem OneIn.set_ (h : OneIn w ah al W) {p : Addr} (hp : w.heap.size < p.block) (u : Value) : OneIn w ah al (W.setCell p u) := ⟨h.1.apart (by omega) u, h.2.setCell (by omega) u⟩
end
/-- Two numbers in their blocks, nothing else turned. -/
def AB (w : World) (ah al bh bl : Int) (w' : World) : Prop := Box w' w.heap.size 31 #[.int .u64 ah, .int .u64 al] ∧ Box w' (w.heap.size + 1) 31 #[.int .u64 bh, .int .u64 bl] ∧ Below w.heap.size w w'
section
variable {w W w' : World} {ah al bh bl : Int}
theorem AB.call (h : AB w ah al bh bl W) (hb : Below W.heap.size W w') : AB w ah al bh bl w' := ⟨h.1.call hb, h.2.1.call hb, chain h.2.2 hb⟩
theorem AB.past (h : AB w ah al bh bl W) (o : Obj) : AB w ah al bh bl (W.alloc o) := ⟨h.1.past o, h.2.1.past o, chainA h.2.2 o⟩
theorem AB.set_ (h : AB w ah al bh bl W) {p : Addr} (hp : w.heap.size + 1 < p.block) (u : Value) : AB w ah al bh bl (W.setCell p u) :=
  ⟨h.1.apart (by omega) u, h.2.1.apart (by omega) u, h.2.2.setCell (by omega) u⟩
theorem AB.drew (h : AB w ah al bh bl W) : AB w ah al bh bl W.drew := ⟨h.1.draw, h.2.1.draw, h.2.2.drew⟩
theorem AB.cells (h : AB w ah al bh bl W) : W.cell? ⟨w.heap.size, 0, none⟩ = some (.int .u64 ah) ∧ W.cell? ⟨w.heap.size, 1, none⟩ = some (.int .u64 al) ∧ W.cell? ⟨w.heap.size + 1, 0, none⟩ = some (.int .u64 bh) ∧
    W.cell? ⟨w.heap.size + 1, 1, none⟩ = some (.int .u64 bl) ∧ w.heap.size < W.heap.size ∧ w.heap.size + 1 < W.heap.size := ⟨h.1.read 0, h.1.read 1, h.2.1.read 0, h.2.1.read 1, h.1.inside, h.2.1.inside⟩
end

/-- 'out = append(out, x, ..)': the new elements lie in a fresh block; out is a row of the call's own. What is left: the row has grown; blocks below the row's base, and whatever was known of them, are as they were. -/
theorem wp_append_new {P : Program} {ops : Array Oper} {rest : List Oper} {o : Oper} {a : Act} {Q : Exit → Act → World → Prop} {w : World} (hgd : o.guard = none) (s x : Operand) (t : TypeId)
    (ho : o.op = .call { callee := .builtin .append, args := #[s, x], argTypes := #[t, t] })
    (base : Nat) (e : TypeId) (i : TypeInfo) (z : Value) (bytes : Nat) (ht : P.underlying t = some (.slice e)) (hi : P.info? e = some i) (hz : i.zero = some z)
    (hsize : i.size = 1) (hby : i.bytes = bytes) (hzs : z.cells.size = 1) (v : Value) (n : Nat) (xs : List Value) (hs : a.eval s = v) (hown : w.ownsRow base e 1 v n xs)
    (cs : Array Value) (hx : a.eval x = .slice (some ⟨w.heap.size, 0, none⟩) cs.size cs.size) (h1 : ∀ u ∈ cs.toList, u.oneCell' = true)
    (hn : (n + cs.size) * 8 ≤ 140737488355328) (hb8 : bytes ≤ 8) (hbase : base ≤ w.heap.size)
    (h : ∀ v' w', w'.ownsRow base e 1 v' (n + cs.size) (xs ++ cs.toList) → (∀ B, B ≤ base → Below B w w') → (∀ g t' cs', Box w g t' cs' → g < base → Box w' g t' cs') →
      wpList P ops Q rest (a.put o.dst v') w') : wpList P ops Q (o :: rest) a (w.alloc (.cells cs e)) := by
  have hmul : (n + cs.size) * bytes ≤ 140737488355328 := Nat.le_trans (Nat.mul_le_mul_left _ hb8) hn
  refine wpList_append_own (w := w.alloc (.cells cs e)) hgd s x t ho base e i z 1 bytes ht hi hz hsize hby hzs (by decide) v n xs hs (hown.alloc _) ⟨w.heap.size, 0, none⟩ cs.size cs.size cs.toList hx (by simp) ?_ h1
    (by unfold maxLen; omega) hmul (by simp; omega) ?_
  · intro j u hu
    have e1 : (⟨w.heap.size, 0, none⟩ : Addr).add j = ⟨w.heap.size, j, none⟩ := by simp [Addr.add]; exact fun hj => hj.symm
    rw [e1, (Box.made w e cs).read j]
    simpa using hu
  · intro v' w' hown' hg _
    refine h v' w' hown' (fun B hB => ?_) (fun g t' cs' hbx hgb => ?_)
    · exact ((Below.refl B w).alloc (by omega) _).grown hg (by simp; omega) (fun k hk => by have := (hown.lt k hk).1; omega)
    · exact (hbx.past _).grown hg (fun hx => by have := (hown.lt g hx.symm).1; omega)
end Go.Proofs.YtjndabnegmecmaaDoor
