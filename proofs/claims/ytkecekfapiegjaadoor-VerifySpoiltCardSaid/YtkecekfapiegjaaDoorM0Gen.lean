/- Several of my texts, laid as one. -/
import Derived.Test.YtkecekfapiegjaaDoorRows
import Derived.Test.YtkecekfapiegjaaDoorM0Wrd
import Derived.WalkKit
import Derived.WalkSpells
import Derived.WalkMore
import Derived.StillTactics
import Derived.RowKit3
import Derived.Outline
import Derived.BigQuiet
import Derived.Deep.QuietTactic
import Derived.LoopTactic
import Derived.Deep.RegionWith
import Derived.Deep.LoopGhost
import Derived.Deep.RegionHeld3
import Derived.Deep.DeepCutAuto
import Derived.Deep.CutRange
import Derived.Deep.AppendLies
import Derived.Laws.Strings
import Derived.Laws.Strings3
import Derived.Laws.Externs
import Derived.Laws.RangeAny
import Derived.Lib.Bytealg
import Derived.Lib.Walk
import Derived.Lib.Strings
import Derived.Lib.Slices
import Derived.Maps.AppendAt
import Derived.Deep.RegionLaw
/-
  The library's texts that walks on rows use, put together. No program is named here.
-/
namespace Go.Proofs.YtkecekfapiegjaaDoor
set_option linter.unusedVariables false
set_option linter.unusedSimpArgs false
set_option maxRecDepth 10000
open Go.RowKit

theorem cells_new4 (W : World) (t : TypeId) (cs : List Value) : ∀ j u, cs[j]? = some u → (W.alloc (.cells cs.toArray t)).cell? ((⟨W.heap.size, 0, none⟩ : Addr).add j) = some u := fun j u hu => by
  have e1 : (⟨W.heap.size, 0, none⟩ : Addr).add j = ⟨W.heap.size, j, none⟩ := by simp [Addr.add]; exact fun hj => hj.symm
  rw [e1, (Box.made W t cs.toArray).read j]
  simpa using hu
theorem cells_newN (W : World) (n : Nat) (hn : W.heap.size = n) (t : TypeId) (cs : List Value) : ∀ j u, cs[j]? = some u → (W.alloc (.cells cs.toArray t)).cell? ((⟨n, 0, none⟩ : Addr).add j) = some u := by
  subst hn
  exact cells_new4 W t cs
end Go.Proofs.YtkecekfapiegjaaDoor
/-
  Rows of anything that has a fixed number of cells: its cells, where it lies, rows of it, rows of the call's own, append.
-/
namespace Go.Proofs.YtkecekfapiegjaaDoor
set_option linter.unusedVariables false
set_option linter.unusedSimpArgs false
set_option maxRecDepth 10000
open Go.RowKit

theorem gen_block (a : Addr) (n : Nat) : (a.add n).block = a.block := by unfold Addr.add; split <;> rfl
theorem gen_add (a : Addr) (i j : Nat) : (a.add i).add j = a.add (i + j) := by
  unfold Addr.add
  by_cases hi : i = 0 <;> by_cases hj : j = 0 <;> simp [hi, hj, Nat.add_assoc]
theorem gen_zero (g m : Nat) : (⟨g, 0, none⟩ : Addr).add m = ⟨g, m, none⟩ := by simp [Addr.add]; exact fun hj => hj.symm
theorem gen_choose {α : Type} {p : Nat → α → Prop} : ∀ (n : Nat), (∀ i, i < n → ∃ a, p i a) → ∃ l : List α, l.length = n ∧ ∀ i (h : i < l.length), p i l[i]
  | 0, _ => ⟨[], rfl, fun i h => by simp at h⟩
  | n + 1, h => by
    obtain ⟨l, hl, hp⟩ := gen_choose n (fun i hi => h i (by omega))
    obtain ⟨a, ha⟩ := h n (by omega)
    refine ⟨l ++ [a], by simp [hl], fun i hi => ?_⟩
    by_cases e : i < l.length
    · rw [List.getElem_append_left e]; exact hp i e
    · have e2 : i = n := by simp at hi; omega
      subst e2
      rw [List.getElem_append_right (by omega)]
      simpa [hl] using ha

/-- A sort of things, by their cells. -/
structure Sh (α : Type) where
  cells : α → List Value
  k : Nat
  len : ∀ x, (cells x).length = k
  pos : 0 < k
  one : ∀ x, ∀ u ∈ cells x, u.oneCell' = true
section
variable {α : Type} (S : Sh α)
def Sh.flat (l : List α) : List Value := l.flatMap S.cells
theorem Sh.flat_app (a b : List α) : S.flat (a ++ b) = S.flat a ++ S.flat b := by simp [Sh.flat]
theorem Sh.flat_one (x : α) : S.flat [x] = S.cells x := by simp [Sh.flat]
theorem Sh.flat_len (l : List α) : (S.flat l).length = l.length * S.k := by
  induction l with
  | nil => simp [Sh.flat]
  | cons x r ih =>
    have e : S.flat (x :: r) = S.cells x ++ S.flat r := by simp [Sh.flat]
    rw [e, List.length_append, ih, S.len, List.length_cons, Nat.add_mul]
    omega
theorem Sh.flat_at (l : List α) (i : Nat) (x : α) (h : l[i]? = some x) (j : Nat) (hj : j < S.k) : (S.flat l)[i * S.k + j]? = (S.cells x)[j]? := by
  induction l generalizing i with
  | nil => simp at h
  | cons y r ih =>
    have e : S.flat (y :: r) = S.cells y ++ S.flat r := by simp [Sh.flat]
    rw [e]
    cases i with
    | zero =>
      obtain rfl : y = x := by simpa using h
      rw [Nat.zero_mul, Nat.zero_add, List.getElem?_append_left (by rw [S.len]; exact hj)]
    | succ i =>
      rw [List.getElem?_append_right (by rw [S.len, Nat.add_mul]; omega), S.len, show (i + 1) * S.k + j - S.k = i * S.k + j by rw [Nat.add_mul]; omega]
      exact ih i (by simpa using h)
theorem Sh.flat_cells (l : List α) : ∀ u ∈ S.flat l, u.oneCell' = true := fun u hu => by
  obtain ⟨x, -, hx⟩ := List.mem_flatMap.1 hu
  exact S.one x u hx
/-- A thing's cells lie there. -/
def Sh.At (w : World) (a : Addr) (x : α) : Prop := ∀ j v, (S.cells x)[j]? = some v → w.cell? (a.add j) = some v
variable {S}
theorem Sh.At.keep {w w' : World} {a : Addr} {x : α} (h : S.At w a x) (e : w'.heap[a.block]? = w.heap[a.block]?) : S.At w' a x := fun j v hv =>
  (World.cell?_of_block (w := w) (a := a.add j) (by rw [gen_block]; exact e)).trans (h j v hv)
variable (S)
/-- A row of such, below a height. -/
def Sh.Row (w : World) (B : Nat) (A : Option Addr) (xs : List α) : Prop := ∀ i x, xs[i]? = some x → ∃ ad, A = some ad ∧ ad.block < B ∧ S.At w (ad.add (i * S.k)) x
theorem Sh.Row.nil (w : World) (B : Nat) (A : Option Addr) : S.Row w B A [] := fun i x hx => by simp at hx
variable {S}
theorem Sh.Row.call {w w' : World} {B : Nat} {A : Option Addr} {xs : List α} (h : S.Row w B A xs) (hb : Below B w w') : S.Row w' B A xs := fun i x hx => by
  obtain ⟨ad, e, hl, hc⟩ := h i x hx
  exact ⟨ad, e, hl, hc.keep (by rw [gen_block]; exact hb.block _ hl)⟩
theorem Sh.Row.more {w : World} {B B' : Nat} {A : Option Addr} {xs : List α} (h : S.Row w B A xs) (hb : B ≤ B') : S.Row w B' A xs := fun i s hs => by
  obtain ⟨ad, e, hl, hc⟩ := h i s hs
  exact ⟨ad, e, Nat.lt_of_lt_of_le hl hb, hc⟩
/-- Behind a call that turned nothing below. -/
theorem Sh.Row.on {w w' : World} {A : Option Addr} {xs : List α} (h : S.Row w w.heap.size A xs) (hb : Below w.heap.size w w') : S.Row w' w'.heap.size A xs := (h.call hb).more hb.size
theorem Sh.Row.none_ {w : World} {B : Nat} {xs : List α} (h : S.Row w B none xs) : xs = [] := by
  cases xs with
  | nil => rfl
  | cons z r => obtain ⟨ad, e, -⟩ := h 0 z rfl; cases e
theorem Sh.Row.take {w : World} {B : Nat} {A : Option Addr} {xs : List α} (h : S.Row w B A xs) (n : Nat) : S.Row w B A (xs.take n) := fun i x hx => by
  have hi := (List.getElem?_eq_some_iff.1 hx).1
  rw [List.length_take] at hi
  rw [List.getElem?_take_of_lt (by omega)] at hx
  exact h i x hx
theorem Sh.Row.cells {w : World} {B : Nat} {a : Addr} {xs : List α} (h : S.Row w B (some a) xs) : ∀ j v, (S.flat xs)[j]? = some v → w.cell? (a.add j) = some v := fun j v hv => by
  have hk := S.pos
  have hj : j < xs.length * S.k := by
    have := (List.getElem?_eq_some_iff.1 hv).1
    rw [S.flat_len] at this
    exact this
  have hd : j / S.k < xs.length := (Nat.div_lt_iff_lt_mul hk).2 hj
  obtain ⟨x, hx⟩ : ∃ x, xs[j / S.k]? = some x := ⟨_, List.getElem?_eq_getElem hd⟩
  obtain ⟨ad, e, -, hc⟩ := h _ _ hx
  injection e with e
  subst e
  have ej : j / S.k * S.k + j % S.k = j := by rw [Nat.mul_comm]; exact Nat.div_add_mod j S.k
  rw [← ej, S.flat_at xs _ x hx _ (Nat.mod_lt _ hk)] at hv
  have := hc _ _ hv
  rw [gen_add, ej] at this
  exact this
/-- A block of such. -/
theorem Sh.row_box {w : World} {g : Nat} {T : TypeId} {d : List α} (h : Box w g T (S.flat d).toArray) : S.Row w w.heap.size (some ⟨g, 0, none⟩) d := fun i x hx => by
  refine ⟨_, rfl, h.inside, fun j v hv => ?_⟩
  have hj : j < S.k := by have := (List.getElem?_eq_some_iff.1 hv).1; rw [S.len] at this; exact this
  rw [gen_zero]
  have e : (⟨g, i * S.k, none⟩ : Addr).add j = ⟨g, i * S.k + j, none⟩ := by unfold Addr.add; split <;> simp_all
  rw [e, Box.read h]
  simp only [List.getElem?_toArray]
  rw [S.flat_at d i x hx j hj, hv]
/-- A row of the call's own, read. -/
theorem Sh.own_row {b : Nat} {W : World} {T : TypeId} {v : Value} {l : List α} (h : W.ownsRow b T S.k v l.length (S.flat l)) : ∃ A c, v = .slice A l.length c ∧ (A = none → c = 0) ∧ S.Row W W.heap.size A l := by
  rcases h.2 with ⟨h1, h2⟩ | ⟨g, cap, cur, hv, hg, hh, hc, hm, hsz, hcur⟩
  · have e : l = [] := List.eq_nil_of_length_eq_zero h2
    subst e
    exact ⟨none, 0, h1, fun _ => rfl, Sh.Row.nil S _ _ _⟩
  · refine ⟨some ⟨g, 0, none⟩, cap, hv, (fun h => nomatch h), fun i x hx => ⟨_, rfl, (Array.getElem?_eq_some_iff.1 hh).1, fun j u hu => ?_⟩⟩
    have hil : i < l.length := (List.getElem?_eq_some_iff.1 hx).1
    have hj : j < S.k := by have := (List.getElem?_eq_some_iff.1 hu).1; rw [S.len] at this; exact this
    have hlt : i * S.k + j < l.length * S.k := by
      have h1 : (i + 1) * S.k ≤ l.length * S.k := Nat.mul_le_mul_right _ hil
      rw [Nat.add_mul] at h1
      omega
    rw [gen_zero]
    have e : (⟨g, i * S.k, none⟩ : Addr).add j = ⟨g, i * S.k + j, none⟩ := by unfold Addr.add; split <;> simp_all
    rw [e, cell_of_row W g (i * S.k + j) cur _ _ hh, ← hu, ← S.flat_at l i x hx j hj, ← hcur, List.getElem?_take_of_lt hlt]
    simp
end
/-- A row's type, as append wants it. -/
structure El {α : Type} (S : Sh α) where
  ts : TypeId
  e : TypeId
  z : Value
  bytes : Nat
  und : (Tryd.prog).underlying ts = some (.slice e)
  info : ((Tryd.prog).info? e).map (fun i => (i.zero, i.size, i.bytes)) = some (some z, S.k, bytes)
  zs : z.cells.size = S.k
  few : bytes ≤ 4096
section
variable {α : Type} {S : Sh α} (T : El S)
/-- append of such to a row of the call's own. -/
theorem El.app (w : World) (base : Nat) (v : Value) (n : Nat) (ys : List α) (hown : w.ownsRow base T.e S.k v n (S.flat ys)) (ad : Addr) (m c : Nat) (zs : List α) (hz : zs.length = m)
    (hc : ∀ j u, (S.flat zs)[j]? = some u → w.cell? (ad.add j) = some u) (hm : n + m ≤ 1000000000) (hb : base ≤ w.heap.size) {N : Nat} (hN : n + m = N) :
    ∃ v' w', (∀ ty, (Builtin.append_ #[T.ts, T.ts] ty #[v, .slice (some ad) m c]).run Tryd.prog w = .ok v' w') ∧ w'.ownsRow base T.e S.k v' N (S.flat (ys ++ zs)) ∧ w.grownBy w' v.ownBlock ∧ (v'.ownBlock = v.ownBlock ∨ v'.ownBlock = some w.heap.size) := by
  subst hN
  have hby : (n + m) * T.bytes ≤ 140737488355328 := by
    have h1 : (n + m) * T.bytes ≤ 1000000000 * 4096 := Nat.mul_le_mul hm T.few
    omega
  obtain ⟨i0, hi, hz0, hz1, hz2⟩ := info_parts T.info
  obtain ⟨v', w', hr, h2, h3, -, h4⟩ := run_append_own_at (P := Tryd.prog) w base T.ts 0 T.e i0 T.z S.k T.bytes T.und hi hz0 hz1 hz2 T.zs S.pos v n (S.flat ys) hown ad m c (S.flat zs) (by rw [S.flat_len, hz]) hc (S.flat_cells zs)
    (by unfold maxLen; omega) hby hb
  rw [← S.flat_app] at h2
  exact ⟨v', w', fun ty => hr, h2, h3, h4⟩
/-- append of one, made just ahead. -/
theorem El.app1 (w : World) (base : Nat) (v : Value) (n : Nat) (ys : List α) (hown : w.ownsRow base T.e S.k v n (S.flat ys)) (x : α) (cs : Array Value) (hcs : (S.cells x).toArray = cs) (hm : n ≤ 100000000) (hb : base ≤ w.heap.size) :
    ∃ v' w', (∀ ty, (Builtin.append_ #[T.ts, T.ts] ty #[v, .slice (some ⟨w.heap.size, 0, none⟩) 1 1]).run Tryd.prog (w.alloc (.cells cs T.e)) = .ok v' w') ∧
      w'.ownsRow base T.e S.k v' (n + 1) (S.flat (ys ++ [x])) ∧ (w.alloc (.cells cs T.e)).grownBy w' v.ownBlock ∧ Below base w w' := by
  subst hcs
  obtain ⟨v', w', hr, h2, h3, -⟩ := T.app (w.alloc (.cells (S.cells x).toArray T.e)) base v n ys (hown.alloc _) ⟨w.heap.size, 0, none⟩ 1 1 [x] rfl (fun j u hu => by
    rw [S.flat_one] at hu
    exact cells_new4 w T.e (S.cells x) j u hu) (by omega) (by simp; omega) (N := n + 1) rfl
  exact ⟨v', w', hr, h2, h3, ((Below.refl base w).alloc hb _).grown h3 (by simp; omega) (fun j hj => (hown.lt j hj).1)⟩
end
/- What holds of every world in which nothing of W has turned, held in a region that draws. -/
section
variable {W U U' : World} {C : World → Prop}
theorem on_start (fact : ∀ u, Below W.heap.size W u → C u) : Below W.heap.size W W.drew ∧ C W.drew := ⟨(Below.refl _ _).drew, fact _ (Below.refl _ _).drew⟩
theorem on_drew (fact : ∀ u, Below W.heap.size W u → C u) (h : Below W.heap.size W U) : Below W.heap.size W U.drew ∧ C U.drew := ⟨h.drew, fact _ h.drew⟩
theorem on_past (fact : ∀ u, Below W.heap.size W u → C u) (h : Below W.heap.size W U ∧ C U) (o : Obj) : Below W.heap.size W (U.alloc o) ∧ C (U.alloc o) := ⟨chainA h.1 o, fact _ (chainA h.1 o)⟩
theorem on_call (fact : ∀ u, Below W.heap.size W u → C u) (h : Below W.heap.size W U ∧ C U) (hb : Below U.heap.size U U') : Below W.heap.size W U' ∧ C U' := ⟨chain h.1 hb, fact _ (chain h.1 hb)⟩
theorem on_low {C : Prop} (h : Below W.heap.size W U ∧ C) : Below W.heap.size W U := h.1
end
/- A call of append whose outcome is known. -/
theorem gen_run {ops : Array Oper} {rest : List Oper} {o : Oper} {a : Act} {w : World} {Q : Exit → Act → World → Prop} (hgd : o.guard = none) (s x : Operand) (t : TypeId)
    (ho : o.op = .call { callee := .builtin .append, args := #[s, x], argTypes := #[t, t] }) (v vx : Value) (hs : a.eval s = v) (hx : a.eval x = vx) (v' : Value) (w' : World)
    (hr : ∀ ty, (Builtin.append_ #[t, t] ty #[v, vx]).run Tryd.prog w = .ok v' w') (h : wpList Tryd.prog ops Q rest (a.put o.dst v') w') : wpList Tryd.prog ops Q (o :: rest) a w :=
  wpList_plain hgd fun K hK => by
    unfold Oper.wp execOp
    simp only [ho, resolve, invoke, builtin, Sem.run_bind, Sem.run_pure, Result.andThen_ok, List.map_toArray, List.map_cons, List.map_nil, hs, hx, hr o.type]
    exact hK _ _ h
theorem gen_step {ops : Array Oper} {o : Oper} {a : Act} {w : World} {K : Act → World → Prop} {Q : Exit → Act → World → Prop} {E : Prop} (hgd : o.guard = none) (s x : Operand) (t : TypeId)
    (ho : o.op = .call { callee := .builtin .append, args := #[s, x], argTypes := #[t, t] }) (v vx : Value) (hs : a.eval s = v) (hx : a.eval x = vx) (v' : Value) (w' : World)
    (hr : ∀ ty, (Builtin.append_ #[t, t] ty #[v, vx]).run Tryd.prog w = .ok v' w') (h : K (a.put o.dst v') w') : if Region.wanted o (yielded ops a.tmps) = true then Oper.wp Tryd.prog o a w K Q else E := by
  have hw : Region.wanted o (yielded ops a.tmps) = true := by simp [Region.wanted, hgd]
  rw [if_pos hw]
  unfold Oper.wp execOp
  simp only [ho, resolve, invoke, builtin, Sem.run_bind, Sem.run_pure, Result.andThen_ok, List.map_toArray, List.map_cons, List.map_nil, hs, hx, hr o.type]
  exact h
end Go.Proofs.YtkecekfapiegjaaDoor
