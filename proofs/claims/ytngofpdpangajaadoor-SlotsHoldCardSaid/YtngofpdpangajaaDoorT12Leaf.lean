/-
  Leaves in memory: a row of leaves, a block of them.
-/
import Derived.Test.YtngofpdpangajaaDoorM12Set
namespace Go.Proofs.YtngofpdpangajaaDoor
set_option linter.unusedVariables false
set_option linter.unusedSimpArgs false
set_option maxRecDepth 10000
open Go.ChangeShapes Go.WideShapes Go.ChangeAt Go.RowKit

/-- A leaf's cells, as a list; those of leaves. -/
def lfc (x : Lf) : List Value := [.bool x.pad, .string x.id, .string x.salt, .int .u64 x.h, .int .u64 x.l]
def lfCs (l : List Lf) : List Value := l.flatMap lfc
theorem lfCs_snoc (l : List Lf) (x : Lf) : lfCs (l ++ [x]) = lfCs l ++ lfc x := by simp [lfCs]
theorem lfCs_app (a b : List Lf) : lfCs (a ++ b) = lfCs a ++ lfCs b := by simp [lfCs]
theorem lfCs_len (l : List Lf) : (lfCs l).length = l.length * 5 := by
  induction l with
  | nil => rfl
  | cons x r ih => simp only [lfCs, List.flatMap_cons, List.length_append] at *; rw [ih]; simp [lfc]; omega
theorem lfCs_at (l : List Lf) (i : Nat) (x : Lf) (h : l[i]? = some x) (j : Nat) (hj : j < 5) : (lfCs l)[i * 5 + j]? = (lfc x)[j]? := by
  induction l generalizing i with
  | nil => simp at h
  | cons y r ih =>
    cases i with
    | zero =>
      obtain rfl : y = x := by simpa using h
      simp only [lfCs, List.flatMap_cons]
      rw [List.getElem?_append_left (by simp [lfc]; omega)]
      simp
    | succ i =>
      simp only [lfCs, List.flatMap_cons]
      rw [List.getElem?_append_right (by simp [lfc]; omega)]
      have := ih i (by simpa using h)
      rw [← this]
      have e : (lfc y).length = 5 := rfl
      rw [e, show (i + 1) * 5 + j - 5 = i * 5 + j by omega]
      rfl
theorem lfc_one (x : Lf) : ∀ u ∈ lfc x, u.oneCell' = true := by
  intro u hu
  simp only [lfc, List.mem_cons, List.not_mem_nil, or_false] at hu
  rcases hu with rfl | rfl | rfl | rfl | rfl <;> rfl
theorem lfCs_one (l : List Lf) : ∀ u ∈ lfCs l, u.oneCell' = true := by
  intro u hu
  obtain ⟨x, -, hx⟩ := List.mem_flatMap.1 hu
  exact lfc_one x u hx
theorem lfCs_set (l : List Lf) (i : Nat) (x : Lf) (hi : i < l.length) :
    (((((lfCs l).set (i * 5) (.bool x.pad)).set (i * 5 + 1) (.string x.id)).set (i * 5 + 2) (.string x.salt)).set (i * 5 + 3) (.int .u64 x.h)).set (i * 5 + 4) (.int .u64 x.l) = lfCs (l.set i x) := by
  induction l generalizing i with
  | nil => simp at hi
  | cons y r ih =>
    cases i with
    | zero => simp [lfCs, lfc]
    | succ i =>
      have e : lfCs (y :: r) = lfc y ++ lfCs r := by simp [lfCs]
      have e2 : lfCs ((y :: r).set (i + 1) x) = lfc y ++ lfCs (r.set i x) := by simp [lfCs]
      have hl : (lfc y).length = 5 := rfl
      rw [e, e2, ← ih i (by simpa using hi)]
      rw [List.set_append_right _ _ (by rw [hl]; omega), List.set_append_right _ _ (by rw [hl]; omega), List.set_append_right _ _ (by rw [hl]; omega), List.set_append_right _ _ (by rw [hl]; omega), List.set_append_right _ _ (by rw [hl]; omega), hl]
      rw [show (i + 1) * 5 - 5 = i * 5 by omega, show (i + 1) * 5 + 1 - 5 = i * 5 + 1 by omega, show (i + 1) * 5 + 2 - 5 = i * 5 + 2 by omega, show (i + 1) * 5 + 3 - 5 = i * 5 + 3 by omega, show (i + 1) * 5 + 4 - 5 = i * 5 + 4 by omega]
/-- A leaf's cells lie there. -/
def LfAt (w : World) (a : Addr) (x : Lf) : Prop := w.cell? a = some (.bool x.pad) ∧ w.cell? ⟨a.block, a.off + 1, none⟩ = some (.string x.id) ∧ w.cell? ⟨a.block, a.off + 2, none⟩ = some (.string x.salt) ∧
  w.cell? ⟨a.block, a.off + 3, none⟩ = some (.int .u64 x.h) ∧ w.cell? ⟨a.block, a.off + 4, none⟩ = some (.int .u64 x.l)
theorem LfAt.keep {w w' : World} {a : Addr} {x : Lf} (h : LfAt w a x) (e : w'.heap[a.block]? = w.heap[a.block]?) : LfAt w' a x :=
  ⟨(World.cell?_of_block (w := w) e).trans h.1, (World.cell?_of_block (w := w) (a := ⟨a.block, a.off + 1, none⟩) e).trans h.2.1, (World.cell?_of_block (w := w) (a := ⟨a.block, a.off + 2, none⟩) e).trans h.2.2.1,
    (World.cell?_of_block (w := w) (a := ⟨a.block, a.off + 3, none⟩) e).trans h.2.2.2.1, (World.cell?_of_block (w := w) (a := ⟨a.block, a.off + 4, none⟩) e).trans h.2.2.2.2⟩
/-- Leaves of a row, below a height. -/
def LfRow (w : World) (B : Nat) (A : Option Addr) (xs : List Lf) : Prop := ∀ i x, xs[i]? = some x → ∃ ad, A = some ad ∧ ad.block < B ∧ LfAt w (ad.add (i * 5)) x
theorem LfRow.call {w w' : World} {B : Nat} {A : Option Addr} {xs : List Lf} (h : LfRow w B A xs) (hb : Below B w w') : LfRow w' B A xs := fun i x hx => by
  obtain ⟨ad, e, hl, hc⟩ := h i x hx
  exact ⟨ad, e, hl, hc.keep (by rw [o10_block]; exact hb.block _ hl)⟩
theorem LfRow.more {w : World} {B B' : Nat} {A : Option Addr} {xs : List Lf} (h : LfRow w B A xs) (hb : B ≤ B') : LfRow w B' A xs := fun i s hs => by
  obtain ⟨ad, e, hl, hc⟩ := h i s hs
  exact ⟨ad, e, Nat.lt_of_lt_of_le hl hb, hc⟩
theorem LfRow.nil (w : World) (B : Nat) (A : Option Addr) : LfRow w B A [] := fun i x hx => by simp at hx
/-- A row of the call's own, read. -/
theorem lfs_of_own {b : Nat} {W : World} {v : Value} {l : List Lf} (h : W.ownsRow b 46 5 v l.length (lfCs l)) : ∃ A c, v = .slice A l.length c ∧ (A = none → c = 0) ∧ LfRow W W.heap.size A l := by
  rcases h.2 with ⟨h1, h2⟩ | ⟨g, cap, cur, hv, hg, hh, hc, hm, hsz, hcur⟩
  · have e : l = [] := List.eq_nil_of_length_eq_zero h2
    subst e
    exact ⟨none, 0, h1, fun _ => rfl, LfRow.nil _ _ _⟩
  · refine ⟨some ⟨g, 0, none⟩, cap, hv, (fun h => nomatch h), fun i x hx => ⟨_, rfl, (Array.getElem?_eq_some_iff.1 hh).1, ?_⟩⟩
    have hil : i < l.length := (List.getElem?_eq_some_iff.1 hx).1
    have key : ∀ j, j < 5 → W.cell? ⟨g, i * 5 + j, none⟩ = (lfc x)[j]? := fun j hj => by
      rw [← lfCs_at l i x hx j hj, ← hcur, List.getElem?_take_of_lt (by omega)]
      rw [cell_of_row W g (i * 5 + j) cur _ _ hh]
      simp
    have e1 : (⟨g, 0, none⟩ : Addr).add (i * 5) = ⟨g, i * 5, none⟩ := by simp [Addr.add]; exact fun hj => hj.symm
    rw [e1]
    have k0 := key 0 (by omega)
    rw [Nat.add_zero] at k0
    exact ⟨k0, key 1 (by omega), key 2 (by omega), key 3 (by omega), key 4 (by omega)⟩
/-- Block g holds just these leaves. -/
def LfBox (w : World) (g : Nat) (d : List Lf) : Prop := Box w g 46 (lfCs d).toArray
section
variable {w w' : World} {g : Nat} {d : List Lf}
theorem LfBox.inside (h : LfBox w g d) : g < w.heap.size := Box.inside h
theorem LfBox.call (h : LfBox w g d) (hb : Below w.heap.size w w') : LfBox w' g d := Box.call h hb
theorem LfBox.past (h : LfBox w g d) (o : Obj) : LfBox (w.alloc o) g d := Box.past h o
theorem LfBox.row (h : LfBox w g d) : LfRow w w.heap.size (some ⟨g, 0, none⟩) d := fun i x hx => by
  have key : ∀ j, j < 5 → w.cell? ⟨g, i * 5 + j, none⟩ = (lfc x)[j]? := fun j hj => by
    rw [Box.read h]
    simp only [List.getElem?_toArray]
    exact lfCs_at d i x hx j hj
  have e1 : (⟨g, 0, none⟩ : Addr).add (i * 5) = ⟨g, i * 5, none⟩ := by simp [Addr.add]; exact fun hj => hj.symm
  refine ⟨_, rfl, h.inside, ?_⟩
  rw [e1]
  have k0 := key 0 (by omega)
  rw [Nat.add_zero] at k0
  exact ⟨k0, key 1 (by omega), key 2 (by omega), key 3 (by omega), key 4 (by omega)⟩
theorem LfBox.free (h : LfBox w g d) (i : Nat) : w.frozen? ⟨g, i, none⟩ = false := Box.free h i
theorem LfBox.at (h : LfBox w g d) (i : Nat) (hi : i < d.length) : ∃ x, d[i]? = some x ∧ w.cell? ⟨g, i * 5, none⟩ = some (.bool x.pad) ∧ w.cell? ⟨g, i * 5 + 1, none⟩ = some (.string x.id) ∧ w.cell? ⟨g, i * 5 + 2, none⟩ = some (.string x.salt) ∧
    w.cell? ⟨g, i * 5 + 3, none⟩ = some (.int .u64 x.h) ∧ w.cell? ⟨g, i * 5 + 4, none⟩ = some (.int .u64 x.l) := by
  obtain ⟨x, hx⟩ : ∃ x, d[i]? = some x := ⟨_, List.getElem?_eq_getElem hi⟩
  obtain ⟨ad, e, -, hc⟩ := h.row i x hx
  injection e with e
  subst e
  have e1 : (⟨g, 0, none⟩ : Addr).add (i * 5) = ⟨g, i * 5, none⟩ := by simp [Addr.add]; exact fun hj => hj.symm
  rw [e1] at hc
  exact ⟨x, hx, hc⟩
theorem LfBox.put (h : LfBox w g d) (i : Nat) (x : Lf) (hi : i < d.length) :
    LfBox (((((w.setCell ⟨g, i * 5, none⟩ (.bool x.pad)).setCell ⟨g, i * 5 + 1, none⟩ (.string x.id)).setCell ⟨g, i * 5 + 2, none⟩ (.string x.salt)).setCell ⟨g, i * 5 + 3, none⟩ (.int .u64 x.h)).setCell ⟨g, i * 5 + 4, none⟩ (.int .u64 x.l)) g (d.set i x) := by
  have h1 := ((((Box.wrote h (i * 5) (.bool x.pad)).wrote (i * 5 + 1) (.string x.id)).wrote (i * 5 + 2) (.string x.salt)).wrote (i * 5 + 3) (.int .u64 x.h)).wrote (i * 5 + 4) (.int .u64 x.l)
  unfold LfBox
  rw [← lfCs_set d i x hi]
  have e : ∀ l : List Value, ∀ k v, l.toArray.setIfInBounds k v = (l.set k v).toArray := fun l k v => by simp
  rw [e, e, e, e, e] at h1
  exact h1
end
end Go.Proofs.YtngofpdpangajaaDoor
