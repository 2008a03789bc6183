/-
  Plain words on rows: a row, its cells, the cells of rows.
-/
import Derived.Test.YtngofpdpangajaaDoorU1Nums
import Derived.Test.YtngofpdpangajaaDoorD9Rune
namespace Go.Proofs.YtngofpdpangajaaDoor
set_option linter.unusedVariables false
set_option linter.unusedSimpArgs false
set_option maxRecDepth 10000
open Go.RowKit Go.Lib

/-- A row, plainly. -/
structure Rw where
  id : ByteArray
  h : Int
  l : Int
def Rw.val (x : Rw) : Value := .agg #[.string x.id, .int .u64 x.h, .int .u64 x.l]
def Rw.cells (x : Rw) : List Value := [.string x.id, .int .u64 x.h, .int .u64 x.l]
def Rw.zero : Rw := ⟨⟨#[]⟩, 0, 0⟩
/-- Its two halves are halves. -/
def Rw.ok (x : Rw) : Prop := Word x.h ∧ Word x.l

theorem zero_ok : Rw.zero.ok := ⟨word_lit, word_lit⟩

/-- The cells of rows. -/
def rowCs (l : List Rw) : List Value := l.flatMap Rw.cells
theorem rowCs_snoc (l : List Rw) (x : Rw) : rowCs (l ++ [x]) = rowCs l ++ x.cells := by simp [rowCs]
theorem rowCs_len (l : List Rw) : (rowCs l).length = l.length * 3 := by
  induction l with
  | nil => rfl
  | cons x r ih => simp only [rowCs, List.flatMap_cons, List.length_append] at *; rw [ih]; simp [Rw.cells]; omega
theorem rowCs_at (l : List Rw) (i : Nat) (x : Rw) (h : l[i]? = some x) (j : Nat) (hj : j < 3) : (rowCs l)[i * 3 + j]? = x.cells[j]? := by
  induction l generalizing i with
  | nil => simp at h
  | cons y r ih =>
    cases i with
    | zero =>
      obtain rfl : y = x := by simpa using h
      simp only [rowCs, List.flatMap_cons]
      rw [List.getElem?_append_left (by simp [Rw.cells]; omega)]
      simp
    | succ i =>
      simp only [rowCs, List.flatMap_cons]
      rw [List.getElem?_append_right (by simp [Rw.cells]; omega)]
      have := ih i (by simpa using h)
      rw [← this]
      have e : y.cells.length = 3 := rfl
      rw [e, show (i + 1) * 3 + j - 3 = i * 3 + j by omega]
      rfl
theorem cells_one (x : Rw) : ∀ u ∈ x.cells, u.oneCell' = true := by
  intro u hu
  simp only [Rw.cells, List.mem_cons, List.not_mem_nil, or_false] at hu
  rcases hu with rfl | rfl | rfl <;> rfl
end Go.Proofs.YtngofpdpangajaaDoor
