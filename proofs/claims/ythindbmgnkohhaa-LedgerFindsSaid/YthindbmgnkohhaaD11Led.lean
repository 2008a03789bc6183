/-
  Plain words on ledgers: the first row of an Id; rows whose Ids others have; what is wrong with a row behind others; what is wrong with rows, with lines.
-/
import Derived.Test.YthindbmgnkohhaaM10Mer
namespace Go.Proofs.Ythindbmgnkohhaa
set_option linter.unusedVariables false
set_option linter.unusedSimpArgs false
set_option maxRecDepth 10000
open Go.RowKit Go.Sort

/-- Is there a row of that Id? -/
def hasK (l : List Rw) (k : List UInt8) : Bool := l.any fun x => decide (keyR x = k)
theorem hasK_iff (l : List Rw) (k : List UInt8) : hasK l k = true ↔ ∃ x ∈ l, keyR x = k := by simp [hasK]
theorem hasK_not (l : List Rw) (k : List UInt8) : hasK l k = false ↔ ∀ x ∈ l, keyR x ≠ k := by simp [hasK]
theorem hasK_keys (l : List Rw) (k : List UInt8) : hasK l k = decide (k ∈ l.map keyR) := by
  rw [Bool.eq_iff_iff, hasK_iff, decide_eq_true_eq, List.mem_map]
/-- The first row of that Id. -/
def findR : List Rw → List UInt8 → Rw × Bool
  | [], _ => (Rw.zero, false)
  | x :: r, k => if keyR x = k then (x, true) else findR r k
theorem findR_has (l : List Rw) (k : List UInt8) : (findR l k).2 = hasK l k := by
  induction l with
  | nil => rfl
  | cons x r ih =>
    unfold findR hasK
    rw [List.any_cons]
    by_cases h : keyR x = k
    · rw [if_pos h, decide_eq_true h]; rfl
    · rw [if_neg h, decide_eq_false h, Bool.false_or]; exact ih
theorem findR_hit {l : List Rw} {k : List UInt8} {i : Nat} {x : Rw} (hb : ∀ j y, j < i → l[j]? = some y → keyR y ≠ k) (hx : l[i]? = some x) (hk : keyR x = k) : findR l k = (x, true) := by
  induction l generalizing i with
  | nil => simp at hx
  | cons y r ih =>
    unfold findR
    cases i with
    | zero =>
      obtain rfl : y = x := by simpa using hx
      rw [if_pos hk]
    | succ i =>
      rw [if_neg (hb 0 y (Nat.succ_pos _) rfl)]
      exact ih (i := i) (fun j z hj hz => hb (j + 1) z (by omega) (by simpa using hz)) (by simpa using hx)
theorem findR_none {l : List Rw} {k : List UInt8} (hb : ∀ j y, j < l.length → l[j]? = some y → keyR y ≠ k) : findR l k = (Rw.zero, false) := by
  induction l with
  | nil => rfl
  | cons y r ih =>
    unfold findR
    rw [if_neg (hb 0 y (by simp) rfl)]
    exact ih fun j z hj hz => hb (j + 1) z (by simp; omega) (by simpa using hz)
theorem findR_mem {l : List Rw} {k : List UInt8} (h : hasK l k = true) : (findR l k).1 ∈ l ∧ keyR (findR l k).1 = k := by
  induction l with
  | nil => simp [hasK] at h
  | cons x r ih =>
    unfold findR
    by_cases e : keyR x = k
    · rw [if_pos e]; exact ⟨by simp, e⟩
    · rw [if_neg e]
      have h2 : hasK r k = true := by
        unfold hasK at h ⊢
        rw [List.any_cons, decide_eq_false e, Bool.false_or] at h
        exact h
      exact ⟨List.mem_cons_of_mem _ (ih h2).1, (ih h2).2⟩
theorem findR_not {l : List Rw} {k : List UInt8} (h : hasK l k = false) : findR l k = (Rw.zero, false) :=
  findR_none fun j y hj hy => (hasK_not l k).1 h y (List.mem_of_getElem? hy)
theorem findR_ok (l : List Rw) (k : List UInt8) (h : ∀ x ∈ l, x.ok) : (findR l k).1.ok := by
  cases e : hasK l k with
  | true => exact h _ (findR_mem e).1
  | false => rw [findR_not e]; exact zero_ok
/-- Those whose Ids the others have; those whose Ids they haven't. -/
def inL (l o : List Rw) : List Rw := l.filter fun x => hasK o (keyR x)
def outL (l o : List Rw) : List Rw := l.filter fun x => !hasK o (keyR x)
theorem inL_snoc (l o : List Rw) (x : Rw) : inL (l ++ [x]) o = inL l o ++ if hasK o (keyR x) = true then [x] else [] := by
  unfold inL
  rw [List.filter_append]
  cases h : hasK o (keyR x) <;> simp [h]
theorem outL_snoc (l o : List Rw) (x : Rw) : outL (l ++ [x]) o = outL l o ++ if hasK o (keyR x) = true then [] else [x] := by
  unfold outL
  rw [List.filter_append]
  cases h : hasK o (keyR x) <;> simp [h]
theorem inL_len (l o : List Rw) : (inL l o).length ≤ l.length := List.length_filter_le _ _
theorem outL_len (l o : List Rw) : (outL l o).length ≤ l.length := List.length_filter_le _ _
theorem inL_mem {l o : List Rw} {x : Rw} (h : x ∈ inL l o) : x ∈ l ∧ hasK o (keyR x) = true := by simpa [inL] using h
theorem outL_mem {l o : List Rw} {x : Rw} (h : x ∈ outL l o) : x ∈ l ∧ hasK o (keyR x) = false := by simpa [outL] using h
/-- The rows that an Only picks. -/
def onlyL (l o : List Rw) (b : Bool) : List Rw := if b = true then inL l o else outL l o
theorem onlyL_snoc (l o : List Rw) (b : Bool) (x : Rw) : onlyL (l ++ [x]) o b = onlyL l o b ++ if hasK o (keyR x) = b then [x] else [] := by
  unfold onlyL
  cases b with
  | true => simp only [if_true]; rw [inL_snoc]
  | false =>
    simp only [Bool.false_eq_true, if_false]
    rw [outL_snoc]
    cases h : hasK o (keyR x) <;> simp
theorem onlyL_len (l o : List Rw) (b : Bool) : (onlyL l o b).length ≤ l.length := by
  unfold onlyL
  split
  · exact inL_len l o
  · exact outL_len l o
theorem take_succ_at {l : List Rw} {i : Nat} {x : Rw} (h : l[i]? = some x) : l.take (i + 1) = l.take i ++ [x] := by
  obtain ⟨hi, e⟩ := List.getElem?_eq_some_iff.1 h
  rw [List.take_succ_eq_append_getElem hi, e]
end Go.Proofs.Ythindbmgnkohhaa
