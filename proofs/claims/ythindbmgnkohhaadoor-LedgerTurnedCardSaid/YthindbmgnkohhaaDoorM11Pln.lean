/- Several of my texts, laid as one. -/
import Derived.Test.YthindbmgnkohhaaDoorM10Mer
import Derived.Test.YthindbmgnkohhaaDoorD10Row
/-
  Plain words on ledgers: the first row of an Id; rows whose Ids others have; what is wrong with a row behind others; what is wrong with rows, with lines.
-/
namespace Go.Proofs.YthindbmgnkohhaaDoor
set_option linter.unusedVariables false
set_option linter.unusedSimpArgs false
set_option maxRecDepth 10000
open Go.RowKit Go.Sort

/-- Is there a row of that Id? -/
def hasK (l : List Rw) (k : List UInt8) : Bool := l.any fun x => decide (keyR x = k)
theorem hasK_iff (l : List Rw) (k : List UInt8) : hasK l k = true ↔ ∃ x ∈ l, keyR x = k := by simp [hasK]
theorem hasK_not (l : List Rw) (k : List UInt8) : hasK l k = false ↔ ∀ x ∈ l, keyR x ≠ k := by simp [hasK]
theorem hasK_keys (l : List Rw) (k : List UInt8) : hasK l k = decide (k ∈ l.map keyR) := by
  rw [Bool.eq_iff_iff, hasK_iff, decide_eq_true_eq, List.mem_map]
/-- The first row of that Id. -/
def findR : List Rw → List UInt8 → Rw × Bool
  | [], _ => (Rw.zero, false)
  | x :: r, k => if keyR x = k then (x, true) else findR r k
theorem findR_has (l : List Rw) (k : List UInt8) : (findR l k).2 = hasK l k := by
  induction l with
  | nil => rfl
  | cons x r ih =>
    unfold findR hasK
    rw [List.any_cons]
    by_cases h : keyR x = k
    · rw [if_pos h, decide_eq_true h]; rfl
    · rw [if_neg h, decide_eq_false h, Bool.false_or]; exact ih
theorem findR_hit {l : List Rw} {k : List UInt8} {i : Nat} {x : Rw} (hb : ∀ j y, j < i → l[j]? = some y → keyR y ≠ k) (hx : l[i]? = some x) (hk : keyR x = k) : findR l k = (x, true) := by
  induction l generalizing i with
  | nil => simp at hx
  | cons y r ih =>
    unfold findR
    cases i with
    | zero =>
      obtain rfl : y = x := by simpa using hx
      rw [if_pos hk]
    | succ i =>
      rw [if_neg (hb 0 y (Nat.succ_pos _) rfl)]
      exact ih (i := i) (fun j z hj hz => hb (j + 1) z (by omega) (by simpa using hz)) (by simpa using hx)
theorem findR_none {l : List Rw} {k : List UInt8} (hb : ∀ j y, j < l.length → l[j]? = some y → keyR y ≠ k) : findR l k = (Rw.zero, false) := by
  induction l with
  | nil => rfl
  | cons y r ih =>
    unfold findR
    rw [if_neg (hb 0 y (by simp) rfl)]
    exact ih fun j z hj hz => hb (j + 1) z (by simp; omega) (by simpa using hz)
theorem findR_mem {l : List Rw} {k : List UInt8} (h : hasK l k = true) : (findR l k).1 ∈ l ∧ keyR (findR l k).1 = k := by
  induction l with
  | nil => simp [hasK] at h
  | cons x r ih =>
    unfold findR
    by_cases e : keyR x = k
    · rw [if_pos e]; exact ⟨by simp, e⟩
    · rw [if_neg e]
      have h2 : hasK r k = true := by
        unfold hasK at h ⊢
        rw [List.any_cons, decide_eq_false e, Bool.false_or] at h
        exact h
      exact ⟨List.mem_cons_of_mem _ (ih h2).1, (ih h2).2⟩
theorem findR_not {l : List Rw} {k : List UInt8} (h : hasK l k = false) : findR l k = (Rw.zero, false) :=
  findR_none fun j y hj hy => (hasK_not l k).1 h y (List.mem_of_getElem? hy)
theorem findR_ok (l : List Rw) (k : List UInt8) (h : ∀ x ∈ l, x.ok) : (findR l k).1.ok := by
  cases e : hasK l k with
  | true => exact h _ (findR_mem e).1
  | false => rw [findR_not e]; exact zero_ok
/-- Those whose Ids the others have; those whose Ids they haven't. -/
def inL (l o : List Rw) : List Rw := l.filter fun x => hasK o (keyR x)
def outL (l o : List Rw) : List Rw := l.filter fun x => !hasK o (keyR x)
theorem inL_snoc (l o : List Rw) (x : Rw) : inL (l ++ [x]) o = inL l o ++ if hasK o (keyR x) = true then [x] else [] := by
  unfold inL
  rw [List.filter_append]
  cases h : hasK o (keyR x) <;> simp [h]
theorem outL_snoc (l o : List Rw) (x : Rw) : outL (l ++ [x]) o = outL l o ++ if hasK o (keyR x) = true then [] else [x] := by
  unfold outL
  rw [List.filter_append]
  cases h : hasK o (keyR x) <;> simp [h]
theorem inL_len (l o : List Rw) : (inL l o).length ≤ l.length := List.length_filter_le _ _
theorem outL_len (l o : List Rw) : (outL l o).length ≤ l.length := List.length_filter_le _ _
theorem inL_mem {l o : List Rw} {x : Rw} (h : x ∈ inL l o) : x ∈ l ∧ hasK o (keyR x) = true := by simpa [inL] using h
theorem outL_mem {l o : List Rw} {x : Rw} (h : x ∈ outL l o) : x ∈ l ∧ hasK o (keyR x) = false := by simpa [outL] using h
/-- The rows that an Only picks. -/
def onlyL (l o : List Rw) (b : Bool) : List Rw := if b = true then inL l o else outL l o
theorem onlyL_snoc (l o : List Rw) (b : Bool) (x : Rw) : onlyL (l ++ [x]) o b = onlyL l o b ++ if hasK o (keyR x) = b then [x] else [] := by
  unfold onlyL
  cases b with
  | true => simp only [if_true]; rw [inL_snoc]
  | false =>
    simp only [Bool.false_eq_true, if_false]
    rw [outL_snoc]
    cases h : hasK o (keyR x) <;> simp
theorem onlyL_len (l o : List Rw) (b : Bool) : (onlyL l o b).length ≤ l.length := by
  unfold onlyL
  split
  · exact inL_len l o
  · exact outL_len l o
theorem take_succ_at {l : List Rw} {i : Nat} {x : Rw} (h : l[i]? = some x) : l.take (i + 1) = l.take i ++ [x] := by
  obtain ⟨hi, e⟩ := List.getElem?_eq_some_iff.1 h
  rw [List.take_succ_eq_append_getElem hi, e]
end Go.Proofs.YthindbmgnkohhaaDoor
/-
  Plain words on ledgers: what is wrong with a row behind others; with rows, with lines.
-/
namespace Go.Proofs.YthindbmgnkohhaaDoor
set_option linter.unusedVariables false
set_option linter.unusedSimpArgs false
set_option maxRecDepth 10000
open Go.RowKit Go.Sort

/-- The sum of all amounts, without end. -/
def sumR : List Rw → Int
  | [] => 0
  | x :: r => nv x.h x.l + sumR r
theorem sumR_app (l m : List Rw) : sumR (l ++ m) = sumR l + sumR m := by
  induction l with
  | nil => simp [sumR]
  | cons x r ih => simp only [List.cons_append, sumR, ih]; omega
theorem sumR_snoc (l : List Rw) (x : Rw) : sumR (l ++ [x]) = sumR l + nv x.h x.l := by rw [sumR_app]; simp [sumR]
theorem sumR_nonneg {l : List Rw} (h : ∀ x ∈ l, x.ok) : 0 ≤ sumR l := by
  induction l with
  | nil => simp [sumR]
  | cons x r ih =>
    have h1 := nv_word (h x (by simp)).1 (h x (by simp)).2
    have h2 := ih fun y hy => h y (by simp [hy])
    simp only [sumR]
    omega
/-- What is wrong with a row behind others, of at most so many. -/
def putL (most : Nat) (l : List Rw) (x : Rw) : Nat := if most ≤ l.length then 111 else if hasK l (keyR x) = true then 110 else if room (sumR l + nv x.h x.l) = true then 0 else 112
/-- Rows with which nothing is wrong. -/
def GoodL (most : Nat) (l : List Rw) : Prop := l.length ≤ most ∧ (l.map keyR).Nodup ∧ room (sumR l) = true
theorem good_nil (most : Nat) : GoodL most [] := ⟨Nat.zero_le _, List.Pairwise.nil, by decide⟩
theorem putL_rows {most : Nat} {l : List Rw} {x : Rw} (h : most ≤ l.length) : putL most l x = 111 := if_pos h
theorem putL_twice {most : Nat} {l : List Rw} {x : Rw} (h : ¬ most ≤ l.length) (h2 : hasK l (keyR x) = true) : putL most l x = 110 := by unfold putL; rw [if_neg h, if_pos h2]
theorem putL_total {most : Nat} {l : List Rw} {x : Rw} (h : ¬ most ≤ l.length) (h2 : hasK l (keyR x) = false) (h3 : room (sumR l + nv x.h x.l) = false) : putL most l x = 112 := by
  unfold putL
  rw [if_neg h, if_neg (by rw [h2]; decide), if_neg (by rw [h3]; decide)]
theorem putL_ok {most : Nat} {l : List Rw} {x : Rw} (h : ¬ most ≤ l.length) (h2 : hasK l (keyR x) = false) (h3 : room (sumR l + nv x.h x.l) = true) : putL most l x = 0 := by
  unfold putL
  rw [if_neg h, if_neg (by rw [h2]; decide), if_pos h3]
theorem putL_zero {most : Nat} {l : List Rw} {x : Rw} (h : putL most l x = 0) : ¬ most ≤ l.length ∧ hasK l (keyR x) = false ∧ room (sumR l + nv x.h x.l) = true := by
  unfold putL at h
  split at h
  · cases h
  · rename_i h1
    split at h
    · cases h
    · rename_i h2
      split at h
      · rename_i h3
        exact ⟨h1, by simpa using h2, h3⟩
      · cases h
theorem GoodL.snoc {most : Nat} {l : List Rw} {x : Rw} (h : GoodL most l) (hp : putL most l x = 0) : GoodL most (l ++ [x]) := by
  obtain ⟨h1, h2, h3⟩ := putL_zero hp
  refine ⟨by simp; omega, ?_, by rw [sumR_snoc]; exact h3⟩
  rw [List.map_append, List.nodup_append]
  refine ⟨h.2.1, by simp, ?_⟩
  intro a ha b hb
  simp at hb
  subst hb
  rintro rfl
  rw [hasK_keys, decide_eq_false_iff_not] at h2
  exact h2 ha
/-- What is wrong with a line behind rows: what is wrong with it, or with its row. -/
def lineE (most : Nat) (acc : List Rw) (x : List UInt8) : Nat := if (tell x).2.2 ≠ 0 then (tell x).2.2 else if (tell x).2.1 = true then putL most acc (tell x).1 else 0
/-- The rows behind a line. -/
def lineR (acc : List Rw) (x : List UInt8) : List Rw := if (tell x).2.1 = true then acc ++ [(tell x).1] else acc
/-- Rows, line and error of lines, behind rows and so many lines. -/
def impF (most : Nat) : List Rw → Nat → List (List UInt8) → List Rw × Nat × Nat
  | acc, _, [] => (acc, 0, 0)
  | acc, n, x :: r => if lineE most acc x = 0 then impF most (lineR acc x) (n + 1) r else ([], n + 1, lineE most acc x)
/-- What is wrong with rows: the place, from 1 on, and what. -/
def chkF (most : Nat) : List Rw → Nat → List Rw → Nat × Nat
  | _, _, [] => (0, 0)
  | acc, n, x :: r => if isId (keyR x) = false then (n + 1, 101) else if putL most acc x = 0 then chkF most (acc ++ [x]) (n + 1) r else (n + 1, putL most acc x)
/-- The rows that a line tells. -/
def tellRows (x : List UInt8) : List Rw := if (tell x).2.1 = true then [(tell x).1] else []
theorem tell_size (x : List UInt8) : (tell x).1.id.size ≤ x.length := by
  unfold tell
  split
  · exact Nat.zero_le _
  · show (parR x).1.id.size ≤ x.length
    unfold parR
    split
    · exact Nat.zero_le _
    · rename_i a b hc
      split
      · split
        · have e := ((cutL_some x a b).1 hc).1
          show (bA a).size ≤ x.length
          rw [e]
          simp [bA, ByteArray.size]
        · exact Nat.zero_le _
      · exact Nat.zero_le _
theorem tell_no {x : List UInt8} (h : ¬ (tell x).2.2 = 0) : (tell x).2.1 = false := by
  cases e : (tell x).2.1 with
  | false => rfl
  | true => exact absurd (tell_is x e) h
theorem lineE_bad {most : Nat} {acc : List Rw} {x : List UInt8} (h : ¬ (tell x).2.2 = 0) : lineE most acc x = (tell x).2.2 := by unfold lineE; rw [if_pos h]
theorem lineE_none {most : Nat} {acc : List Rw} {x : List UInt8} (h : (tell x).2.2 = 0) (h2 : (tell x).2.1 = false) : lineE most acc x = 0 := by unfold lineE; rw [if_neg (fun k => k h), h2]; rfl
theorem lineE_row {most : Nat} {acc : List Rw} {x : List UInt8} (h2 : (tell x).2.1 = true) : lineE most acc x = putL most acc (tell x).1 := by unfold lineE; rw [if_neg (fun k => k (tell_is x h2)), if_pos h2]
theorem lineR_eq (acc : List Rw) (x : List UInt8) : lineR acc x = acc ++ tellRows x := by
  unfold lineR tellRows
  split <;> simp
theorem impF_on {most : Nat} {acc : List Rw} {n : Nat} {x : List UInt8} {r : List (List UInt8)} (h : lineE most acc x = 0) : impF most acc n (x :: r) = impF most (lineR acc x) (n + 1) r := by rw [impF, if_pos h]
theorem impF_off {most : Nat} {acc : List Rw} {n : Nat} {x : List UInt8} {r : List (List UInt8)} (h : ¬ lineE most acc x = 0) : impF most acc n (x :: r) = ([], n + 1, lineE most acc x) := by rw [impF, if_neg h]
theorem good_line {most : Nat} {acc : List Rw} {x : List UInt8} (h : GoodL most acc) (he : lineE most acc x = 0) : GoodL most (lineR acc x) := by
  unfold lineR
  split
  · rename_i h2
    rw [lineE_row h2] at he
    exact h.snoc he
  · exact h
end Go.Proofs.YthindbmgnkohhaaDoor
