/-
  Plain words: of a text's lines those that tell no error, joined, tell the same rows; and what is first among the errors of lines, line by line.
-/
import Derived.Test.YthindbmgnkohhaaDoorD10Back
namespace Go.Proofs.YthindbmgnkohhaaDoor
set_option linter.unusedVariables false
set_option linter.unusedSimpArgs false
set_option maxRecDepth 10000
open Go.RowKit Go.Lib

/-- The rows that lines tell, whatever their numbers. -/
def rowsL (l : List (List UInt8)) : List Rw := l.flatMap fun x => if (tell x).2.1 = true then [(tell x).1] else []
theorem rowsF_L (j : Nat) (l : List (List UInt8)) : rowsF (numb j l) = rowsL l := by
  induction l generalizing j with
  | nil => rfl
  | cons x r ih =>
    have := ih (j + 1)
    unfold rowsF rowsL at *
    rw [numb, List.flatMap_cons, List.flatMap_cons, this]
theorem rowsL_snoc (l : List (List UInt8)) (x : List UInt8) : rowsL (l ++ [x]) = rowsL l ++ if (tell x).2.1 = true then [(tell x).1] else [] := by simp [rowsL]
/-- The lines that tell no error. -/
def goodL (l : List (List UInt8)) : List (List UInt8) := l.filter fun x => decide ((tell x).2.2 = 0)
theorem goodL_snoc (l : List (List UInt8)) (x : List UInt8) : goodL (l ++ [x]) = goodL l ++ if (tell x).2.2 = 0 then [x] else [] := by
  unfold goodL
  rw [List.filter_append]
  congr 1
  by_cases h : (tell x).2.2 = 0 <;> simp [h]
theorem rowsL_good (l : List (List UInt8)) : rowsL (goodL l) = rowsL l := by
  induction l with
  | nil => rfl
  | cons x r ih =>
    unfold goodL at *
    by_cases h : (tell x).2.2 = 0
    · rw [List.filter_cons_of_pos (by simpa using h)]
      unfold rowsL at *
      rw [List.flatMap_cons, List.flatMap_cons, ih]
    · rw [List.filter_cons_of_neg (by simpa using h), ih]
      have hi : (tell x).2.1 = false := by
        cases hb : (tell x).2.1 with
        | false => rfl
        | true => exact absurd (tell_is x hb) h
      unfold rowsL
      rw [List.flatMap_cons, hi]
      rfl
theorem tell_nil : tell [] = (Rw.zero, false, 0) := by
  unfold tell
  rw [if_pos (Or.inr (by decide))]
  rfl
theorem allTell_good (j : Nat) (l : List (List UInt8)) (h : ∀ x ∈ l, (tell x).2.2 = 0) : AllTell (numb j l) := by
  intro y hy
  obtain ⟨i, hi, e⟩ := List.getElem_of_mem hy
  have h2 := List.getElem?_eq_getElem hi
  rw [e, numb_at] at h2
  obtain ⟨x, hx, rfl⟩ := Option.map_eq_some_iff.1 h2
  exact h x (List.mem_of_getElem? hx)
theorem errF_all (l : List (Nat × List UInt8)) (h : AllTell l) : errF l = (0, 0) := by
  have := errF_good l [] h
  rw [List.append_nil] at this
  exact this
/-- What the good lines, joined, tell. -/
theorem good_tells (l : List (List UInt8)) (h10 : ∀ x ∈ l, (10 : UInt8) ∉ x) : errF (linesL (joinL (goodL l))) = (0, 0) ∧ allRows (linesL (joinL (goodL l))) = rowsL l := by
  have key : ∀ m : List (List UInt8), splitL (joinL (goodL l)) = m → (∀ x ∈ m, (tell x).2.2 = 0) → rowsL m = rowsL l → errF (linesL (joinL (goodL l))) = (0, 0) ∧ allRows (linesL (joinL (goodL l))) = rowsL l := fun m hm h1 h2 => by
    unfold linesL
    rw [hm]
    have he := errF_all _ (allTell_good 1 m h1)
    refine ⟨he, ?_⟩
    unfold allRows
    rw [he, if_pos rfl, rowsF_L, h2]
  by_cases hg : goodL l = []
  · refine key [[]] (by rw [hg]; rfl) (fun x hx => by rw [List.mem_singleton.1 hx, tell_nil]) ?_
    rw [← rowsL_good l, hg]
    unfold rowsL
    simp [tell_nil]
  · refine key (goodL l) (split_joined _ hg fun x hx => h10 x ((List.mem_filter.1 hx).1)) (fun x hx => ?_) (rowsL_good l)
    have := (List.mem_filter.1 hx).2
    simpa using this
def sumL (l : List (List UInt8)) : Nat := (l.map fun x => x.length + 1).sum
theorem joinL_len (l : List (List UInt8)) (h : l ≠ []) : (joinL l).length + 1 = sumL l := by
  induction l with
  | nil => exact absurd rfl h
  | cons x r ih =>
    cases r with
    | nil => simp [joinL, sumL]
    | cons y r =>
      have := ih (by simp)
      unfold sumL at *
      rw [join_cons _ _ (by simp), List.map_cons, List.sum_cons, ← this, List.length_append, List.length_cons]
      omega
theorem sumL_good (l : List (List UInt8)) : sumL (goodL l) ≤ sumL l := by
  induction l with
  | nil => exact Nat.le_refl _
  | cons x r ih =>
    unfold goodL sumL at *
    by_cases h : (tell x).2.2 = 0
    · rw [List.filter_cons_of_pos (by simpa using h)]
      simp only [List.map_cons, List.sum_cons]
      omega
    · rw [List.filter_cons_of_neg (by simpa using h)]
      simp only [List.map_cons, List.sum_cons]
      omega
theorem good_len (l : List (List UInt8)) (h : l ≠ []) : (joinL (goodL l)).length ≤ (joinL l).length := by
  have h1 := joinL_len l h
  have h2 := sumL_good l
  by_cases hg : goodL l = []
  · rw [hg]; simp [joinL]
  · have h3 := joinL_len _ hg
    omega
/-- Errors, line by line. -/
theorem errF_snoc (pre : List (Nat × List UInt8)) (x : Nat × List UInt8) : errF (pre ++ [x]) = if (errF pre).2 = 0 then (if (tell x.2).2.2 = 0 then (0, 0) else (x.1, (tell x.2).2.2)) else errF pre := by
  induction pre with
  | nil => rfl
  | cons y r ih =>
    rw [List.cons_append, errF, errF]
    by_cases h : (tell y.2).2.2 = 0
    · rw [if_pos h, if_pos h, ih]
    · rw [if_neg h, if_neg h, if_neg h]
theorem errF_zero (j : Nat) (hj : 1 ≤ j) (l : List (List UInt8)) : ((errF (numb j l)).1 = 0 ↔ (errF (numb j l)).2 = 0) := by
  induction l generalizing j with
  | nil => exact ⟨fun _ => rfl, fun _ => rfl⟩
  | cons x r ih =>
    rw [numb, errF]
    by_cases h : (tell x).2.2 = 0
    · rw [if_pos h]; exact ih (j + 1) (by omega)
    · rw [if_neg h]; exact ⟨fun k => absurd k (by simp only; omega), fun k => absurd k h⟩
theorem numb_take (l : List (List UInt8)) (k : Nat) (x : List UInt8) (hx : l[k]? = some x) : numb 1 (l.take (k + 1)) = numb 1 (l.take k) ++ [(k + 1, x)] := by
  have hlt := (List.getElem?_eq_some_iff.1 hx).1
  rw [List.take_add_one, hx]
  show numb 1 (l.take k ++ [x]) = _
  rw [numb_app]
  show _ ++ [(1 + (l.take k).length, x)] = _
  rw [List.length_take, Nat.min_eq_left (by omega), Nat.add_comm 1]
end Go.Proofs.YthindbmgnkohhaaDoor
