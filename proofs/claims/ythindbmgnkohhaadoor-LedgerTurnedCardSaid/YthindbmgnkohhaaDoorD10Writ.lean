/-
  Plain words: the lines of what is written.
-/
import Derived.Test.YthindbmgnkohhaaDoorD10First
namespace Go.Proofs.YthindbmgnkohhaaDoor
set_option linter.unusedVariables false
set_option linter.unusedSimpArgs false
set_option maxRecDepth 10000
open Go.RowKit Go.Lib

theorem allId_mem {xs : List Rw} (h : allId xs = true) : ∀ x ∈ xs, isId x.id.data.toList = true := List.all_eq_true.1 h
theorem split_rows (xs : List Rw) (h : allId xs = true) : splitL (rowsT xs) = xs.map textR ++ [[]] := by
  induction xs with
  | nil => rfl
  | cons x r ih =>
    have h1 := allId_mem h x (by simp)
    have h2 : allId r = true := List.all_eq_true.2 fun y hy => allId_mem h y (by simp [hy])
    have e : rowsT (x :: r) = textR x ++ 10 :: rowsT r := by simp [rowsT]
    rw [e, split_mid, split_none (textR_ten x h1), ih h2]
    rfl
/-- The remark's line, if there is one. -/
def hdL (l : List UInt8) : List (List UInt8) := if l = [] then [] else [35 :: 32 :: l]
theorem remOk_ten (l : List UInt8) (h : remOk l = true) : (10 : UInt8) ∉ 35 :: 32 :: l := by
  unfold remOk at h
  rw [Bool.and_eq_true] at h
  have h1 : ¬ (10 : UInt8) ∈ l := fun k => by
    have := (has10_iff l).2 k
    rw [this] at h
    exact absurd h.1 (by decide)
  rw [List.mem_cons, List.mem_cons, not_or, not_or]
  exact ⟨by decide, by decide, h1⟩
theorem split_written (xs : List Rw) (l : List UInt8) (h : allId xs = true) (hr : remOk l = true) : splitL (remL l ++ rowsT xs) = hdL l ++ (xs.map textR ++ [[]]) := by
  unfold remL hdL
  by_cases h0 : l = []
  · rw [if_pos h0, if_pos h0]
    exact split_rows xs h
  · rw [if_neg h0, if_neg h0]
    have e : (35 :: 32 :: l ++ [10]) ++ rowsT xs = (35 :: 32 :: l) ++ 10 :: rowsT xs := by simp
    rw [e, split_mid, split_none (remOk_ten l hr), split_rows xs h]
theorem remOk_wrong (l : List UInt8) (hr : remOk l = true) : wrongL (35 :: 32 :: l) = 0 := by
  have h := rem_line l
  rw [hr] at h
  have h2 := (Bool.and_eq_true _ _).mp h.symm
  have h3 := of_decide_eq_true h2.1
  have e : linesL (35 :: 32 :: l) = [(1, 35 :: 32 :: l)] := by
    unfold linesL
    rw [split_none (remOk_ten l hr)]
    rfl
  rw [e, firstW_one] at h3
  exact h3
theorem tell_remark (l : List UInt8) (hr : remOk l = true) : tell (35 :: 32 :: l) = (Rw.zero, false, 0) := by
  unfold tell
  rw [if_pos (Or.inr (by rw [show kindL (35 :: 32 :: l) = 1 from rfl]; decide)), remOk_wrong l hr]
theorem written_tells (xs : List Rw) (l : List UInt8) (hx : ∀ x ∈ xs, x.ok) (h : allId xs = true) (hr : remOk l = true) :
    errF (linesL (remL l ++ rowsT xs)) = (0, 0) ∧ allRows (linesL (remL l ++ rowsT xs)) = xs := by
  unfold linesL
  rw [split_written xs l h hr]
  have h1 : ∀ x ∈ hdL l ++ (xs.map textR ++ [[]]), (tell x).2.2 = 0 := fun x hx' => by
    rw [List.mem_append, List.mem_append] at hx'
    rcases hx' with h2 | h2 | h2
    · unfold hdL at h2
      split at h2
      · simp at h2
      · rw [List.mem_singleton.1 h2, tell_remark l hr]
    · obtain ⟨y, hy, rfl⟩ := List.mem_map.1 h2
      rw [textR_tell y (hx y hy) (allId_mem h y hy)]
    · rw [List.mem_singleton.1 h2, tell_nil]
  have he := errF_all _ (allTell_good 1 _ h1)
  refine ⟨he, ?_⟩
  unfold allRows
  rw [he, if_pos rfl, rowsF_L]
  have e0 : rowsL (hdL l) = [] := by
    unfold hdL
    split
    · rfl
    · unfold rowsL; simp [tell_remark l hr]
  have e2 : rowsL ([[]] : List (List UInt8)) = [] := by unfold rowsL; simp [tell_nil]
  have e1 : ∀ ys : List Rw, (∀ y ∈ ys, y ∈ xs) → rowsL (ys.map textR) = ys := fun ys => by
    induction ys with
    | nil => intro _; rfl
    | cons y r ih =>
      intro hy
      have hm := hy y (by simp)
      have := ih fun z hz => hy z (by simp [hz])
      unfold rowsL at *
      rw [List.map_cons, List.flatMap_cons, this, textR_tell y (hx y hm) (allId_mem h y hm)]
      rfl
  have ea : ∀ a b : List (List UInt8), rowsL (a ++ b) = rowsL a ++ rowsL b := fun a b => by simp [rowsL]
  rw [ea, ea, e0, e2, e1 xs fun y hy => hy, List.append_nil]
  rfl
theorem wrR_cases (xs : List Rw) (l : List UInt8) : (allId xs = true ∧ remOk l = true ∧ wrR xs l = (bA (remL l ++ rowsT xs), 0)) ∨ (allId xs = true ∧ wrR xs l = (⟨#[]⟩, 91)) ∨ (allId xs = false ∧ wrR xs l = (⟨#[]⟩, 101)) := by
  unfold wrR
  cases h : allId xs with
  | false => right; right; exact ⟨rfl, if_neg (by decide)⟩
  | true =>
    rw [if_pos rfl]
    cases h2 : remOk l with
    | false => right; left; exact ⟨rfl, if_neg (by decide)⟩
    | true => left; exact ⟨rfl, rfl, if_pos rfl⟩
theorem rowsT_len (xs : List Rw) (n : Nat) (hx : ∀ x ∈ xs, x.ok) (hn : ∀ x ∈ xs, x.id.size ≤ n) : (rowsT xs).length ≤ xs.length * (n + 41) := by
  induction xs with
  | nil => simp [rowsT]
  | cons x r ih =>
    have h1 := ih (fun y hy => hx y (by simp [hy])) (fun y hy => hn y (by simp [hy]))
    have h2 := textR_len x (hx x (by simp))
    have h3 := hn x (by simp)
    have e : rowsT (x :: r) = textR x ++ 10 :: rowsT r := by simp [rowsT]
    rw [e, List.length_append, List.length_cons, List.length_cons, Nat.succ_mul]
    omega
end Go.Proofs.YthindbmgnkohhaaDoor
