/-
  A climb, turn by turn: plain words.
-/
import Derived.Test.YtjbaeiifamendaaDoorD14Node
namespace Go.Proofs.YtjbaeiifamendaaDoor
set_option linter.unusedVariables false
set_option linter.unusedSimpArgs false
set_option maxRecDepth 10000
open Go.RowKit

/-- The sides, each with whether it stands right. -/
def turnsK (p : Nat) : List Nd → List (Nd × Bool)
  | [] => []
  | s :: r => (s, decide (p % 2 = 0)) :: turnsK (p / 2) r
theorem turnsK_len (p : Nat) (l : List Nd) : (turnsK p l).length = l.length := by
  induction l generalizing p with
  | nil => rfl
  | cons s r ih => simp [turnsK, ih]
theorem turnsK_at (l : List Nd) : ∀ (p k : Nat) (x : Nd), l[k]? = some x → (turnsK p l)[k]? = some (x, decide (p / 2 ^ k % 2 = 0)) := by
  induction l with
  | nil => intro p k x h; simp at h
  | cons s r ih =>
    intro p k x h
    cases k with
    | zero =>
      obtain rfl : s = x := by simpa using h
      simp [turnsK]
    | succ k =>
      have h2 := ih (p / 2) k x (by simpa using h)
      simp only [turnsK, List.getElem?_cons_succ, h2]
      rw [Nat.div_div_eq_div_mul, Nat.pow_succ, Nat.mul_comm]
/-- One turn of a climb; all of them. -/
def stepT (w : Int) (n : Nd) (y : Nd × Bool) : Nd × Int := joinS w (if y.2 = true then n else y.1) (if y.2 = true then y.1 else n)
def climbT (w : Int) : Nd → List (Nd × Bool) → Nd × Int
  | n, [] => (n, 0)
  | n, y :: r => if (stepT w n y).2 = 0 then climbT w (stepT w n y).1 r else (Nd.zero, 10)
theorem climbT_turns (w : Int) (l : List Nd) : ∀ (n : Nd) (p : Nat), climbT w n (turnsK p l) = climbS w n p l := by
  induction l with
  | nil => intro n p; rfl
  | cons s r ih =>
    intro n p
    simp only [turnsK, climbT, climbS, stepT, ih]
    have e : (decide (p % 2 = 0) = true) ↔ ¬ p % 2 = 1 := by rw [decide_eq_true_iff]; omega
    by_cases hp : p % 2 = 1
    · have h1 : ¬ decide (p % 2 = 0) = true := fun h => e.1 h hp
      rw [if_neg h1, if_neg h1, if_pos hp, if_pos hp]
    · have h1 : decide (p % 2 = 0) = true := e.2 hp
      rw [if_pos h1, if_pos h1, if_neg hp, if_neg hp]
theorem join_code (w : Int) (a b : Nd) : (joinS w a b).2 = 0 ∨ joinS w a b = (Nd.zero, 10) := by
  cases hr : room (a.sum + b.sum) with
  | true => left; rw [joinS, if_pos hr]
  | false => right; exact join_no hr
theorem climbT_app (w : Int) (q : List (Nd × Bool)) : ∀ (n : Nd) (r : List (Nd × Bool)), climbT w n (q ++ r) = if (climbT w n q).2 = 0 then climbT w (climbT w n q).1 r else (Nd.zero, 10) := by
  induction q with
  | nil => intro n r; simp [climbT]
  | cons y q ih =>
    intro n r
    by_cases h : (stepT w n y).2 = 0
    · have e1 : climbT w n (y :: q) = climbT w (stepT w n y).1 q := by rw [climbT, if_pos h]
      have e2 : climbT w n (y :: (q ++ r)) = climbT w (stepT w n y).1 (q ++ r) := by rw [climbT, if_pos h]
      rw [List.cons_append, e2, ih, e1]
    · have e1 : climbT w n (y :: q) = (Nd.zero, 10) := by rw [climbT, if_neg h]
      have e2 : climbT w n (y :: (q ++ r)) = (Nd.zero, 10) := by rw [climbT, if_neg h]
      rw [List.cons_append, e2, e1, if_neg (by decide)]
/-- One turn more. -/
theorem climbT_snoc (w : Int) (q : List (Nd × Bool)) (n x : Nd) (y : Nd × Bool) (h : climbT w n q = (x, 0)) : climbT w n (q ++ [y]) = stepT w x y := by
  rw [climbT_app, h, if_pos rfl, climbT, climbT]
  by_cases hs : (stepT w x y).2 = 0
  · rw [if_pos hs]; exact Prod.ext rfl hs.symm
  · rw [if_neg hs]
    rcases join_code w (if y.2 = true then x else y.1) (if y.2 = true then y.1 else x) with h | h
    · exact absurd h hs
    · exact h.symm
theorem stepT_fine {w : Int} (hw : mayW w = true) {n : Nd} {y : Nd × Bool} (h : (stepT w n y).2 = 0) : (stepT w n y).1.of w = true ∧ (stepT w n y).1.halved := by
  have hj := join_yes hw (join_zero h)
  exact ⟨hj.2.1, hj.2.2.1⟩
end Go.Proofs.YtjbaeiifamendaaDoor
