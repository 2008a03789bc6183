/-
  paymasterref01.number, walked: the number of digits of base 65536, the least first; none where there is no room for it.
-/
import Derived.Test.YtakhdhbalmcohaaDoorR1Digits
import Derived.RegionTactic
import Derived.ChangeAlike
namespace Go.Proofs.YtakhdhbalmcohaaDoor
set_option linter.unusedVariables false
set_option linter.unusedSimpArgs false
set_option maxRecDepth 10000
open Go.RowKit

/-- The number of a row of digits. -/
def val : List Int → Int
  | [] => 0
  | d :: r => d + 65536 * val r
/-- Digits they are. -/
def AllDig (xs : List Int) : Prop := ∀ d ∈ xs, 0 ≤ d ∧ d < 65536

theorem val_nonneg : ∀ {xs : List Int}, AllDig xs → 0 ≤ val xs
  | [], _ => by simp [val]
  | d :: r, h => by
    have h1 := h d (by simp)
    have h2 := val_nonneg (xs := r) (fun x hx => h x (by simp [hx]))
    simp only [val]; omega
theorem val_drop {xs : List Int} {m : Nat} (hm : m < xs.length) : val (xs.drop m) = xs[m] + 65536 * val (xs.drop (m + 1)) := by
  rw [List.drop_eq_getElem_cons hm]; rfl
theorem val_drop_le : ∀ (m : Nat) {xs : List Int}, AllDig xs → 65536 ^ m * val (xs.drop m) ≤ val xs
  | 0, xs, _ => by simp
  | m + 1, [], _ => by simp [val]
  | m + 1, d :: r, h => by
    have h1 := h d (by simp)
    have h2 := val_drop_le m (xs := r) (fun x hx => h x (by simp [hx]))
    simp only [val, List.drop_succ_cons]
    have e : (65536 : Int) ^ (m + 1) * val (r.drop m) = 65536 * (65536 ^ m * val (r.drop m)) := by
      rw [Int.pow_succ, Int.mul_comm (65536 ^ m), Int.mul_assoc]
    rw [e]; omega
theorem AllDig.drop {xs : List Int} (h : AllDig xs) (m : Nat) : AllDig (xs.drop m) := fun d hd => h d (List.mem_of_mem_drop hd)
theorem val_append : ∀ (xs ys : List Int), val (xs ++ ys) = val xs + 65536 ^ xs.length * val ys
  | [], ys => by simp [val]
  | d :: r, ys => by
    simp only [List.cons_append, val, val_append r ys, List.length_cons, Int.pow_succ]
    rw [Int.mul_comm (65536 ^ r.length) 65536, Int.mul_assoc]; omega

/-- What stands in the two halves when the digits from place j on have been read: T is their number. -/
theorem half_step {T d : Int} {m : Nat} (hm : m < 4) (h0 : 0 ≤ T) (h1 : T < 65536 ^ (8 - (m + 1))) (d0 : 0 ≤ d) (d1 : d < 65536) :
    (d + 65536 * T) / 65536 ^ (4 - m) = T / 65536 ^ (4 - (m + 1)) ∧ (d + 65536 * T) % 65536 ^ (4 - m) = T % 65536 ^ (4 - (m + 1)) * 65536 + d ∧
    0 ≤ T % 65536 ^ (4 - (m + 1)) ∧ T % 65536 ^ (4 - (m + 1)) * 65536 + d < 18446744073709551616 ∧ 0 ≤ T / 65536 ^ (4 - (m + 1)) ∧ d + 65536 * T < 65536 ^ (8 - m) := by
  have hm' : m = 0 ∨ m = 1 ∨ m = 2 ∨ m = 3 := by omega
  rcases hm' with rfl | rfl | rfl | rfl <;> simp only [Nat.reduceAdd, Nat.reduceSub, Int.reducePow, Nat.zero_add, Int.pow_zero, Int.pow_succ] at h1 ⊢ <;> refine ⟨?_, ?_, ?_, ?_, ?_, ?_⟩ <;> omega

/-- What is told of a row of digits. -/
def NumTells (N : Int) (B : Nat) (w : World) (e : Ending) (w' : World) : Prop :=
  e = .returned (.tuple #[.agg #[.int .u64 (rh N), .int .u64 (rl N)], .bool (room N)]) ∧ Below B w w'

end Go.Proofs.YtakhdhbalmcohaaDoor
