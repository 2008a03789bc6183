/-
  The arithmetic of dividing bit by bit, the greatest first. No program is named here.
-/
import Derived.Test.YtfnbehijnmbhjaaDoorR1TimesN
namespace Go.Proofs.YtfnbehijnmbhjaaDoor
set_option linter.unusedVariables false
set_option linter.unusedSimpArgs false
set_option maxRecDepth 10000
open Go.RowKit

/-- The bit that is asked behind j others of its digit; 0 behind all sixteen. -/
def bitv (j : Nat) : Int := 32768 / 2 ^ j
theorem bitv_next (j : Nat) : bitv (j + 1) = bitv j / 2 := by
  unfold bitv; rw [Int.pow_succ, Int.ediv_ediv_of_nonneg (Int.pow_nonneg (by decide))]
theorem bitv_cases {j : Nat} (hj : j < 16) : 1 ≤ bitv j ∧ bitv j ≤ 32768 ∧ (2 : Int) ^ (16 - j) = bitv j * 2 ∧ (2 : Int) ^ (16 - (j + 1)) = bitv j := by
  have : j = 0 ∨ j = 1 ∨ j = 2 ∨ j = 3 ∨ j = 4 ∨ j = 5 ∨ j = 6 ∨ j = 7 ∨ j = 8 ∨ j = 9 ∨ j = 10 ∨ j = 11 ∨ j = 12 ∨ j = 13 ∨ j = 14 ∨ j = 15 := by omega
  rcases this with rfl | rfl | rfl | rfl | rfl | rfl | rfl | rfl | rfl | rfl | rfl | rfl | rfl | rfl | rfl | rfl <;> decide
theorem bitv_end : bitv 16 = 0 := by decide

/-- What has been read of the number behind j bits of digit x, hi being the digits above. -/
def seen (hi x : Int) (j : Nat) : Int := hi * 2 ^ j + x / 2 ^ (16 - j)
theorem seen_next {hi x : Int} {j : Nat} (hj : j < 16) (hx : 0 ≤ x) : seen hi x (j + 1) = 2 * seen hi x j + x / bitv j % 2 := by
  obtain ⟨b0, b1, e1, e2⟩ := bitv_cases hj
  unfold seen
  rw [e1, e2, Int.pow_succ, ← Int.mul_assoc, ← Int.ediv_ediv_of_nonneg (by omega)]
  generalize x / bitv j = y
  omega
theorem seen_start {hi x : Int} (h0 : 0 ≤ x) (h1 : x < 65536) : seen hi x 0 = hi := by
  unfold seen
  have e : (2 : Int) ^ (16 - 0) = 65536 := rfl
  rw [e, Int.pow_zero]; omega
theorem seen_end (hi x : Int) : seen hi x 16 = x + 65536 * hi := by
  unfold seen
  have e : (2 : Int) ^ (16 - 16) = 1 := rfl
  have e2 : (2 : Int) ^ 16 = 65536 := rfl
  rw [e, e2]; omega
/-- What stands behind j bits: the quotient's part, what is left, the places below all nought. -/
structure Div (n hi x : Int) (i j : Nat) (qs : List Int) (Q rest : Int) : Prop where
  see : seen hi x j = Q * n + rest
  r0 : 0 ≤ rest
  r1 : rest < n
  len : qs.length = 8
  dig : AllDig qs
  low : ∀ m, m < i → qs[m]? = some 0
  here : ∃ d, qs[i]? = some d ∧ d + 2 ^ (16 - j) ≤ 65536
  num : val qs = Q * 2 ^ (16 - j) * 65536 ^ i
theorem Div.yes {n hi x : Int} {i j : Nat} {qs : List Int} {Q rest o d : Int} (h : Div n hi x i j qs Q rest) (hj : j < 16) (hx : 0 ≤ x) (ho : x / bitv j % 2 = o) (hd : qs[i]? = some d) (hge : n ≤ 2 * rest + o) :
    Div n hi x i (j + 1) (qs.set i (d + bitv j)) (2 * Q + 1) (2 * rest + o - n) := by
  obtain ⟨see, r0, r1, len, dig, low, ⟨d', hd', hb⟩, num⟩ := h
  obtain ⟨b0, b1, e1, e2⟩ := bitv_cases hj
  rw [hd] at hd'
  injection hd' with hd'
  subst hd'
  have ho1 : 0 ≤ o ∧ o ≤ 1 := by rw [← ho]; omega
  obtain ⟨hil, hde⟩ := List.getElem?_eq_some_iff.1 hd
  have d0 := (dig d (List.mem_of_getElem? hd)).1
  rw [e1] at hb num
  refine ⟨?_, by omega, by omega, by rw [List.length_set]; exact len, dig.set i (by omega) (by omega), fun m hm => ?_, ⟨d + bitv j, by rw [List.getElem?_set_self hil], by rw [e2]; omega⟩, ?_⟩
  · rw [seen_next hj hx, see, ho, Int.add_mul, Int.one_mul, Int.mul_assoc]; omega
  · rw [List.getElem?_set_ne (by omega)]; exact low m hm
  · rw [val_set hil, hde, num, e2, show d + bitv j - d = bitv j by omega, Int.add_mul, Int.one_mul, Int.add_mul, Int.mul_comm (65536 ^ i) (bitv j)]
    congr 2
    rw [Int.mul_comm (bitv j) 2, ← Int.mul_assoc, Int.mul_comm Q 2]
theorem Div.no {n hi x : Int} {i j : Nat} {qs : List Int} {Q rest o : Int} (h : Div n hi x i j qs Q rest) (hj : j < 16) (hx : 0 ≤ x) (ho : x / bitv j % 2 = o) (hlt : 2 * rest + o < n) :
    Div n hi x i (j + 1) qs (2 * Q) (2 * rest + o) := by
  obtain ⟨see, r0, r1, len, dig, low, ⟨d, hd, hb⟩, num⟩ := h
  obtain ⟨b0, b1, e1, e2⟩ := bitv_cases hj
  have ho1 : 0 ≤ o ∧ o ≤ 1 := by rw [← ho]; omega
  rw [e1] at hb num
  refine ⟨?_, by omega, by omega, len, dig, low, ⟨d, hd, by rw [e2]; omega⟩, ?_⟩
  · rw [seen_next hj hx, see, ho, Int.mul_assoc]; omega
  · rw [num, e2]
    congr 1
    rw [Int.mul_comm (bitv j) 2, ← Int.mul_assoc, Int.mul_comm Q 2]
end Go.Proofs.YtfnbehijnmbhjaaDoor
