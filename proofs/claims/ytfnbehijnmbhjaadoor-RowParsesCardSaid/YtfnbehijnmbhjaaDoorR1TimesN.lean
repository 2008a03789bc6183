/-
  The arithmetic of multiplying digit by digit, each place kept below the base. No program is named here.
-/
import Derived.Test.YtfnbehijnmbhjaaDoorR1Add
namespace Go.Proofs.YtfnbehijnmbhjaaDoor
set_option linter.unusedVariables false
set_option linter.unusedSimpArgs false
set_option maxRecDepth 10000
open Go.RowKit

theorem val_set : ∀ {zs : List Int} {m : Nat} (hm : m < zs.length) (d : Int), val (zs.set m d) = val zs + 65536 ^ m * (d - zs[m])
  | z :: r, 0, hm, d => by simp [val]; omega
  | z :: r, m + 1, hm, d => by
    have ih := val_set (zs := r) (m := m) (by simpa using hm) d
    simp only [List.set_cons_succ, val, List.getElem_cons_succ, ih, Int.pow_succ]
    rw [Int.mul_add, Int.mul_comm (65536 ^ m) 65536, Int.mul_assoc]; omega
theorem AllDig.set {zs : List Int} (h : AllDig zs) (m : Nat) {d : Int} (h0 : 0 ≤ d) (h1 : d < 65536) : AllDig (zs.set m d) := by
  intro x hx
  rcases List.mem_or_eq_of_mem_set hx with hx | hx
  · exact h x hx
  · subst hx; exact ⟨h0, h1⟩
/-- One step of the carry. -/
theorem carry_step {zs : List Int} {m : Nat} (hm : m < zs.length) {z more T : Int} (ez : zs[m] = z) (hT : val zs + more * 65536 ^ m = T) :
    val (zs.set m ((more + z) % 65536)) + (more + z) / 65536 * 65536 ^ (m + 1) = T := by
  rw [val_set hm, ez, ← hT, Int.pow_succ, Int.mul_sub, Int.mul_comm more, ← Int.mul_assoc, Int.mul_comm ((more + z) / 65536 ) (65536 ^ m), Int.mul_assoc]
  generalize (65536 : Int) ^ m = P at *
  have e : P * ((more + z) % 65536) + P * ((more + z) / 65536 * 65536) = P * more + P * z := by
    rw [← Int.mul_add, ← Int.mul_add]; congr 1; omega
  omega
theorem carry_place {zs : List Int} (hd : AllDig zs) {m : Nat} {more T : Int} (h0 : 0 < more) (hT : val zs + more * 65536 ^ m = T) (hb : T < 65536 ^ 12) : m < 12 := by
  have hz := val_nonneg hd
  rcases Nat.lt_or_ge m 12 with h | h
  · exact h
  · exfalso
    have p1 : (65536 : Int) ^ 12 ≤ 65536 ^ m := by
      have e : (65536 : Int) ^ m = 65536 ^ (m - 12) * 65536 ^ 12 := by rw [← Int.pow_add]; congr 1; omega
      have p : (1 : Int) ≤ 65536 ^ (m - 12) := Int.pow_pos (by decide)
      rw [e]
      have := Int.mul_le_mul_of_nonneg_right p (show (0 : Int) ≤ 65536 ^ 12 by decide)
      rw [Int.one_mul] at this
      exact this
    have p2 := Int.mul_le_mul_of_nonneg_right (show (1 : Int) ≤ more by omega) (show (0 : Int) ≤ 65536 ^ m from Int.pow_nonneg (by decide))
    rw [Int.one_mul] at p2
    omega
/-- A place's product is taken in. -/
theorem prod_step {ys : List Int} {k i : Nat} (hk : k < ys.length) {y x S V : Int} (ey : ys[k] = y) (hV : V = S + x * 65536 ^ i * val (ys.take k)) :
    V + x * y * 65536 ^ (i + k) = S + x * 65536 ^ i * val (ys.take (k + 1)) := by
  rw [hV, val_take hk, ey, Int.mul_add, Int.pow_add]
  have e : x * 65536 ^ i * (65536 ^ k * y) = x * y * (65536 ^ i * 65536 ^ k) := by
    rw [Int.mul_assoc x, Int.mul_assoc x, Int.mul_left_comm y, Int.mul_comm y]
  rw [e]; omega
theorem val_take_le {ys : List Int} (h : AllDig ys) (k : Nat) : 0 ≤ val (ys.take k) ∧ val (ys.take k) ≤ val ys := by
  have h1 := val_nonneg (xs := ys.take k) (fun d hd => h d (List.mem_of_mem_take hd))
  have h2 := val_nonneg (h.drop k)
  have e := val_append (ys.take k) (ys.drop k)
  rw [List.take_append_drop] at e
  have h3 : 0 ≤ 65536 ^ (ys.take k).length * val (ys.drop k) := Int.mul_nonneg (Int.pow_nonneg (by decide)) h2
  exact ⟨h1, by omega⟩
/-- Whatever part of the product has been taken in is at most the product. -/
theorem part_le {xs ys : List Int} (hx : AllDig xs) (hy : AllDig ys) {i k : Nat} {x n : Int} (hi : i < xs.length) (ex : xs[i] = x) (hn : val ys = n) (hA : val xs < 65536 ^ 8) (hN : n < 65536 ^ 4) :
    val (xs.take i) * n + x * 65536 ^ i * val (ys.take k) < 65536 ^ 12 := by
  obtain ⟨k0, k1⟩ := val_take_le hy k
  have x0 := (hx xs[i] (by simp)).1
  rw [ex] at x0
  have p : 0 ≤ x * 65536 ^ i := Int.mul_nonneg x0 (Int.pow_nonneg (by decide))
  have h1 := Int.mul_le_mul_of_nonneg_left k1 p
  rw [hn] at h1 k1
  have n0 : 0 ≤ n := by omega
  have e := val_take hi
  rw [ex] at e
  have h2 : val (xs.take i) * n + x * 65536 ^ i * n = val (xs.take (i + 1)) * n := by
    rw [e, Int.add_mul, Int.mul_comm x]
  have h3 := Int.mul_le_mul_of_nonneg_right (val_take_le hx (i + 1)).2 n0
  have h4 : val xs * n ≤ val xs * 65536 ^ 4 := Int.mul_le_mul_of_nonneg_left (by omega) (val_nonneg hx)
  have h5 : val xs * 65536 ^ 4 < 65536 ^ 12 := by
    have e4 : (65536 : Int) ^ 4 = 18446744073709551616 := rfl
    have e8 : (65536 : Int) ^ 8 = 340282366920938463463374607431768211456 := rfl
    have e12 : (65536 : Int) ^ 12 = 6277101735386680763835789423207666416102355444464034512896 := rfl
    rw [e8] at hA
    rw [e4, e12]
    omega
  omega
theorem u64s_set (zs : List Int) (m : Nat) (d : Int) : (u64s (zs.set m d)).toArray = (u64s zs).toArray.setIfInBounds m (.int .u64 d) := by
  simp [u64s, List.map_set]
end Go.Proofs.YtfnbehijnmbhjaaDoor
