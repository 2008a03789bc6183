/- Several of my texts, laid as one. -/
import Derived.Test.YtkecekfapiegjaaDoorRows
import Derived.Test.YtkecekfapiegjaaDoorU1Nums
import Derived.WalkKit
import Derived.WalkSpells
import Derived.StillTactics
import Derived.Laws.Pointers
import Derived.Laws.Externs
import Derived.Shelf.Spec.BitsCarry
import Derived.RowKit3
import Derived.Outline
import Derived.BigQuiet
import Derived.Deep.QuietTactic
/-
  What each plain call of package u128 tells (Of, Most, Add, Sub, Cmp), as a contract on the translated code: any halves below 2^64; old memory is as it was.
-/
namespace Go.Proofs.YtkecekfapiegjaaDoor
set_option linter.unusedVariables false
set_option linter.unusedSimpArgs false
set_option maxRecDepth 10000
open Go.RowKit

theorem add64 (x y c : Int) (hx : 0 ≤ x) (hy : 0 ≤ y) (hc0 : 0 ≤ c) (hc : c ≤ 1) (w : World) : (callFunc 130 #[.int .u64 x, .int .u64 y, .int .u64 c]).run Tryd.prog w =
    .ok (.value (.tuple #[.int .u64 ((x + y + c) % 18446744073709551616), .int .u64 ((x + y + c) / 18446744073709551616)])) w := by
  rw [run_callFunc_extern Tryd.func130 (by kernel_rfl) (by kernel_rfl) (by kernel_rfl) (e := add64Entry) (by kernel_rfl), run_add64 x y c hx hy hc0 hc]
  rfl
theorem add64_0 (x y : Int) (hx : 0 ≤ x) (hy : 0 ≤ y) (w : World) : (callFunc 130 #[.int .u64 x, .int .u64 y, .int .u64 0]).run Tryd.prog w =
    .ok (.value (.tuple #[.int .u64 ((x + y) % 18446744073709551616), .int .u64 ((x + y) / 18446744073709551616)])) w := by
  simpa using add64 x y 0 hx hy (Int.le_refl 0) (by decide) w
set_option maxHeartbeats 1000000 in
theorem add_any (ah al bh bl : Int) (a1 : Word ah) (a0 : Word al) (b1 : Word bh) (b0 : Word bl) (w : World) :
    Calls Tryd.prog 121 #[.agg #[.int .u64 ah, .int .u64 al], .agg #[.int .u64 bh, .int .u64 bl]] w (Fit (nv ah al + nv bh bl) w.heap.size w) := by
  have hp := add_parts a1 a0 b1 b0
  obtain ⟨a1, a2⟩ := a1; obtain ⟨a3, a4⟩ := a0; obtain ⟨b1, b2⟩ := b1; obtain ⟨b3, b4⟩ := b0
  have k0 : 0 ≤ (al + bl) / 18446744073709551616 := by omega
  have k1 : (al + bl) / 18446744073709551616 ≤ 1 := by omega
  rcases hp with ⟨h0, hr, h1, h2⟩ | ⟨h0, hr⟩
  · go_enter Tryd.func121, Tryd.ntmps121
    go_wp2_with (first | simp only [add64_0 al bl a3 b3] | simp only [add64 ah bh _ a1 b1 k0 k1])
    exact bodyPost_ret (v := .tuple #[.agg #[.int .u64 _, .int .u64 _], .int .i64 0]) (by simp [results, Tryd.results121, go_sem]; exact ⟨rfl, rfl⟩) rfl ⟨by rw [re_yes hr], by repeat (first | exact Below.refl _ _ | apply Below.drew | apply below_drewN | refine Below.alloc ?_ (by simp; try omega) _ | refine Below.setCell ?_ (by simp; try omega) _)⟩
  · go_enter Tryd.func121, Tryd.ntmps121
    go_wp2_with (first | simp only [add64_0 al bl a3 b3] | simp only [add64 ah bh _ a1 b1 k0 k1])
    exact bodyPost_ret (v := .tuple #[.agg #[.int .u64 0, .int .u64 0], .int .i64 10]) (by simp [results, Tryd.results121, go_sem]) rfl ⟨by rw [rh_no hr, rl_no hr, re_no hr], by repeat (first | exact Below.refl _ _ | apply Below.drew | apply below_drewN | refine Below.alloc ?_ (by simp; try omega) _ | refine Below.setCell ?_ (by simp; try omega) _)⟩

theorem of_any (n : Int) (w : World) : Calls Tryd.prog 89 #[.int .u64 n] w (Tells (.agg #[.int .u64 0, .int .u64 n]) w.heap.size w) := by
  go_enter Tryd.func89, Tryd.ntmps89
  go_wp2
  exact bodyPost_ret (v := .agg #[.int .u64 0, .int .u64 n]) (by simp [results, Tryd.results89, go_sem]) rfl ⟨rfl, by repeat (first | exact Below.refl _ _ | apply Below.drew | apply below_drewN | refine Below.alloc ?_ (by simp; try omega) _ | refine Below.setCell ?_ (by simp; try omega) _)⟩

end Go.Proofs.YtkecekfapiegjaaDoor
/-
  The arithmetic of a long division by halves of 32 bits: one digit of the quotient, guessed and corrected. No program is named here.
-/
namespace Go.Proofs.YtkecekfapiegjaaDoor
set_option linter.unusedVariables false
set_option linter.unusedSimpArgs false
set_option maxRecDepth 10000

/-- What holds of two digits that are divided by two: U < Y, all are digits of base 2^32. -/
structure Dig (U l y1 y0 : Int) : Prop where
  u0 : 0 ≤ U
  uY : U < y1 * 4294967296 + y0
  l0 : 0 ≤ l
  l1 : l < 4294967296
  a0 : 2147483648 ≤ y1
  a1 : y1 < 4294967296
  b0 : 0 ≤ y0
  b1 : y0 < 4294967296

section
variable {U l y1 y0 q r : Int}
theorem dig_key (he : q * y1 + r = U) : q * (y1 * 4294967296 + y0) = U * 4294967296 + l - (4294967296 * r + l) + q * y0 := by
  have e : q * (y1 * 4294967296 + y0) = q * y1 * 4294967296 + q * y0 := by rw [Int.mul_add, Int.mul_assoc]
  rw [e]
  generalize q * y1 = p at *
  generalize q * y0 = z at *
  omega
/-- The first guess. -/
theorem dig_start (h : Dig U l y1 y0) : U / y1 * y1 + (U - U / y1 * y1) = U ∧ 0 ≤ U - U / y1 * y1 ∧ U - U / y1 * y1 < y1 ∧
    (U * 4294967296 + l) / (y1 * 4294967296 + y0) ≤ U / y1 ∧ 0 ≤ U / y1 ∧ U / y1 < 18446744073709551616 ∧ 0 ≤ U / y1 * y1 ∧ U / y1 * y1 ≤ U := by
  obtain ⟨u0, uY, l0, l1, a0, a1, b0, b1⟩ := h
  have hm := Int.emod_add_mul_ediv U y1
  have hc := Int.mul_comm y1 (U / y1)
  have m0 := Int.emod_nonneg U (show y1 ≠ 0 by omega)
  have m1 := Int.emod_lt_of_pos U (show 0 < y1 by omega)
  have q0 : 0 ≤ U / y1 := Int.ediv_nonneg u0 (by omega)
  have qU : U / y1 ≤ U := Int.ediv_le_self _ u0
  have hq : (U * 4294967296 + l) / (y1 * 4294967296 + y0) ≤ U / y1 := by
    rw [Int.le_ediv_iff_mul_le (by omega)]
    have h1 := Int.ediv_mul_le (U * 4294967296 + l) (show y1 * 4294967296 + y0 ≠ 0 by omega)
    have t0 : 0 ≤ (U * 4294967296 + l) / (y1 * 4294967296 + y0) := Int.ediv_nonneg (by omega) (by omega)
    generalize (U * 4294967296 + l) / (y1 * 4294967296 + y0) = t at *
    have e : t * (y1 * 4294967296 + y0) = t * y1 * 4294967296 + t * y0 := by rw [Int.mul_add, Int.mul_assoc]
    rw [e] at h1
    have z0 : 0 ≤ t * y0 := Int.mul_nonneg t0 b0
    generalize t * y1 = p at *
    generalize t * y0 = z at *
    omega
  have p0 : 0 ≤ U / y1 * y1 := Int.mul_nonneg q0 (by omega)
  rw [hc] at hm
  generalize U / y1 * y1 = p at *
  refine ⟨by omega, by omega, by omega, hq, q0, by omega, by omega, by omega⟩
/-- The guess was too great. -/
theorem dig_step (h : Dig U l y1 y0) (he : q * y1 + r = U) (hc : 4294967296 ≤ q ∨ 4294967296 * r + l < q * y0) :
    (U * 4294967296 + l) / (y1 * 4294967296 + y0) ≤ q - 1 ∧ (q - 1) * y1 + (r + y1) = U := by
  have hk := dig_key (l := l) (y0 := y0) he
  obtain ⟨u0, uY, l0, l1, a0, a1, b0, b1⟩ := h
  have hlt : (U * 4294967296 + l) / (y1 * 4294967296 + y0) < q := by
    rw [Int.ediv_lt_iff_lt_mul (by omega)]
    rcases hc with hc | hc
    · have h2 : 4294967296 * (y1 * 4294967296 + y0) ≤ q * (y1 * 4294967296 + y0) := Int.mul_le_mul_of_nonneg_right hc (by omega)
      generalize q * (y1 * 4294967296 + y0) = m at *
      omega
    · generalize q * (y1 * 4294967296 + y0) = m at *
      generalize q * y0 = z at *
      omega
  refine ⟨by omega, ?_⟩
  have e : (q - 1) * y1 = q * y1 - y1 := by rw [Int.sub_mul, Int.one_mul]
  rw [e]
  omega
/-- The guess is the digit. -/
theorem dig_done (h : Dig U l y1 y0) (he : q * y1 + r = U) (hq : (U * 4294967296 + l) / (y1 * 4294967296 + y0) ≤ q) (hc : q * y0 ≤ 4294967296 * r + l) :
    q = (U * 4294967296 + l) / (y1 * 4294967296 + y0) := by
  have hk := dig_key (l := l) (y0 := y0) he
  obtain ⟨u0, uY, l0, l1, a0, a1, b0, b1⟩ := h
  have : q ≤ (U * 4294967296 + l) / (y1 * 4294967296 + y0) := by
    rw [Int.le_ediv_iff_mul_le (by omega)]
    generalize q * (y1 * 4294967296 + y0) = m at *
    generalize q * y0 = z at *
    omega
  omega
/-- What is left has passed 2^32. -/
theorem dig_break (h : Dig U l y1 y0) (h0 : 0 ≤ q) (he : q * y1 + r = U) (hq : (U * 4294967296 + l) / (y1 * 4294967296 + y0) ≤ q) (hr : 4294967296 ≤ r) :
    q = (U * 4294967296 + l) / (y1 * 4294967296 + y0) := by
  refine dig_done h he hq ?_
  obtain ⟨u0, uY, l0, l1, a0, a1, b0, b1⟩ := h
  have hqb : q < 4294967296 := by
    rcases Int.lt_or_le q 4294967296 with h | h
    · exact h
    · have h2 : 4294967296 * y1 ≤ q * y1 := Int.mul_le_mul_of_nonneg_right h (by omega)
      generalize q * y1 = p at *
      omega
  have h3 : q * y0 ≤ 4294967296 * y0 := Int.mul_le_mul_of_nonneg_right (by omega) b0
  generalize q * y0 = z at *
  omega
/-- The digit is one; what is left is less than what was divided by. -/
theorem dig_rest (h : Dig U l y1 y0) : 0 ≤ (U * 4294967296 + l) / (y1 * 4294967296 + y0) ∧ (U * 4294967296 + l) / (y1 * 4294967296 + y0) < 4294967296 ∧
    0 ≤ U * 4294967296 + l - (U * 4294967296 + l) / (y1 * 4294967296 + y0) * (y1 * 4294967296 + y0) ∧
    U * 4294967296 + l - (U * 4294967296 + l) / (y1 * 4294967296 + y0) * (y1 * 4294967296 + y0) < y1 * 4294967296 + y0 := by
  obtain ⟨u0, uY, l0, l1, a0, a1, b0, b1⟩ := h
  have t0 : 0 ≤ (U * 4294967296 + l) / (y1 * 4294967296 + y0) := Int.ediv_nonneg (by omega) (by omega)
  have hlt : (U * 4294967296 + l) / (y1 * 4294967296 + y0) < 4294967296 := by
    rw [Int.ediv_lt_iff_lt_mul (by omega)]
    omega
  have hm := Int.emod_add_mul_ediv (U * 4294967296 + l) (y1 * 4294967296 + y0)
  have hc := Int.mul_comm (y1 * 4294967296 + y0) ((U * 4294967296 + l) / (y1 * 4294967296 + y0))
  have m0 := Int.emod_nonneg (U * 4294967296 + l) (show y1 * 4294967296 + y0 ≠ 0 by omega)
  have m1 := Int.emod_lt_of_pos (U * 4294967296 + l) (show 0 < y1 * 4294967296 + y0 by omega)
  rw [hc] at hm
  generalize (U * 4294967296 + l) / (y1 * 4294967296 + y0) * (y1 * 4294967296 + y0) = p at *
  exact ⟨t0, hlt, by omega, by omega⟩
end
end Go.Proofs.YtkecekfapiegjaaDoor
