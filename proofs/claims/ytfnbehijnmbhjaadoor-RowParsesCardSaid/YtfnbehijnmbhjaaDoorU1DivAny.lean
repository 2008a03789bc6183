/-
  math/bits.Div64: for every upper half less than what it is divided by: the quotient and the rest, as numbers without end.
-/
import Derived.Test.YtfnbehijnmbhjaaDoorU1Div
import Derived.Laws.Bits64b
import Derived.Deep.QuietTactic
import Derived.BigQuiet
namespace Go.Proofs.YtfnbehijnmbhjaaDoor
set_option linter.unusedVariables false
set_option linter.unusedSimpArgs false
set_option maxRecDepth 10000
open Go.RowKit

theorem bitLenAux_bounds : ∀ (f x : Nat), x < 2 ^ f → x ≠ 0 → 1 ≤ Lib.bitLenAux f x ∧ Lib.bitLenAux f x ≤ f ∧ 2 ^ (Lib.bitLenAux f x - 1) ≤ x ∧ x < 2 ^ Lib.bitLenAux f x
  | 0, x, h, h0 => by omega
  | f + 1, x, h, h0 => by
    simp only [Lib.bitLenAux, if_neg h0]
    by_cases h2 : x / 2 = 0
    · have e : Lib.bitLenAux f (x / 2) = 0 := by rw [h2]; cases f <;> simp [Lib.bitLenAux]
      rw [e]
      exact ⟨by omega, by omega, by simp; omega, by simp; omega⟩
    · obtain ⟨a, b, c, d⟩ := bitLenAux_bounds f (x / 2) (by rw [Nat.pow_succ] at h; omega) h2
      refine ⟨by omega, by omega, ?_, ?_⟩
      · have e : 1 + Lib.bitLenAux f (x / 2) - 1 = (Lib.bitLenAux f (x / 2) - 1) + 1 := by omega
        rw [e, Nat.pow_succ]; omega
      · rw [Nat.add_comm 1, Nat.pow_succ]; omega

/-- How far a number is moved so that its highest bit is the highest one of all. -/
theorem lead_shift {y : Nat} (h0 : y ≠ 0) (h1 : y < 18446744073709551616) : ∃ s : Nat, s ≤ 63 ∧ 64 - (Lib.bitLen y : Int) = s ∧ 9223372036854775808 ≤ y * 2 ^ s ∧ y * 2 ^ s < 18446744073709551616 := by
  obtain ⟨a, b, c, d⟩ := bitLenAux_bounds 64 y h1 h0
  refine ⟨64 - Lib.bitLen y, ?_, ?_, ?_, ?_⟩ <;> unfold Lib.bitLen <;> generalize Lib.bitLenAux 64 y = k at *
  · omega
  · omega
  · have e : (9223372036854775808 : Nat) = 2 ^ (k - 1) * 2 ^ (64 - k) := by
      rw [← Nat.pow_add, show k - 1 + (64 - k) = 63 by omega]
    rw [e]
    exact Nat.mul_le_mul_right _ c
  · have e : (18446744073709551616 : Nat) = 2 ^ k * 2 ^ (64 - k) := by
      rw [← Nat.pow_add, show k + (64 - k) = 64 by omega]
    rw [e]
    exact Nat.mul_lt_mul_of_pos_right d (Nat.pow_pos (by omega))

theorem mask32 (a : Int) (h0 : 0 ≤ a) (h1 : a < 18446744073709551616) : bits .and .u64 a 4294967295 = a % 4294967296 := by
  obtain ⟨n, rfl⟩ := Int.eq_ofNat_of_zero_le h0
  have h := bits_and_u64_nat n 4294967295 (by omega) (by omega)
  have e : n &&& 4294967295 = n % 4294967296 := Nat.and_two_pow_sub_one_eq_mod n 32
  rw [e] at h
  exact h

set_option maxHeartbeats 1000000 in
theorem div_shift {hi lo y s : Nat} (h2 : lo < 18446744073709551616) (hlt : hi < y) (hs : s ≤ 63) (m0 : 9223372036854775808 ≤ y * 2 ^ s) (m1 : y * 2 ^ s < 18446744073709551616) :
    ∃ U L : Nat, bits .or .u64 (IntKind.u64.wrap ((hi : Int) * 2 ^ s)) ((lo : Int) / 2 ^ (64 - s)) = U ∧ IntKind.u64.wrap ((lo : Int) * 2 ^ s) = L ∧ L < 18446744073709551616 ∧
      U < y * 2 ^ s ∧ U * 18446744073709551616 + L = (hi * 18446744073709551616 + lo) * 2 ^ s := by
  have eP : ((2 : Int) ^ s) = ((2 ^ s : Nat) : Int) := by simp
  have eT : ((2 : Int) ^ (64 - s)) = ((2 ^ (64 - s) : Nat) : Int) := by simp
  have ePT : 2 ^ s * 2 ^ (64 - s) = 18446744073709551616 := by rw [← Nat.pow_add, show s + (64 - s) = 64 by omega]
  have hP : 0 < 2 ^ s := Nat.pow_pos (by omega)
  have hT : 0 < 2 ^ (64 - s) := Nat.pow_pos (by omega)
  have hhi : hi * 2 ^ s + 2 ^ s ≤ y * 2 ^ s := by rw [← Nat.succ_mul]; exact Nat.mul_le_mul_right _ hlt
  have hloT : lo / 2 ^ (64 - s) < 2 ^ s := by rw [Nat.div_lt_iff_lt_mul hT, ePT]; exact h2
  have hdiv : lo * 2 ^ s / 18446744073709551616 = lo / 2 ^ (64 - s) := by
    rw [← ePT, Nat.mul_comm lo, Nat.mul_div_mul_left _ _ hP]
  have hor : hi * 2 ^ s ||| lo / 2 ^ (64 - s) = hi * 2 ^ s + lo / 2 ^ (64 - s) := by
    rw [Nat.mul_comm hi, ← Nat.two_pow_add_eq_or_of_lt hloT]
  have hU := bits_or_u64_nat (hi * 2 ^ s) (lo / 2 ^ (64 - s)) (by omega) (by omega)
  rw [hor] at hU
  have hm : lo * 2 ^ s = 18446744073709551616 * (lo / 2 ^ (64 - s)) + lo * 2 ^ s % 18446744073709551616 := by
    rw [← hdiv]; exact (Nat.div_add_mod _ _).symm
  refine ⟨hi * 2 ^ s + lo / 2 ^ (64 - s), lo * 2 ^ s % 18446744073709551616, ?_, ?_, Nat.mod_lt _ (by omega), by omega, ?_⟩
  · rw [eP, eT, ← Int.natCast_mul, ← Int.natCast_ediv, IntKind.wrap_u64]
    have e : ((hi * 2 ^ s : Nat) : Int) % 18446744073709551616 = ((hi * 2 ^ s : Nat) : Int) := by omega
    rw [e]
    exact hU
  · rw [eP, ← Int.natCast_mul, IntKind.wrap_u64]
    rfl
  · have e : (hi * 18446744073709551616 + lo) * 2 ^ s = hi * 2 ^ s * 18446744073709551616 + lo * 2 ^ s := by rw [Nat.add_mul, Nat.mul_right_comm]
    rw [e]
    generalize lo * 2 ^ s % 18446744073709551616 = L at *
    generalize lo / 2 ^ (64 - s) = d at *
    generalize lo * 2 ^ s = x at *
    generalize hi * 2 ^ s = h at *
    omega

theorem div_last {N y P U l1 l0 Q R Q0 S : Int} (hP : 0 < P) (hN : (U * 4294967296 + l1) * 4294967296 + l0 = N * P) (hR : R = U * 4294967296 + l1 - Q * (y * P)) (hS : S = R * 4294967296 + l0 - Q0 * (y * P))
    (s0 : 0 ≤ S) (s1 : S < y * P) : Q * 4294967296 + Q0 = N / y ∧ S / P = N % y := by
  have e : S = (N - (Q * 4294967296 + Q0) * y) * P := by
    rw [Int.sub_mul, ← hN, hS, hR, Int.mul_assoc (Q * 4294967296 + Q0), Int.add_mul (Q * 4294967296)]
    have e1 : Q * 4294967296 * (y * P) = Q * (y * P) * 4294967296 := Int.mul_right_comm _ _ _
    rw [e1]
    generalize Q * (y * P) = a
    generalize Q0 * (y * P) = b
    omega
  have d0 : 0 ≤ N - (Q * 4294967296 + Q0) * y := by
    rw [e] at s0
    exact Int.nonneg_of_mul_nonneg_left s0 hP
  have d1 : N - (Q * 4294967296 + Q0) * y < y := by
    rw [e] at s1
    exact Int.lt_of_mul_lt_mul_right s1 (Int.le_of_lt hP)
  have hy : 0 < y := by omega
  have e2 : N = (N - (Q * 4294967296 + Q0) * y) + y * (Q * 4294967296 + Q0) := by rw [Int.mul_comm y]; omega
  have q : N / y = Q * 4294967296 + Q0 := by
    rw [e2, Int.add_mul_ediv_left _ _ (by omega), Int.ediv_eq_zero_of_lt d0 d1]; omega
  have r : N % y = N - (Q * 4294967296 + Q0) * y := by
    have := Int.emod_add_mul_ediv N y
    rw [q, Int.mul_comm y] at this
    omega
  refine ⟨q.symm, ?_⟩
  rw [r, e, Int.mul_ediv_cancel _ (by omega)]

set_option maxHeartbeats 1000000 in
theorem div_big (hi lo y : Int) (h1 : Word hi) (h2 : Word lo) (h3 : Word y) (hlt : hi < y) (hp : 0 < hi) (w : World) :
    Calls Tryd.prog 88 #[.int .u64 hi, .int .u64 lo, .int .u64 y] w (fun e w' => e = .returned (.tuple #[.int .u64 (nv hi lo / y), .int .u64 (nv hi lo % y)]) ∧ w' = w) := by
  have g1 := h1
  have g2 := h2
  have g3 := h3
  obtain ⟨h1, h1'⟩ := h1
  obtain ⟨h2, h2'⟩ := h2
  obtain ⟨h3, h3'⟩ := h3
  obtain ⟨hi, rfl⟩ := Int.eq_ofNat_of_zero_le h1
  obtain ⟨lo, rfl⟩ := Int.eq_ofNat_of_zero_le h2
  obtain ⟨y, rfl⟩ := Int.eq_ofNat_of_zero_le h3
  obtain ⟨s, hs, hs', m0, m1⟩ := lead_shift (y := y) (by omega) (by omega)
  obtain ⟨U, L, eU, eL, hL, hU, hN⟩ := div_shift (hi := hi) (lo := lo) (y := y) (s := s) (by omega) (by omega) hs m0 m1
  have hl : ∀ w, Calls Tryd.prog 94 #[.int .u64 (y : Int)] w fun e w' => e = .returned (.int .i64 s) ∧ w = w' := fun w => by
    refine (lead_any y (by omega) (by omega) w).mono ?_
    rintro e w' ⟨rfl, rfl⟩
    exact ⟨by rw [Int.toNat_natCast, hs'], rfl⟩
  have eY : IntKind.u64.wrap ((y : Int) * 2 ^ s) = ((y * 2 ^ s : Nat) : Int) := by
    rw [show ((2 : Int) ^ s) = ((2 ^ s : Nat) : Int) by simp, ← Int.natCast_mul, IntKind.wrap_u64]; omega
  have hP : 0 < 2 ^ s := Nat.pow_pos (by omega)
  have hyP : ((y * 2 ^ s : Nat) : Int) = (y : Int) * ((2 ^ s : Nat) : Int) := Int.natCast_mul _ _
  have hN' : (U : Int) * 18446744073709551616 + L = nv hi lo * ((2 ^ s : Nat) : Int) := by
    unfold nv
    have := congrArg (fun n : Nat => (n : Int)) hN
    simp only [Int.natCast_add, Int.natCast_mul] at this
    exact this
  obtain ⟨Y, hY⟩ : ∃ Y : Nat, y * 2 ^ s = Y := ⟨_, rfl⟩
  rw [hY] at eY m0 m1 hU hyP
  have dY : (Y : Int) = (Y : Int) / 4294967296 * 4294967296 + (Y : Int) % 4294967296 := by omega
  have d1 : Dig U ((L : Int) / 4294967296) ((Y : Int) / 4294967296) ((Y : Int) % 4294967296) := ⟨by omega, by omega, by omega, by omega, by omega, by omega, by omega, by omega⟩
  obtain ⟨q0, q1, r0, r1⟩ := dig_rest d1
  rw [← dY] at q0 q1 r0 r1
  obtain ⟨Q, hQ⟩ : ∃ Q : Int, Q = ((U : Int) * 4294967296 + (L : Int) / 4294967296) / Y := ⟨_, rfl⟩
  rw [← hQ] at q0 q1 r0 r1
  obtain ⟨R, hR⟩ : ∃ R : Int, R = (U : Int) * 4294967296 + (L : Int) / 4294967296 - Q * Y := ⟨_, rfl⟩
  rw [← hR] at r0 r1
  have d2 : Dig R ((L : Int) % 4294967296) ((Y : Int) / 4294967296) ((Y : Int) % 4294967296) := ⟨by omega, by omega, by omega, by omega, by omega, by omega, by omega, by omega⟩
  obtain ⟨p0, p1, s0, s1⟩ := dig_rest d2
  rw [← dY] at p0 p1 s0 s1
  obtain ⟨Q0, hQ0⟩ : ∃ Q : Int, Q = (R * 4294967296 + (L : Int) % 4294967296) / Y := ⟨_, rfl⟩
  rw [← hQ0] at p0 p1 s0 s1
  obtain ⟨S, hS⟩ : ∃ S : Int, S = R * 4294967296 + (L : Int) % 4294967296 - Q0 * Y := ⟨_, rfl⟩
  rw [← hS] at s0 s1
  have fin := div_last (N := nv hi lo) (y := y) (P := ((2 ^ s : Nat) : Int)) (U := U) (l1 := (L : Int) / 4294967296) (l0 := (L : Int) % 4294967296) (Q := Q) (R := R) (Q0 := Q0) (S := S) (by omega) (by rw [← hN']; omega)
    (by rw [← hyP]; exact hR) (by rw [← hyP]; exact hS) s0 (by rw [← hyP]; exact s1)
  have eR : IntKind.u64.wrap (IntKind.u64.wrap (IntKind.u64.wrap ((U : Int) * 4294967296) + (L : Int) / 4294967296) - IntKind.u64.wrap (Q * Y)) = R := by
    simp only [IntKind.wrap_u64]
    generalize Q * (Y : Int) = z at *
    omega
  have eS : IntKind.u64.wrap (IntKind.u64.wrap (IntKind.u64.wrap (R * 4294967296) + (L : Int) % 4294967296) - IntKind.u64.wrap (Q0 * Y)) = S := by
    simp only [IntKind.wrap_u64]
    generalize Q0 * (Y : Int) = z at *
    omega
  refine (div_core hi lo y Y U L _ _ _ _ Q R Q0 S g1 g2 g3 hlt hp s hs w hl d1 d2 eY eL eU rfl (mask32 _ (by omega) (by omega)) rfl (mask32 _ (by omega) (by omega)) (by rw [← dY]; exact hQ) (by rw [← dY]; exact hQ0) eR eS s0).mono ?_
  rintro e w' ⟨rfl, rfl⟩
  refine ⟨?_, rfl⟩
  rw [fin.1]
  have e2 := fin.2
  simp only [Int.natCast_pow] at e2
  rw [← e2]
  rfl

set_option maxHeartbeats 1000000 in
theorem div_small (lo y : Int) (h2 : Word lo) (h3 : Word y) (hy : 0 < y) (w : World) :
    Calls Tryd.prog 88 #[.int .u64 0, .int .u64 lo, .int .u64 y] w (fun e w' => e = .returned (.tuple #[.int .u64 (lo / y), .int .u64 (lo % y)]) ∧ ∃ n, w' = w.drewN n) := by
  obtain ⟨h2, h2'⟩ := h2
  obtain ⟨h3, h3'⟩ := h3
  go_enter Tryd.func88, Tryd.ntmps88
  go_wp2
  go_quiet (fail)
  go_wp2
  go_ret2
  exact ⟨rfl, _, rfl⟩

theorem div_any (hi lo y : Int) (h1 : Word hi) (h2 : Word lo) (h3 : Word y) (hlt : hi < y) (w : World) :
    Calls Tryd.prog 88 #[.int .u64 hi, .int .u64 lo, .int .u64 y] w (fun e w' => e = .returned (.tuple #[.int .u64 (nv hi lo / y), .int .u64 (nv hi lo % y)]) ∧ ∃ n, w' = w.drewN n) := by
  by_cases hp : 0 < hi
  · exact (div_big hi lo y h1 h2 h3 hlt hp w).mono fun e w' ⟨he, hw⟩ => ⟨he, 0, hw⟩
  · have e : hi = 0 := by have := h1.1; omega
    subst e
    have e2 : nv 0 lo = lo := by unfold nv; omega
    rw [e2]
    exact div_small lo y h2 h3 hlt w
end Go.Proofs.YtfnbehijnmbhjaaDoor
