/-
  u128.Times, as a contract on the translated code: any number, any factor below 2^64; old memory is as it was.
-/
import Derived.Test.YtfnbehijnmbhjaaDoorU1Calls
import Derived.Test.YtfnbehijnmbhjaaDoorU1Bits
import Derived.LoopTactic
namespace Go.Proofs.YtfnbehijnmbhjaaDoor
set_option linter.unusedVariables false
set_option linter.unusedSimpArgs false
set_option maxRecDepth 10000
open Go.RowKit

/-- The halves of a product, as they are made. -/
theorem times_parts {ah al n : Int} (a1 : Word ah) (a0 : Word al) (hn : Word n) :
    Word (al * n / 18446744073709551616) ∧ Word (ah * n / 18446744073709551616) ∧ ah * n / 18446744073709551616 + 1 < 18446744073709551616 ∧
    ((ah * n / 18446744073709551616 + (ah * n % 18446744073709551616 + al * n / 18446744073709551616) / 18446744073709551616 = 0 ∧ room (nv ah al * n) = true ∧
      (ah * n + al * n / 18446744073709551616) % 18446744073709551616 = rh (nv ah al * n) ∧ al * n % 18446744073709551616 = rl (nv ah al * n)) ∨
    (ah * n / 18446744073709551616 + (ah * n % 18446744073709551616 + al * n / 18446744073709551616) / 18446744073709551616 ≠ 0 ∧ room (nv ah al * n) = false)) := by
  obtain ⟨a1, a2⟩ := a1; obtain ⟨a3, a4⟩ := a0; obtain ⟨b1, b2⟩ := hn
  have e : nv ah al * n = ah * n * 18446744073709551616 + al * n := by
    unfold nv; rw [Int.add_mul, Int.mul_right_comm]
  rw [e]
  have p0 : 0 ≤ ah * n := Int.mul_nonneg a1 b1
  have p1 : 0 ≤ al * n := Int.mul_nonneg a3 b1
  have q0 : ah * n ≤ 18446744073709551615 * 18446744073709551615 := Int.mul_le_mul (by omega) (by omega) b1 (by omega)
  have q1 : al * n ≤ 18446744073709551615 * 18446744073709551615 := Int.mul_le_mul (by omega) (by omega) b1 (by omega)
  generalize ah * n = p at *
  generalize al * n = q at *
  refine ⟨⟨by omega, by omega⟩, ⟨by omega, by omega⟩, by omega, ?_⟩
  cases h : room (p * 18446744073709551616 + q)
  · right
    have := room_not.1 h
    exact ⟨by omega, rfl⟩
  · left
    rw [rh_yes h, rl_yes h]
    have := room_iff.1 h
    exact ⟨by omega, rfl, by omega, by omega⟩

theorem add64_00 (x : Int) (hx : 0 ≤ x) (hx' : x < 18446744073709551616) (w : World) : (callFunc 87 #[.int .u64 x, .int .u64 0, .int .u64 0]).run Tryd.prog w =
    .ok (.value (.tuple #[.int .u64 x, .int .u64 0])) w := by
  rw [add64_0 x 0 hx (Int.le_refl 0) w]
  have e1 : (x + 0) % 18446744073709551616 = x := by omega
  have e2 : (x + 0) / 18446744073709551616 = 0 := by omega
  rw [e1, e2]
set_option maxHeartbeats 2000000 in
theorem times_any (ah al n : Int) (a1 : Word ah) (a0 : Word al) (hn : Word n) (w : World) :
    Calls Tryd.prog 70 #[.agg #[.int .u64 ah, .int .u64 al], .int .u64 n] w (Fit (nv ah al * n) w.heap.size w) := by
  obtain ⟨⟨k0, k1⟩, ⟨k2, k3⟩, k4, hp⟩ := times_parts a1 a0 hn
  have b0 : 0 ≤ al * n % 18446744073709551616 := by omega
  have b0' : al * n % 18446744073709551616 < 18446744073709551616 := by omega
  have b1 : 0 ≤ ah * n % 18446744073709551616 := by omega
  have i0 : ∀ u : World, (Instr.index 136 (.agg #[.int .u64 al, .int .u64 ah]) (.int .i64 0)).run Tryd.prog u = .ok (.int .u64 al) u := fun _ => by kernel_rfl
  have i1 : ∀ u : World, (Instr.index 136 (.agg #[.int .u64 al, .int .u64 ah]) (.int .i64 1)).run Tryd.prog u = .ok (.int .u64 ah) u := fun _ => by kernel_rfl
  have H := hideIt hp
  clear hp
  go_enter Tryd.func70, Tryd.ntmps70
  go_wp2_with (fail)
  refine wp_loop_rounds 3 ?_
  rw [rounds_succ]
  go_wp2_with (first
    | (go_at_call 86; refine (mul64_any _ _ a0 hn _).mono ?_; rintro e w' ⟨rfl, rfl⟩)
    | simp only [add64_00 _ b0 b0'])
  rw [rounds_succ]
  go_wp2_with (first
    | (go_at_call 86; refine (mul64_any _ _ a1 hn _).mono ?_; rintro e w' ⟨rfl, rfl⟩)
    | simp only [add64_0 _ _ b1 k0])
  rw [rounds_succ]
  rcases H.out with ⟨h0, hr, h1, h2⟩ | ⟨h0, hr⟩
  · go_wp2
    exact bodyPost_ret (v := .tuple #[.agg #[.int .u64 _, .int .u64 _], .int .i64 0]) (by simp [results, Tryd.results70, go_sem]; exact ⟨rfl, rfl⟩) rfl ⟨by rw [re_yes hr], by repeat (first | exact Below.refl _ _ | apply Below.drew | apply below_drewN | refine Below.alloc ?_ (by simp; try omega) _ | refine Below.setCell ?_ (by simp; try omega) _)⟩
  · go_wp2
    exact bodyPost_ret (v := .tuple #[.agg #[.int .u64 0, .int .u64 0], .int .i64 10]) (by simp [results, Tryd.results70, go_sem]) rfl ⟨by rw [rh_no hr, rl_no hr, re_no hr], by repeat (first | exact Below.refl _ _ | apply Below.drew | apply below_drewN | refine Below.alloc ?_ (by simp; try omega) _ | refine Below.setCell ?_ (by simp; try omega) _)⟩
end Go.Proofs.YtfnbehijnmbhjaaDoor
