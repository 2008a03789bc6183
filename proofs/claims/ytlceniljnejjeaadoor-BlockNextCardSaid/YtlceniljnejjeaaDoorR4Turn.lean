/-
  The document's turn, move and xor, walked: bit by bit they are the words turned, moved, put together.
-/
import Derived.Test.YtlceniljnejjeaaDoorD4Words
import Derived.Test.YtlceniljnejjeaaDoorW1Has
import Derived.Test.YtlceniljnejjeaaDoorRows
import Derived.WalkKit
import Derived.WalkSpells
import Derived.StillTactics
import Derived.Laws.Pointers
import Derived.Laws.Bits64b
import Derived.RowKit3
import Derived.Outline
import Derived.BigQuiet
import Derived.Deep.QuietTactic
import Derived.Deep.RegionWith
import Derived.LoopTactic
import Derived.Deep.LoopGhost
import Derived.IntWalk
namespace Go.Proofs.YtlceniljnejjeaaDoor
set_option linter.unusedVariables false
set_option linter.unusedSimpArgs false
open Go.RowKit

/-- What a call tells that tells one value, and turns nothing but draws. -/
def Drawn (v : Value) (w : World) (e : Ending) (w' : World) : Prop := e = .returned v ∧ ∃ n, w' = w.drewN n

set_option maxHeartbeats 2000000 in
theorem move_any (x : B32) (n : Nat) (hn : n < 32) (w : World) : Calls Tryd.prog 64 #[.int .u32 (iv x), .int .i64 n] w fun e w' => e = .returned (.int .u32 (iv (x >>> n))) ∧ w = w' := by
  go_enter Tryd.func64, Tryd.ntmps64
  go_wp2
  go_loop [0, 5] (fun v i => ∃ k : Nat, k ≤ n ∧ i = .int .i64 k ∧ v = .int .u32 (iv (x >>> k))) (fun _ i => n - (intOf i).toNat)
  case atStart => exact ⟨0, Nat.zero_le _, rfl, by rw [BitVec.ushiftRight_zero]⟩
  case round =>
    obtain ⟨k, hk, rfl, rfl⟩ := hrel
    by_cases hlt : k < n
    · have hs := hideIt (shr_step x k)
      have hb := iv_bd (x >>> k)
      generalize iv (x >>> k) = a at *
      have ha : a / 2 % 4294967296 = a / 2 := by omega
      go_wp2
      all_goals
        go_round
        case rel => exact ⟨k + 1, by omega, by go_num, by rw [← hs.out]⟩
        case measure => simp [intOf]; omega
    · have e : k = n := by omega
      subst e
      go_wp2
      go_ret
      exact ⟨rfl, rfl⟩

set_option maxHeartbeats 2000000 in
theorem rturn_any (x : B32) (n : Nat) (hn : n < 32) (w : World) : Calls Tryd.prog 56 #[.int .u32 (iv x), .int .i64 n] w fun e w' => e = .returned (.int .u32 (iv (rot x n))) ∧ w = w' := by
  go_enter Tryd.func56, Tryd.ntmps56
  go_wp2
  go_loop [0, 5, 6] (fun v i _ => ∃ k : Nat, k ≤ n ∧ i = .int .i64 k ∧ v = .int .u32 (iv (rot x k))) (fun _ i _ => n - (intOf i).toNat)
  case atStart => exact ⟨0, Nat.zero_le _, rfl, by rw [rot_zero]⟩
  case round =>
    obtain ⟨k, hk, rfl, rfl⟩ := hrel
    by_cases hlt : k < n
    · have hs := rot_one (rot x k)
      rw [rot_step x k (by omega)] at hs
      have HS := hideIt hs
      clear hs
      have hb := iv_bd (rot x k)
      generalize iv (rot x k) = a at *
      go_wp2
      all_goals
        go_round
        case rel => exact ⟨k + 1, by omega, by go_num, by rw [← HS.out]⟩
        case measure => simp [intOf]; omega
    · have e : k = n := by omega
      subst e
      go_wp2
      go_ret
      exact ⟨rfl, rfl⟩

theorem rturn_lit (x : B32) (n : Nat) (k : Int) (hk : k = n) (hn : n < 32) (w : World) : Calls Tryd.prog 56 #[.int .u32 (iv x), .int .i64 k] w fun e w' => e = .returned (.int .u32 (iv (rot x n))) ∧ w = w' := by
  subst hk; exact rturn_any x n hn w
theorem move_lit (x : B32) (n : Nat) (k : Int) (hk : k = n) (hn : n < 32) (w : World) : Calls Tryd.prog 64 #[.int .u32 (iv x), .int .i64 k] w fun e w' => e = .returned (.int .u32 (iv (x >>> n))) ∧ w = w' := by
  subst hk; exact move_any x n hn w

set_option maxHeartbeats 2000000 in
theorem xor_any (a b c : B32) (w : World) : Calls Tryd.prog 55 #[.int .u32 (iv a), .int .u32 (iv b), .int .u32 (iv c)] w (Drawn (.int .u32 (iv (a ^^^ b ^^^ c))) w) := by
  go_enter Tryd.func55, Tryd.ntmps55
  go_wp2
  go_loopg [7, 8, 9] 32 (fun gk v bit i wr => ∃ k : Nat, k ≤ 32 ∧ gk = 32 - k ∧ i = .int .i64 k ∧ v = .int .u32 (lowI (a ^^^ b ^^^ c) k) ∧ bit = .int .u32 ((2 : Int) ^ k % 4294967296) ∧ ∃ n, wr = w.drewN n)
  case atStart => exact ⟨0, by omega, rfl, rfl, by rw [lowI_zero], rfl, 0, rfl⟩
  case round =>
    obtain ⟨k, hk, hgk, rfl, rfl, rfl, n, rfl⟩ := hrel
    have HG := hideIt hgk
    clear hgk
    by_cases hlt : k < 32
    · have hp : (2 : Int) ^ k * 2 ≤ 4294967296 := by
        have h : (2 : Nat) ^ (k + 1) ≤ 2 ^ 32 := Nat.pow_le_pow_right (by omega) (by omega)
        have e : ((2 ^ (k + 1) : Nat) : Int) = (2 : Int) ^ k * 2 := by rw [Int.natCast_pow]; exact Int.pow_succ _ _
        omega
      have hp1 : 0 < (2 : Int) ^ k := Int.pow_pos (by decide)
      have q1 := bitI_eq a k
      have q2 := bitI_eq b k
      have q3 := bitI_eq c k
      have q4 := bit_xor3 a b c k
      have q5 := hideIt (lowI_step (a ^^^ b ^^^ c) k)
      have b1 := bitI_bd a k
      have b2 := bitI_bd b k
      have b3 := bitI_bd c k
      have b4 := bitI_bd (a ^^^ b ^^^ c) k
      have d1 := iv_bd a
      have d2 := iv_bd b
      have d3 := iv_bd c
      have d5 := lowI_bd (a ^^^ b ^^^ c) k hk
      have hsucc := hideIt (Int.pow_succ 2 k)
      generalize lowI (a ^^^ b ^^^ c) k = L at *
      generalize (2 : Int) ^ k = p at *
      rw [show p % 4294967296 = p by omega]
      have t1 : (iv a / p).tmod 2 = bitI a k := by rw [Int.tmod_eq_emod_of_nonneg (Int.ediv_nonneg d1.1 (by omega)), q1]
      have t2 : (iv b / p).tmod 2 = bitI b k := by rw [Int.tmod_eq_emod_of_nonneg (Int.ediv_nonneg d2.1 (by omega)), q2]
      have t3 : (iv c / p).tmod 2 = bitI c k := by rw [Int.tmod_eq_emod_of_nonneg (Int.ediv_nonneg d3.1 (by omega)), q3]
      clear q1 q2 q3
      generalize bitI (a ^^^ b ^^^ c) k = X at *
      generalize bitI a k = A at *
      generalize bitI b k = B at *
      generalize bitI c k = C at *
      have s1 : (A + B) % 4294967296 = A + B := by omega
      have s2 : (A + B + C) % 4294967296 = A + B + C := by omega
      have m1 : p * X % 4294967296 = p * X := by rcases b4 with h | h <;> rw [h] <;> omega
      have m2 : (L + p * X) % 4294967296 = L + p * X := by rcases b4 with h | h <;> rw [h] <;> omega
      clear b1 b2 b3 b4
      have hpz : p ≠ 0 := by omega
      have hp4 : 1 ≤ p := hp1
      go_wp2
      go_quiet (fail)
      go_wp2
      all_goals
        go_roundg (32 - (k + 1))
        case measure => have := HG.out; omega
        case rel => exact ⟨k + 1, by omega, rfl, by go_num, by rw [← q5.out], by rw [show (2 : Int) ^ (k + 1) = p * 2 from hsucc.out], n + nq, rfl⟩
    · have e : k = 32 := by omega
      subst e
      rw [lowI_all]
      go_wp2
      go_ret
      exact ⟨rfl, n, rfl⟩
end Go.Proofs.YtlceniljnejjeaaDoor
