/-
  The document's Prime, walked: the k-th prime for each k below 64.
-/
import Derived.Test.YtlceniljnejjeaaDoorU1Nums
import Derived.Test.YtlceniljnejjeaaDoorW0Words
import Derived.Test.YtlceniljnejjeaaDoorU4Turn
import Derived.LoopTactic
import Derived.Deep.LoopGhost
namespace Go.Proofs.YtlceniljnejjeaaDoor
set_option linter.unusedVariables false
set_option linter.unusedSimpArgs false
open Go.RowKit

/-- Divisors from d on are tried. -/
def innerN (n : Nat) : Nat → Nat → Bool → Bool
  | 0, _, p => p
  | f + 1, d, p => if d * d ≤ n then innerN n f (d + 1) (p && decide (n % d ≠ 0)) else p
def isP (n : Nat) : Bool := innerN n 400 2 true
/-- From n on the k-th prime. -/
def outerN : Nat → Nat → Nat → Nat
  | 0, n, _ => n
  | f + 1, n, k => if isP n then (if k = 0 then n else outerN f (n + 1) (k - 1)) else outerN f (n + 1) k
def outerB : Nat → Nat → Nat → Bool
  | 0, _, _ => false
  | f + 1, n, k => if isP n then (if k = 0 then true else outerB f (n + 1) (k - 1)) else outerB f (n + 1) k
def primeN (k : Nat) : Nat := outerN 398 2 k
theorem outer_all : ∀ k : Nat, k < 64 → outerB 398 2 k = true := by decide +kernel

set_option maxHeartbeats 2000000 in
theorem prime_any (k : Nat) (hk : k < 64) (w : World) : Calls Tryd.prog 45 #[.int .i64 k] w (Plain (.int .u64 (primeN k)) w) := by
  have ho := outer_all k hk
  obtain ⟨R, hR⟩ : ∃ R, primeN k = R := ⟨_, rfl⟩
  have hR0 : outerN 398 2 k = R := hR
  rw [hR]
  clear hR
  go_enter Tryd.func45, Tryd.ntmps45
  go_wp2
  go_loopg [0, 3] 398 (fun gk kv nv wr => ∃ n k : Nat, gk + n = 400 ∧ k < 64 ∧ kv = .int .i64 k ∧ nv = .int .u64 n ∧ outerB gk n k = true ∧ outerN gk n k = R ∧ w = wr)
  case atStart => exact ⟨2, k, rfl, hk, rfl, rfl, ho, hR0, rfl⟩
  case round =>
    clear ho hR0 hk
    obtain ⟨n, k, hgk, hk, rfl, rfl, ho, hR0, rfl⟩ := hrel
    cases gk with
    | zero => exact absurd ho (by simp [outerB])
    | succ f =>
      have HG := hideIt hgk
      have hn : n < 400 := by omega
      have HO := hideIt ho
      have HR0 := hideIt hR0
      clear ho hR0 hgk
      go_wp2
      go_loopg [4, 5] 400 (fun gd pv dv wr => ∃ (d : Nat) (p : Bool), gd + d = 402 ∧ pv = .bool p ∧ dv = .int .u64 d ∧ innerN n gd d p = isP n ∧ 2 ≤ d ∧ w = wr)
      case atStart => exact ⟨2, true, rfl, rfl, rfl, rfl, by omega, rfl⟩
      case round =>
        obtain ⟨d, p, hgd, rfl, rfl, hin, hd2, rfl⟩ := hrel
        obtain ⟨D, hD⟩ : ∃ D, d * d = D := ⟨_, rfl⟩
        have hdd : d * d ≤ 402 * 402 := Nat.mul_le_mul (by omega) (by omega)
        have m0 : (d : Int) * (d : Int) = (D : Int) := by rw [← hD]; simp
        have m1 : IntKind.u64.wrap ((d : Int) * (d : Int)) = (D : Int) := by rw [m0, IntKind.wrap_u64]; omega
        have m2 : IntKind.u64.wrap (D : Int) = (D : Int) := by rw [IntKind.wrap_u64]; omega
        by_cases hle : D ≤ n
        · have hle' : (D : Int) ≤ (n : Int) := by omega
          have hdz : ¬ ((d : Int) = 0) := by omega
          cases gk with
          | zero =>
            exfalso
            have hd : d = 402 := by omega
            subst hd
            omega
          | succ g =>
            have hst : innerN n (g + 1) d p = innerN n g (d + 1) (p && decide (n % d ≠ 0)) := by rw [innerN, if_pos (by omega)]
            have HST := hideIt hst
            have HIN := hideIt hin
            have HGD := hideIt hgd
            clear hst hin hgd hD hdd
            obtain ⟨r, hr⟩ : ∃ r : Nat, n % d = r := ⟨_, rfl⟩
            have r1 : (n : Int).tmod (d : Int) = (r : Int) := by rw [Int.tmod_eq_emod_of_nonneg (by omega), ← hr]; simp
            have hrl : r ≤ n := by rw [← hr]; exact Nat.mod_le _ _
            have r2 : IntKind.u64.wrap (r : Int) = (r : Int) := by rw [IntKind.wrap_u64]; omega
            have HR := hideIt hr
            clear hr
            have w1 : IntKind.u64.wrap ((d : Int) + 1) = (d : Int) + 1 := by rw [IntKind.wrap_u64]; have := HGD.out; omega
            cases p
            · go_wp2
              go_roundg g
              case measure => omega
              case rel => exact ⟨d + 1, false, by have := HGD.out; omega, rfl, by go_num, by rw [← HIN.out, HST.out]; rfl, by omega, rfl⟩
            · by_cases hr0 : r = 0
              · subst hr0
                go_wp2
                go_roundg g
                case measure => omega
                case rel => exact ⟨d + 1, false, by have := HGD.out; omega, rfl, by go_num, by rw [← HIN.out, HST.out, HR.out]; rfl, by omega, rfl⟩
              · have hr1 : ¬ ((r : Int) = 0) := by omega
                go_wp2
                go_roundg g
                case measure => omega
                case rel => exact ⟨d + 1, true, by have := HGD.out; omega, by rw [show ((r : Int) != 0) = true from bne_iff_ne.2 hr1], by go_num, by rw [← HIN.out, HST.out, HR.out, decide_eq_true (show r ≠ 0 from hr0)]; rfl, by omega, rfl⟩
        · have hle' : ¬ ((D : Int) ≤ (n : Int)) := by omega
          have hfin : isP n = p := by
            rw [← hin]
            cases gk with
            | zero => rfl
            | succ g => rw [innerN, if_neg (by omega)]
          have hos : outerB (f + 1) n k = if p then (if k = 0 then true else outerB f (n + 1) (k - 1)) else outerB f (n + 1) k := by rw [outerB, hfin]
          have hns : outerN (f + 1) n k = if p then (if k = 0 then n else outerN f (n + 1) (k - 1)) else outerN f (n + 1) k := by rw [outerN, hfin]
          rw [HO.out] at hos
          rw [HR0.out] at hns
          have w1 : IntKind.u64.wrap ((n : Int) + 1) = (n : Int) + 1 := by rw [IntKind.wrap_u64]; omega
          have hd1 : decide ((D : Int) ≤ (n : Int)) = false := decide_eq_false hle'
          clear hfin hin hD hdd HO HR0
          cases p
          · rw [if_neg (by decide)] at hos hns
            have HOS := hideIt hos
            have HNS := hideIt hns
            clear hos hns
            go_wp2
            go_roundg f
            case measure => omega
            case rel => exact ⟨n + 1, k, by have := HG.out; omega, hk, rfl, by go_num, HOS.out.symm, HNS.out.symm, rfl⟩
          · rw [if_pos rfl] at hos hns
            by_cases hk0 : k = 0
            · subst hk0
              rw [if_pos rfl] at hns
              subst hns
              clear hos
              go_wp2
              go_ret
              exact ⟨rfl, rfl⟩
            · rw [if_neg hk0] at hos hns
              have hk1 : ¬ ((k : Int) = 0) := by omega
              have hk2 : IntKind.i64.wrap ((k : Int) - 1) = (k : Int) - 1 := IntWalk.i64_in _ (by omega)
              obtain ⟨K, hK⟩ : ∃ K, k - 1 = K := ⟨_, rfl⟩
              rw [hK] at hos hns
              have hk3 : IntKind.i64.wrap ((k : Int) - 1) = (K : Int) := by rw [hk2]; omega
              have hK64 : K < 64 := by omega
              have HOS := hideIt hos
              have HNS := hideIt hns
              clear hos hns hk2 hK
              go_wp2
              go_roundg f
              case measure => omega
              case rel => exact ⟨n + 1, K, by have := HG.out; omega, hK64, rfl, by go_num, HOS.out.symm, HNS.out.symm, rfl⟩
end Go.Proofs.YtlceniljnejjeaaDoor
