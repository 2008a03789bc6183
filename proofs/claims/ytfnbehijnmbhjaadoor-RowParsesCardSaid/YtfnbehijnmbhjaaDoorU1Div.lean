/-
  math/bits.Div64, walked: the quotient and the rest of a number of two halves, the upper one less than what it is divided by.
-/
import Derived.Test.YtfnbehijnmbhjaaDoorU1Calls
import Derived.Test.YtfnbehijnmbhjaaDoorU1Bits
import Derived.Test.YtfnbehijnmbhjaaDoorU1DivN
import Derived.LoopTactic
import Derived.Deep.CutRange
import Derived.Deep.CutBlock
import Derived.Deep.LoopGhost
namespace Go.Proofs.YtfnbehijnmbhjaaDoor
set_option linter.unusedVariables false
set_option linter.unusedSimpArgs false
set_option maxRecDepth 10000
open Go.RowKit

set_option maxHeartbeats 8000000 in
theorem div_core (hi lo y Y U L y1 y0 l1 l0 Q R Q0 S : Int) (h1 : Word hi) (h2 : Word lo) (h3 : Word y) (hlt : hi < y) (hp : 0 < hi) (s : Nat) (hs : s ≤ 63) (w : World)
    (hl : ∀ w, Calls Tryd.prog 94 #[.int .u64 y] w fun e w' => e = .returned (.int .i64 s) ∧ w = w')
    (d1 : Dig U l1 y1 y0) (d2 : Dig R l0 y1 y0)
    (eY : IntKind.u64.wrap (y * 2 ^ s) = Y) (eL : IntKind.u64.wrap (lo * 2 ^ s) = L) (eU : bits .or .u64 (IntKind.u64.wrap (hi * 2 ^ s)) (lo / 2 ^ (64 - s)) = U)
    (eY1 : Y / 4294967296 = y1) (eY0 : bits .and .u64 Y 4294967295 = y0) (eL1 : L / 4294967296 = l1) (eL0 : bits .and .u64 L 4294967295 = l0)
    (eQ : Hid (Q = (U * 4294967296 + l1) / (y1 * 4294967296 + y0))) (eQ0 : Hid (Q0 = (R * 4294967296 + l0) / (y1 * 4294967296 + y0)))
    (eR : IntKind.u64.wrap (IntKind.u64.wrap (IntKind.u64.wrap (U * 4294967296) + l1) - IntKind.u64.wrap (Q * Y)) = R)
    (eS : IntKind.u64.wrap (IntKind.u64.wrap (IntKind.u64.wrap (R * 4294967296) + l0) - IntKind.u64.wrap (Q0 * Y)) = S) (hS : 0 ≤ S) :
    Calls Tryd.prog 88 #[.int .u64 hi, .int .u64 lo, .int .u64 y] w (fun e w' => e = .returned (.tuple #[.int .u64 (Q * 4294967296 + Q0), .int .u64 (S / 2 ^ s)]) ∧ w' = w) := by
  obtain ⟨h1, h1'⟩ := h1
  obtain ⟨h2, h2'⟩ := h2
  obtain ⟨h3, h3'⟩ := h3
  have D1 := hideIt d1
  have D2 := hideIt d2
  obtain ⟨ds1, ds2, ds3, ds4, ds5, ds6, ds7, ds8⟩ := dig_start d1
  obtain ⟨es1, es2, es3, es4, es5, es6, es7, es8⟩ := dig_start d2
  have q0 := (dig_rest D1.out).1
  have q1 := (dig_rest D1.out).2.1
  have p0 := (dig_rest D2.out).1
  have p1 := (dig_rest D2.out).2.1
  rw [← eQ.out] at q0 q1 ds4
  rw [← eQ0.out] at p0 p1 es4
  obtain ⟨u0, uY, g0, g1, a0, a1, b0, b1⟩ := d1
  obtain ⟨v0, vY, k0, k1, -, -, -, -⟩ := d2
  have uM : U < 18446744073709551616 := by omega
  have vM : R < 18446744073709551616 := by omega
  have DS1 := hideIt ds1
  have ES1 := hideIt es1
  clear ds1 es1
  go_enter Tryd.func88, Tryd.ntmps88
  go_upto_block 0 with (go_at_call 94; refine (hl _).mono ?_; rintro e w' ⟨rfl, rfl⟩)
  go_cut [15] from 67 to 85 (fun q w' => q = .int .u64 Q ∧ w' = w)
  case first =>
    go_wp2_with fail
    go_loopg [15, 16] (4294967296 - (U - U / y1 * y1)).toNat (fun k qv rv wr => ∃ q r : Int, qv = .int .u64 q ∧ rv = .int .u64 r ∧ k = (4294967296 - r).toNat ∧ wr = w ∧ q * y1 + r = U ∧ 0 ≤ r ∧ r < 4294967296 ∧
      Q ≤ q ∧ q < 18446744073709551616)
    case atStart => exact ⟨_, _, rfl, rfl, rfl, rfl, DS1.out, ds2, by omega, ds4, ds6⟩
    case round =>
      obtain ⟨q, r, rfl, rfl, rfl, rfl, he, r0, r1, hq, q1'⟩ := hrel
      have q0' : 0 ≤ q := by omega
      have HE := hideIt he
      clear he
      by_cases c1 : 4294967296 ≤ q
      · obtain ⟨n1, n2⟩ := dig_step D1.out HE.out (.inl c1)
        have N2 := hideIt n2
        clear n2
        rw [← eQ.out] at n1
        by_cases c3 : 4294967296 ≤ r + y1
        · have F := hideIt (dig_break D1.out (by omega) N2.out (by rw [← eQ.out]; exact n1) c3)
          go_wp2
          go_meet
          exact ⟨by rw [F.out, eQ.out], rfl⟩
        · go_wp2
          go_roundg (4294967296 - (r + y1)).toNat
          case measure => omega
          case rel => exact ⟨_, _, rfl, rfl, rfl, rfl, N2.out, by omega, by omega, n1, by omega⟩
      · have z0 : 0 ≤ q * y0 := Int.mul_nonneg q0' b0
        have z1 : q * y0 ≤ 4294967295 * 4294967295 := Int.mul_le_mul (by omega) (by omega) b0 (by omega)
        by_cases c2 : 4294967296 * r + l1 < q * y0
        · obtain ⟨n1, n2⟩ := dig_step D1.out HE.out (.inr c2)
          have N2 := hideIt n2
          clear n2
          rw [← eQ.out] at n1
          by_cases c3 : 4294967296 ≤ r + y1
          · have F := hideIt (dig_break D1.out (by omega) N2.out (by rw [← eQ.out]; exact n1) c3)
            go_wp2
            go_meet
            exact ⟨by rw [F.out, eQ.out], rfl⟩
          · go_wp2
            go_roundg (4294967296 - (r + y1)).toNat
            case measure => omega
            case rel => exact ⟨_, _, rfl, rfl, rfl, rfl, N2.out, by omega, by omega, n1, by omega⟩
        · have F := hideIt (dig_done D1.out HE.out (by rw [← eQ.out]; exact hq) (by omega))
          go_wp2
          go_meet
          exact ⟨by rw [← eQ.out] at F; rw [F.out], rfl⟩
  case rest =>
    obtain ⟨rfl, rfl⟩ := hcut
    go_upto_block 2 with fail
    go_cut [18] from 102 to 120 (fun q w' => q = .int .u64 Q0 ∧ w' = wc)
    case first =>
      go_wp2_with fail
      go_loopg [18, 16] (4294967296 - (R - R / y1 * y1)).toNat (fun k qv rv wr => ∃ q r : Int, qv = .int .u64 q ∧ rv = .int .u64 r ∧ k = (4294967296 - r).toNat ∧ wr = wc ∧ q * y1 + r = R ∧ 0 ≤ r ∧ r < 4294967296 ∧
        Q0 ≤ q ∧ q < 18446744073709551616)
      case atStart => exact ⟨_, _, rfl, rfl, rfl, rfl, ES1.out, es2, by omega, es4, es6⟩
      case round =>
        obtain ⟨q, r, rfl, rfl, rfl, rfl, he, r0, r1, hq, q1'⟩ := hrel
        have q0' : 0 ≤ q := by omega
        have HE := hideIt he
        clear he
        by_cases c1 : 4294967296 ≤ q
        · obtain ⟨n1, n2⟩ := dig_step D2.out HE.out (.inl c1)
          have N2 := hideIt n2
          clear n2
          rw [← eQ0.out] at n1
          by_cases c3 : 4294967296 ≤ r + y1
          · have F := hideIt (dig_break D2.out (by omega) N2.out (by rw [← eQ0.out]; exact n1) c3)
            go_wp2
            go_meet
            exact ⟨by rw [F.out, eQ0.out], rfl⟩
          · go_wp2
            go_roundg (4294967296 - (r + y1)).toNat
            case measure => omega
            case rel => exact ⟨_, _, rfl, rfl, rfl, rfl, N2.out, by omega, by omega, n1, by omega⟩
        · have z0 : 0 ≤ q * y0 := Int.mul_nonneg q0' b0
          have z1 : q * y0 ≤ 4294967295 * 4294967295 := Int.mul_le_mul (by omega) (by omega) b0 (by omega)
          by_cases c2 : 4294967296 * r + l0 < q * y0
          · obtain ⟨n1, n2⟩ := dig_step D2.out HE.out (.inr c2)
            have N2 := hideIt n2
            clear n2
            rw [← eQ0.out] at n1
            by_cases c3 : 4294967296 ≤ r + y1
            · have F := hideIt (dig_break D2.out (by omega) N2.out (by rw [← eQ0.out]; exact n1) c3)
              go_wp2
              go_meet
              exact ⟨by rw [F.out, eQ0.out], rfl⟩
            · go_wp2
              go_roundg (4294967296 - (r + y1)).toNat
              case measure => omega
              case rel => exact ⟨_, _, rfl, rfl, rfl, rfl, N2.out, by omega, by omega, n1, by omega⟩
          · have F := hideIt (dig_done D2.out HE.out (by rw [← eQ0.out]; exact hq) (by omega))
            go_wp2
            go_meet
            exact ⟨by rw [← eQ0.out] at F; rw [F.out], rfl⟩
    case rest =>
      obtain ⟨rfl, rfl⟩ := hcut
      go_wp2
      go_ret2
      exact ⟨rfl, rfl⟩
end Go.Proofs.YtfnbehijnmbhjaaDoor
