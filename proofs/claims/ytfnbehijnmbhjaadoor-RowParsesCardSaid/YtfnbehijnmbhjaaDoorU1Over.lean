/-
  u128.Over, as a contract on the translated code: any number, any other one below 2^64; old memory is as it was.
-/
import Derived.Test.YtfnbehijnmbhjaaDoorU1DivAny
import Derived.RegionTactic
import Derived.ChangeAlike
namespace Go.Proofs.YtfnbehijnmbhjaaDoor
set_option linter.unusedVariables false
set_option linter.unusedSimpArgs false
set_option maxRecDepth 10000
open Go.RowKit

/-- What is left, and the error's number. -/
def orest (N n : Int) : Int := if n = 0 then 0 else N % n
def oerr (n : Int) : Int := if n = 0 then 2 else 0
def OverTells (N n : Int) (B : Nat) (w : World) (e : Ending) (w' : World) : Prop :=
  e = .returned (.tuple #[.agg #[.int .u64 (rh (N / n)), .int .u64 (rl (N / n))], .int .u64 (orest N n), .int .i64 (oerr n)]) ∧ Below B w w'

theorem over_parts {ah al n : Int} (a1 : Word ah) (a0 : Word al) (hn : Word n) (h0 : n ≠ 0) :
    Word (ah / n) ∧ Word (ah % n) ∧ ah % n < n ∧ rh (nv ah al / n) = ah / n ∧ rl (nv ah al / n) = nv (ah % n) al / n ∧ orest (nv ah al) n = nv (ah % n) al % n := by
  obtain ⟨a1, a2⟩ := a1; obtain ⟨a3, a4⟩ := a0; obtain ⟨b1, b2⟩ := hn
  have hp : 0 < n := by omega
  have m0 := Int.emod_nonneg ah (show n ≠ 0 by omega)
  have m1 := Int.emod_lt_of_pos ah hp
  have q0 : 0 ≤ ah / n := Int.ediv_nonneg a1 b1
  have qa : ah / n ≤ ah := Int.ediv_le_self _ a1
  have hm := Int.emod_add_mul_ediv ah n
  have e : nv ah al = nv (ah % n) al + n * (ah / n * 18446744073709551616) := by
    unfold nv
    rw [← Int.mul_assoc]
    generalize n * (ah / n) = p at *
    omega
  have w0 : 0 ≤ nv (ah % n) al := by unfold nv; omega
  have e1 : nv ah al / n = ah / n * 18446744073709551616 + nv (ah % n) al / n := by
    rw [e, Int.add_mul_ediv_left _ _ h0]; omega
  have e2 : nv ah al % n = nv (ah % n) al % n := by
    rw [e, Int.add_mul_emod_self_left]
  have l0 : 0 ≤ nv (ah % n) al / n := Int.ediv_nonneg w0 b1
  have l1 : nv (ah % n) al / n < 18446744073709551616 := by
    rw [Int.ediv_lt_iff_lt_mul hp]
    unfold nv; omega
  have hr : room (nv ah al / n) = true := by rw [room_iff, e1]; omega
  refine ⟨⟨q0, by omega⟩, ⟨m0, by omega⟩, m1, ?_, ?_, ?_⟩
  · rw [rh_yes hr, e1]; omega
  · rw [rl_yes hr, e1]; omega
  · unfold orest; rw [if_neg h0, e2]

set_option maxHeartbeats 2000000 in
theorem over_any (ah al n : Int) (a1 : Word ah) (a0 : Word al) (hn : Word n) (w : World) :
    Calls Tryd.prog 75 #[.agg #[.int .u64 ah, .int .u64 al], .int .u64 n] w (OverTells (nv ah al) n w.heap.size w) := by
  by_cases h0 : n = 0
  · subst h0
    go_enter Tryd.func75, Tryd.ntmps75
    go_wp2
    exact bodyPost_ret (v := .tuple #[.agg #[.int .u64 0, .int .u64 0], .int .u64 0, .int .i64 2]) (by simp [results, Tryd.results75, go_sem]) rfl ⟨by simp [orest, oerr, rh, rl, room], by repeat (first | exact Below.refl _ _ | apply Below.drew | apply below_drewN | refine Below.alloc ?_ (by simp; try omega) _ | refine Below.setCell ?_ (by simp; try omega) _)⟩
  · obtain ⟨k1, k2, k3, k4, k5, k6⟩ := over_parts a1 a0 hn h0
    have P4 := hideIt k4
    have P5 := hideIt k5
    have P6 := hideIt k6
    clear k4 k5 k6
    have g1 := k1
    obtain ⟨g1, g1'⟩ := g1
    have g2 := k2
    obtain ⟨g2, g2'⟩ := g2
    have g3 := hn
    obtain ⟨g3, g3'⟩ := g3
    have g4 := a1
    obtain ⟨g4, g4'⟩ := g4
    have g5 : 0 < n := by omega
    go_enter Tryd.func75, Tryd.ntmps75
    go_wp2
    go_region
    go_wp2_with (go_at_call 88; refine (div_any _ _ _ k2 a0 hn k3 _).mono ?_; rintro e w' ⟨rfl, n', rfl⟩)
    exact bodyPost_ret (v := .tuple #[.agg #[.int .u64 (ah / n), .int .u64 (nv (ah % n) al / n)], .int .u64 (nv (ah % n) al % n), .int .i64 0]) (by simp [results, Tryd.results75, go_sem]) rfl
      ⟨by rw [P4.out, P5.out, P6.out, oerr, if_neg h0], by repeat (first | exact Below.refl _ _ | apply Below.drew | apply below_drewN | refine Below.alloc ?_ (by simp; try omega) _ | refine Below.setCell ?_ (by simp; try omega) _)⟩
theorem over_yes {A n : Int} {h l r : Int} {B : Nat} {w w' : World} {e : Ending} (h0 : n ≠ 0) (hs : nv h l = A / n) (hr : A % n = r) (hh : Word h) (hl : Word l) (hf : OverTells A n B w e w') :
    e = .returned (.tuple #[.agg #[.int .u64 h, .int .u64 l], .int .u64 r, .int .i64 0]) ∧ Below B w w' := by
  obtain ⟨he, hb⟩ := hf
  refine ⟨?_, hb⟩
  rw [he, ← hs, rh_nv hh hl, rl_nv hh hl, orest, if_neg h0, hr, oerr, if_neg h0]
end Go.Proofs.YtfnbehijnmbhjaaDoor
