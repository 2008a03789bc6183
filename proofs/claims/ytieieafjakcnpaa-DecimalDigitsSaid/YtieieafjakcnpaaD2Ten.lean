/-
  decimal.Ten, walked: ten to the k, or that it is too much; any k.
-/
import Derived.Test.YtieieafjakcnpaaD2Digits
import Derived.Test.YtieieafjakcnpaaU1Times
import Derived.IntWalk
namespace Go.Proofs.Ytieieafjakcnpaa
set_option linter.unusedVariables false
set_option linter.unusedSimpArgs false
open Go.RowKit

theorem ten_pos (k : Nat) : (0 : Int) < 10 ^ k := Int.pow_pos (by decide)
theorem ten_step (i d : Nat) : (10 : Int) ^ i ≤ 10 ^ (i + d) := by
  rw [Int.pow_add]
  have h1 := ten_pos i
  have h2 := ten_pos d
  have h3 : (10 : Int) ^ i * 1 ≤ 10 ^ i * 10 ^ d := Int.mul_le_mul_of_nonneg_left (by omega) (by omega)
  omega
/-- What Ten tells. -/
def tenH (k : Int) : Int := if k < 0 then 0 else rh (10 ^ k.toNat)
def tenL (k : Int) : Int := if k < 0 then 0 else rl (10 ^ k.toNat)
def tenE (k : Int) : Int := if k < 0 then 20 else re (10 ^ k.toNat)
def TenTells (k : Int) (B : Nat) (w : World) (e : Ending) (w' : World) : Prop :=
  e = .returned (.tuple #[.agg #[.int .u64 (tenH k), .int .u64 (tenL k)], .int .i64 (tenE k)]) ∧ Below B w w'
theorem ten_neg {k : Int} (h : k < 0) : tenH k = 0 ∧ tenL k = 0 ∧ tenE k = 20 := by simp [tenH, tenL, tenE, h]
theorem ten_nat (k : Nat) : tenH (k : Int) = rh (10 ^ k) ∧ tenL (k : Int) = rl (10 ^ k) ∧ tenE (k : Int) = re (10 ^ k) := by
  unfold tenH tenL tenE
  rw [if_neg (by omega), if_neg (by omega), if_neg (by omega)]
  exact ⟨rfl, rfl, rfl⟩

set_option maxHeartbeats 8000000 in
theorem ten_any (k : Int) (hk1 : -9223372036854775808 ≤ k) (hk2 : k < 9223372036854775808) (w : World) : Calls Try.prog 15 #[.int .i64 k] w (TenTells k w.heap.size w) := by
  obtain ⟨ph, hph⟩ : ∃ ph, tenH k = ph := ⟨_, rfl⟩
  obtain ⟨pl, hpl⟩ : ∃ pl, tenL k = pl := ⟨_, rfl⟩
  obtain ⟨pe, hpe⟩ : ∃ pe, tenE k = pe := ⟨_, rfl⟩
  rw [show TenTells k w.heap.size w = fun e w' => e = .returned (.tuple #[.agg #[.int .u64 ph, .int .u64 pl], .int .i64 pe]) ∧ Below w.heap.size w w' from by unfold TenTells; rw [hph, hpl, hpe]]
  have A0 := Box.made w 24 #[.int .u64 0, .int .u64 0]
  have L0 : Below w.heap.size w (w.alloc (.cells #[.int .u64 0, .int .u64 0] 24)) := by repeat (first | exact Below.refl _ _ | apply Below.drew | apply below_drewN | refine Below.alloc ?_ (by simp; try omega) _ | refine Below.setCell ?_ (by simp; try omega) _)
  by_cases hk : k < 0
  · obtain ⟨e1, e2, e3⟩ := ten_neg hk
    obtain rfl : ph = 0 := by omega
    obtain rfl : pl = 0 := by omega
    obtain rfl : pe = 20 := by omega
    clear e1 e2 e3 hph hpl hpe
    go_enter Try.func15, Try.ntmps15
    go_upto_region 1 with fail
    generalize w.alloc (.cells #[.int .u64 0, .int .u64 0] 24) = W at *
    obtain ⟨p1, p2, p3⟩ := A0.num
    have p4 := A0.free 0
    have p5 := A0.free 1
    go_wp2
    have ee := (A0.wrote 0 (.int .u64 0)).wrote 1 (.int .u64 0)
    have e0 := ee.read 0
    have e1 := ee.read 1
    simp only [Nat.reduceLT, List.setIfInBounds_toArray, List.set_cons_zero, List.set_cons_succ, List.getElem?_toArray, List.getElem?_cons_zero, List.getElem?_cons_succ] at e0 e1
    exact bodyPost_ret (v := .tuple #[.agg #[.int .u64 0, .int .u64 0], .int .i64 20]) (by simp [results, Try.results15, go_sem, e0, e1]) rfl
      ⟨rfl, by repeat (first | exact L0 | refine Below.setCell ?_ (by simp) _)⟩
  · obtain ⟨n, rfl⟩ : ∃ n : Nat, k = (n : Int) := ⟨k.toNat, by omega⟩
    obtain ⟨e1, e2, e3⟩ := ten_nat n
    rw [e1] at hph
    rw [e2] at hpl
    rw [e3] at hpe
    have HPH := hideIt hph
    have HPL := hideIt hpl
    have HPE := hideIt hpe
    have n0 : ¬ ((n : Int) < 0) := by omega
    have n1 : (n : Int) ≤ 9223372036854775807 := by omega
    clear hph hpl hpe e1 e2 e3 hk hk1 hk2
    go_enter Try.func15, Try.ntmps15
    go_upto_region 4 with (first
      | (go_at_call 31; refine (of_any _ _).mono ?_; rintro e w1 ⟨rfl, h1⟩))
    have A1 := (A0.call h1).past (.cells #[.int .u64 0, .int .u64 1] 24)
    have B1 := Box.made w1 24 #[.int .u64 0, .int .u64 1]
    have L1 := chainA (chain L0 h1) (.cells #[.int .u64 0, .int .u64 1] 24)
    have hg : w.heap.size < w1.heap.size := by have := h1.size; simp at this; omega
    obtain ⟨g, eg⟩ : ∃ g, w1.heap.size = g := ⟨_, rfl⟩
    rw [eg] at B1 hg
    generalize w1.alloc (.cells #[.int .u64 0, .int .u64 1] 24) = W at *
    clear A0 L0 h1
    have n0' : (0 : Int) ≤ (n : Int) := by omega
    go_upto_region 5 with fail
    have N1 := hideIt n1
    clear n0 n1
    rw [eg]
    clear eg
    go_wp2_with fail
    go_loopg [11] n (fun gk i wr => ∃ (k : Nat) (x y : Int), k ≤ n ∧ gk = n - k ∧ i = .int .i64 k ∧ rh (10 ^ k) = x ∧ rl (10 ^ k) = y ∧ room (10 ^ k) = true ∧
      Box wr w.heap.size 24 #[.int .u64 0, .int .u64 0] ∧ Box wr g 24 #[.int .u64 x, .int .u64 y] ∧ Below w.heap.size w wr)
    case atStart => exact ⟨0, 0, 1, Nat.zero_le _, rfl, rfl, by simp [rh, room], by simp [rl, room], by simp [room], A1, B1, L1⟩
    case round =>
      obtain ⟨k, x, y, hk, hgk, rfl, hx, hy, hroom, hA, hB, hL⟩ := hrel
      have HG := hideIt hgk
      clear hgk A1 B1 L1
      have p1 := hA.num.1
      have p2 := hA.num.2.1
      have p3 := hA.inside
      have p4 := hA.free 0
      have p5 := hA.free 1
      obtain ⟨r1, r2, r3⟩ := hB.num
      have r4 := hB.free 0
      have r5 := hB.free 1
      have hne : w.heap.size ≠ g := by omega
      by_cases hlt : k < n
      · have i1 : (k : Int) < (n : Int) := by omega
        have wx : Word x := by rw [← hx]; exact rh_word _
        have wy : Word y := by rw [← hy]; exact rl_word _
        have hv : nv x y = 10 ^ k := by rw [← hx, ← hy]; exact nv_r hroom
        have cT := fun u : World => times_any x y 10 wx wy word_lit u
        rw [hv, ← Int.pow_succ] at cT
        obtain ⟨sh, hsh⟩ : ∃ sh, rh (10 ^ (k + 1)) = sh := ⟨_, rfl⟩
        obtain ⟨sl, hsl⟩ : ∃ sl, rl (10 ^ (k + 1)) = sl := ⟨_, rfl⟩
        obtain ⟨se, hse⟩ : ∃ se, re (10 ^ (k + 1)) = se := ⟨_, rfl⟩
        have hF : ∀ B u, Fit (10 ^ (k + 1)) B u = fun e w' => e = .returned (.tuple #[.agg #[.int .u64 sh, .int .u64 sl], .int .i64 se]) ∧ Below B u w' := fun B u => by unfold Fit; rw [hsh, hsl, hse]
        simp only [hF] at cT
        have HSH := hideIt hsh
        have HSL := hideIt hsl
        have v1 : IntKind.i64.wrap ((k : Int) + 1) = (k : Int) + 1 := IntWalk.i64_in _ (by have := N1.out; omega)
        clear hF hsh hsl hv hx hy hroom wx wy
        cases hr2 : room (10 ^ (k + 1))
        · have hno : room (10 ^ n) = false := by
            have h1 := room_not.1 hr2
            have h2 := ten_step (k + 1) (n - (k + 1))
            rw [show k + 1 + (n - (k + 1)) = n by omega] at h2
            have h3 := ten_pos (k + 1)
            exact room_not.2 (by omega)
          have q1 : ph = 0 := by rw [← HPH.out, rh_no hno]
          have q2 : pl = 0 := by rw [← HPL.out, rl_no hno]
          have q3 : pe = 10 := by rw [← HPE.out, re_no hno]
          have q4 : se = 10 := by rw [← hse, re_no hr2]
          have q5 : sh = 0 := by rw [← HSH.out, rh_no hr2]
          have q6 : sl = 0 := by rw [← HSL.out, rl_no hr2]
          subst q1 q2 q3 q4 q5 q6
          clear hno hr2 hse
          go_wp2_with (first
            | (go_at_call 22; refine (cT _).mono ?_; rintro e w2 ⟨rfl, h2⟩
               have A2 := hA.call h2
               have B2 := hB.call h2
               have L2 := chain hL h2
               have s1 := A2.num.1
               have s2 := A2.num.2.1
               have s3 := A2.inside
               have s4 := A2.free 0
               have s5 := A2.free 1
               obtain ⟨t1, t2, t3⟩ := B2.num
               have t4 := B2.free 0
               have t5 := B2.free 1))
          have ee := (((A2.apart (p := ⟨g, 0, none⟩) (by simpa using hne) (.int .u64 0)).apart (p := ⟨g, 1, none⟩) (by simpa using hne) (.int .u64 0)).wrote 0 (.int .u64 0)).wrote 1 (.int .u64 0)
          have e0 := ee.read 0
          have e1 := ee.read 1
          simp only [Nat.reduceLT, List.setIfInBounds_toArray, List.set_cons_zero, List.set_cons_succ, List.getElem?_toArray, List.getElem?_cons_zero, List.getElem?_cons_succ] at e0 e1
          exact bodyPost_ret (v := .tuple #[.agg #[.int .u64 0, .int .u64 0], .int .i64 10]) (by simp [results, Try.results15, go_sem, e0, e1]) rfl
            ⟨rfl, by repeat (first | exact L2 | refine Below.setCell ?_ (by simp; try omega) _)⟩
        · have q4 : se = 0 := by rw [← hse, re_yes hr2]
          subst q4
          have HR2 := hideIt hr2
          clear hr2 hse
          go_wp2_with (first
            | (go_at_call 22; refine (cT _).mono ?_; rintro e w2 ⟨rfl, h2⟩
               have A2 := hA.call h2
               have B2 := hB.call h2
               have L2 := chain hL h2
               obtain ⟨t1, t2, t3⟩ := B2.num
               have t4 := B2.free 0
               have t5 := B2.free 1))
          go_roundg (n - (k + 1))
          case measure => have := HG.out; omega
          case rel => exact ⟨k + 1, sh, sl, by omega, rfl, by go_num, HSH.out, HSL.out, HR2.out, (A2.apart (by simpa using hne) _).apart (by simpa using hne) _, (B2.wrote 0 _).wrote 1 _, (L2.setCell (by simp; omega) _).setCell (by simp; omega) _⟩
      · have e : k = n := by omega
        subst e
        have q1 : ph = x := by rw [← HPH.out, hx]
        have q2 : pl = y := by rw [← HPL.out, hy]
        have q3 : pe = 0 := by rw [← HPE.out, re_yes hroom]
        subst q1 q2 q3
        clear hx hy hroom
        go_wp2
        have ee := (hA.wrote 0 (.int .u64 ph)).wrote 1 (.int .u64 pl)
        have e0 := ee.read 0
        have e1 := ee.read 1
        simp only [Nat.reduceLT, List.setIfInBounds_toArray, List.set_cons_zero, List.set_cons_succ, List.getElem?_toArray, List.getElem?_cons_zero, List.getElem?_cons_succ] at e0 e1
        exact bodyPost_ret (v := .tuple #[.agg #[.int .u64 ph, .int .u64 pl], .int .i64 0]) (by simp [results, Try.results15, go_sem, e0, e1]) rfl
          ⟨rfl, by repeat (first | exact hL | refine Below.setCell ?_ (by simp) _)⟩
end Go.Proofs.Ytieieafjakcnpaa
