/-
  paymasterref02.Ten, walked: the number of a one and as many noughts, at most fifty.
-/
import Derived.Test.YtieieafjakcnpaaR2Parse
import Derived.Test.YtieieafjakcnpaaD2Ten
import Derived.Laws.Concat
namespace Go.Proofs.Ytieieafjakcnpaa
set_option linter.unusedVariables false
set_option linter.unusedSimpArgs false
open Go.RowKit

/-- A one and noughts behind. -/
def oneL (j : Nat) : List UInt8 := 49 :: List.replicate j 48
theorem oneL_succ (j : Nat) : oneL (j + 1) = oneL j ++ [48] := by simp [oneL, List.replicate_succ']
theorem oneL_length (j : Nat) : (oneL j).length = j + 1 := by simp [oneL]
theorem oneL_pv : ∀ j, pv (oneL j) = 10 ^ j
  | 0 => rfl
  | j + 1 => by rw [oneL_succ, pv_snoc, oneL_pv j, Nat.pow_succ]; rfl
theorem oneL_writ (j : Nat) : writB (oneL j) = true := (writB_iff _).2 ⟨fun c hc => by
    simp only [oneL, List.mem_cons, List.mem_replicate] at hc
    rcases hc with rfl | ⟨-, rfl⟩
    · exact ⟨by decide, by decide⟩
    · exact ⟨by decide, by decide⟩, .inr ⟨49, List.replicate j 48, rfl, by decide⟩⟩
theorem oneL_tells {n j : Nat} (h : j = n ∨ (50 ≤ n ∧ j = 50)) : parH (oneL j) = tenH (n : Int) ∧ parL (oneL j) = tenL (n : Int) ∧ parE (oneL j) = tenE (n : Int) := by
  obtain ⟨e1, e2, e3⟩ := ten_nat n
  rw [e1, e2, e3]
  have hp : ∀ k : Nat, ((pv (oneL k) : Nat) : Int) = 10 ^ k := fun k => by rw [oneL_pv]; simp
  unfold parH parL parE
  rw [oneL_writ, hp, if_pos rfl, if_pos rfl, if_pos rfl]
  rcases h with rfl | ⟨h1, rfl⟩
  · exact ⟨rfl, rfl, rfl⟩
  · have h50 : room ((10 : Int) ^ 50) = false := by decide
    have hn : room ((10 : Int) ^ n) = false := by
      have h2 := ten_step 50 (n - 50)
      rw [show 50 + (n - 50) = n by omega] at h2
      have h3 := room_not.1 h50
      have h4 := ten_pos 50
      exact room_not.2 (by omega)
    rw [rh_no h50, rl_no h50, re_no h50, rh_no hn, rl_no hn, re_no hn]
    exact ⟨rfl, rfl, rfl⟩

set_option maxHeartbeats 8000000 in
theorem rten_any (k : Int) (hk1 : -9223372036854775808 ≤ k) (hk2 : k < 9223372036854775808) (w : World) : Calls Try.prog 16 #[.int .i64 k] w (TenTells k w.heap.size w) := by
  obtain ⟨ph, hph⟩ : ∃ ph, tenH k = ph := ⟨_, rfl⟩
  obtain ⟨pl, hpl⟩ : ∃ pl, tenL k = pl := ⟨_, rfl⟩
  obtain ⟨pe, hpe⟩ : ∃ pe, tenE k = pe := ⟨_, rfl⟩
  rw [show TenTells k w.heap.size w = fun e w' => e = .returned (.tuple #[.agg #[.int .u64 ph, .int .u64 pl], .int .i64 pe]) ∧ Below w.heap.size w w' from by unfold TenTells; rw [hph, hpl, hpe]]
  have A0 := Box.made w 24 #[.int .u64 0, .int .u64 0]
  have L0 : Below w.heap.size w (w.alloc (.cells #[.int .u64 0, .int .u64 0] 24)) := by repeat (first | exact Below.refl _ _ | apply Below.drew | apply below_drewN | refine Below.alloc ?_ (by simp; try omega) _ | refine Below.setCell ?_ (by simp; try omega) _)
  by_cases hk : k < 0
  · obtain ⟨e1, e2, e3⟩ := ten_neg hk
    obtain rfl : ph = 0 := by omega
    obtain rfl : pl = 0 := by omega
    obtain rfl : pe = 20 := by omega
    clear e1 e2 e3 hph hpl hpe
    go_enter Try.func16, Try.ntmps16
    go_upto_region 1 with fail
    generalize w.alloc (.cells #[.int .u64 0, .int .u64 0] 24) = W at *
    obtain ⟨p1, p2, p3⟩ := A0.num
    have p4 := A0.free 0
    have p5 := A0.free 1
    go_wp2
    have ee := (A0.wrote 0 (.int .u64 0)).wrote 1 (.int .u64 0)
    have e0 := ee.read 0
    have e1 := ee.read 1
    simp only [Nat.reduceLT, List.setIfInBounds_toArray, List.set_cons_zero, List.set_cons_succ, List.getElem?_toArray, List.getElem?_cons_zero, List.getElem?_cons_succ] at e0 e1
    exact bodyPost_ret (v := .tuple #[.agg #[.int .u64 0, .int .u64 0], .int .i64 20]) (by simp [results, Try.results16, go_sem, e0, e1]) rfl
      ⟨rfl, by repeat (first | exact L0 | refine Below.setCell ?_ (by simp) _)⟩
  · obtain ⟨n, rfl⟩ : ∃ n : Nat, k = (n : Int) := ⟨k.toNat, by omega⟩
    have HPH := hideIt hph
    have HPL := hideIt hpl
    have HPE := hideIt hpe
    have n0 : ¬ ((n : Int) < 0) := by omega
    clear hph hpl hpe hk hk1 hk2
    go_enter Try.func16, Try.ntmps16
    go_upto_region 4 with fail
    clear n0
    go_wp2_with fail
    generalize w.alloc (.cells #[.int .u64 0, .int .u64 0] 24) = W at *
    obtain ⟨p1, p2, p3⟩ := A0.num
    have p4 := A0.free 0
    have p5 := A0.free 1
    go_loopg [4, 5] (50 : Nat) (fun gk sv i wr => ∃ j : Nat, j ≤ 50 ∧ j ≤ n ∧ gk = 50 - j ∧ sv = .string (str (oneL j)) ∧ i = .int .i64 (j : Int) ∧ wr = W)
    case atStart => exact ⟨0, by omega, by omega, rfl, rfl, rfl, rfl⟩
    case round =>
      obtain ⟨j, hj, hjn, hgk, rfl, rfl, rfl⟩ := hrel
      have HG := hideIt hgk
      clear hgk
      by_cases hgo : j < n ∧ j < 50
      · obtain ⟨g1, g2⟩ := hgo
        have i1 : (j : Int) < (n : Int) := by omega
        have i2 : (j : Int) < 50 := by omega
        have hcat : ∀ u : World, (Op.stringOp .add (str (oneL j)) ⟨#[48]⟩).run Try.prog u = .ok (.string (str (oneL j) ++ ⟨#[48]⟩)) u := fun u => run_string_add_sum u _ _ (by rw [str_size, oneL_length]; show j + 1 + 1 ≤ _; omega)
        rw [show (⟨#[48]⟩ : ByteArray) = str [48] from rfl, ← str_append, ← oneL_succ] at hcat
        have hcat2 : ∀ u : World, (Op.stringOp .add (str (oneL j)) ⟨#[48]⟩).run Try.prog u = .ok (.string (str (oneL (j + 1)))) u := hcat
        have v1 : IntKind.i64.wrap ((j : Int) + 1) = (j : Int) + 1 := IntWalk.i64_in _ (by omega)
        have HJ := hideIt (show j + 1 ≤ 50 ∧ j + 1 ≤ n from ⟨g2, g1⟩)
        clear hcat g1 g2 hj hjn
        go_wp2
        go_roundg (50 - (j + 1))
        case measure => have := HG.out; have := HJ.out; omega
        case rel => exact ⟨j + 1, HJ.out.1, HJ.out.2, rfl, rfl, by go_num, rfl⟩
      · have hend : j = n ∨ (50 ≤ n ∧ j = 50) := by omega
        obtain ⟨e1, e2, e3⟩ := oneL_tells hend
        have cP := fun u : World => (rparse_any (str (oneL j)) (by rw [str_size, oneL_length]; omega) u).mono fun e w' (hf : ParseTells _ _ _ _ _) =>
          (⟨by rw [hf.1, str_data, e1, e2, e3, HPH.out, HPL.out, HPE.out], hf.2⟩ : e = .returned (.tuple #[.agg #[.int .u64 ph, .int .u64 pl], .int .i64 pe]) ∧ Below u.heap.size u w')
        obtain ⟨t, ht⟩ : ∃ t, str (oneL j) = t := ⟨_, rfl⟩
        rw [ht] at cP ⊢
        clear e1 e2 e3 ht HG
        by_cases h1 : j < n
        · have i1 : (j : Int) < (n : Int) := by omega
          have i2 : ¬ ((j : Int) < 50) := by omega
          clear hgo hend h1 hj hjn
          go_wp2_with (first
            | (go_at_call 10; refine (cP _).mono ?_; rintro e w2 ⟨rfl, h2⟩
               have A2 := A0.call h2
               have L2 := chain L0 h2
               obtain ⟨q1, q2, q3⟩ := A2.num
               have q4 := A2.free 0
               have q5 := A2.free 1))
          have ee := (A2.wrote 0 (.int .u64 ph)).wrote 1 (.int .u64 pl)
          have e0 := ee.read 0
          have e1 := ee.read 1
          simp only [Nat.reduceLT, List.setIfInBounds_toArray, List.set_cons_zero, List.set_cons_succ, List.getElem?_toArray, List.getElem?_cons_zero, List.getElem?_cons_succ] at e0 e1
          exact bodyPost_ret (v := .tuple #[.agg #[.int .u64 ph, .int .u64 pl], .int .i64 pe]) (by simp [results, Try.results16, go_sem, e0, e1]) rfl
            ⟨rfl, by repeat (first | exact L2 | refine Below.setCell ?_ (by simp) _)⟩
        · have i1 : ¬ ((j : Int) < (n : Int)) := by omega
          clear hgo hend h1 hj hjn
          go_wp2_with (first
            | (go_at_call 10; refine (cP _).mono ?_; rintro e w2 ⟨rfl, h2⟩
               have A2 := A0.call h2
               have L2 := chain L0 h2
               obtain ⟨q1, q2, q3⟩ := A2.num
               have q4 := A2.free 0
               have q5 := A2.free 1))
          have ee := (A2.wrote 0 (.int .u64 ph)).wrote 1 (.int .u64 pl)
          have e0 := ee.read 0
          have e1 := ee.read 1
          simp only [Nat.reduceLT, List.setIfInBounds_toArray, List.set_cons_zero, List.set_cons_succ, List.getElem?_toArray, List.getElem?_cons_zero, List.getElem?_cons_succ] at e0 e1
          exact bodyPost_ret (v := .tuple #[.agg #[.int .u64 ph, .int .u64 pl], .int .i64 pe]) (by simp [results, Try.results16, go_sem, e0, e1]) rfl
            ⟨rfl, by repeat (first | exact L2 | refine Below.setCell ?_ (by simp) _)⟩
end Go.Proofs.Ytieieafjakcnpaa
