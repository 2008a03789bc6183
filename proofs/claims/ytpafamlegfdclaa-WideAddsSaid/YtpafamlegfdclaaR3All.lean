/-
  paymasterref03's And and All, walked: what the document says of the sum of two wide numbers, and of all numbers, by definition.
-/
import Derived.Test.YtpafamlegfdclaaR3And
namespace Go.Proofs.Ytpafamlegfdclaa
set_option linter.unusedVariables false
set_option linter.unusedSimpArgs false
open Go.RowKit

theorem cmp_low {H N A : Int} (hN : 0 ≤ N ∧ N < 340282366920938463463374607431768211456) (hA : 0 ≤ A ∧ A < 340282366920938463463374607431768211456) :
    wL (H * 340282366920938463463374607431768211456 + N + A) = if N + A < 340282366920938463463374607431768211456 then N + A else N + A - 340282366920938463463374607431768211456 := by
  unfold wL; split <;> omega

set_option maxHeartbeats 8000000 in
theorem rwand_any (H h l K j m : Int) (a : Word H) (b : Word h) (c : Word l) (a' : Word K) (b' : Word j) (c' : Word m) (w : World) :
    Calls Try.prog 16 #[wide H h l, wide K j m] w (Tells (told (wv H h l + wv K j m)) w.heap.size w) := by
  obtain ⟨e1, e2, e3⟩ := and_told a b c a' b' c'
  have nN := nv_word b c
  have nM := nv_word b' c'
  have cP := fun u : World => rwplus_any H h l j m a b c b' c' u
  have eP : wL (wv H h l + nv j m) = wL (nv h l + nv j m) := by unfold wL wv; omega
  have eh : wh (wv H h l + nv j m) = wh (nv h l + nv j m) := congrArg (· / 18446744073709551616) eP
  have el : wl (wv H h l + nv j m) = wl (nv h l + nv j m) := congrArg (· % 18446744073709551616) eP
  rw [told, eh, el] at cP
  rw [told, e1, e2, e3]
  have eC := fun u : World => rcmp_any (wh (nv h l + nv j m)) (wl (nv h l + nv j m)) h l (wh_word _) (wl_word _) b c u
  rw [nv_wl] at eC
  have H0 := a.1
  have H1 := a.2
  have K0 := a'.1
  have K1 := a'.2
  have M0 := (((Has.start w).add 26 #[.int .u64 H, .int .u64 h, .int .u64 l]).addAt 26 #[.int .u64 K, .int .u64 j, .int .u64 m] (g := w.heap.size + 1) (by simp)).addAt 26 #[.int .u64 0, .int .u64 0, .int .u64 0] (g := w.heap.size + 1 + 1) (by simp)
  cases hroom : room (nv h l + nv j m)
  · -- Low has no room
    have hno := room_not.1 hroom
    have hc : car (nv h l + nv j m) = 1 := by unfold car; rw [if_neg (by omega)]
    have hw : wL (nv h l + nv j m) = nv h l + nv j m - 340282366920938463463374607431768211456 := by unfold wL; omega
    have eL : cmpI (wL (nv h l + nv j m)) (nv h l) = -1 := cmpI_lt (by rw [hw]; omega)
    have eH : wH (wv H h l + nv j m) = if H < topH then H + 1 else topH := (plus_carry a nN.2 nM.2 (by omega)).1
    rw [eL] at eC
    rw [eH] at cP
    rw [hc]
    generalize wh (nv h l + nv j m) = x at *
    generalize wl (nv h l + nv j m) = y at *
    clear e1 e2 e3 eP eh el hno hroom hc hw eL eH nN nM
    unfold topH at *
    by_cases ht : H < 18446744073709551615
    · rw [if_pos ht] at cP
      have w1 : (H + 1 - H) % 18446744073709551616 = 1 := by omega
      have w2 : (18446744073709551615 - (H + 1)) % 18446744073709551616 = 18446744073709551615 - (H + 1) := by omega
      by_cases hk : 18446744073709551615 < H + K + 1
      · rw [if_pos hk]
        have hk2 : 18446744073709551615 - (H + 1) < K := by omega
        clear hk
        go_enter Try.func16, Try.ntmps16
        go_wp2_with (first
          | (go_at_call 14; refine (cP _).mono ?_; rintro e u1 ⟨rfl, h1⟩
             have M1 := (M0.call h1).add 26 #[.int .u64 (H + 1), .int .u64 x, .int .u64 y]
             obtain ⟨p1, p2, p3, p4, p5, p6, p7⟩ := ((M0.call h1).box 2).three
             obtain ⟨q1, q2, q3, q4, q5, q6, q7⟩ := ((M0.call h1).box 1).three
             obtain ⟨r1, r2, r3, r4, r5, r6, r7⟩ := ((M0.call h1).box 0).three)
          | (go_at_call 35; refine (eC _).mono ?_; rintro e u2 ⟨rfl, h2⟩))
        all_goals
          have R9 := (((((M0.call h1).box 0).wrote 0 (.int .u64 (18446744073709551615))).wrote 1 (.int .u64 x)).wrote 2 (.int .u64 y)).past (.cells #[.int .u64 (18446744073709551615), .int .u64 x, .int .u64 y] 26)
          have e0 := R9.read 0
          have e1 := R9.read 1
          have e2 := R9.read 2
          simp only [Nat.reduceLT, List.setIfInBounds_toArray, List.set_cons_zero, List.set_cons_succ, List.getElem?_toArray, List.getElem?_cons_zero, List.getElem?_cons_succ] at e0 e1 e2
          have L9 := (M0.call h1).below
          have hw : w.heap.size ≤ w.heap.size + 1 + 1 := by omega
          exact bodyPost_ret (v := wide (18446744073709551615) x y) (by simp [results, Try.results16, go_sem, e0, e1, e2]) rfl ⟨rfl, by repeat (first | exact L9 | refine Below.setCell ?_ hw _ | refine Below.alloc ?_ (by have := L9.size; simp; omega) _)⟩
      · rw [if_neg hk]
        have hk2 : ¬ (18446744073709551615 - (H + 1) < K) := by omega
        have w3 : (H + 1 + K) % 18446744073709551616 = H + 1 + K := by omega
        clear hk
        rw [show H + K + 1 = H + 1 + K by omega]
        go_enter Try.func16, Try.ntmps16
        go_wp2_with (first
          | (go_at_call 14; refine (cP _).mono ?_; rintro e u1 ⟨rfl, h1⟩
             have M1 := (M0.call h1).add 26 #[.int .u64 (H + 1), .int .u64 x, .int .u64 y]
             obtain ⟨p1, p2, p3, p4, p5, p6, p7⟩ := ((M0.call h1).box 2).three
             obtain ⟨q1, q2, q3, q4, q5, q6, q7⟩ := ((M0.call h1).box 1).three
             obtain ⟨r1, r2, r3, r4, r5, r6, r7⟩ := ((M0.call h1).box 0).three)
          | (go_at_call 35; refine (eC _).mono ?_; rintro e u2 ⟨rfl, h2⟩))
        all_goals
          have R9 := (((((M0.call h1).box 0).wrote 0 (.int .u64 (H + 1 + K))).wrote 1 (.int .u64 x)).wrote 2 (.int .u64 y)).past (.cells #[.int .u64 (H + 1 + K), .int .u64 x, .int .u64 y] 26)
          have e0 := R9.read 0
          have e1 := R9.read 1
          have e2 := R9.read 2
          simp only [Nat.reduceLT, List.setIfInBounds_toArray, List.set_cons_zero, List.set_cons_succ, List.getElem?_toArray, List.getElem?_cons_zero, List.getElem?_cons_succ] at e0 e1 e2
          have L9 := (M0.call h1).below
          have hw : w.heap.size ≤ w.heap.size + 1 + 1 := by omega
          exact bodyPost_ret (v := wide (H + 1 + K) x y) (by simp [results, Try.results16, go_sem, e0, e1, e2]) rfl ⟨rfl, by repeat (first | exact L9 | refine Below.setCell ?_ hw _ | refine Below.alloc ?_ (by have := L9.size; simp; omega) _)⟩
    · have eX : H = 18446744073709551615 := by omega
      subst eX
      rw [if_neg ht] at cP
      rw [if_pos (by omega)]
      clear ht
      go_enter Try.func16, Try.ntmps16
      go_wp2_with (first
        | (go_at_call 14; refine (cP _).mono ?_; rintro e u1 ⟨rfl, h1⟩
           have M1 := (M0.call h1).add 26 #[.int .u64 (18446744073709551615), .int .u64 x, .int .u64 y]
           obtain ⟨p1, p2, p3, p4, p5, p6, p7⟩ := ((M0.call h1).box 2).three
           obtain ⟨q1, q2, q3, q4, q5, q6, q7⟩ := ((M0.call h1).box 1).three
           obtain ⟨r1, r2, r3, r4, r5, r6, r7⟩ := ((M0.call h1).box 0).three)
        | (go_at_call 35; refine (eC _).mono ?_; rintro e u2 ⟨rfl, h2⟩; have N2 := (M1.call h2)
           obtain ⟨s1, s2, s3, s4, s5, s6, s7⟩ := (N2.box 1).three
           obtain ⟨t1, t2, t3, t4, t5, t6, t7⟩ := (N2.box 0).three
           obtain ⟨v1, v2, v3, v4, v5, v6, v7⟩ := (N2.box 2).three))
      all_goals
        have R9 := ((((N2.box 1).apart (p := ⟨u1.heap.size, 0, none⟩) (by simp; omega) (.int .u64 (18446744073709551615))).wrote 0 (.int .u64 (18446744073709551615))).wrote 1 (.int .u64 x)).wrote 2 (.int .u64 y)
        have e0 := R9.read 0
        have e1 := R9.read 1
        have e2 := R9.read 2
        simp only [Nat.reduceLT, List.setIfInBounds_toArray, List.set_cons_zero, List.set_cons_succ, List.getElem?_toArray, List.getElem?_cons_zero, List.getElem?_cons_succ] at e0 e1 e2
        have L9 := N2.below
        have hw : w.heap.size ≤ w.heap.size + 1 + 1 := by omega
        have hw2 : w.heap.size ≤ u1.heap.size := by omega
        exact bodyPost_ret (v := wide (18446744073709551615) x y) (by simp [results, Try.results16, go_sem, e0, e1, e2]) rfl ⟨rfl, by repeat (first | exact L9 | refine Below.setCell ?_ hw _ | refine Below.setCell ?_ hw2 _)⟩
  · -- Low has room
    have hyes := room_iff.1 hroom
    have hc : car (nv h l + nv j m) = 0 := by unfold car; rw [if_pos (by omega)]
    have hw : wL (nv h l + nv j m) = nv h l + nv j m := by unfold wL; omega
    have eL : 0 ≤ cmpI (wL (nv h l + nv j m)) (nv h l) := by rw [hw]; unfold cmpI; rw [if_neg (by omega)]; split <;> omega
    have eH : wH (wv H h l + nv j m) = H := (plus_room a nN.1 nM.1 (by omega)).1
    rw [eH] at cP
    rw [hc]
    generalize cmpI (wL (nv h l + nv j m)) (nv h l) = q at *
    generalize wh (nv h l + nv j m) = x at *
    generalize wl (nv h l + nv j m) = y at *
    have eL2 : ¬ (q < 0) := by omega
    clear e1 e2 e3 eP eh el hroom hc hw eL eH nN nM hyes
    unfold topH at *
    rw [Int.add_zero]
    by_cases ht : H < 18446744073709551615
    · have w2 : (18446744073709551615 - H) % 18446744073709551616 = 18446744073709551615 - H := by omega
      by_cases hk : 18446744073709551615 < H + K
      · rw [if_pos hk]
        have hk2 : 18446744073709551615 - H < K := by omega
        clear hk
        go_enter Try.func16, Try.ntmps16
        go_wp2_with (first
          | (go_at_call 14; refine (cP _).mono ?_; rintro e u1 ⟨rfl, h1⟩
             have M1 := (M0.call h1).add 26 #[.int .u64 (H), .int .u64 x, .int .u64 y]
             obtain ⟨p1, p2, p3, p4, p5, p6, p7⟩ := ((M0.call h1).box 2).three
             obtain ⟨q1, q2, q3, q4, q5, q6, q7⟩ := ((M0.call h1).box 1).three
             obtain ⟨r1, r2, r3, r4, r5, r6, r7⟩ := ((M0.call h1).box 0).three)
          | (go_at_call 35; refine (eC _).mono ?_; rintro e u2 ⟨rfl, h2⟩))
        all_goals
          have R9 := (((((M0.call h1).box 0).wrote 0 (.int .u64 (18446744073709551615))).wrote 1 (.int .u64 x)).wrote 2 (.int .u64 y)).past (.cells #[.int .u64 (18446744073709551615), .int .u64 x, .int .u64 y] 26)
          have e0 := R9.read 0
          have e1 := R9.read 1
          have e2 := R9.read 2
          simp only [Nat.reduceLT, List.setIfInBounds_toArray, List.set_cons_zero, List.set_cons_succ, List.getElem?_toArray, List.getElem?_cons_zero, List.getElem?_cons_succ] at e0 e1 e2
          have L9 := (M0.call h1).below
          have hw : w.heap.size ≤ w.heap.size + 1 + 1 := by omega
          exact bodyPost_ret (v := wide (18446744073709551615) x y) (by simp [results, Try.results16, go_sem, e0, e1, e2]) rfl ⟨rfl, by repeat (first | exact L9 | refine Below.setCell ?_ hw _ | refine Below.alloc ?_ (by have := L9.size; simp; omega) _)⟩
      · rw [if_neg hk]
        have hk2 : ¬ (18446744073709551615 - H < K) := by omega
        have w3 : (H + K) % 18446744073709551616 = H + K := by omega
        clear hk
        go_enter Try.func16, Try.ntmps16
        go_wp2_with (first
          | (go_at_call 14; refine (cP _).mono ?_; rintro e u1 ⟨rfl, h1⟩
             have M1 := (M0.call h1).add 26 #[.int .u64 (H), .int .u64 x, .int .u64 y]
             obtain ⟨p1, p2, p3, p4, p5, p6, p7⟩ := ((M0.call h1).box 2).three
             obtain ⟨q1, q2, q3, q4, q5, q6, q7⟩ := ((M0.call h1).box 1).three
             obtain ⟨r1, r2, r3, r4, r5, r6, r7⟩ := ((M0.call h1).box 0).three)
          | (go_at_call 35; refine (eC _).mono ?_; rintro e u2 ⟨rfl, h2⟩))
        all_goals
          have R9 := (((((M0.call h1).box 0).wrote 0 (.int .u64 (H + K))).wrote 1 (.int .u64 x)).wrote 2 (.int .u64 y)).past (.cells #[.int .u64 (H + K), .int .u64 x, .int .u64 y] 26)
          have e0 := R9.read 0
          have e1 := R9.read 1
          have e2 := R9.read 2
          simp only [Nat.reduceLT, List.setIfInBounds_toArray, List.set_cons_zero, List.set_cons_succ, List.getElem?_toArray, List.getElem?_cons_zero, List.getElem?_cons_succ] at e0 e1 e2
          have L9 := (M0.call h1).below
          have hw : w.heap.size ≤ w.heap.size + 1 + 1 := by omega
          exact bodyPost_ret (v := wide (H + K) x y) (by simp [results, Try.results16, go_sem, e0, e1, e2]) rfl ⟨rfl, by repeat (first | exact L9 | refine Below.setCell ?_ hw _ | refine Below.alloc ?_ (by have := L9.size; simp; omega) _)⟩
    · have eX : H = 18446744073709551615 := by omega
      subst eX
      clear ht
      by_cases hk : 0 < K
      · rw [if_pos (by omega)]
        go_enter Try.func16, Try.ntmps16
        go_wp2_with (first
          | (go_at_call 14; refine (cP _).mono ?_; rintro e u1 ⟨rfl, h1⟩
             have M1 := (M0.call h1).add 26 #[.int .u64 (18446744073709551615), .int .u64 x, .int .u64 y]
             obtain ⟨p1, p2, p3, p4, p5, p6, p7⟩ := ((M0.call h1).box 2).three
             obtain ⟨q1, q2, q3, q4, q5, q6, q7⟩ := ((M0.call h1).box 1).three
             obtain ⟨r1, r2, r3, r4, r5, r6, r7⟩ := ((M0.call h1).box 0).three)
          | (go_at_call 35; refine (eC _).mono ?_; rintro e u2 ⟨rfl, h2⟩; have N2 := (M1.call h2)
             obtain ⟨s1, s2, s3, s4, s5, s6, s7⟩ := (N2.box 1).three
             obtain ⟨t1, t2, t3, t4, t5, t6, t7⟩ := (N2.box 0).three
             obtain ⟨v1, v2, v3, v4, v5, v6, v7⟩ := (N2.box 2).three))
        all_goals
          have R9 := ((((N2.box 1).apart (p := ⟨u1.heap.size, 0, none⟩) (by simp; omega) (.int .u64 (18446744073709551615))).wrote 0 (.int .u64 (18446744073709551615))).wrote 1 (.int .u64 x)).wrote 2 (.int .u64 y)
          have e0 := R9.read 0
          have e1 := R9.read 1
          have e2 := R9.read 2
          simp only [Nat.reduceLT, List.setIfInBounds_toArray, List.set_cons_zero, List.set_cons_succ, List.getElem?_toArray, List.getElem?_cons_zero, List.getElem?_cons_succ] at e0 e1 e2
          have L9 := N2.below
          have hw : w.heap.size ≤ w.heap.size + 1 + 1 := by omega
          have hw2 : w.heap.size ≤ u1.heap.size := by omega
          exact bodyPost_ret (v := wide (18446744073709551615) x y) (by simp [results, Try.results16, go_sem, e0, e1, e2]) rfl ⟨rfl, by repeat (first | exact L9 | refine Below.setCell ?_ hw _ | refine Below.setCell ?_ hw2 _)⟩
      · have eK : K = 0 := by omega
        subst eK
        rw [if_neg (by omega)]
        clear hk
        go_enter Try.func16, Try.ntmps16
        go_wp2_with (first
          | (go_at_call 14; refine (cP _).mono ?_; rintro e u1 ⟨rfl, h1⟩
             have M1 := (M0.call h1).add 26 #[.int .u64 (18446744073709551615), .int .u64 x, .int .u64 y]
             obtain ⟨p1, p2, p3, p4, p5, p6, p7⟩ := ((M0.call h1).box 2).three
             obtain ⟨q1, q2, q3, q4, q5, q6, q7⟩ := ((M0.call h1).box 1).three
             obtain ⟨r1, r2, r3, r4, r5, r6, r7⟩ := ((M0.call h1).box 0).three)
          | (go_at_call 35; refine (eC _).mono ?_; rintro e u2 ⟨rfl, h2⟩; have N2 := (M1.call h2)
             obtain ⟨s1, s2, s3, s4, s5, s6, s7⟩ := (N2.box 1).three
             obtain ⟨t1, t2, t3, t4, t5, t6, t7⟩ := (N2.box 0).three
             obtain ⟨v1, v2, v3, v4, v5, v6, v7⟩ := (N2.box 2).three))
        all_goals
          have R9 := ((((N2.box 1).apart (p := ⟨u1.heap.size, 0, none⟩) (by simp; omega) (.int .u64 (18446744073709551615))).wrote 0 (.int .u64 (18446744073709551615))).wrote 1 (.int .u64 x)).wrote 2 (.int .u64 y)
          have e0 := R9.read 0
          have e1 := R9.read 1
          have e2 := R9.read 2
          simp only [Nat.reduceLT, List.setIfInBounds_toArray, List.set_cons_zero, List.set_cons_succ, List.getElem?_toArray, List.getElem?_cons_zero, List.getElem?_cons_succ] at e0 e1 e2
          have L9 := N2.below
          have hw : w.heap.size ≤ w.heap.size + 1 + 1 := by omega
          have hw2 : w.heap.size ≤ u1.heap.size := by omega
          exact bodyPost_ret (v := wide (18446744073709551615) x y) (by simp [results, Try.results16, go_sem, e0, e1, e2]) rfl ⟨rfl, by repeat (first | exact L9 | refine Below.setCell ?_ hw _ | refine Below.setCell ?_ hw2 _)⟩
end Go.Proofs.Ytpafamlegfdclaa
