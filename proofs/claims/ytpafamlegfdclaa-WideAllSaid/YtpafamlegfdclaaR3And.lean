/-
  paymasterref03's Plus, And, All, walked: what the document says of sums of wide numbers, by definition.
-/
import Derived.Test.YtpafamlegfdclaaR3Plus
import Derived.Test.YtpafamlegfdclaaU3All
namespace Go.Proofs.Ytpafamlegfdclaa
set_option linter.unusedVariables false
set_option linter.unusedSimpArgs false
open Go.RowKit

set_option maxHeartbeats 8000000 in
theorem rwplus_any (H h l ah al : Int) (a : Word H) (b : Word h) (c : Word l) (a1 : Word ah) (a0 : Word al) (w : World) :
    Calls Try.prog 14 #[wide H h l, .agg #[.int .u64 ah, .int .u64 al]] w (Tells (told (wv H h l + nv ah al)) w.heap.size w) := by
  obtain ⟨nA0, nA1⟩ := nv_word a1 a0
  obtain ⟨nB0, nB1⟩ := nv_word b c
  have K0 := (((Has.start w).add 26 #[.int .u64 H, .int .u64 h, .int .u64 l]).addAt 24 #[.int .u64 ah, .int .u64 al] (g := w.heap.size + 1) (by simp)).addAt 26 #[.int .u64 0, .int .u64 0, .int .u64 0] (g := w.heap.size + 1 + 1) (by simp)
  have cA := fun u : World => radd_any h l ah al b c a1 a0 u
  cases hroom : room (nv h l + nv ah al)
  · have hno := room_not.1 hroom
    have hM : nv 18446744073709551615 18446744073709551615 = 340282366920938463463374607431768211455 := by decide
    obtain ⟨e1, e2⟩ := plus_carry a nB1 nA1 (by omega)
    obtain ⟨fh, fl, f1, f0, hF⟩ := halves (s := 340282366920938463463374607431768211455 - nv ah al) (by omega) (by omega)
    obtain ⟨ph, pl, p1, p0, hP⟩ := halves (s := nv fh fl + nv 0 1) (by rw [hF, show nv 0 1 = 1 by decide]; omega) (by rw [hF, show nv 0 1 = 1 by decide]; omega)
    have hq : nv h l - nv ph pl = nv h l + nv ah al - 340282366920938463463374607431768211456 := by rw [hP, hF, show nv 0 1 = 1 by decide]; omega
    rw [show H * 340282366920938463463374607431768211456 + nv h l + nv ah al = wv H h l + nv ah al from rfl] at e1 e2
    have cA' := fun u : World => (cA u).mono fun e w' hf => Fit.no hroom hf
    have cS1 := fun u : World => (rsub_any 18446744073709551615 18446744073709551615 ah al word_lit word_lit a1 a0 u).mono fun e w' hf => Fit.yes (h := fh) (l := fl) (by rw [hM]; exact hF) f1 f0 hf
    have cS2 := fun u : World => (radd_any fh fl 0 1 f1 f0 word_lit word_lit u).mono fun e w' hf => Fit.yes (h := ph) (l := pl) hP p1 p0 hf
    have cS3 := fun u : World => (rsub_any h l ph pl b c p1 p0 u).mono fun e' w' hf => Fit.yes (h := wh (wv H h l + nv ah al)) (l := wl (wv H h l + nv ah al)) (by rw [nv_wl, e2, hq]) (wh_word _) (wl_word _) hf
    rw [told, e1]
    generalize wh (wv H h l + nv ah al) = x at *
    generalize wl (wv H h l + nv ah al) = y at *
    clear e1 e2 hno hroom hF hP hM cA hq nA0 nA1 nB0 nB1
    have z0 := a.1
    have z1 := a.2
    obtain ⟨X, hX⟩ : ∃ X, (if H < topH then H + 1 else topH) = X := ⟨_, rfl⟩
    rw [hX]
    have HX := hideIt hX
    clear hX
    go_enter Try.func14, Try.ntmps14
    go_upto_region 5 with (first
      | (go_at_call 30; refine (cA' _).mono ?_; rintro e w1 ⟨rfl, h1⟩))
    have K1 := (K0.call h1).past (.cells #[.int .u64 0, .int .u64 0] 24)
    generalize w1.alloc (.cells #[.int .u64 0, .int .u64 0] 24) = W1 at *
    go_cut [7, 8] (fun s7 s8 wx => ∃ g, s7 = .pointer (some ⟨g, 0, none⟩) ∧ s8 = .int .i64 0 ∧ Has w [(g, 24, #[.int .u64 fh, .int .u64 fl]), (w.heap.size + 1 + 1, 26, #[.int .u64 0, .int .u64 0, .int .u64 0]), (w.heap.size + 1, 24, #[.int .u64 ah, .int .u64 al]), (w.heap.size, 26, #[.int .u64 H, .int .u64 h, .int .u64 l])] wx)
    case first =>
      obtain ⟨p1, p2, p3, p4, p5⟩ := (K1.box 1).two
      have s0 := (K1.box 0).inside
      go_region_with (first
        | (go_at_call 32; refine (rmost_any _).mono ?_; rintro e w2 ⟨rfl, h2⟩
           have K2 := K1.drew.call h2
           have s2 := (K2.box 0).inside
           obtain ⟨q1, q2, q3, q4, q5⟩ := (K2.box 1).two)
        | (go_at_call 32; refine (rmost_any _).mono ?_; rintro e w2 ⟨rfl, h2⟩
           have K2 := (K1.add _ _).drew.call h2
           obtain ⟨q1, q2, q3, q4, q5⟩ := (K2.box 2).two
           obtain ⟨g1, g2, g3, g4, g5⟩ := (K2.box 0).two)
        | (go_at_call 31; refine (cS1 _).mono ?_; rintro e w3 ⟨rfl, h3⟩
           have K3 := K2.call h3
           clear g1 g2 g3 g4 g5
           obtain ⟨g1, g2, g3, g4, g5⟩ := (K3.box 0).two)
        | (go_at_call 31; refine (cS1 _).mono ?_; rintro e w3 ⟨rfl, h3⟩
           have K3 := K2.call h3)
        | (go_at_call 31; refine (cS1 _).mono ?_; rintro e w3 ⟨rfl, h3⟩
           have K3 := (K2.add _ _).call h3
           obtain ⟨g1, g2, g3, g4, g5⟩ := (K3.box 0).two))
      all_goals go_wp2_with fail
      all_goals go_meet
      all_goals first
        | exact ⟨_, rfl, rfl, K3.add _ _⟩
        | exact ⟨_, rfl, rfl, (K3.wrote (by omega) (by simp; omega) 0 _).wrote (by omega) (by simp; omega) 1 _⟩
    case rest =>
      obtain ⟨g, rfl, rfl, K3⟩ := hcut
      obtain ⟨g1, g2, g3, g4, g5⟩ := (K3.box 0).two
      obtain ⟨q1, q2, q3, q4, q5, q6, q7⟩ := (K3.box 3).three
      obtain ⟨r1, r2, r3, r4, r5, r6, r7⟩ := (K3.box 1).three
      go_upto_region 7 with (first
        | (go_at_call 30; refine (cS2 _).mono ?_; rintro e w4 ⟨rfl, h4⟩))
      have K5 := (K3.call h4).add 24 #[.int .u64 ph, .int .u64 pl]
      have hs5 := K3.size
      have hs4 := h4.size
      generalize w4.alloc (.cells #[.int .u64 ph, .int .u64 pl] 24) = W5 at *
      clear q1 q2 q3 q4 q5 q6 q7 r1 r2 r3 r4 r5 r6 r7 g1 g2 g3 g4 g5
      obtain ⟨g1, g2, g3, g4, g5⟩ := (K5.box 0).two
      obtain ⟨q1, q2, q3, q4, q5, q6, q7⟩ := (K5.box 4).three
      by_cases ht : H < 18446744073709551615
      · have eX : X = H + 1 := by rw [← HX.out, if_pos (by unfold topH; exact ht)]
        have wX : (H + 1) % 18446744073709551616 = H + 1 := by omega
        subst eX
        go_wp2_with (first
          | (go_at_call 31; refine (cS3 _).mono ?_; rintro e w6 ⟨rfl, h6⟩
             have K6 := K5.call h6
             clear q1 q2 q3 q4 q5 q6 q7 g1 g2 g3 g4 g5
             obtain ⟨q1, q2, q3, q4, q5, q6, q7⟩ := (K6.box 4).three
             obtain ⟨r1, r2, r3, r4, r5, r6, r7⟩ := (K6.box 2).three))
        have R9 := ((((((K6.box 2).apart (p := ⟨w.heap.size, 1, none⟩) (by simp; omega) (.int .u64 x)).apart (p := ⟨w.heap.size, 2, none⟩) (by simp; omega) (.int .u64 y)).apart (p := ⟨w.heap.size, 0, none⟩) (by simp; omega) (.int .u64 (H + 1))).wrote 0 (.int .u64 (H + 1))).wrote 1 (.int .u64 x)).wrote 2 (.int .u64 y)
        have e0 := R9.read 0
        have e1 := R9.read 1
        have e2 := R9.read 2
        simp only [Nat.reduceLT, List.setIfInBounds_toArray, List.set_cons_zero, List.set_cons_succ, List.getElem?_toArray, List.getElem?_cons_zero, List.getElem?_cons_succ] at e0 e1 e2
        have L9 := K6.below
        have hw : w.heap.size ≤ w.heap.size := Nat.le_refl _
        have hw2 : w.heap.size ≤ w.heap.size + 1 + 1 := by omega
        exact bodyPost_ret (v := wide ((H + 1)) x y) (by simp [results, Try.results14, go_sem, e0, e1, e2]) rfl ⟨rfl, by repeat (first | exact L9 | refine Below.setCell ?_ hw _ | refine Below.setCell ?_ hw2 _)⟩
      · have eX : X = 18446744073709551615 := by rw [← HX.out, if_neg (by unfold topH; exact ht)]; rfl
        have eH : H = 18446744073709551615 := by omega
        subst eX eH
        go_wp2_with (first
          | (go_at_call 31; refine (cS3 _).mono ?_; rintro e w6 ⟨rfl, h6⟩
             have K6 := K5.call h6
             clear q1 q2 q3 q4 q5 q6 q7 g1 g2 g3 g4 g5
             obtain ⟨q1, q2, q3, q4, q5, q6, q7⟩ := (K6.box 4).three
             obtain ⟨r1, r2, r3, r4, r5, r6, r7⟩ := (K6.box 2).three))
        have R9 := (((((K6.box 2).apart (p := ⟨w.heap.size, 1, none⟩) (by simp; omega) (.int .u64 x)).apart (p := ⟨w.heap.size, 2, none⟩) (by simp; omega) (.int .u64 y)).wrote 0 (.int .u64 18446744073709551615)).wrote 1 (.int .u64 x)).wrote 2 (.int .u64 y)
        have e0 := R9.read 0
        have e1 := R9.read 1
        have e2 := R9.read 2
        simp only [Nat.reduceLT, List.setIfInBounds_toArray, List.set_cons_zero, List.set_cons_succ, List.getElem?_toArray, List.getElem?_cons_zero, List.getElem?_cons_succ] at e0 e1 e2
        have L9 := K6.below
        have hw : w.heap.size ≤ w.heap.size := Nat.le_refl _
        have hw2 : w.heap.size ≤ w.heap.size + 1 + 1 := by omega
        exact bodyPost_ret (v := wide (18446744073709551615) x y) (by simp [results, Try.results14, go_sem, e0, e1, e2]) rfl ⟨rfl, by repeat (first | exact L9 | refine Below.setCell ?_ hw _ | refine Below.setCell ?_ hw2 _)⟩
  · have hyes := room_iff.1 hroom
    obtain ⟨e1, e2⟩ := plus_room (H := H) a nB0 nA0 hyes.2
    rw [show H * 340282366920938463463374607431768211456 + nv h l + nv ah al = wv H h l + nv ah al from rfl] at e1 e2
    have cA' := fun u : World => (cA u).mono fun e w' hf => Fit.yes (h := wh (wv H h l + nv ah al)) (l := wl (wv H h l + nv ah al)) (by rw [nv_wl, e2]) (wh_word _) (wl_word _) hf
    rw [told, e1]
    generalize wh (wv H h l + nv ah al) = x at *
    generalize wl (wv H h l + nv ah al) = y at *
    clear e1 e2 hyes hroom cA nA0 nA1 nB0 nB1
    go_enter Try.func14, Try.ntmps14
    go_wp2_with (first
      | (go_at_call 30; refine (cA' _).mono ?_; rintro e w1 ⟨rfl, h1⟩
         have K1 := K0.call h1
         obtain ⟨q1, q2, q3, q4, q5, q6, q7⟩ := (K1.box 2).three
         obtain ⟨r1, r2, r3, r4, r5, r6, r7⟩ := (K1.box 0).three))
    have R9 := ((((((K1.box 0).apart (p := ⟨w.heap.size, 1, none⟩) (by simp; omega) (.int .u64 x)).apart (p := ⟨w.heap.size, 2, none⟩) (by simp; omega) (.int .u64 y)).wrote 0 (.int .u64 H)).wrote 1 (.int .u64 x)).wrote 2 (.int .u64 y)).past (.cells #[.int .u64 x, .int .u64 y] 24)
    have e0 := R9.read 0
    have e1 := R9.read 1
    have e2 := R9.read 2
    simp only [Nat.reduceLT, List.setIfInBounds_toArray, List.set_cons_zero, List.set_cons_succ, List.getElem?_toArray, List.getElem?_cons_zero, List.getElem?_cons_succ] at e0 e1 e2
    have L9 := K1.below
    have hw : w.heap.size ≤ w.heap.size := Nat.le_refl _
    have hw2 : w.heap.size ≤ w.heap.size + 1 + 1 := by omega
    exact bodyPost_ret (v := wide H x y) (by simp [results, Try.results14, go_sem, e0, e1, e2]) rfl ⟨rfl, by repeat (first | exact L9 | refine Below.setCell ?_ hw _ | refine Below.setCell ?_ hw2 _ | refine Below.alloc ?_ (by have := K1.size; simp; omega) _)⟩
end Go.Proofs.Ytpafamlegfdclaa
