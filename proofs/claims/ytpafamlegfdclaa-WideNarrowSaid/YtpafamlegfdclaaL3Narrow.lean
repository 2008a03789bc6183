/-
  The law of layer 3: the sum of all is narrow just if layer 1's Sum is told OK, and is that then; High is how many times something had no room; any row of numbers (of more than 200 the law says nothing).
-/
import Derived.Test.YtpafamlegfdclaaU3Awake
import Derived.Test.YtpafamlegfdclaaC3Nums
import Derived.Test.YtpafamlegfdclaaW0Lift
namespace Go.Proofs.Ytpafamlegfdclaa
set_option linter.unusedVariables false
set_option linter.unusedSimpArgs false
open Go.ChangeShapes Go.WideShapes Go.ChangeAt Go.RowKit

theorem narrow_step {S a : Int} (h0 : 0 ≤ S) (hS : S < 340282366920938463463374607431768211456000000) (a0 : 0 ≤ a) (a1 : a < 340282366920938463463374607431768211456) :
    (wL S + a < 340282366920938463463374607431768211456 → wL (S + a) = wL S + a ∧ wH (S + a) = wH S) ∧
    (340282366920938463463374607431768211456 ≤ wL S + a → wL (S + a) = wL S + a - 340282366920938463463374607431768211456 ∧ wH (S + a) = wH S + 1 ∧ (wH S + 1) % 18446744073709551616 = wH S + 1) := by
  unfold wL wH topH
  constructor
  · intro h
    constructor
    · omega
    · rw [if_pos (by omega), if_pos (by omega)]; omega
  · intro h
    refine ⟨by omega, ?_, ?_⟩
    · rw [if_pos (by omega), if_pos (by omega)]; omega
    · rw [if_pos (by omega)]; omega
theorem narrow_ends {S : Int} (h0 : 0 ≤ S) (hS : S < 340282366920938463463374607431768211456000000) : (room S = true → wH S = 0) ∧ (room S = false → 0 < wH S) := by
  unfold wH topH
  constructor
  · intro h
    have := room_iff.1 h
    rw [if_pos (by omega)]; omega
  · intro h
    have := room_not.1 h
    rw [if_pos (by omega)]; omega

set_option maxRecDepth 100000 in
set_option maxHeartbeats 16000000 in
theorem wnarrow_walk (A : Option Addr) (c : Nat) (xs : List (Int × Int)) (hx : AllNum xs) (hcm : xs.length ≤ maxLen) (w : World) (hr : NumRow w w.heap.size A xs) :
    Calls Try.prog 5 #[.slice A xs.length c] w (Tells (.bool true) w.heap.size w) := by
  unfold maxLen at hcm
  by_cases h200 : 200 < xs.length
  · have h200' : (200 : Int) < (xs.length : Int) := by omega
    go_enter Try.func5, Try.ntmps5
    go_wp2_with (first
      | (go_at_call 24; refine (wawake_any _).mono ?_; rintro e w1 ⟨rfl, h1⟩)
      | fail)
    go_ret
    exact ⟨rfl, h1⟩
  · have h200' : ¬ (200 : Int) < (xs.length : Int) := by omega
    have hm : xs.length ≤ 1000000 := by omega
    have cA := fun (u : World) (hu : Below w.heap.size w u) => all_any A c xs hx hm u ((hr.call hu).more hu.size)
    have cS := fun (u : World) (hu : Below w.heap.size w u) => sum_any A c xs hx hm u ((hr.call hu).more hu.size)
    have hS0 := sumN_nonneg hx
    have hS1 := sumN_lt hx
    have hS2 : sumN xs < 340282366920938463463374607431768211456000000 := by omega
    obtain ⟨k1, k2, k3⟩ := wide_word hS0
    have cN := fun u : World => narrow_any (wH (sumN xs)) (wh (sumN xs)) (wl (sumN xs)) k1 k2 k3 u
    rw [wv_sum hx hm] at cN
    simp only [fit_tells] at cN cS
    rw [told] at cA
    have hends := narrow_ends hS0 hS2
    have hEnd := hideIt hends
    have hq1 := fun u : World => neq_num_same (rh (sumN xs)) (rl (sumN xs)) u
    have hq2 := fun u : World => eql_wide_same (wH (sumN xs)) (wh (sumN xs)) (wl (sumN xs)) u
    obtain ⟨X, eX⟩ : ∃ X, wH (sumN xs) = X := ⟨_, rfl⟩
    obtain ⟨x, ex⟩ : ∃ X, wh (sumN xs) = X := ⟨_, rfl⟩
    obtain ⟨y, ey⟩ : ∃ X, wl (sumN xs) = X := ⟨_, rfl⟩
    obtain ⟨z, ez⟩ : ∃ X, rh (sumN xs) = X := ⟨_, rfl⟩
    obtain ⟨z', ez'⟩ : ∃ X, rl (sumN xs) = X := ⟨_, rfl⟩
    obtain ⟨e', ee⟩ : ∃ X, re (sumN xs) = X := ⟨_, rfl⟩
    rw [eX, ex, ey] at cN cA hq2
    rw [ez, ez', ee] at cN cS
    rw [ez, ez'] at hq1
    have EX := hideIt eX
    have Ex := hideIt ex
    have Ey := hideIt ey
    have EE := hideIt ee
    have HS := hideIt (And.intro hS0 hS2)
    have HR := hideIt hr
    clear eX ex ey ez ez' ee hends hS0 hS1 hS2 k1 k2 k3 hr
    have K0 := Has.start w
    go_enter Try.func5, Try.ntmps5
    go_upto_region 6 with (first
      | (go_at_call 24; refine (wawake_any _).mono ?_; rintro e w1 ⟨rfl, h1⟩)
      | (go_at_call 21; refine (cA _ h1).mono ?_; rintro e w2 ⟨rfl, h2⟩)
      | fail)
    have K2 := ((K0.call h1).call h2).add 26 #[.int .u64 X, .int .u64 x, .int .u64 y]
    generalize w2.alloc (.cells #[.int .u64 X, .int .u64 x, .int .u64 y] 26) = W2 at *
    obtain ⟨p1, p2, p3, p4, p5, p6, p7⟩ := (K2.box 0).three
    go_upto_region 7 with (first
      | (go_at_call 9; refine (cN _).mono ?_; rintro e w3 ⟨rfl, h3⟩)
      | fail)
    have K3 := (K2.call h3).add 24 #[.int .u64 z, .int .u64 z']
    generalize w3.alloc (.cells #[.int .u64 z, .int .u64 z'] 24) = W3 at *
    go_upto_region 8 with (first
      | (go_at_call 25; refine (cS _ K3.below).mono ?_; rintro e w4 ⟨rfl, h4⟩)
      | fail)
    have K4 := (K3.call h4).add 24 #[.int .u64 z, .int .u64 z']
    generalize w4.alloc (.cells #[.int .u64 z, .int .u64 z'] 24) = W4 at *
    clear p1 p2 p3 p4 p5 p6 p7 K0 K2 K3 h1 h2 h3 h4 cA cS cN
    go_cut [47] (fun s47 wx => s47 = .bool false ∧ Has w [(w2.heap.size, 26, #[.int .u64 X, .int .u64 x, .int .u64 y])] wx)
    case first =>
      obtain ⟨p1, p2, p3, p4, p5⟩ := (K4.box 0).two
      obtain ⟨q1, q2, q3, q4, q5⟩ := (K4.box 1).two
      obtain ⟨r1, r2, r3, r4, r5, r6, r7⟩ := (K4.box 2).three
      have K5 := K4.tail.tail
      cases hroom : room (sumN xs)
      · have e1 : e' = 10 := by rw [← EE.out]; exact re_no hroom
        have e2 : ¬ (X = 0) := by have := hEnd.out.2 hroom; rw [EX.out] at this; omega
        have e3 : (X == 0) = false := by simpa using e2
        subst e1
        clear hroom
        go_wp2
        go_meet
        exact ⟨by first | rfl | rw [e3], K5⟩
      · have e1 : e' = 0 := by rw [← EE.out]; exact re_yes hroom
        have e2 : X = 0 := by have := hEnd.out.1 hroom; rw [EX.out] at this; exact this
        subst e1 e2
        clear hroom
        go_wp2
        go_meet
        exact ⟨rfl, K5⟩
    case rest =>
      obtain ⟨rfl, K5⟩ := hcut
      clear K4 hq1
      have K6 := K5.add 24 #[.int .u64 0, .int .u64 0]
      have hz5 := K5.size
      have hi5 := (K5.box 0).inside
      go_wp2
      generalize hW6 : wc.alloc (.cells #[.int .u64 0, .int .u64 0] 24) = W6 at *
      clear hW6
      generalize wc.heap.size = gL at *
      go_loopg [9, 10] xs.length (fun gk t i wr => ∃ k : Nat, k ≤ xs.length ∧ gk = xs.length - k ∧ t = .int .u64 (wH (sumN (xs.take k))) ∧ i = .int .i64 k ∧
        Has w [(gL, 24, #[.int .u64 (wh (sumN (xs.take k))), .int .u64 (wl (sumN (xs.take k)))]), (w2.heap.size, 26, #[.int .u64 X, .int .u64 x, .int .u64 y])] wr)
      case atStart =>
        refine ⟨0, by omega, rfl, ?_, rfl, ?_⟩
        · rw [List.take_zero, show wH (sumN []) = 0 by decide]
        · rw [List.take_zero, show wh (sumN []) = 0 by decide, show wl (sumN []) = 0 by decide]
          exact K6
      case round =>
        obtain ⟨k, hk, rfl, rfl, rfl, hbx⟩ := hrel
        by_cases hlt : k < xs.length
        · obtain ⟨p, hp⟩ : ∃ p : Int × Int, xs[k] = p := ⟨_, rfl⟩
          obtain ⟨ad, rfl, had, c0, c1⟩ := HR.out k p.1 p.2 (by rw [List.getElem?_eq_getElem hlt, hp])
          have c0' : wr.cell? (ad.add (k * 2)) = some (.int .u64 p.1) := by rw [hbx.below.cell (by rw [add_block]; exact had)]; exact c0
          have c1' : wr.cell? ⟨(ad.add (k * 2)).block, (ad.add (k * 2)).off + 1, none⟩ = some (.int .u64 p.2) := by
            have e : (⟨(ad.add (k * 2)).block, (ad.add (k * 2)).off + 1, none⟩ : Addr) = ad.add (k * 2 + 1) := by rw [← add_two]; rfl
            rw [e, hbx.below.cell (by rw [add_block]; exact had)]; exact c1
          have hab : (ad.add (k * 2)).block < wr.heap.size := by rw [add_block]; have := hbx.size; omega
          have e1 := sumN_take hlt
          rw [hp] at e1
          obtain ⟨b1, b0⟩ := hx p (by rw [← hp]; exact List.getElem_mem hlt)
          have hs0 := sumN_nonneg (hx.take k)
          have hs1 := sumN_nonneg (hx.drop k)
          have hs2 := sumN_split xs k
          have hs3 := HS.out.2
          obtain ⟨nA0, nA1⟩ := nv_word b1 b0
          obtain ⟨st1, st2⟩ := narrow_step hs0 (by omega) nA0 nA1
          rw [← e1] at st1 st2
          have hL := wL_room (sumN (xs.take k))
          have cA := fun u : World => add_any (wh (sumN (xs.take k))) (wl (sumN (xs.take k))) p.1 p.2 (wh_word _) (wl_word _) b1 b0 u
          have i0' : (0 : Int) ≤ (k : Int) := by omega
          have i1' : (k : Int) < (xs.length : Int) := by omega
          have hkk : k + 1 ≤ xs.length := by omega
          by_cases hc : wL (sumN (xs.take k)) + nv p.1 p.2 < 340282366920938463463374607431768211456
          · obtain ⟨f1, f2⟩ := st1 hc
            have cA' := fun u : World => (cA u).mono fun e w' hf => Fit.yes (h := wh (sumN (xs.take (k + 1)))) (l := wl (sumN (xs.take (k + 1)))) (by rw [nv_wl, nv_wl, f1]) (wh_word _) (wl_word _) hf
            obtain ⟨x', ex'⟩ : ∃ X', wh (sumN (xs.take (k + 1))) = X' := ⟨_, rfl⟩
            obtain ⟨y', ey'⟩ : ∃ X', wl (sumN (xs.take (k + 1))) = X' := ⟨_, rfl⟩
            rw [ex', ey'] at cA'
            have EX' := hideIt ex'
            have EY' := hideIt ey'
            have EF := hideIt f2
            clear ex' ey' f1 f2 hc st1 st2 hs0 hs1 hs2 hs3 nA0 nA1 hL cA c0 c1 e1 hp
            generalize wh (sumN (xs.take k)) = a' at *
            generalize wl (sumN (xs.take k)) = a'' at *
            obtain ⟨p1, p2, p3, p4, p5⟩ := (hbx.box 0).two
            go_upto_region 15 with fail
            go_cut [11, 12] (fun s11 s12 wx => ∃ g, s11 = .pointer (some ⟨g, 0, none⟩) ∧ s12 = .int .i64 0 ∧ Has w [(g, 24, #[.int .u64 x', .int .u64 y']), (gL, 24, #[.int .u64 a', .int .u64 a'']), (w2.heap.size, 26, #[.int .u64 X, .int .u64 x, .int .u64 y])] wx)
            case first =>
              have z0 := hbx.size
              go_region_with (first
                | (go_at_call 26; refine (cA' _).mono ?_; rintro e u1 ⟨rfl, h1⟩
                   have M1 := hbx.drew.call h1)
                | (go_at_call 26; refine (cA' _).mono ?_; rintro e u1 ⟨rfl, h1⟩
                   have M1 := (hbx.add _ _).drew.call h1
                   obtain ⟨g1, g2, g3, g4, g5⟩ := (M1.box 0).two)
                | fail)
              all_goals go_wp2_with fail
              all_goals go_meet
              all_goals first
                | exact ⟨_, rfl, rfl, M1.add _ _⟩
                | exact ⟨_, rfl, rfl, (M1.wrote (by omega) (by simp; omega) 0 _).wrote (by omega) (by simp; omega) 1 _⟩
                | fail
            case rest =>
              obtain ⟨g, rfl, rfl, M2⟩ := hcut
              clear p1 p2 p3 p4 p5 c0' c1'
              obtain ⟨g1, g2, g3, g4, g5⟩ := (M2.box 0).two
              obtain ⟨p1, p2, p3, p4, p5⟩ := (M2.box 1).two
              go_wp2
              go_roundg (xs.length - (k + 1))
              case measure => omega
              case rel => exact ⟨k + 1, hkk, rfl, by rw [EF.out], by go_num, by rw [EX'.out, EY'.out]; exact (M2.tail.wrote (by omega) (by simp; omega) 0 _).wrote (by omega) (by simp; omega) 1 _⟩
          · obtain ⟨f1, f2, f3⟩ := st2 (by omega)
            have hM : nv 18446744073709551615 18446744073709551615 = 340282366920938463463374607431768211455 := by decide
            have hno : room (nv (wh (sumN (xs.take k))) (wl (sumN (xs.take k))) + nv p.1 p.2) = false := by rw [nv_wl]; exact room_not.2 (by omega)
            have cA' := fun u : World => (cA u).mono fun e w' hf => Fit.no hno hf
            obtain ⟨fh, fl, d1, d0, hF⟩ := halves (s := 340282366920938463463374607431768211455 - nv p.1 p.2) (by omega) (by omega)
            obtain ⟨gh, gl, d3, d2, hG⟩ := halves (s := wL (sumN (xs.take k)) - nv fh fl) (by omega) (by omega)
            have cS1 := fun u : World => (sub_any 18446744073709551615 18446744073709551615 p.1 p.2 word_lit word_lit b1 b0 u).mono fun e w' hf => Fit.yes (h := fh) (l := fl) (by rw [hM]; exact hF) d1 d0 hf
            have cS2 := fun u : World => (sub_any (wh (sumN (xs.take k))) (wl (sumN (xs.take k))) fh fl (wh_word _) (wl_word _) d1 d0 u).mono fun e w' hf => Fit.yes (h := gh) (l := gl) (by rw [nv_wl]; exact hG) d3 d2 hf
            have cS3 := fun u : World => (sub_any gh gl 0 1 d3 d2 word_lit word_lit u).mono fun e w' hf => Fit.yes (h := wh (sumN (xs.take (k + 1)))) (l := wl (sumN (xs.take (k + 1)))) (by rw [nv_wl, f1, hG, hF, show nv 0 1 = 1 by decide]; omega) (wh_word _) (wl_word _) hf
            obtain ⟨x', ex'⟩ : ∃ X', wh (sumN (xs.take (k + 1))) = X' := ⟨_, rfl⟩
            obtain ⟨y', ey'⟩ : ∃ X', wl (sumN (xs.take (k + 1))) = X' := ⟨_, rfl⟩
            rw [ex', ey'] at cS3
            have EX' := hideIt ex'
            have EY' := hideIt ey'
            have EF := hideIt f2
            have C0 := hideIt c0
            have C1 := hideIt c1
            clear ex' ey' f1 f2 hc st1 st2 hs0 hs1 hs2 hs3 nA0 nA1 hL cA c0 c1 e1 hp hM hno hF hG
            generalize wh (sumN (xs.take k)) = a' at *
            generalize wl (sumN (xs.take k)) = a'' at *
            generalize wH (sumN (xs.take k)) = tt at *
            obtain ⟨p1, p2, p3, p4, p5⟩ := (hbx.box 0).two
            go_upto_region 15 with fail
            go_cut [11, 12] (fun s11 s12 wx => ∃ g, s11 = .pointer (some ⟨g, 0, none⟩) ∧ s12 = .int .i64 10 ∧ gL < g ∧ Has w [(g, 24, #[.int .u64 0, .int .u64 0]), (gL, 24, #[.int .u64 a', .int .u64 a'']), (w2.heap.size, 26, #[.int .u64 X, .int .u64 x, .int .u64 y])] wx)
            case first =>
              have z0 := hbx.size
              go_region_with (first
                | (go_at_call 26; refine (cA' _).mono ?_; rintro e u1 ⟨rfl, h1⟩
                   have M1 := hbx.drew.call h1
                   have z1 := (M1.box 0).inside)
                | (go_at_call 26; refine (cA' _).mono ?_; rintro e u1 ⟨rfl, h1⟩
                   have M1 := (hbx.add _ _).drew.call h1
                   obtain ⟨g1, g2, g3, g4, g5⟩ := (M1.box 0).two)
                | fail)
              all_goals go_wp2_with fail
              all_goals go_meet
              all_goals first
                | exact ⟨_, rfl, rfl, z1, M1.add _ _⟩
                | exact ⟨_, rfl, rfl, by omega, (M1.wrote (by omega) (by simp; omega) 0 _).wrote (by omega) (by simp; omega) 1 _⟩
                | fail
            case rest =>
              obtain ⟨g, rfl, rfl, zg, M2⟩ := hcut
              clear p1 p2 p3 p4 p5 hbx c0' c1'
              have zw := M2.size
              have zg2 := (M2.box 0).inside
              have hab2 : (ad.add (k * 2)).block < wc.heap.size := by rw [add_block]; omega
              have c2' : wc.cell? (ad.add (k * 2)) = some (.int .u64 p.1) := by rw [M2.below.cell (by rw [add_block]; exact had)]; exact C0.out
              have c3' : wc.cell? ⟨(ad.add (k * 2)).block, (ad.add (k * 2)).off + 1, none⟩ = some (.int .u64 p.2) := by
                have e : (⟨(ad.add (k * 2)).block, (ad.add (k * 2)).off + 1, none⟩ : Addr) = ad.add (k * 2 + 1) := by rw [← add_two]; rfl
                rw [e, M2.below.cell (by rw [add_block]; exact had)]; exact C1.out
              go_upto_region 17 with fail
              go_cut [13, 14] (fun s13 s14 wx => ∃ g2, s13 = .pointer (some ⟨g2, 0, none⟩) ∧ s14 = .int .i64 0 ∧ Has w [(g2, 24, #[.int .u64 fh, .int .u64 fl]), (g, 24, #[.int .u64 0, .int .u64 0]), (gL, 24, #[.int .u64 a', .int .u64 a'']), (w2.heap.size, 26, #[.int .u64 X, .int .u64 x, .int .u64 y])] wx)
              case first =>
                go_region_with (first
                  | (go_at_call 28; refine (most_any _).mono ?_; rintro e v2 ⟨rfl, h2⟩
                     have N2 := M2.drew.call h2
                     have hab3 : (ad.add (k * 2)).block < v2.heap.size := by rw [add_block]; have := N2.size; omega
                     have s2 := (N2.box 0).inside
                     have z2 := N2.size
                     have c4' : v2.cell? (ad.add (k * 2)) = some (.int .u64 p.1) := by rw [N2.below.cell (by rw [add_block]; exact had)]; exact C0.out
                     have c5' : v2.cell? ⟨(ad.add (k * 2)).block, (ad.add (k * 2)).off + 1, none⟩ = some (.int .u64 p.2) := by
                       have e : (⟨(ad.add (k * 2)).block, (ad.add (k * 2)).off + 1, none⟩ : Addr) = ad.add (k * 2 + 1) := by rw [← add_two]; rfl
                       rw [e, N2.below.cell (by rw [add_block]; exact had)]; exact C1.out)
                  | (go_at_call 28; refine (most_any _).mono ?_; rintro e v2 ⟨rfl, h2⟩
                     have N2 := (M2.add _ _).drew.call h2
                     have hab3 : (ad.add (k * 2)).block < v2.heap.size := by rw [add_block]; have := N2.size; omega
                     obtain ⟨g1, g2, g3, g4, g5⟩ := (N2.box 0).two
                     have c4' : v2.cell? (ad.add (k * 2)) = some (.int .u64 p.1) := by rw [N2.below.cell (by rw [add_block]; exact had)]; exact C0.out
                     have c5' : v2.cell? ⟨(ad.add (k * 2)).block, (ad.add (k * 2)).off + 1, none⟩ = some (.int .u64 p.2) := by
                       have e : (⟨(ad.add (k * 2)).block, (ad.add (k * 2)).off + 1, none⟩ : Addr) = ad.add (k * 2 + 1) := by rw [← add_two]; rfl
                       rw [e, N2.below.cell (by rw [add_block]; exact had)]; exact C1.out)
                  | (go_at_call 27; refine (cS1 _).mono ?_; rintro e v3 ⟨rfl, h3⟩
                     have N3 := N2.call h3
                     clear g1 g2 g3 g4 g5
                     obtain ⟨g1, g2, g3, g4, g5⟩ := (N3.box 0).two)
                  | (go_at_call 27; refine (cS1 _).mono ?_; rintro e v3 ⟨rfl, h3⟩
                     have N3 := N2.call h3)
                  | (go_at_call 27; refine (cS1 _).mono ?_; rintro e v3 ⟨rfl, h3⟩
                     have N3 := (N2.add _ _).call h3
                     obtain ⟨g1, g2, g3, g4, g5⟩ := (N3.box 0).two)
                  | fail)
                all_goals go_wp2_with fail
                all_goals go_meet
                all_goals first
                  | exact ⟨_, rfl, rfl, N3.add _ _⟩
                  | exact ⟨_, rfl, rfl, (N3.wrote (by omega) (by simp; omega) 0 _).wrote (by omega) (by simp; omega) 1 _⟩
                  | fail
              case rest =>
                obtain ⟨g2, rfl, rfl, M4⟩ := hcut
                clear c2' c3'
                obtain ⟨r1, r2, r3, r4, r5⟩ := (M4.box 0).two
                obtain ⟨p1, p2, p3, p4, p5⟩ := (M4.box 2).two
                go_upto_region 19 with (first
                  | (go_at_call 27; refine (cS2 _).mono ?_; rintro e v5 ⟨rfl, h5⟩
                     have M5 := M4.call h5
                     obtain ⟨q1, q2, q3, q4, q5⟩ := (M5.box 1).two)
                  | fail)
                have M7 := (M5.tail.wrote (by omega) (by simp; omega) 0 (.int .u64 gh)).wrote (by omega) (by simp; omega) 1 (.int .u64 gl)
                generalize (v5.setCell ⟨g, 0, none⟩ (.int .u64 gh)).setCell ⟨g, 1, none⟩ (.int .u64 gl) = W7 at *
                clear r1 r2 r3 r4 r5 p1 p2 p3 p4 p5 q1 q2 q3 q4 q5
                obtain ⟨q1, q2, q3, q4, q5⟩ := (M7.box 0).two
                go_region_with (first
                  | (go_at_call 29; refine (of_any _ _).mono ?_; rintro e v6 ⟨rfl, h6⟩
                     have N8 := M7.drew.call h6
                     obtain ⟨r1, r2, r3, r4, r5⟩ := (N8.box 0).two)
                  | (go_at_call 27; refine (cS3 _).mono ?_; rintro e v7 ⟨rfl, h7⟩
                     have N9 := N8.call h7
                     obtain ⟨s1, s2, s3, s4, s5⟩ := (N9.box 0).two
                     obtain ⟨p1, p2, p3, p4, p5⟩ := (N9.box 1).two)
                  | fail)
                all_goals go_wp2
                all_goals go_roundg (xs.length - (k + 1))
                all_goals first
                  | omega
                  | exact ⟨k + 1, hkk, rfl, by rw [EF.out], by go_num, by rw [EX'.out, EY'.out]; exact ((((N9.wrote (by omega) (by simp; omega) 0 _).wrote (by omega) (by simp; omega) 1 _).tail.wrote (by omega) (by simp; omega) 0 _).wrote (by omega) (by simp; omega) 1 _)⟩
                  | fail
        · have e : k = xs.length := by omega
          subst e
          have ht : xs.take xs.length = xs := List.take_of_length_le (Nat.le_refl _)
          rw [ht, Ex.out, Ey.out] at hbx
          rw [ht, EX.out]
          clear ht
          obtain ⟨p1, p2, p3, p4, p5⟩ := (hbx.box 0).two
          obtain ⟨r1, r2, r3, r4, r5, r6, r7⟩ := (hbx.box 1).three
          go_wp2
          go_ret
          exact ⟨rfl, hbx.below⟩

theorem wideNarrow_core (H : Type) (enc : TypeId × Value → H) (W : World) (base : Nat) (args : Array Value) (ds gs : List (DataW H)) (before : List MemPlace)
    (hval : ∀ (j : Nat) t v, Try.f5.params[j]? = some t → args[j]? = some v → Value.okWide Try.prog W .any base t v)
    (hW : DataW.Whole enc Try.prog Try.f5.params.toList Rows.wideNarrowSpec.vars false W args.toList ds gs before) :
    gs = [] ∧ ds.length = 1 ∧ Calls Try.prog 5 args W (Tells (.bool true) W.heap.size W) := by
  obtain ⟨p, q, hA, hV, -, -, -⟩ := hW
  obtain ⟨rfl, rfl⟩ := trodVars_none hV
  have hA : DataW.TrodAll enc Try.prog W 0 (fun _ => true) true Try.f5.params.toList args.toList ds p := hA
  rw [Try.params5] at hA hval
  obtain ⟨v0, d0, rfl, rfl, h0⟩ := trodAll_one hA
  refine ⟨rfl, rfl, ?_⟩
  rcases open_nums (hval 0 _ v0 rfl rfl) h0 with rfl | ⟨a, len, cap, xs, rfl, hl, hm, rfl, hx, hr⟩
  · exact wnarrow_walk none 0 [] allnum_nil (by simp) W (fun i x y h => by simp at h)
  · exact wnarrow_walk (some a) cap xs hx (Nat.le_trans hl hm) W hr

set_option maxRecDepth 100000 in
theorem wideNarrow_lifted (os : Os) (started : os.Started) (H : Type) (enc : TypeId × Value → H) :
    ReturnsInHanded {} Try.checked os 5 .any (Rows.wideNarrowSpec.pre6 enc Try.prog Try.f5 Rows.wideNarrowRow.domain false) (Rows.wideNarrowSpec.post enc Try.prog Try.f5 false true false false) := by
  refine returnsInHanded_of_change (C := Try.checked) own_knob started (by kernel_rfl) Try.func5
    (ChangeSpec.witness6 (enc := enc) (C := Try.checked) false ⟨#[], #[.slice none 0 0], []⟩ 8 (by kernel_rfl) (by kernel_rfl) (by kernel_rfl) (by kernel_rfl)) ?_
  intro W base args ds gs before hval hW _ _
  obtain ⟨hg, hlen, hc⟩ := wideNarrow_core H enc W base args ds gs before hval hW
  subst hg
  have hr : (Try.f5.params.toList.all fun t => Try.prog.readableRec t && decide (t < Try.prog.types.size)) = true := by kernel_rfl
  have hread : ∀ t ∈ Try.f5.params.toList, Try.prog.readableRec t = true ∧ t < Try.prog.types.size := fun t ht => by
    have h := List.all_eq_true.1 hr t ht
    rw [Bool.and_eq_true, decide_eq_true_eq] at h
    exact h
  refine hc.mono fun e W' ⟨he, hb⟩ => ?_
  subst he
  match ds, hlen with
  | [d0], _ => exact ⟨_, rfl, law_post laid_out Try.underlying4 rfl hread rfl hW rfl rfl rfl hb⟩

theorem wideNarrow_holds : Rows.WideNarrowSaid :=
  OpenClaim.holds_of_wide 5 Try.f5 rfl rfl rfl rfl rfl rfl rfl ⟨rfl, rfl, rfl, rfl, rfl⟩ rfl rfl rfl rfl rfl (by kernel_rfl) Try.func5 (by kernel_rfl)
    (of_decide_eq_true (by kernel_rfl)) (by unfold Func.isWrapper; first | (rw [if_pos (by decide +kernel)]; kernel_rfl) | (rw [if_neg (by decide +kernel)]; exact ⟨rfl, rfl⟩))
    (fun os started H enc _ => wideNarrow_lifted os started H enc)

end Go.Proofs.Ytpafamlegfdclaa
