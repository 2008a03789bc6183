/-
  The law of layer 3 on orders: sums are the same in whatever order, part by part; what is added makes it greater, unless it is 0; any row of numbers (of more than 200 the law says nothing), wherever it is parted.
-/
import Derived.Test.YtpafamlegfdclaaU3Awake
import Derived.Test.YtpafamlegfdclaaC3Nums
import Derived.Test.YtpafamlegfdclaaF3Flat
import Derived.Test.YtpafamlegfdclaaL3OrdersN
import Derived.Test.YtpafamlegfdclaaW0Lift
namespace Go.Proofs.Ytpafamlegfdclaa
set_option linter.unusedVariables false
set_option linter.unusedSimpArgs false
open Go.ChangeShapes Go.WideShapes Go.ChangeAt Go.RowKit

theorem sumN_rev (xs : List (Int × Int)) : sumN xs.reverse = sumN xs := by
  induction xs with
  | nil => rfl
  | cons x r ih => rw [List.reverse_cons, sumN_append, ih]; simp [sumN]; omega
theorem allnum_rev {xs : List (Int × Int)} (h : AllNum xs) : AllNum xs.reverse := fun x hx => h x (List.mem_reverse.1 hx)
theorem held_below {w W : World} {l : List Blk} {C : Prop} (h : Has w l W ∧ C) : Below w.heap.size w W := h.1.below
/-- A sum, and that of one number more: which is less. -/
theorem less_more {S a b : Int} (ha : Word a) (hb : Word b) : decide (cmpI S (S + nv a b) < 0) = !(a == 0 && b == 0) ∧ decide (cmpI (S + nv a b) S < 0) = false := by
  have h0 := nv_word ha hb
  obtain ⟨a0, a1⟩ := ha
  obtain ⟨b0, b1⟩ := hb
  constructor
  · by_cases h : a = 0
    · by_cases h' : b = 0
      · subst h h'
        rw [show S + nv 0 0 = S by unfold nv; omega, cmpI_eq]
        rfl
      · have h2 : S < S + nv a b := by unfold nv; omega
        rw [cmpI_lt h2]
        simp [h']
    · have h2 : S < S + nv a b := by unfold nv; omega
      rw [cmpI_lt h2]
      simp [h]
  · rw [decide_eq_false_iff_not]
    by_cases h : nv a b = 0
    · rw [h, Int.add_zero, cmpI_eq]; omega
    · rw [cmpI_gt (by omega)]; omega

set_option maxRecDepth 100000 in
set_option maxHeartbeats 16000000 in
theorem worders_walk (ad : Addr) (c : Nat) (xs : List (Int × Int)) (hx : AllNum xs) (hlc : xs.length ≤ c) (hcm : c ≤ maxLen) (at_ : Int) (w : World) (hr : NumRow w w.heap.size (some ad) xs) :
    Calls Try.prog 6 #[.slice (some ad) xs.length c, .int .i64 at_] w (Tells (.bool true) w.heap.size w) := by
  obtain ⟨i0, hi, hz0, hz1, hz2⟩ := info_parts info_num2
  unfold maxLen at hcm
  by_cases h200 : 200 < xs.length
  · have h200' : (200 : Int) < (xs.length : Int) := by omega
    go_enter Try.func6, Try.ntmps6
    go_wp2_with (first
      | (go_at_call 24; refine (wawake_any _).mono ?_; rintro e w1 ⟨rfl, h1⟩)
      | fail)
    go_ret
    exact ⟨rfl, h1⟩
  · obtain ⟨u, hu⟩ : ∃ u, IntKind.u64.wrap at_ = u := ⟨_, rfl⟩
    have u0 : 0 ≤ u := by rw [← hu, IntKind.wrap_u64]; omega
    have u1 : u < 18446744073709551616 := by rw [← hu, IntKind.wrap_u64]; omega
    obtain ⟨K, hK⟩ : ∃ K : Nat, u % ((xs.length : Int) + 1) = K := ⟨(u % ((xs.length : Int) + 1)).toNat, by have := Int.emod_nonneg u (show ((xs.length : Int) + 1) ≠ 0 by omega); omega⟩
    have hK1 : K ≤ xs.length := by have := Int.emod_lt_of_pos u (show 0 < ((xs.length : Int) + 1) by omega); omega
    go_enter Try.func6, Try.ntmps6
    go_wp2_with (first
      | (go_at_call 24; refine (wawake_any _).mono ?_; rintro e w1 ⟨rfl, h1⟩)
      | fail)
    have hr1 := hr.call h1
    have hs1 := h1.size
    go_loopg [5, 6] xs.length (fun gk v i wr => ∃ j : Nat, j ≤ xs.length ∧ gk = j ∧ i = .int .i64 ((j : Int) - 1) ∧ wr.ownsRow w1.heap.size 24 2 v (xs.length - j) (flat (xs.drop j).reverse) ∧ Below w1.heap.size w1 wr)
    case atStart => exact ⟨xs.length, Nat.le_refl _, rfl, rfl, ⟨by simp [flat], .inl ⟨rfl, by omega⟩⟩, Below.refl _ _⟩
    case round =>
      obtain ⟨j, hj, hgk, rfl, hown, hbel⟩ := hrel
      have HG := hideIt hgk
      clear hgk
      have hs2 := hbel.size
      by_cases hz : j = 0
      · subst hz
        clear hj
        rw [Nat.sub_zero, List.drop_zero] at hown
        obtain ⟨-, B, cb, rfl, hback⟩ := own_nums hown
        rw [List.length_reverse]
        have hb0 := chain h1 hbel
        have hrl := (hr.call hb0).more hb0.size
        have hxr := allnum_rev hx
        have lR : xs.reverse.length = xs.length := List.length_reverse
        have c1 := fun (u : World) (hu : Below wr.heap.size wr u) => all_any (some ad) c xs hx (by omega) u ((hrl.call hu).more hu.size)
        have c2 := fun (u : World) (hu : Below wr.heap.size wr u) => all_any B cb xs.reverse hxr (by omega) u ((hback.call hu).more hu.size)
        have c3 := fun (u : World) (hu : Below wr.heap.size wr u) => balanced_any (some ad) B c cb xs xs.reverse hx hxr (by omega) (by omega) u ((hrl.call hu).more hu.size) ((hback.call hu).more hu.size)
        have lK : (xs.take K).length = K := by rw [List.length_take]; omega
        have c4 := fun (u : World) (hu : Below wr.heap.size wr u) => all_any (some ad) c (xs.take K) (hx.take K) (by omega) u (((hrl.call hu).more hu.size).take K)
        have eS : sumN (xs.take K) + sumN (xs.drop K) = sumN xs := (sumN_split xs K).symm
        have lD : (xs.drop K).length = xs.length - K := by rw [List.length_drop]
        have k1 := wide_word (sumN_nonneg (hx.take K))
        have k2 := wide_word (sumN_nonneg (hx.drop K))
        have c6 := fun u : World => and_any (wH (sumN (xs.take K))) (wh (sumN (xs.take K))) (wl (sumN (xs.take K))) (wH (sumN (xs.drop K))) (wh (sumN (xs.drop K))) (wl (sumN (xs.drop K))) k1.1 k1.2.1 k1.2.2 k2.1 k2.2.1 k2.2.2 u
        have c7 := fun u : World => and_any (wH (sumN (xs.drop K))) (wh (sumN (xs.drop K))) (wl (sumN (xs.drop K))) (wH (sumN (xs.take K))) (wh (sumN (xs.take K))) (wl (sumN (xs.take K))) k2.1 k2.2.1 k2.2.2 k1.1 k1.2.1 k1.2.2 u
        rw [wv_sum (hx.take K) (by omega), wv_sum (hx.drop K) (by omega)] at c6 c7
        rw [eS] at c6
        rw [Int.add_comm, eS] at c7
        rw [sumN_rev] at c2 c3
        rw [lR] at c2 c3
        rw [lK] at c4
        rw [show decide (sumN xs = sumN xs) = true by simp] at c3
        rw [told] at c1 c2 c6 c7
        rw [told] at c4
        obtain ⟨X, eX⟩ : ∃ X, wH (sumN xs) = X := ⟨_, rfl⟩
        obtain ⟨x, ex⟩ : ∃ X, wh (sumN xs) = X := ⟨_, rfl⟩
        obtain ⟨y, ey⟩ : ∃ X, wl (sumN xs) = X := ⟨_, rfl⟩
        rw [eX, ex, ey] at c1 c2 c6 c7
        have EX := hideIt eX
        have Ex := hideIt ex
        have Ey := hideIt ey
        have hq1 := fun v : World => neq_wide_same X x y v
        have hq2 := fun v : World => eql_wide_same X x y v
        have HX := hideIt hx
        have HRL := hideIt hrl
        have HB0 := hideIt hb0
        have lK' := lK
        clear eX ex ey eS k1 k2 hr hr1 hown lR hxr
        have hu' := hideIt hu
        have HK := hideIt hK
        have K0 : (0 : Int) ≤ (K : Int) := by omega
        have K1 : (K : Int) ≤ (xs.length : Int) := by omega
        have K2 : (K : Int) ≤ (c : Int) := by omega
        go_upto_region 12 with (first
          | (go_at_call 21; refine (c1 _ (Below.refl _ _)).mono ?_; rintro e w2 ⟨rfl, h2⟩)
          | fail)
        have M2 := ((Has.start wr).call h2).add 26 #[.int .u64 X, .int .u64 x, .int .u64 y]
        generalize w2.alloc (.cells #[.int .u64 X, .int .u64 x, .int .u64 y] 26) = W2 at *
        clear c1 h2
        have fact : ∀ v, Has wr [(w2.heap.size, 26, #[.int .u64 X, .int .u64 x, .int .u64 y])] v → v.cell? ⟨w2.heap.size, 0, none⟩ = some (.int .u64 X) ∧ v.cell? ⟨w2.heap.size, 1, none⟩ = some (.int .u64 x) ∧ v.cell? ⟨w2.heap.size, 2, none⟩ = some (.int .u64 y) := fun v hv => ⟨(hv.box 0).read 0, (hv.box 0).read 1, (hv.box 0).read 2⟩
        go_cut [76] (fun s76 wx => s76 = .bool false ∧ Has wr [(w2.heap.size, 26, #[.int .u64 X, .int .u64 x, .int .u64 y])] wx)
        case first =>
          by_cases hcK : c = K
          · subst hcK
            have lx : xs.length = c := by omega
            have hnil : xs.drop c = [] := List.drop_eq_nil_of_le (by omega)
            have c5 := fun (v : World) (hv : Below wr.heap.size wr v) => all_any (some ad) 0 [] allnum_nil (by simp) v (NumRow.nil _ _ _)
            rw [hnil] at c6 c7
            rw [told, List.length_nil] at c5
            have LXX := hideIt lx
            generalize wH (sumN (xs.take c)) = X1 at *
            generalize wh (sumN (xs.take c)) = x1 at *
            generalize wl (sumN (xs.take c)) = y1 at *
            generalize wH (sumN []) = X2 at *
            generalize wh (sumN []) = x2 at *
            generalize wl (sumN []) = y2 at *
            clear lD lK lK' lx hnil
            go_region_held3 (fun w' => Has wr [(w2.heap.size, 26, #[.int .u64 X, .int .u64 x, .int .u64 y])] w' ∧ w'.cell? ⟨w2.heap.size, 0, none⟩ = some (.int .u64 X) ∧ w'.cell? ⟨w2.heap.size, 1, none⟩ = some (.int .u64 x) ∧ w'.cell? ⟨w2.heap.size, 2, none⟩ = some (.int .u64 y))
              (first | exact held_drew fact M2 | exact held_keep fact (by assumption) (by assumption) | exact held_past fact (by assumption) _ | fail)
              (first
                | (go_at_call 21; ((with_reducible refine (c2 _ ?_).mono ?_); (exact held_below (by assumption)); rintro e q1 ⟨rfl, j1⟩))
                | (go_at_call 21; ((with_reducible refine (c4 _ ?_).mono ?_); (exact held_below (by assumption)); rintro e q2 ⟨rfl, j2⟩))
                | (go_at_call 21; ((with_reducible refine (c5 _ ?_).mono ?_); (exact held_below (by assumption)); rintro e q3 ⟨rfl, j3⟩))
                | (go_at_call 15; ((with_reducible refine (c6 _).mono ?_); rintro e q4 ⟨rfl, j4⟩))
                | (go_at_call 15; ((with_reducible refine (c7 _).mono ?_); rintro e q5 ⟨rfl, j5⟩))
                | (go_at_call 23; ((with_reducible refine (c3 _ ?_).mono ?_); (exact held_below (by assumption)); rintro e q6 ⟨rfl, j6⟩))
                | fail)
            all_goals go_wp2
            all_goals go_meet
            all_goals
              have hh : ∃ Q, Has wr [(w2.heap.size, 26, #[.int .u64 X, .int .u64 x, .int .u64 y])] q6 ∧ Q := ⟨_, by assumption⟩
              obtain ⟨Q, hh, -⟩ := hh
              exact ⟨rfl, hh⟩
          · have hKc : K < c := by omega
            have hKc' : (K : Int) < (c : Int) := by omega
            have c5 := fun (v : World) (hv : Below wr.heap.size wr v) => all_any (some (ad.add (K * 2))) (c - K) (xs.drop K) (HX.out.drop K) (by omega) v (((HRL.out.call hv).more hv.size).drop K)
            rw [lD, told] at c5
            generalize wH (sumN (xs.take K)) = X1 at *
            generalize wh (sumN (xs.take K)) = x1 at *
            generalize wl (sumN (xs.take K)) = y1 at *
            generalize wH (sumN (xs.drop K)) = X2 at *
            generalize wh (sumN (xs.drop K)) = x2 at *
            generalize wl (sumN (xs.drop K)) = y2 at *
            clear lD lK lK'
            go_region_held3 (fun w' => Has wr [(w2.heap.size, 26, #[.int .u64 X, .int .u64 x, .int .u64 y])] w' ∧ w'.cell? ⟨w2.heap.size, 0, none⟩ = some (.int .u64 X) ∧ w'.cell? ⟨w2.heap.size, 1, none⟩ = some (.int .u64 x) ∧ w'.cell? ⟨w2.heap.size, 2, none⟩ = some (.int .u64 y))
              (first | exact held_drew fact M2 | exact held_keep fact (by assumption) (by assumption) | exact held_past fact (by assumption) _ | fail)
              (first
                | (go_at_call 21; ((with_reducible refine (c2 _ ?_).mono ?_); (exact held_below (by assumption)); rintro e q1 ⟨rfl, j1⟩))
                | (go_at_call 21; ((with_reducible refine (c4 _ ?_).mono ?_); (exact held_below (by assumption)); rintro e q2 ⟨rfl, j2⟩))
                | (go_at_call 21; ((with_reducible refine (c5 _ ?_).mono ?_); (exact held_below (by assumption)); rintro e q3 ⟨rfl, j3⟩))
                | (go_at_call 15; ((with_reducible refine (c6 _).mono ?_); rintro e q4 ⟨rfl, j4⟩))
                | (go_at_call 15; ((with_reducible refine (c7 _).mono ?_); rintro e q5 ⟨rfl, j5⟩))
                | (go_at_call 23; ((with_reducible refine (c3 _ ?_).mono ?_); (exact held_below (by assumption)); rintro e q6 ⟨rfl, j6⟩))
                | fail)
            all_goals go_wp2
            all_goals go_meet
            all_goals
              have hh : ∃ Q, Has wr [(w2.heap.size, 26, #[.int .u64 X, .int .u64 x, .int .u64 y])] q6 ∧ Q := ⟨_, by assumption⟩
              obtain ⟨Q, hh, -⟩ := hh
              exact ⟨rfl, hh⟩
        case rest =>
          obtain ⟨rfl, M3⟩ := hcut
          generalize wr = wo at *
          clear M2 fact c2 c3 c4 c6 c7
          have M4 := M3.add 26 #[.int .u64 0, .int .u64 0, .int .u64 0]
          have zs3 := M3.size
          have zi3 := (M3.box 0).inside
          go_wp2
          generalize hW4 : wc.alloc (.cells #[.int .u64 0, .int .u64 0, .int .u64 0] 26) = W4 at *
          clear hW4
          generalize wc.heap.size = gN at *
          go_loopg [10] xs.length (fun gk i wq => ∃ k : Nat, k ≤ xs.length ∧ gk = xs.length - k ∧ i = .int .i64 k ∧ Has wo [(gN, 26, #[.int .u64 (wH (sumN (xs.take k))), .int .u64 (wh (sumN (xs.take k))), .int .u64 (wl (sumN (xs.take k)))]), (w2.heap.size, 26, #[.int .u64 X, .int .u64 x, .int .u64 y])] wq)
          case atStart =>
            refine ⟨0, by omega, rfl, rfl, ?_⟩
            rw [List.take_zero, show wH (sumN []) = 0 by decide, show wh (sumN []) = 0 by decide, show wl (sumN []) = 0 by decide]
            exact M4
          case round =>
            obtain ⟨k, hk, rfl, rfl, M5⟩ := hrel
            by_cases hlt : k < xs.length
            · obtain ⟨p, hp⟩ : ∃ p : Int × Int, xs[k] = p := ⟨_, rfl⟩
              obtain ⟨ad', ea, had, c0, c1⟩ := HRL.out k p.1 p.2 (by rw [List.getElem?_eq_getElem hlt, hp])
              injection ea with ea
              subst ea
              have had' : (ad.add (k * 2)).block < wo.heap.size := by rw [add_block]; exact had
              have c1 : wo.cell? ⟨(ad.add (k * 2)).block, (ad.add (k * 2)).off + 1, none⟩ = some (.int .u64 p.2) := by
                have e : (⟨(ad.add (k * 2)).block, (ad.add (k * 2)).off + 1, none⟩ : Addr) = ad.add (k * 2 + 1) := by rw [← add_two]; rfl
                rw [e]; exact c1
              have C0 := hideIt c0
              have C1 := hideIt c1
              have cell0 : ∀ v : World, Below wo.heap.size wo v → v.cell? (ad.add (k * 2)) = some (.int .u64 p.1) := fun v hv => (hv.cell had').trans C0.out
              have cell1 : ∀ v : World, Below wo.heap.size wo v → v.cell? ⟨(ad.add (k * 2)).block, (ad.add (k * 2)).off + 1, none⟩ = some (.int .u64 p.2) := fun v hv => (hv.cell (p := ⟨(ad.add (k * 2)).block, (ad.add (k * 2)).off + 1, none⟩) had').trans C1.out
              have e1 := sumN_take hlt
              rw [hp] at e1
              obtain ⟨b1, b0⟩ := HX.out p (by rw [← hp]; exact List.getElem_mem hlt)
              have hs0 := sumN_nonneg (HX.out.take k)
              obtain ⟨k1, k2, k3⟩ := wide_word hs0
              have cP := fun v : World => plus_any (wH (sumN (xs.take k))) (wh (sumN (xs.take k))) (wl (sumN (xs.take k))) p.1 p.2 k1 k2 k3 b1 b0 v
              have lt1 : (xs.take k).length ≤ 1000000 := by rw [List.length_take]; omega
              have lt2 : (xs.take (k + 1)).length ≤ 1000000 := by rw [List.length_take]; omega
              rw [wv_sum (HX.out.take k) lt1, ← e1, told] at cP
              have cL := fun v : World => wless_any (wH (sumN (xs.take k))) (wh (sumN (xs.take k))) (wl (sumN (xs.take k))) (wH (sumN (xs.take (k + 1)))) (wh (sumN (xs.take (k + 1)))) (wl (sumN (xs.take (k + 1)))) (wh_word _) (wl_word _) (wh_word _) (wl_word _) v
              have cM := fun v : World => wless_any (wH (sumN (xs.take (k + 1)))) (wh (sumN (xs.take (k + 1)))) (wl (sumN (xs.take (k + 1)))) (wH (sumN (xs.take k))) (wh (sumN (xs.take k))) (wl (sumN (xs.take k))) (wh_word _) (wl_word _) (wh_word _) (wl_word _) v
              obtain ⟨f1, f2⟩ := less_more (S := sumN (xs.take k)) b1 b0
              rw [wv_sum (HX.out.take k) lt1, wv_sum (HX.out.take (k + 1)) lt2, e1, f1, ← e1] at cL
              rw [wv_sum (HX.out.take k) lt1, wv_sum (HX.out.take (k + 1)) lt2, e1, f2, ← e1] at cM
              have hqn := fun v : World => run_neq_nm p.1 p.2 0 0 v
              obtain ⟨t, et⟩ : ∃ t, (!(p.1 == 0 && p.2 == 0)) = t := ⟨_, rfl⟩
              rw [et] at cL hqn
              have ett : (t != t) = false := by cases t <;> rfl
              obtain ⟨X', eX'⟩ : ∃ X', wH (sumN (xs.take (k + 1))) = X' := ⟨_, rfl⟩
              obtain ⟨x', ex'⟩ : ∃ X', wh (sumN (xs.take (k + 1))) = X' := ⟨_, rfl⟩
              obtain ⟨y', ey'⟩ : ∃ X', wl (sumN (xs.take (k + 1))) = X' := ⟨_, rfl⟩
              rw [eX', ex', ey'] at cP cL cM
              have EX' := hideIt eX'
              have Ex' := hideIt ex'
              have Ey' := hideIt ey'
              have i0' : (0 : Int) ≤ (k : Int) := by omega
              have i1' : (k : Int) < (xs.length : Int) := by omega
              have hkk : k + 1 ≤ xs.length := by omega
              clear eX' ex' ey' et f1 f2 e1 hp c0 c1 k1 k2 k3 hs0 lt1 lt2
              generalize wH (sumN (xs.take k)) = Y at *
              generalize wh (sumN (xs.take k)) = a' at *
              generalize wl (sumN (xs.take k)) = a'' at *
              have hab2 : (ad.add (k * 2)).block < wr.heap.size := by have := M5.size; omega
              have d0 := cell0 _ M5.below
              have d1 := cell1 _ M5.below
              obtain ⟨p1, p2, p3, p4, p5, p6, p7⟩ := (M5.box 0).three
              go_upto_region 18 with fail
              go_cut [11] (fun s11 wx => ∃ g, s11 = .pointer (some ⟨g, 0, none⟩) ∧ gN < g ∧ Has wo [(g, 26, #[.int .u64 X', .int .u64 x', .int .u64 y']), (gN, 26, #[.int .u64 Y, .int .u64 a', .int .u64 a'']), (w2.heap.size, 26, #[.int .u64 X, .int .u64 x, .int .u64 y])] wx)
              case first =>
                have z0 := M5.size
                go_region_with (first
                  | (go_at_call 13; refine (cP _).mono ?_; rintro e q1 ⟨rfl, h1⟩
                     have M6 := M5.drew.call h1
                     have z1 := (M6.box 0).inside)
                  | (go_at_call 13; refine (cP _).mono ?_; rintro e q1 ⟨rfl, h1⟩
                     have M6 := (M5.add _ _).drew.call h1
                     obtain ⟨g1, g2, g3, g4, g5, g6, g7⟩ := (M6.box 0).three)
                  | fail)
                all_goals go_wp2_with fail
                all_goals go_meet
                all_goals first
                  | exact ⟨_, rfl, z1, M6.add _ _⟩
                  | exact ⟨_, rfl, by omega, ((M6.wrote (by omega) (by simp; omega) 0 _).wrote (by omega) (by simp; omega) 1 _).wrote (by omega) (by simp; omega) 2 _⟩
                  | fail
              case rest =>
                obtain ⟨g, rfl, zg, M6⟩ := hcut
                clear p1 p2 p3 p4 p5 p6 p7 d0 d1 cP
                have fact : ∀ v, Has wo [(g, 26, #[.int .u64 X', .int .u64 x', .int .u64 y']), (gN, 26, #[.int .u64 Y, .int .u64 a', .int .u64 a'']), (w2.heap.size, 26, #[.int .u64 X, .int .u64 x, .int .u64 y])] v → v.cell? (ad.add (k * 2)) = some (.int .u64 p.1) ∧ v.cell? ⟨(ad.add (k * 2)).block, (ad.add (k * 2)).off + 1, none⟩ = some (.int .u64 p.2) ∧ v.cell? ⟨gN, 0, none⟩ = some (.int .u64 Y) ∧ v.cell? ⟨gN, 1, none⟩ = some (.int .u64 a') ∧ v.cell? ⟨gN, 2, none⟩ = some (.int .u64 a'') ∧ v.cell? ⟨g, 0, none⟩ = some (.int .u64 X') ∧ v.cell? ⟨g, 1, none⟩ = some (.int .u64 x') ∧ v.cell? ⟨g, 2, none⟩ = some (.int .u64 y') := fun v hv => ⟨cell0 v hv.below, cell1 v hv.below, (hv.box 1).read 0, (hv.box 1).read 1, (hv.box 1).read 2, (hv.box 0).read 0, (hv.box 0).read 1, (hv.box 0).read 2⟩
                obtain ⟨d0, d1, p1, p2, p3, q1, q2, q3⟩ := fact _ M6
                go_upto_region 19 with fail
                go_region_held3 (fun w' => Has wo [(g, 26, #[.int .u64 X', .int .u64 x', .int .u64 y']), (gN, 26, #[.int .u64 Y, .int .u64 a', .int .u64 a'']), (w2.heap.size, 26, #[.int .u64 X, .int .u64 x, .int .u64 y])] w' ∧ w'.cell? (ad.add (k * 2)) = some (.int .u64 p.1) ∧ w'.cell? ⟨(ad.add (k * 2)).block, (ad.add (k * 2)).off + 1, none⟩ = some (.int .u64 p.2) ∧ w'.cell? ⟨gN, 0, none⟩ = some (.int .u64 Y) ∧ w'.cell? ⟨gN, 1, none⟩ = some (.int .u64 a') ∧ w'.cell? ⟨gN, 2, none⟩ = some (.int .u64 a'') ∧ w'.cell? ⟨g, 0, none⟩ = some (.int .u64 X') ∧ w'.cell? ⟨g, 1, none⟩ = some (.int .u64 x') ∧ w'.cell? ⟨g, 2, none⟩ = some (.int .u64 y'))
                  (first | exact held_drew fact M6 | exact held_keep fact (by assumption) (by assumption) | exact held_past fact (by assumption) _ | fail)
                  (first
                    | (go_at_call 19; ((with_reducible refine (cL _).mono ?_); rintro e y1 ⟨rfl, j1⟩))
                    | (go_at_call 19; ((with_reducible refine (cM _).mono ?_); rintro e y2 ⟨rfl, j2⟩))
                    | fail)
                have hh : ∃ Q, Has wo [(g, 26, #[.int .u64 X', .int .u64 x', .int .u64 y']), (gN, 26, #[.int .u64 Y, .int .u64 a', .int .u64 a'']), (w2.heap.size, 26, #[.int .u64 X, .int .u64 x, .int .u64 y])] y2 ∧ Q := ⟨_, by assumption⟩
                obtain ⟨Q, M7, -⟩ := hh
                clear d0 d1 p1 p2 p3 q1 q2 q3
                obtain ⟨g1, g2, g3, g4, g5, g6, g7⟩ := (M7.box 0).three
                obtain ⟨p1, p2, p3, p4, p5, p6, p7⟩ := (M7.box 1).three
                go_wp2
                go_roundg (xs.length - (k + 1))
                case measure => omega
                case rel => exact ⟨k + 1, hkk, rfl, by go_num, by rw [EX'.out, Ex'.out, Ey'.out]; exact ((M7.tail.wrote (by omega) (by simp; omega) 0 _).wrote (by omega) (by simp; omega) 1 _).wrote (by omega) (by simp; omega) 2 _⟩
            · have e : k = xs.length := by omega
              subst e
              have ht : xs.take xs.length = xs := List.take_of_length_le (Nat.le_refl _)
              rw [ht, EX.out, Ex.out, Ey.out] at M5
              clear ht
              obtain ⟨p1, p2, p3, p4, p5, p6, p7⟩ := (M5.box 0).three
              obtain ⟨r1, r2, r3, r4, r5, r6, r7⟩ := (M5.box 1).three
              go_wp2
              go_ret
              exact ⟨rfl, chain HB0.out M5.below⟩
      · obtain ⟨m, rfl⟩ : ∃ m, j = m + 1 := ⟨j - 1, by omega⟩
        have em : (((m + 1 : Nat) : Int) - 1) = (m : Int) := by omega
        rw [em]
        have hm : m < xs.length := by omega
        obtain ⟨p, hp⟩ : ∃ p, xs[m] = p := ⟨_, rfl⟩
        obtain ⟨ad', e1, had, c0, c1⟩ := hr1 m p.1 p.2 (by rw [List.getElem?_eq_getElem hm, hp])
        injection e1 with e1
        subst e1
        have c0' : wr.cell? (ad.add (m * 2)) = some (.int .u64 p.1) := by rw [hbel.cell (by rw [add_block]; omega)]; exact c0
        have c1' : wr.cell? ⟨(ad.add (m * 2)).block, (ad.add (m * 2)).off + 1, none⟩ = some (.int .u64 p.2) := by
          have e : (⟨(ad.add (m * 2)).block, (ad.add (m * 2)).off + 1, none⟩ : Addr) = ad.add (m * 2 + 1) := by rw [← add_two]; rfl
          rw [e, hbel.cell (by rw [add_block]; omega)]; exact c1
        have ed : (xs.drop m).reverse = (xs.drop (m + 1)).reverse ++ [p] := by rw [List.drop_eq_getElem_cons hm, List.reverse_cons, hp]
        have ef : flat (xs.drop m).reverse = flat (xs.drop (m + 1)).reverse ++ [.int .u64 p.1, .int .u64 p.2] := by rw [ed, flat_append]; rfl
        have EF := hideIt ef
        clear ef ed hp em hz
        go_wp2_with (first
          | (at_builtin; refine wp_append_num rfl _ _ 40 rfl w1.heap.size 24 i0 (.agg #[.int .u64 0, .int .u64 0]) Try.underlying40 hi hz0 hz1 hz2 rfl _ _ _ rfl hown (.int .u64 p.1) (.int .u64 p.2) rfl (by simp [Value.oneCell']) (by simp [Value.oneCell']) (by omega) (by omega) ?_))
        intro v' w2 hown' hb2
        have hbel2 := hbel.trans (hb2 _ (Nat.le_refl _))
        clear hb2
        go_wp2
        go_roundg m
        case measure => have := HG.out; omega
        case rel => exact ⟨m, by omega, rfl, rfl, by rw [EF.out, show xs.length - m = xs.length - (m + 1) + 1 by omega]; exact hown', hbel2⟩

theorem wideOrders_core (H : Type) (enc : TypeId × Value → H) (W : World) (base : Nat) (args : Array Value) (ds gs : List (DataW H)) (before : List MemPlace)
    (hval : ∀ (j : Nat) t v, Try.f6.params[j]? = some t → args[j]? = some v → Value.okWide Try.prog W .any base t v)
    (hW : DataW.Whole enc Try.prog Try.f6.params.toList Rows.wideOrdersSpec.vars false W args.toList ds gs before) :
    gs = [] ∧ ds.length = 2 ∧ Calls Try.prog 6 args W (Tells (.bool true) W.heap.size W) := by
  obtain ⟨p, q, hA, hV, -, -, -⟩ := hW
  obtain ⟨rfl, rfl⟩ := trodVars_none hV
  have hA : DataW.TrodAll enc Try.prog W 0 (fun _ => true) true Try.f6.params.toList args.toList ds p := hA
  rw [Try.params6] at hA hval
  obtain ⟨v0, v1, d0, d1, p0, p1, rfl, rfl, -, h0, h1⟩ := trodAll_two hA
  obtain ⟨n, rfl, rfl, rfl, wn⟩ := open_int Try.underlying3 (hval 1 3 v1 rfl rfl) h1
  refine ⟨rfl, rfl, ?_⟩
  rcases open_nums (hval 0 _ v0 rfl rfl) h0 with rfl | ⟨a, len, cap, xs, rfl, hl, hm, rfl, hx, hr⟩
  · exact worders_nil n W
  · exact worders_walk a cap xs hx hl hm n W hr

set_option maxRecDepth 100000 in
theorem wideOrders_lifted (os : Os) (started : os.Started) (H : Type) (enc : TypeId × Value → H) :
    ReturnsInHanded {} Try.checked os 6 .any (Rows.wideOrdersSpec.pre6 enc Try.prog Try.f6 Rows.wideOrdersRow.domain false) (Rows.wideOrdersSpec.post enc Try.prog Try.f6 false true false false) := by
  refine returnsInHanded_of_change (C := Try.checked) own_knob started (by kernel_rfl) Try.func6
    (ChangeSpec.witness6 (enc := enc) (C := Try.checked) false ⟨#[], #[.slice none 0 0, .int .i64 0], []⟩ 8 (by kernel_rfl) (by kernel_rfl) (by kernel_rfl) (by kernel_rfl)) ?_
  intro W base args ds gs before hval hW _ _
  obtain ⟨hg, hlen, hc⟩ := wideOrders_core H enc W base args ds gs before hval hW
  subst hg
  have hr : (Try.f6.params.toList.all fun t => Try.prog.readableRec t && decide (t < Try.prog.types.size)) = true := by kernel_rfl
  have hread : ∀ t ∈ Try.f6.params.toList, Try.prog.readableRec t = true ∧ t < Try.prog.types.size := fun t ht => by
    have h := List.all_eq_true.1 hr t ht
    rw [Bool.and_eq_true, decide_eq_true_eq] at h
    exact h
  refine hc.mono fun e W' ⟨he, hb⟩ => ?_
  subst he
  match ds, hlen with
  | [d0, d1], _ => exact ⟨_, rfl, law_post laid_out Try.underlying4 rfl hread rfl hW rfl rfl rfl hb⟩

theorem wideOrders_holds : Rows.WideOrdersSaid :=
  OpenClaim.holds_of_wide 6 Try.f6 rfl rfl rfl rfl rfl rfl rfl ⟨rfl, rfl, rfl, rfl, rfl⟩ rfl rfl rfl rfl rfl (by kernel_rfl) Try.func6 (by kernel_rfl)
    (of_decide_eq_true (by kernel_rfl)) (by unfold Func.isWrapper; first | (rw [if_pos (by decide +kernel)]; kernel_rfl) | (rw [if_neg (by decide +kernel)]; exact ⟨rfl, rfl⟩))
    (fun os started H enc _ => wideOrders_lifted os started H enc)

end Go.Proofs.Ytpafamlegfdclaa
