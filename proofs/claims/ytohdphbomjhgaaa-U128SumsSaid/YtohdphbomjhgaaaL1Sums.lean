/-
  The law of layer 1: sums are the same, or too much, in whatever order and part by part, and are not less than any of their parts; any row of numbers (of more than 100 the law says nothing), wherever it is parted.
-/
import Derived.Test.YtohdphbomjhgaaaL1SumsN
import Derived.Test.YtohdphbomjhgaaaU1Awake
import Derived.BigQuiet
import Derived.Deep.QuietTactic
namespace Go.Proofs.Ytohdphbomjhgaaa
set_option linter.unusedVariables false
set_option linter.unusedSimpArgs false
open Go.ChangeShapes Go.WideShapes Go.ChangeAt Go.RowKit

theorem info_num : (Try.prog.info? 24).map (fun i => (i.zero, i.size, i.bytes)) = some (some (.agg #[.int .u64 0, .int .u64 0]), 2, 16) := by kernel_rfl
theorem sumN_reverse (xs : List (Int × Int)) : sumN xs.reverse = sumN xs := by
  induction xs with
  | nil => rfl
  | cons x r ih => rw [List.reverse_cons, sumN_append, ih]; simp [sumN]; omega
theorem AllNum.reverse {xs : List (Int × Int)} (h : AllNum xs) : AllNum xs.reverse := fun x hx => h x (List.mem_reverse.1 hx)

theorem sumN_mem : ∀ {xs : List (Int × Int)}, AllNum xs → ∀ {k : Nat} (hk : k < xs.length), nv xs[k].1 xs[k].2 ≤ sumN xs
  | x :: r, h, 0, hk => by
    have h2 := sumN_nonneg (xs := r) (fun y hy => h y (by simp [hy]))
    simp only [sumN, List.getElem_cons_zero]; omega
  | x :: r, h, k + 1, hk => by
    have h1 := nv_word (h x (by simp)).1 (h x (by simp)).2
    have h2 := sumN_mem (xs := r) (fun y hy => h y (by simp [hy])) (k := k) (by simpa using hk)
    simp only [sumN, List.getElem_cons_succ]; omega

set_option maxRecDepth 100000 in
set_option maxHeartbeats 16000000 in
theorem sums_walk (ad : Addr) (c : Nat) (xs : List (Int × Int)) (hx : AllNum xs) (hlc : xs.length ≤ c) (hcm : c ≤ maxLen) (at_ : Int) (w : World) (hr : NumRow w w.heap.size (some ad) xs) :
    Calls Try.prog 9 #[.slice (some ad) xs.length c, .int .i64 at_] w (Tells (.bool true) w.heap.size w) := by
  obtain ⟨i0, hi, hz0, hz1, hz2⟩ := info_parts info_num
  unfold maxLen at hcm
  by_cases h100 : 100 < xs.length
  · have h100' : (100 : Int) < (xs.length : Int) := by omega
    go_enter Try.func9, Try.ntmps9
    go_wp2_with (first
      | (go_at_call 30; refine (awake_any _).mono ?_; rintro e w1 ⟨rfl, h1⟩))
    go_ret
    exact ⟨rfl, h1⟩
  · obtain ⟨u, hu⟩ : ∃ u, IntKind.u64.wrap at_ = u := ⟨_, rfl⟩
    have u0 : 0 ≤ u := by rw [← hu, IntKind.wrap_u64]; omega
    have u1 : u < 18446744073709551616 := by rw [← hu, IntKind.wrap_u64]; omega
    obtain ⟨K, hK⟩ : ∃ K : Nat, u % ((xs.length : Int) + 1) = K := ⟨(u % ((xs.length : Int) + 1)).toNat, by have := Int.emod_nonneg u (show ((xs.length : Int) + 1) ≠ 0 by omega); omega⟩
    have hK1 : K ≤ xs.length := by have := Int.emod_lt_of_pos u (show 0 < ((xs.length : Int) + 1) by omega); omega
    go_enter Try.func9, Try.ntmps9
    go_wp2_with (first
      | (go_at_call 30; refine (awake_any _).mono ?_; rintro e w1 ⟨rfl, h1⟩))
    have hr1 := hr.call h1
    have hs1 := h1.size
    go_loopg [5, 6] xs.length (fun gk v i wr => ∃ j : Nat, j ≤ xs.length ∧ gk = j ∧ i = .int .i64 ((j : Int) - 1) ∧ wr.ownsRow w1.heap.size 24 2 v (xs.length - j) (flat (xs.drop j).reverse) ∧ Below w1.heap.size w1 wr)
    case atStart => exact ⟨xs.length, Nat.le_refl _, rfl, rfl, ⟨by simp [flat], .inl ⟨rfl, by omega⟩⟩, Below.refl _ _⟩
    case round =>
      obtain ⟨j, hj, hgk, rfl, hown, hbel⟩ := hrel
      have HG := hideIt hgk
      clear hgk
      have hs2 := hbel.size
      by_cases hz : j = 0
      · subst hz
        clear hj
        rw [Nat.sub_zero, List.drop_zero] at hown
        obtain ⟨-, B, cb, rfl, hback⟩ := own_nums hown
        rw [List.length_reverse]
        have hb0 := chain h1 hbel
        have hu' := hideIt hu
        have HK := hideIt hK
        go_upto_region 11 with (first
          | (go_at_call 24; refine (sum_any (some ad) c xs hx (by omega) _ ((hr.call hb0).more hb0.size)).mono ?_; rintro e w2 ⟨rfl, h2⟩))
        have hb2 := chainA (chain hb0 h2) (.cells #[.int .u64 (rh (sumN xs)), .int .u64 (rl (sumN xs))] 24)
        have hk2 : Below wr.heap.size wr (w2.alloc (.cells #[.int .u64 (rh (sumN xs)), .int .u64 (rl (sumN xs))] 24)) := chainA h2 _
        have X2 := Box.made w2 24 #[.int .u64 (rh (sumN xs)), .int .u64 (rl (sumN xs))]
        generalize w2.alloc (.cells #[.int .u64 (rh (sumN xs)), .int .u64 (rl (sumN xs))] 24) = W2 at *
        have cS2 := sum_any B cb xs.reverse hx.reverse (by rw [List.length_reverse]; omega) W2 ((hback.call hk2).more hk2.size)
        rw [List.length_reverse, sumN_reverse] at cS2
        go_upto_region 12 with (first
          | (go_at_call 24; refine cS2.mono ?_; rintro e w3 ⟨rfl, h3⟩))
        have hb3 := chainA (chain hb2 h3) (.cells #[.int .u64 (rh (sumN xs)), .int .u64 (rl (sumN xs))] 24)
        have X3 := (X2.call h3).past (.cells #[.int .u64 (rh (sumN xs)), .int .u64 (rl (sumN xs))] 24)
        have Y3 := Box.made w3 24 #[.int .u64 (rh (sumN xs)), .int .u64 (rl (sumN xs))]
        generalize w3.alloc (.cells #[.int .u64 (rh (sumN xs)), .int .u64 (rl (sumN xs))] 24) = W3 at *
        have lK : (xs.take K).length = K := by rw [List.length_take]; omega
        have cS3 := sum_any (some ad) c (xs.take K) (hx.take K) (by omega) W3 (((hr.call hb3).more hb3.size).take K)
        rw [lK] at cS3
        clear lK
        have K0 : (0 : Int) ≤ (K : Int) := by omega
        have K1 : (K : Int) ≤ (xs.length : Int) := by omega
        go_upto_region 14 with (first
          | (go_at_call 24; refine cS3.mono ?_; rintro e w4 ⟨rfl, h4⟩))
        have hb4 := chainA (chain hb3 h4) (.cells #[.int .u64 (rh (sumN (xs.take K))), .int .u64 (rl (sumN (xs.take K)))] 24)
        have X4 := (X3.call h4).past (.cells #[.int .u64 (rh (sumN (xs.take K))), .int .u64 (rl (sumN (xs.take K)))] 24)
        have Y4 := (Y3.call h4).past (.cells #[.int .u64 (rh (sumN (xs.take K))), .int .u64 (rl (sumN (xs.take K)))] 24)
        have P4 := Box.made w4 24 #[.int .u64 (rh (sumN (xs.take K))), .int .u64 (rl (sumN (xs.take K)))]
        generalize w4.alloc (.cells #[.int .u64 (rh (sumN (xs.take K))), .int .u64 (rl (sumN (xs.take K)))] 24) = W4 at *
        have HX := hideIt (hr.call hb4)
        have HR0 := hideIt hr
        clear hr1 hr hback hbel h1 h2 h3 h4 hb0 hb2 hb3 hk2 X2 X3 Y3 cS2 cS3 hown
        go_cut [14, 15] from 19 to 123 (fun s14 s15 wx => ∃ g, s14 = .pointer (some ⟨g, 0, none⟩) ∧ s15 = .int .i64 (re (sumN (xs.drop K))) ∧ Box wx g 24 #[.int .u64 (rh (sumN (xs.drop K))), .int .u64 (rl (sumN (xs.drop K)))] ∧
          Box wx w2.heap.size 24 #[.int .u64 (rh (sumN xs)), .int .u64 (rl (sumN xs))] ∧ Box wx w3.heap.size 24 #[.int .u64 (rh (sumN xs)), .int .u64 (rl (sumN xs))] ∧
          Box wx w4.heap.size 24 #[.int .u64 (rh (sumN (xs.take K))), .int .u64 (rl (sumN (xs.take K)))] ∧ Below w.heap.size w wx)
        case first =>
          have lD : (xs.drop K).length = xs.length - K := by rw [List.length_drop]
          by_cases hcK : c = K
          · subst hcK
            have lx : xs.length = c := by omega
            have hnil : xs.drop c = [] := List.drop_eq_nil_of_le (by omega)
            have cS4 := sum_any (some ad) (c - c) (xs.drop c) (hx.drop c) (by omega) W4 (by rw [hnil]; exact fun i x y h => by simp at h)
            rw [lD, show xs.length - c = 0 by omega, Nat.sub_self] at cS4
            have LXX := hideIt lx
            clear lD lx hnil
            go_wp2_with (first
              | (go_at_call 24; ((with_reducible refine cS4.mono ?_); rintro e w5 ⟨rfl, h5⟩)))
            go_meet
            exact ⟨_, rfl, rfl, Box.made _ _ _, (X4.call h5).past _, (Y4.call h5).past _, (P4.call h5).past _, chainA (chain hb4 h5) _⟩
          · have hKc : K < c := by omega
            have cS4 := sum_any (some (ad.add (K * 2))) (c - K) (xs.drop K) (hx.drop K) (by omega) W4 ((HX.out.more hb4.size).drop K)
            rw [lD] at cS4
            clear lD
            go_wp2_with (first
              | (go_at_call 24; ((with_reducible refine cS4.mono ?_); rintro e w5 ⟨rfl, h5⟩)))
            go_meet
            exact ⟨_, rfl, rfl, Box.made _ _ _, (X4.call h5).past _, (Y4.call h5).past _, (P4.call h5).past _, chainA (chain hb4 h5) _⟩
        case rest =>
          obtain ⟨g, rfl, rfl, Q5, X5, Y5, P5, hb5⟩ := hcut
          clear X4 Y4 P4 hb4
          obtain ⟨p1, p2, p3⟩ := P5.num
          obtain ⟨q1, q2, q3⟩ := Q5.num
          go_upto_region 16 with (first
            | (go_at_call 10; refine (add_any _ _ _ _ (rh_word (sumN (xs.take K))) (rl_word (sumN (xs.take K))) (rh_word (sumN (xs.drop K))) (rl_word (sumN (xs.drop K))) _).mono ?_; rintro e w6 ⟨rfl, h6⟩))
          have X6 := (X5.call h6).past (.cells #[.int .u64 (rh (nv (rh (sumN (xs.take K))) (rl (sumN (xs.take K))) + nv (rh (sumN (xs.drop K))) (rl (sumN (xs.drop K))))), .int .u64 (rl (nv (rh (sumN (xs.take K))) (rl (sumN (xs.take K))) + nv (rh (sumN (xs.drop K))) (rl (sumN (xs.drop K)))))] 24)
          have Y6 := (Y5.call h6).past (.cells #[.int .u64 (rh (nv (rh (sumN (xs.take K))) (rl (sumN (xs.take K))) + nv (rh (sumN (xs.drop K))) (rl (sumN (xs.drop K))))), .int .u64 (rl (nv (rh (sumN (xs.take K))) (rl (sumN (xs.take K))) + nv (rh (sumN (xs.drop K))) (rl (sumN (xs.drop K)))))] 24)
          have Z6 := Box.made w6 24 #[.int .u64 (rh (nv (rh (sumN (xs.take K))) (rl (sumN (xs.take K))) + nv (rh (sumN (xs.drop K))) (rl (sumN (xs.drop K))))), .int .u64 (rl (nv (rh (sumN (xs.take K))) (rl (sumN (xs.take K))) + nv (rh (sumN (xs.drop K))) (rl (sumN (xs.drop K)))))]
          have hb6 := chainA (chain hb5 h6) (.cells #[.int .u64 (rh (nv (rh (sumN (xs.take K))) (rl (sumN (xs.take K))) + nv (rh (sumN (xs.drop K))) (rl (sumN (xs.drop K))))), .int .u64 (rl (nv (rh (sumN (xs.take K))) (rl (sumN (xs.take K))) + nv (rh (sumN (xs.drop K))) (rl (sumN (xs.drop K)))))] 24)
          generalize w6.alloc (.cells #[.int .u64 (rh (nv (rh (sumN (xs.take K))) (rl (sumN (xs.take K))) + nv (rh (sumN (xs.drop K))) (rl (sumN (xs.drop K))))), .int .u64 (rl (nv (rh (sumN (xs.take K))) (rl (sumN (xs.take K))) + nv (rh (sumN (xs.drop K))) (rl (sumN (xs.drop K)))))] 24) = W6 at *
          clear p1 p2 p3 q1 q2 q3 X5 Y5 P5 Q5 hb5 h6
          obtain ⟨p1, p2, p3⟩ := X6.num
          obtain ⟨q1, q2, q3⟩ := Y6.num
          have s1 := sumN_nonneg (hx.take K)
          have s2 := sumN_nonneg (hx.drop K)
          have s3 := sumN_split xs K
          cases hroom : room (sumN xs)
          · -- too much
            have e1 := re_no hroom
            have hno := room_not.1 hroom
            cases h1 : room (sumN (xs.take K))
            · have e2 := re_no h1
              rw [rh_no hroom] at p1 q1
              rw [rl_no hroom] at p2 q2
              clear hno hroom h1 s1 s2 s3
              go_wp2
              go_ret
              exact ⟨rfl, hb6⟩
            · cases h2 : room (sumN (xs.drop K))
              · have e2 := re_yes h1
                have e3 := re_no h2
                rw [rh_no hroom] at p1 q1
                rw [rl_no hroom] at p2 q2
                clear hno hroom h1 h2 s1 s2 s3
                go_wp2
                go_ret
                exact ⟨rfl, hb6⟩
              · have e2 := re_yes h1
                have e3 := re_yes h2
                have e4 : re (nv (rh (sumN (xs.take K))) (rl (sumN (xs.take K))) + nv (rh (sumN (xs.drop K))) (rl (sumN (xs.drop K)))) = 10 := by
                  rw [nv_r h1, nv_r h2, ← s3]; exact e1
                rw [rh_no hroom] at p1 q1
                rw [rl_no hroom] at p2 q2
                clear hno hroom h1 h2 s1 s2 s3
                go_wp2
                go_ret
                exact ⟨rfl, hb6⟩
          · have e1 := re_yes hroom
            have hyes := room_iff.1 hroom
            have h1 : room (sumN (xs.take K)) = true := room_iff.2 (by omega)
            have h2 : room (sumN (xs.drop K)) = true := room_iff.2 (by omega)
            have e2 := re_yes h1
            have e3 := re_yes h2
            have eS : nv (rh (sumN (xs.take K))) (rl (sumN (xs.take K))) + nv (rh (sumN (xs.drop K))) (rl (sumN (xs.drop K))) = sumN xs := by rw [nv_r h1, nv_r h2, ← s3]
            have e4 : re (nv (rh (sumN (xs.take K))) (rl (sumN (xs.take K))) + nv (rh (sumN (xs.drop K))) (rl (sumN (xs.drop K)))) = 0 := by rw [eS]; exact e1
            rw [eS] at Z6
            have hvv := nv_r hroom
            have HH := hideIt hyes
            have HVV := hideIt hvv
            clear hyes hroom h1 h2 s1 s2 s3 eS hvv
            have P0 := HR0.out.call hb6
            go_wp2
            clear e1 e2 e3 e4
            go_loopg [18] xs.length (fun gk i wr => ∃ k : Nat, k ≤ xs.length ∧ gk = xs.length - k ∧ i = .int .i64 k ∧ Below W6.heap.size W6 wr)
            case atStart => exact ⟨0, by omega, rfl, rfl, Below.refl _ _⟩
            case round =>
              obtain ⟨k, hk, rfl, rfl, hbr⟩ := hrel
              have X7 := X6.call hbr
              have Z7 := Z6.call hbr
              have hs6 := hb6.size
              clear p1 p2 p3
              obtain ⟨p1, p2, p3⟩ := X7.num
              by_cases hlt : k < xs.length
              · obtain ⟨p, hp⟩ : ∃ p, xs[k] = p := ⟨_, rfl⟩
                obtain ⟨ad', ea, had, c0, c1⟩ := P0 k p.1 p.2 (by rw [List.getElem?_eq_getElem hlt, hp])
                injection ea with ea
                subst ea
                have c0' : wr.cell? (ad.add (k * 2)) = some (.int .u64 p.1) := by rw [hbr.cell (by rw [add_block]; omega)]; exact c0
                have c1' : wr.cell? ⟨(ad.add (k * 2)).block, (ad.add (k * 2)).off + 1, none⟩ = some (.int .u64 p.2) := by
                  have e : (⟨(ad.add (k * 2)).block, (ad.add (k * 2)).off + 1, none⟩ : Addr) = ad.add (k * 2 + 1) := by rw [← add_two]; rfl
                  rw [e, hbr.cell (by rw [add_block]; omega)]; exact c1
                have hab : (ad.add (k * 2)).block < wr.heap.size := by rw [add_block]; have := hbr.size; omega
                obtain ⟨w1', w2'⟩ := hx p (by rw [← hp]; exact List.getElem_mem hlt)
                have hle := sumN_mem hx hlt
                rw [hp] at hle
                have cC := fun u : World => cmp_any p.1 p.2 (rh (sumN xs)) (rl (sumN xs)) w1' w2' (rh_word _) (rl_word _) u
                rw [HVV.out] at cC
                obtain ⟨cv, hcv⟩ : ∃ cv, cmpI (nv p.1 p.2) (sumN xs) = cv := ⟨_, rfl⟩
                have hcv0 : cv ≤ 0 := by
                  rw [← hcv]; unfold cmpI; split
                  · omega
                  · rw [if_pos (by omega)]; omega
                rw [hcv] at cC
                have i0' : (0 : Int) ≤ (k : Int) := by omega
                have i1' : (k : Int) < (xs.length : Int) := by omega
                clear hcv hle hp c0 c1
                go_upto_region 23 with fail
                go_region_held3 (fun w' => Below wr.heap.size wr w' ∧ w'.cell? (ad.add (k * 2)) = some (.int .u64 p.1) ∧ w'.cell? ⟨(ad.add (k * 2)).block, (ad.add (k * 2)).off + 1, none⟩ = some (.int .u64 p.2) ∧
                    w'.cell? ⟨w2.heap.size, 0, none⟩ = some (.int .u64 (rh (sumN xs))) ∧ w'.cell? ⟨w2.heap.size, 1, none⟩ = some (.int .u64 (rl (sumN xs))))
                  (first
                    | exact keep_first (by assumption) (by assumption) (fun hb => ⟨hb, (hb.cell hab).trans c0', (hb.cell (p := ⟨(ad.add (k * 2)).block, (ad.add (k * 2)).off + 1, none⟩) hab).trans c1', (X7.call hb).read 0, (X7.call hb).read 1⟩)
                    | exact ⟨(Below.refl _ _).drew, c0', c1', X7.read 0, X7.read 1⟩)
                  (first
                    | (go_at_call 14; ((with_reducible refine (cC _).mono ?_); rintro e v1 ⟨rfl, k1⟩)))
                all_goals go_wp2
                have hh : ∃ Q, Below wr.heap.size wr v1 ∧ Q := ⟨_, by assumption⟩
                obtain ⟨Q, hh, -⟩ := hh
                go_roundg (xs.length - (k + 1))
                case measure => omega
                case rel => exact ⟨k + 1, by omega, rfl, by go_num, chain hbr hh⟩
              · have e : k = xs.length := by omega
                subst e
                obtain ⟨z1, z2, z3⟩ := Z7.num
                go_wp2
                go_ret
                exact ⟨rfl, chain hb6 hbr⟩
      · obtain ⟨m, rfl⟩ : ∃ m, j = m + 1 := ⟨j - 1, by omega⟩
        have em : (((m + 1 : Nat) : Int) - 1) = (m : Int) := by omega
        rw [em]
        have hm : m < xs.length := by omega
        obtain ⟨p, hp⟩ : ∃ p, xs[m] = p := ⟨_, rfl⟩
        obtain ⟨ad', e1, had, c0, c1⟩ := hr1 m p.1 p.2 (by rw [List.getElem?_eq_getElem hm, hp])
        injection e1 with e1
        subst e1
        have c0' : wr.cell? (ad.add (m * 2)) = some (.int .u64 p.1) := by rw [hbel.cell (by rw [add_block]; omega)]; exact c0
        have c1' : wr.cell? ⟨(ad.add (m * 2)).block, (ad.add (m * 2)).off + 1, none⟩ = some (.int .u64 p.2) := by
          have e : (⟨(ad.add (m * 2)).block, (ad.add (m * 2)).off + 1, none⟩ : Addr) = ad.add (m * 2 + 1) := by rw [← add_two]; rfl
          rw [e, hbel.cell (by rw [add_block]; omega)]; exact c1
        have ed : (xs.drop m).reverse = (xs.drop (m + 1)).reverse ++ [p] := by rw [List.drop_eq_getElem_cons hm, List.reverse_cons, hp]
        have ef : flat (xs.drop m).reverse = flat (xs.drop (m + 1)).reverse ++ [.int .u64 p.1, .int .u64 p.2] := by rw [ed, flat_append]; rfl
        have EF := hideIt ef
        clear ef ed hp em hz
        go_wp2_with (first
          | (at_builtin; refine wp_append_num rfl _ _ 41 rfl w1.heap.size 24 i0 (.agg #[.int .u64 0, .int .u64 0]) Try.underlying41 hi hz0 hz1 hz2 rfl _ _ _ rfl hown (.int .u64 p.1) (.int .u64 p.2) rfl (by simp [Value.oneCell']) (by simp [Value.oneCell']) (by omega) (by omega) ?_))
        intro v' w2 hown' hb2
        have hbel2 := hbel.trans (hb2 _ (Nat.le_refl _))
        clear hb2
        go_wp2
        go_roundg m
        case measure => have := HG.out; omega
        case rel => exact ⟨m, by omega, rfl, rfl, by rw [EF.out, show xs.length - m = xs.length - (m + 1) + 1 by omega]; exact hown', hbel2⟩

set_option maxRecDepth 100000 in
set_option maxHeartbeats 8000000 in
theorem sums_nil (at_ : Int) (w : World) :
    Calls Try.prog 9 #[.slice none 0 0, .int .i64 at_] w (Tells (.bool true) w.heap.size w) := by
  obtain ⟨u, hu⟩ : ∃ u, IntKind.u64.wrap at_ = u := ⟨_, rfl⟩
  have u0 : 0 ≤ u := by rw [← hu, IntKind.wrap_u64]; omega
  have hK : u % 1 = 0 := by omega
  have cS := fun v : World => (sum_any none 0 [] (fun x hx => by simp at hx) (by simp) v (fun i x y hx => by simp at hx)).mono fun e w' (hf : Fit _ _ _ _ _) =>
    (⟨by rw [hf.1, show rh (sumN []) = 0 by decide, show rl (sumN []) = 0 by decide, show re (sumN []) = 0 by decide], hf.2⟩ : e = .returned (.tuple #[.agg #[.int .u64 0, .int .u64 0], .int .i64 0]) ∧ Below v.heap.size v w')
  rw [List.length_nil] at cS
  have cA := fun v : World => (add_any 0 0 0 0 word_lit word_lit word_lit word_lit v).mono fun e w' (hf : Fit _ _ _ _ _) =>
    (⟨by rw [hf.1, show rh (nv 0 0 + nv 0 0) = 0 by decide, show rl (nv 0 0 + nv 0 0) = 0 by decide, show re (nv 0 0 + nv 0 0) = 0 by decide], hf.2⟩ : e = .returned (.tuple #[.agg #[.int .u64 0, .int .u64 0], .int .i64 0]) ∧ Below v.heap.size v w')
  go_enter Try.func9, Try.ntmps9
  go_wp2_with (first
    | (go_at_call 30; refine (awake_any _).mono ?_; rintro e w1 ⟨rfl, h1⟩))
  refine wp_loop_rounds 1 ?_
  rw [rounds_succ]
  go_upto_region 11 with (first
    | (go_at_call 24; refine (cS _).mono ?_; rintro e w2 ⟨rfl, h2⟩))
  have X2 := Box.made w2 24 #[.int .u64 0, .int .u64 0]
  have L2 := chainA (chain h1 h2) (.cells #[.int .u64 0, .int .u64 0] 24)
  generalize w2.alloc (.cells #[.int .u64 0, .int .u64 0] 24) = W2 at *
  go_upto_region 12 with (first
    | (go_at_call 24; refine (cS _).mono ?_; rintro e w3 ⟨rfl, h3⟩))
  have X3 := (X2.call h3).past (.cells #[.int .u64 0, .int .u64 0] 24)
  have Y3 := Box.made w3 24 #[.int .u64 0, .int .u64 0]
  have L3 := chainA (chain L2 h3) (.cells #[.int .u64 0, .int .u64 0] 24)
  generalize w3.alloc (.cells #[.int .u64 0, .int .u64 0] 24) = W3 at *
  go_upto_region 14 with (first
    | (go_at_call 24; refine (cS _).mono ?_; rintro e w4 ⟨rfl, h4⟩))
  have X4 := (X3.call h4).past (.cells #[.int .u64 0, .int .u64 0] 24)
  have Y4 := (Y3.call h4).past (.cells #[.int .u64 0, .int .u64 0] 24)
  have P4 := Box.made w4 24 #[.int .u64 0, .int .u64 0]
  have L4 := chainA (chain L3 h4) (.cells #[.int .u64 0, .int .u64 0] 24)
  generalize w4.alloc (.cells #[.int .u64 0, .int .u64 0] 24) = W4 at *
  go_upto_region 15 with (first
    | (go_at_call 24; refine (cS _).mono ?_; rintro e w5 ⟨rfl, h5⟩))
  have X5 := (X4.call h5).past (.cells #[.int .u64 0, .int .u64 0] 24)
  have Y5 := (Y4.call h5).past (.cells #[.int .u64 0, .int .u64 0] 24)
  have P5 := (P4.call h5).past (.cells #[.int .u64 0, .int .u64 0] 24)
  have Q5 := Box.made w5 24 #[.int .u64 0, .int .u64 0]
  have L5 := chainA (chain L4 h5) (.cells #[.int .u64 0, .int .u64 0] 24)
  generalize w5.alloc (.cells #[.int .u64 0, .int .u64 0] 24) = W5 at *
  obtain ⟨p1, p2, p3⟩ := P5.num
  obtain ⟨q1, q2, q3⟩ := Q5.num
  go_upto_region 16 with (first
    | (go_at_call 10; refine (cA _).mono ?_; rintro e w6 ⟨rfl, h6⟩))
  have X6 := (X5.call h6).past (.cells #[.int .u64 0, .int .u64 0] 24)
  have Y6 := (Y5.call h6).past (.cells #[.int .u64 0, .int .u64 0] 24)
  have Z6 := Box.made w6 24 #[.int .u64 0, .int .u64 0]
  have L6 := chainA (chain L5 h6) (.cells #[.int .u64 0, .int .u64 0] 24)
  generalize w6.alloc (.cells #[.int .u64 0, .int .u64 0] 24) = W6 at *
  clear p1 p2 p3 q1 q2 q3
  obtain ⟨p1, p2, p3⟩ := X6.num
  obtain ⟨q1, q2, q3⟩ := Y6.num
  obtain ⟨z1, z2, z3⟩ := Z6.num
  go_wp2
  refine wp_loop_rounds 1 ?_
  rw [rounds_succ]
  go_wp2
  go_ret
  exact ⟨rfl, L6⟩

theorem u128Sums_core (H : Type) (enc : TypeId × Value → H) (W : World) (base : Nat) (args : Array Value) (ds gs : List (DataW H)) (before : List MemPlace)
    (hval : ∀ (j : Nat) t v, Try.f9.params[j]? = some t → args[j]? = some v → Value.okWide Try.prog W .any base t v)
    (hW : DataW.Whole enc Try.prog Try.f9.params.toList Rows.u128SumsSpec.vars false W args.toList ds gs before) :
    gs = [] ∧ ds.length = 2 ∧ Calls Try.prog 9 args W (Tells (.bool true) W.heap.size W) := by
  obtain ⟨p, q, hA, hV, -, -, -⟩ := hW
  obtain ⟨rfl, rfl⟩ := trodVars_none hV
  have hA : DataW.TrodAll enc Try.prog W 0 (fun _ => true) true Try.f9.params.toList args.toList ds p := hA
  rw [Try.params9] at hA hval
  obtain ⟨v0, v1, d0, d1, p0, p1, rfl, rfl, -, h0, h1⟩ := trodAll_two hA
  obtain ⟨n, rfl, rfl, rfl, wn⟩ := open_int Try.underlying3 (hval 1 3 v1 rfl rfl) h1
  refine ⟨rfl, rfl, ?_⟩
  rcases open_nums (hval 0 _ v0 rfl rfl) h0 with rfl | ⟨a, len, cap, xs, rfl, hl, hm, rfl, hx, hr⟩
  · exact sums_nil n W
  · exact sums_walk a cap xs hx hl hm n W hr

set_option maxRecDepth 100000 in
theorem u128Sums_lifted (os : Os) (started : os.Started) (H : Type) (enc : TypeId × Value → H) :
    ReturnsInHanded {} Try.checked os 9 .any (Rows.u128SumsSpec.pre6 enc Try.prog Try.f9 Rows.u128SumsRow.domain false) (Rows.u128SumsSpec.post enc Try.prog Try.f9 false true false false) := by
  refine returnsInHanded_of_change (C := Try.checked) own_knob started (by kernel_rfl) Try.func9
    (ChangeSpec.witness6 (enc := enc) (C := Try.checked) false ⟨#[], #[.slice none 0 0, .int .i64 0], []⟩ 8 (by kernel_rfl) (by kernel_rfl) (by kernel_rfl) (by kernel_rfl)) ?_
  intro W base args ds gs before hval hW _ _
  obtain ⟨hg, hlen, hc⟩ := u128Sums_core H enc W base args ds gs before hval hW
  subst hg
  have hr : (Try.f9.params.toList.all fun t => Try.prog.readableRec t && decide (t < Try.prog.types.size)) = true := by kernel_rfl
  have hread : ∀ t ∈ Try.f9.params.toList, Try.prog.readableRec t = true ∧ t < Try.prog.types.size := fun t ht => by
    have h := List.all_eq_true.1 hr t ht
    rw [Bool.and_eq_true, decide_eq_true_eq] at h
    exact h
  refine hc.mono fun e W' ⟨he, hb⟩ => ?_
  subst he
  match ds, hlen with
  | [d0, d1], _ => exact ⟨_, rfl, law_post laid_out Try.underlying4 rfl hread rfl hW rfl rfl rfl hb⟩

theorem u128Sums_holds : Rows.U128SumsSaid :=
  OpenClaim.holds_of_wide 9 Try.f9 rfl rfl rfl rfl rfl rfl rfl ⟨rfl, rfl, rfl, rfl, rfl⟩ rfl rfl rfl rfl rfl (by kernel_rfl) Try.func9 (by kernel_rfl)
    (of_decide_eq_true (by kernel_rfl)) (by unfold Func.isWrapper; first | (rw [if_pos (by decide +kernel)]; kernel_rfl) | (rw [if_neg (by decide +kernel)]; exact ⟨rfl, rfl⟩))
    (fun os started H enc _ => u128Sums_lifted os started H enc)

end Go.Proofs.Ytohdphbomjhgaaa
