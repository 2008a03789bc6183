/-
  The law of layer 3 on order: to compare is an order; what is added to both changes nothing of it, as long as High has room; any three wide numbers, any number, no condition.
-/
import Derived.Test.YtpafamlegfdclaaU3Awake
import Derived.Test.YtpafamlegfdclaaO3Open
import Derived.Test.YtpafamlegfdclaaC3Nums
namespace Go.Proofs.Ytpafamlegfdclaa
set_option linter.unusedVariables false
set_option linter.unusedSimpArgs false
open Go.ChangeShapes Go.WideShapes Go.ChangeAt Go.RowKit

set_option maxRecDepth 100000 in
set_option maxHeartbeats 16000000 in
theorem wcompares_walk (H h l K j m L f g ah al : Int) (a : Word H) (b : Word h) (c : Word l) (a' : Word K) (b' : Word j) (c' : Word m) (a'' : Word L) (b'' : Word f) (c'' : Word g) (a1 : Word ah) (a0 : Word al) (w : World) :
    Calls Try.prog 7 #[wide H h l, wide K j m, wide L f g, .agg #[.int .u64 ah, .int .u64 al]] w (Tells (.bool true) w.heap.size w) := by
  have c1 := fun u : World => wcmp_any H h l K j m b c b' c' u
  have c2 := fun u : World => wcmp_any K j m L f g b' c' b'' c'' u
  have c3 := fun u : World => wcmp_any H h l L f g b c b'' c'' u
  have c4 := fun u : World => wcmp_any K j m H h l b' c' b c u
  have cL := fun u : World => wless_any H h l K j m b c b' c' u
  have hq := fun u : World => run_eql_wide H h l K j m u
  have cP := fun u : World => plus_any H h l ah al a b c a1 a0 u
  have cQ := fun u : World => plus_any K j m ah al a' b' c' a1 a0 u
  have nA := nv_word a1 a0
  have cD : H < 18446744073709551615 → K < 18446744073709551615 → ∀ u : World, Calls Try.prog 17 #[told (wv H h l + nv ah al), told (wv K j m + nv ah al)] u (Tells (.int .i64 (cmpI (wv H h l) (wv K j m))) u.heap.size u) := fun g1 g2 u => by
    have := wcmp_any (wH (wv H h l + nv ah al)) (wh (wv H h l + nv ah al)) (wl (wv H h l + nv ah al)) (wH (wv K j m + nv ah al)) (wh (wv K j m + nv ah al)) (wl (wv K j m + nv ah al)) (wh_word _) (wl_word _) (wh_word _) (wl_word _) u
    rw [told_below a b c g1 nA.1 nA.2, told_below a' b' c' g2 nA.1 nA.2, cmpI_add] at this
    exact this
  have htr : cmpI (wv H h l) (wv K j m) ≤ 0 → cmpI (wv K j m) (wv L f g) ≤ 0 → ¬ (0 < cmpI (wv H h l) (wv L f g)) := fun g1 g2 => by
    have g3 := cmpI_le.1 g1
    have g4 := cmpI_le.1 g2
    have := cmpI_le.2 (Int.le_trans g3 g4)
    omega
  rw [wide_same b c b' c'] at hq
  rw [cmpI_flip] at c4
  rw [told] at cP cQ
  have h3 := cmpI_three (wv H h l) (wv K j m)
  generalize cmpI (wv H h l) (wv K j m) = p at *
  generalize cmpI (wv K j m) (wv L f g) = q at *
  generalize cmpI (wv H h l) (wv L f g) = r at *
  simp only [told] at cD
  generalize wH (wv H h l + nv ah al) = X at *
  generalize wh (wv H h l + nv ah al) = x at *
  generalize wl (wv H h l + nv ah al) = y at *
  generalize wH (wv K j m + nv ah al) = X' at *
  generalize wh (wv K j m + nv ah al) = x' at *
  generalize wl (wv K j m + nv ah al) = y' at *
  have HT := hideIt htr
  have HD := hideIt cD
  have H3 := hideIt h3
  have WH := hideIt a
  have WK := hideIt a'
  clear htr cD h3 nA a b c a' b' c' a'' b'' c'' a1 a0
  have K0 := (((((Has.start w).add 26 #[.int .u64 H, .int .u64 h, .int .u64 l]).addAt 26 #[.int .u64 K, .int .u64 j, .int .u64 m] (g := w.heap.size + 1) (by simp)).addAt 26 #[.int .u64 L, .int .u64 f, .int .u64 g] (g := w.heap.size + 1 + 1) (by simp)).addAt 24 #[.int .u64 ah, .int .u64 al] (g := w.heap.size + 1 + 1 + 1) (by simp))
  go_enter Try.func7, Try.ntmps7
  go_upto_region 3 with (first
    | (go_at_call 24; refine (wawake_any _).mono ?_; rintro e w1 ⟨rfl, h1⟩)
    | fail)
  have K1 := K0.call h1
  clear K0 h1
  have fact : ∀ u, Has w [(w.heap.size + 1 + 1 + 1, 24, #[.int .u64 ah, .int .u64 al]), (w.heap.size + 1 + 1, 26, #[.int .u64 L, .int .u64 f, .int .u64 g]), (w.heap.size + 1, 26, #[.int .u64 K, .int .u64 j, .int .u64 m]), (w.heap.size, 26, #[.int .u64 H, .int .u64 h, .int .u64 l])] u → u.cell? ⟨w.heap.size + 1 + 1 + 1, 0, none⟩ = some (.int .u64 ah) ∧ u.cell? ⟨w.heap.size + 1 + 1 + 1, 1, none⟩ = some (.int .u64 al) ∧ u.cell? ⟨w.heap.size + 1 + 1, 0, none⟩ = some (.int .u64 L) ∧ u.cell? ⟨w.heap.size + 1 + 1, 1, none⟩ = some (.int .u64 f) ∧ u.cell? ⟨w.heap.size + 1 + 1, 2, none⟩ = some (.int .u64 g) ∧ u.cell? ⟨w.heap.size + 1, 0, none⟩ = some (.int .u64 K) ∧ u.cell? ⟨w.heap.size + 1, 1, none⟩ = some (.int .u64 j) ∧ u.cell? ⟨w.heap.size + 1, 2, none⟩ = some (.int .u64 m) ∧ u.cell? ⟨w.heap.size, 0, none⟩ = some (.int .u64 H) ∧ u.cell? ⟨w.heap.size, 1, none⟩ = some (.int .u64 h) ∧ u.cell? ⟨w.heap.size, 2, none⟩ = some (.int .u64 l) := fun u hu => ⟨(hu.box 0).read 0, (hu.box 0).read 1, (hu.box 1).read 0, (hu.box 1).read 1, (hu.box 1).read 2, (hu.box 2).read 0, (hu.box 2).read 1, (hu.box 2).read 2, (hu.box 3).read 0, (hu.box 3).read 1, (hu.box 3).read 2⟩
  go_region_held3 (fun w' => Has w [(w.heap.size + 1 + 1 + 1, 24, #[.int .u64 ah, .int .u64 al]), (w.heap.size + 1 + 1, 26, #[.int .u64 L, .int .u64 f, .int .u64 g]), (w.heap.size + 1, 26, #[.int .u64 K, .int .u64 j, .int .u64 m]), (w.heap.size, 26, #[.int .u64 H, .int .u64 h, .int .u64 l])] w' ∧ w'.cell? ⟨w.heap.size + 1 + 1 + 1, 0, none⟩ = some (.int .u64 ah) ∧ w'.cell? ⟨w.heap.size + 1 + 1 + 1, 1, none⟩ = some (.int .u64 al) ∧ w'.cell? ⟨w.heap.size + 1 + 1, 0, none⟩ = some (.int .u64 L) ∧ w'.cell? ⟨w.heap.size + 1 + 1, 1, none⟩ = some (.int .u64 f) ∧ w'.cell? ⟨w.heap.size + 1 + 1, 2, none⟩ = some (.int .u64 g) ∧ w'.cell? ⟨w.heap.size + 1, 0, none⟩ = some (.int .u64 K) ∧ w'.cell? ⟨w.heap.size + 1, 1, none⟩ = some (.int .u64 j) ∧ w'.cell? ⟨w.heap.size + 1, 2, none⟩ = some (.int .u64 m) ∧ w'.cell? ⟨w.heap.size, 0, none⟩ = some (.int .u64 H) ∧ w'.cell? ⟨w.heap.size, 1, none⟩ = some (.int .u64 h) ∧ w'.cell? ⟨w.heap.size, 2, none⟩ = some (.int .u64 l))
    (first | exact held_drew fact K1 | exact held_keep fact (by assumption) (by assumption) | exact held_past fact (by assumption) _ | fail)
    (first
      | (go_at_call 17; ((with_reducible refine (c1 _).mono ?_); rintro e y1 ⟨rfl, j1⟩))
      | (go_at_call 17; ((with_reducible refine (c2 _).mono ?_); rintro e y2 ⟨rfl, j2⟩))
      | (go_at_call 17; ((with_reducible refine (c3 _).mono ?_); rintro e y3 ⟨rfl, j3⟩))
      | fail)
  have hh : ∃ Q, Has w [(w.heap.size + 1 + 1 + 1, 24, #[.int .u64 ah, .int .u64 al]), (w.heap.size + 1 + 1, 26, #[.int .u64 L, .int .u64 f, .int .u64 g]), (w.heap.size + 1, 26, #[.int .u64 K, .int .u64 j, .int .u64 m]), (w.heap.size, 26, #[.int .u64 H, .int .u64 h, .int .u64 l])] y3 ∧ Q := ⟨_, by assumption⟩
  obtain ⟨Q, K3, -⟩ := hh
  clear j1 j2 j3 K1 c1 c2 c3
  go_upto_region 4 with fail
  go_cut [9, 65] (fun s9 s65 wx => s9 = .int .i64 p ∧ s65 = .bool false ∧ Has w [(w.heap.size + 1 + 1 + 1, 24, #[.int .u64 ah, .int .u64 al]), (w.heap.size + 1 + 1, 26, #[.int .u64 L, .int .u64 f, .int .u64 g]), (w.heap.size + 1, 26, #[.int .u64 K, .int .u64 j, .int .u64 m]), (w.heap.size, 26, #[.int .u64 H, .int .u64 h, .int .u64 l])] wx)
  case first =>
    obtain ⟨r1, r2, r3, r4, r5, r6, r7⟩ := (K3.box 2).three
    obtain ⟨s1, s2, s3, s4, s5, s6, s7⟩ := (K3.box 3).three
    rcases H3.out with hp | hp | hp <;> subst hp
    · by_cases hq1 : q ≤ 0
      · have hr1 := HT.out (by decide) hq1
        go_wp2_with (first
          | (go_at_call 17; refine (c4 _).mono ?_; rintro e z1 ⟨rfl, j1⟩
             have K4 := K3.call j1
             clear r1 r2 r3 r4 r5 r6 r7 s1 s2 s3 s4 s5 s6 s7
             obtain ⟨r1, r2, r3, r4, r5, r6, r7⟩ := (K4.box 2).three
             obtain ⟨s1, s2, s3, s4, s5, s6, s7⟩ := (K4.box 3).three)
          | (go_at_call 19; refine (cL _).mono ?_; rintro e z2 ⟨rfl, j2⟩)
          | fail)
        go_meet
        exact ⟨rfl, by first | rfl | rw [decide_eq_false (by omega)], K4.call j2⟩
      · clear HT
        go_wp2_with (first
          | (go_at_call 17; refine (c4 _).mono ?_; rintro e z1 ⟨rfl, j1⟩
             have K4 := K3.call j1
             clear r1 r2 r3 r4 r5 r6 r7 s1 s2 s3 s4 s5 s6 s7
             obtain ⟨r1, r2, r3, r4, r5, r6, r7⟩ := (K4.box 2).three
             obtain ⟨s1, s2, s3, s4, s5, s6, s7⟩ := (K4.box 3).three)
          | (go_at_call 19; refine (cL _).mono ?_; rintro e z2 ⟨rfl, j2⟩)
          | fail)
        go_meet
        exact ⟨rfl, by first | rfl | rw [decide_eq_false (by omega)], K4.call j2⟩
    · by_cases hq1 : q ≤ 0
      · have hr1 := HT.out (by decide) hq1
        go_wp2_with (first
          | (go_at_call 17; refine (c4 _).mono ?_; rintro e z1 ⟨rfl, j1⟩
             have K4 := K3.call j1
             clear r1 r2 r3 r4 r5 r6 r7 s1 s2 s3 s4 s5 s6 s7
             obtain ⟨r1, r2, r3, r4, r5, r6, r7⟩ := (K4.box 2).three
             obtain ⟨s1, s2, s3, s4, s5, s6, s7⟩ := (K4.box 3).three)
          | (go_at_call 19; refine (cL _).mono ?_; rintro e z2 ⟨rfl, j2⟩)
          | fail)
        go_meet
        exact ⟨rfl, by first | rfl | rw [decide_eq_false (by omega)], K4.call j2⟩
      · clear HT
        go_wp2_with (first
          | (go_at_call 17; refine (c4 _).mono ?_; rintro e z1 ⟨rfl, j1⟩
             have K4 := K3.call j1
             clear r1 r2 r3 r4 r5 r6 r7 s1 s2 s3 s4 s5 s6 s7
             obtain ⟨r1, r2, r3, r4, r5, r6, r7⟩ := (K4.box 2).three
             obtain ⟨s1, s2, s3, s4, s5, s6, s7⟩ := (K4.box 3).three)
          | (go_at_call 19; refine (cL _).mono ?_; rintro e z2 ⟨rfl, j2⟩)
          | fail)
        go_meet
        exact ⟨rfl, by first | rfl | rw [decide_eq_false (by omega)], K4.call j2⟩
    · clear HT
      go_wp2_with (first
        | (go_at_call 17; refine (c4 _).mono ?_; rintro e z1 ⟨rfl, j1⟩
           have K4 := K3.call j1
           clear r1 r2 r3 r4 r5 r6 r7 s1 s2 s3 s4 s5 s6 s7
           obtain ⟨r1, r2, r3, r4, r5, r6, r7⟩ := (K4.box 2).three
           obtain ⟨s1, s2, s3, s4, s5, s6, s7⟩ := (K4.box 3).three)
        | (go_at_call 19; refine (cL _).mono ?_; rintro e z2 ⟨rfl, j2⟩)
        | fail)
      go_meet
      exact ⟨rfl, by first | rfl | rw [decide_eq_false (by omega)], K4.call j2⟩
  case rest =>
    obtain ⟨rfl, rfl, K5⟩ := hcut
    clear fact
    obtain ⟨p1, p2, p3, p4, p5⟩ := (K5.box 0).two
    obtain ⟨r1, r2, r3, r4, r5, r6, r7⟩ := (K5.box 2).three
    obtain ⟨s1, s2, s3, s4, s5, s6, s7⟩ := (K5.box 3).three
    have fact : ∀ u, Has w [(w.heap.size + 1 + 1 + 1, 24, #[.int .u64 ah, .int .u64 al]), (w.heap.size + 1 + 1, 26, #[.int .u64 L, .int .u64 f, .int .u64 g]), (w.heap.size + 1, 26, #[.int .u64 K, .int .u64 j, .int .u64 m]), (w.heap.size, 26, #[.int .u64 H, .int .u64 h, .int .u64 l])] u → u.cell? ⟨w.heap.size + 1 + 1 + 1, 0, none⟩ = some (.int .u64 ah) ∧ u.cell? ⟨w.heap.size + 1 + 1 + 1, 1, none⟩ = some (.int .u64 al) ∧ u.cell? ⟨w.heap.size + 1, 0, none⟩ = some (.int .u64 K) ∧ u.cell? ⟨w.heap.size + 1, 1, none⟩ = some (.int .u64 j) ∧ u.cell? ⟨w.heap.size + 1, 2, none⟩ = some (.int .u64 m) ∧ u.cell? ⟨w.heap.size, 0, none⟩ = some (.int .u64 H) ∧ u.cell? ⟨w.heap.size, 1, none⟩ = some (.int .u64 h) ∧ u.cell? ⟨w.heap.size, 2, none⟩ = some (.int .u64 l) := fun u hu => ⟨(hu.box 0).read 0, (hu.box 0).read 1, (hu.box 2).read 0, (hu.box 2).read 1, (hu.box 2).read 2, (hu.box 3).read 0, (hu.box 3).read 1, (hu.box 3).read 2⟩
    go_upto_region 7 with fail
    cases hH : (H == 18446744073709551615)
    · cases hK : (K == 18446744073709551615)
      · have gH : H < 18446744073709551615 := by have := WH.out.2; have : ¬ H = 18446744073709551615 := by simpa using hH
                                                 omega
        have gK : K < 18446744073709551615 := by have := WK.out.2; have : ¬ K = 18446744073709551615 := by simpa using hK
                                                 omega
        have cD := HD.out gH gK
        have HH := hideIt gH
        have HK := hideIt gK
        clear HD gH gK
        go_region_held3 (fun w' => Has w [(w.heap.size + 1 + 1 + 1, 24, #[.int .u64 ah, .int .u64 al]), (w.heap.size + 1 + 1, 26, #[.int .u64 L, .int .u64 f, .int .u64 g]), (w.heap.size + 1, 26, #[.int .u64 K, .int .u64 j, .int .u64 m]), (w.heap.size, 26, #[.int .u64 H, .int .u64 h, .int .u64 l])] w' ∧ w'.cell? ⟨w.heap.size + 1 + 1 + 1, 0, none⟩ = some (.int .u64 ah) ∧ w'.cell? ⟨w.heap.size + 1 + 1 + 1, 1, none⟩ = some (.int .u64 al) ∧ w'.cell? ⟨w.heap.size + 1, 0, none⟩ = some (.int .u64 K) ∧ w'.cell? ⟨w.heap.size + 1, 1, none⟩ = some (.int .u64 j) ∧ w'.cell? ⟨w.heap.size + 1, 2, none⟩ = some (.int .u64 m) ∧ w'.cell? ⟨w.heap.size, 0, none⟩ = some (.int .u64 H) ∧ w'.cell? ⟨w.heap.size, 1, none⟩ = some (.int .u64 h) ∧ w'.cell? ⟨w.heap.size, 2, none⟩ = some (.int .u64 l))
          (first | exact held_drew fact K5 | exact held_keep fact (by assumption) (by assumption) | exact held_past fact (by assumption) _ | fail)
          (first
            | (go_at_call 13; ((with_reducible refine (cP _).mono ?_); rintro e z1 ⟨rfl, j1⟩))
            | (go_at_call 13; ((with_reducible refine (cQ _).mono ?_); rintro e z2 ⟨rfl, j2⟩))
            | (go_at_call 17; ((with_reducible refine (cD _).mono ?_); rintro e z3 ⟨rfl, j3⟩))
            | fail)
        go_wp2
        have hh : ∃ Q, Has w [(w.heap.size + 1 + 1 + 1, 24, #[.int .u64 ah, .int .u64 al]), (w.heap.size + 1 + 1, 26, #[.int .u64 L, .int .u64 f, .int .u64 g]), (w.heap.size + 1, 26, #[.int .u64 K, .int .u64 j, .int .u64 m]), (w.heap.size, 26, #[.int .u64 H, .int .u64 h, .int .u64 l])] z3 ∧ Q := ⟨_, by assumption⟩
        obtain ⟨Q, K9, -⟩ := hh
        go_ret
        exact ⟨by first | rfl | simp, K9.below⟩
      · clear HD WH WK cP cQ c4 cL hq HT
        obtain rfl : K = 18446744073709551615 := by simpa using hK
        clear hK fact
        go_quiet (fail)
        go_wp2
        go_ret
        exact ⟨rfl, below_drewN K5.below _⟩
    · clear HD WH WK cP cQ c4 cL hq HT
      obtain rfl : H = 18446744073709551615 := by simpa using hH
      clear hH fact
      go_quiet (fail)
      go_wp2
      go_ret
      exact ⟨rfl, below_drewN K5.below _⟩

theorem wideCompares_core (H : Type) (enc : TypeId × Value → H) (W : World) (base : Nat) (args : Array Value) (ds gs : List (DataW H)) (before : List MemPlace)
    (hval : ∀ (j : Nat) t v, Try.f7.params[j]? = some t → args[j]? = some v → Value.okWide Try.prog W .any base t v)
    (hW : DataW.Whole enc Try.prog Try.f7.params.toList Rows.wideComparesSpec.vars false W args.toList ds gs before) :
    gs = [] ∧ ds.length = 4 ∧ Calls Try.prog 7 args W (Tells (.bool true) W.heap.size W) := by
  obtain ⟨p, q, hA, hV, -, -, -⟩ := hW
  obtain ⟨rfl, rfl⟩ := trodVars_none hV
  have hA : DataW.TrodAll enc Try.prog W 0 (fun _ => true) true Try.f7.params.toList args.toList ds p := hA
  rw [Try.params7] at hA hval
  obtain ⟨v0, v1, v2, v3, d0, d1, d2, d3, p0, p1, p2, p3, rfl, rfl, -, h0, h1, h2, h3⟩ := trodAll_four hA
  obtain ⟨H, h, l, rfl, a, b, c⟩ := open_wide (hval 0 _ v0 rfl rfl) h0
  obtain ⟨K, j, m, rfl, a', b', c'⟩ := open_wide (hval 1 _ v1 rfl rfl) h1
  obtain ⟨L, f, g, rfl, a'', b'', c''⟩ := open_wide (hval 2 _ v2 rfl rfl) h2
  obtain ⟨ah, al, rfl, a1, a0⟩ := open_num (hval 3 _ v3 rfl rfl) h3
  exact ⟨rfl, rfl, wcompares_walk H h l K j m L f g ah al a b c a' b' c' a'' b'' c'' a1 a0 W⟩

set_option maxRecDepth 100000 in
theorem wideCompares_lifted (os : Os) (started : os.Started) (H : Type) (enc : TypeId × Value → H) :
    ReturnsInHanded {} Try.checked os 7 .any (Rows.wideComparesSpec.pre6 enc Try.prog Try.f7 Rows.wideComparesRow.domain false) (Rows.wideComparesSpec.post enc Try.prog Try.f7 false true false false) := by
  refine returnsInHanded_of_change (C := Try.checked) own_knob started (by kernel_rfl) Try.func7
    (ChangeSpec.witness6 (enc := enc) (C := Try.checked) false ⟨#[], #[.agg #[.int .u64 0, .int .u64 0, .int .u64 0], .agg #[.int .u64 0, .int .u64 0, .int .u64 0], .agg #[.int .u64 0, .int .u64 0, .int .u64 0], .agg #[.int .u64 0, .int .u64 0]], []⟩ 8 (by kernel_rfl) (by kernel_rfl) (by kernel_rfl) (by kernel_rfl)) ?_
  intro W base args ds gs before hval hW _ _
  obtain ⟨hg, hlen, hc⟩ := wideCompares_core H enc W base args ds gs before hval hW
  subst hg
  have hr : (Try.f7.params.toList.all fun t => Try.prog.readableRec t && decide (t < Try.prog.types.size)) = true := by kernel_rfl
  have hread : ∀ t ∈ Try.f7.params.toList, Try.prog.readableRec t = true ∧ t < Try.prog.types.size := fun t ht => by
    have h := List.all_eq_true.1 hr t ht
    rw [Bool.and_eq_true, decide_eq_true_eq] at h
    exact h
  refine hc.mono fun e W' ⟨he, hb⟩ => ?_
  subst he
  match ds, hlen with
  | [d0, d1, d2, d3], _ => exact ⟨_, rfl, law_post laid_out Try.underlying4 rfl hread rfl hW rfl rfl rfl hb⟩

theorem wideCompares_holds : Rows.WideComparesSaid :=
  OpenClaim.holds_of_wide 7 Try.f7 rfl rfl rfl rfl rfl rfl rfl ⟨rfl, rfl, rfl, rfl, rfl⟩ rfl rfl rfl rfl rfl (by kernel_rfl) Try.func7 (by kernel_rfl)
    (of_decide_eq_true (by kernel_rfl)) (by unfold Func.isWrapper; first | (rw [if_pos (by decide +kernel)]; kernel_rfl) | (rw [if_neg (by decide +kernel)]; exact ⟨rfl, rfl⟩))
    (fun os started H enc _ => wideCompares_lifted os started H enc)

end Go.Proofs.Ytpafamlegfdclaa
