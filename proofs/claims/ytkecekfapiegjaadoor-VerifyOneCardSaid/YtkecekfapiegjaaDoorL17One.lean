/-
  The law VerifyOne: what is told OK by Up holds under that root, and under no other one of that width; what holds under a root is told that by Up. Conditions: none.
-/
import Derived.Test.YtkecekfapiegjaaDoorM17Opn
import Derived.Test.YtkecekfapiegjaaDoorU17Awak
namespace Go.Proofs.YtkecekfapiegjaaDoor
set_option linter.unusedVariables false
set_option linter.unusedSimpArgs false
set_option maxRecDepth 10000
open Go.ChangeShapes Go.WideShapes Go.ChangeAt Go.RowKit

set_option maxRecDepth 100000 in
set_option maxHeartbeats 8000000 in
theorem verifyOne_any (n : Int) (x : Lf) (q : Nat) (hq : q < 18446744073709551616) (A : Option Addr) (c : Nat) (l : List Nd) (o : RtP) (hl : l.length ≤ 9223372036854775807) (hf : ∀ y ∈ l, y.fine) (hx : x.fine15) (w : World) (hR : ndS.Row w w.heap.size A l) (hK : Tab w) (hU : TabU w) :
    Calls Tryd.prog 7 #[.int .i64 n, .agg (enV x q A l.length c), o.val] w (Tells (.bool true) w.heap.size w) := by
  have cW := fun u hu hv => awake17_any u hu hv
  have cL := fun u hu => long16_any x q A c l hl (fun y hy => (hf y hy).1) hx.1 u hu
  have hlong := fun (h : longE x l = false) => longE_no h
  have hy : ∀ y ∈ l, y.halved := fun y hy => (hf y hy).2
  have cU := fun (hl : l.length ≤ 1000000000) hx' u hR' => up17_any n x q hq A c l hl hx' hx.2 hy u hR'
  have cX := fun (hl : l.length ≤ 1000000000) hx' u hR' => up17_any o.hash.size x q hq A c l hl hx' hx.2 hy u hR'
  have cG := fun (hl : l.length ≤ 1000000000) hx' u hR' => check17_any o x q hq A c l hl hx' hx.2 hy u hR'
  have cT := fun (hl : l.length ≤ 1000000000) hx' u hR' => check17_any (upE n x q l).1 x q hq A c l hl hx' hx.2 hy u hR'
  have cM := fun u => may17_any (upE n x q l).1 u
  have hT0 : (upE n x q l).2 = 0 → checkE (upE n x q l).1 x q l = 0 ∧ ((upE n x q l).1.hash.size : Int) = n ∧ (upE n x q l).1.n = l.length ∧ mayR (upE n x q l).1 = 0 := fun e => up_holds hx.2 hy (Prod.ext rfl e)
  have hT1 := fun e => up_err (w := n) (x := x) (p := q) (l := l) e
  have hX0 : (upE o.hash.size x q l).2 = 0 → (upE o.hash.size x q l).1.n = l.length := fun e => (up_holds hx.2 hy (r := (upE o.hash.size x q l).1) (Prod.ext rfl e)).2.2.1
  have hG0 : checkE o x q l = 0 ↔ upE o.hash.size x q l = (o, 0) ∧ o.n = l.length := holds_up hx.2 hy
  obtain ⟨B, hB⟩ : ∃ B, longE x l = B := ⟨_, rfl⟩
  rw [hB] at cL hlong
  obtain ⟨G, hG⟩ : ∃ G, checkE o x q l = G := ⟨_, rfl⟩
  obtain ⟨⟨X, H⟩, hX⟩ : ∃ X, upE o.hash.size x q l = X := ⟨_, rfl⟩
  rw [hG] at cG hG0
  rw [hX] at cX hG0 hX0
  simp only at cX hX0
  have hcase0 : (G = 0 ∧ H = 0 ∧ X = o ∧ o.n = l.length) ∨ (G ≠ 0 ∧ H = 0 ∧ X ≠ o) ∨ (G ≠ 0 ∧ H ≠ 0) := by
    by_cases e : G = 0
    · obtain ⟨e1, e2⟩ := hG0.1 e
      obtain ⟨e3, e4⟩ := Prod.mk.inj e1
      exact Or.inl ⟨e, e4, e3, e2⟩
    · by_cases e1 : H = 0
      · refine Or.inr (Or.inl ⟨e, e1, fun e2 => e (hG0.2 ⟨?_, ?_⟩)⟩)
        · rw [e1, e2]
        · rw [← e2]; exact hX0 e1
      · exact Or.inr (Or.inr ⟨e, e1⟩)
  have hqo := fun u => run_eql_rt X o u
  have hcase : (G = 0 ∧ H = 0 ∧ X.same o = true ∧ o.n = l.length) ∨ (G ≠ 0 ∧ H = 0 ∧ X.same o = false) ∨ (G ≠ 0 ∧ H ≠ 0) := by
    rcases hcase0 with ⟨h1, h2, h3, h4⟩ | ⟨h1, h2, h3⟩ | h
    · exact Or.inl ⟨h1, h2, (RtP.same_iff _ _).2 h3, h4⟩
    · refine Or.inr (Or.inl ⟨h1, h2, ?_⟩)
      cases hs : X.same o with
      | false => rfl
      | true => exact absurd ((RtP.same_iff _ _).1 hs) h3
    · exact Or.inr (Or.inr h)
  clear hG hX hG0 hX0 hcase0
  obtain ⟨⟨T, E⟩, hT⟩ : ∃ T, upE n x q l = T := ⟨_, rfl⟩
  rw [hT] at cU cT cM hT0 hT1
  simp only at cU cT cM hT0 hT1
  have hnz := fun u => run_neq_rt RtP.zero RtP.zero u
  rw [RtP.same_self] at hnz
  obtain ⟨N, hN⟩ : ∃ N, l.length = N := ⟨_, rfl⟩
  rw [hN] at cL cU cX cG cT hlong hT0 hcase hl ⊢
  clear hB hT hN hf hy
  obtain ⟨P, hP⟩ : ∃ P, X.same o = P := ⟨_, rfl⟩
  rw [hP] at hcase hqo
  clear hP
  obtain ⟨xp, xi, xs, xh, xl⟩ := x
  obtain ⟨os, oh, ol, on⟩ := o
  obtain ⟨zs, zh, zl, zn⟩ := X
  obtain ⟨Z, hZ⟩ : ∃ Z, os.size = Z := ⟨_, rfl⟩
  simp only at cL cU cX cG cT cM hlong hcase
  rw [hZ] at cX
  simp only [RtP.val] at hqo cU cX cG cT cM
  simp only [RtP.val, RtP.zero] at hnz
  obtain ⟨ge, hge⟩ : ∃ g, w.heap.size = g := ⟨_, rfl⟩
  have J0 := ((Has.start w).addAt 39 (enV ⟨xp, xi, xs, xh, xl⟩ q A N c) (g := ge) hge).addAt 26 (rtB os oh ol on) (g := ge + 1) (by simp [hge])
  show Calls _ _ #[_, _, .agg (rtB os oh ol on)] _ _
  go_enter Tryd.func7, Tryd.ntmps7
  go_upto_region 1 with fail
  change Code.wp _ _ _ _ ((w.alloc (.cells (enV ⟨xp, xi, xs, xh, xl⟩ q A N c) 39)).alloc (.cells (rtB os oh ol on) 26))
  generalize (w.alloc (.cells (enV ⟨xp, xi, xs, xh, xl⟩ q A N c) 39)).alloc (.cells (rtB os oh ol on) 26) = W0 at *
  go_upto_region 3 with (first
    | (go_at_call 18; refine (cW _ (hK.call J0.below) (hU.call J0.below)).mono ?_; rintro e w1 ⟨rfl, b1⟩; have J1 := J0.call b1)
    | fail)
  obtain ⟨⟨x0, x1, x2, x3, x4, x5, x6⟩, xin⟩ := (J1.box 1).seven
  obtain ⟨⟨o0, o1, o2, o3⟩, -, oin⟩ := (J1.box 0).four4
  simp only at x0 x1 x2 x3 x4
  cases B with
  | true =>
    go_wp2_with (first | (go_at_call 15; refine (cL _ (hR.on J1.below)).mono ?_; rintro e w2 ⟨rfl, b2⟩; have J2 := J1.call b2) | fail)
    go_ret
    exact ⟨rfl, by first | exact J2.below | (rw [← hge]; exact J2.below)⟩
  | false =>
    obtain ⟨h100, -, hz1, hz2⟩ := hlong rfl
    by_cases hZ60 : 60 < Z
    · have hzi : (60 : Int) < (Z : Int) := by omega
      go_wp2_with (first | (go_at_call 15; refine (cL _ (hR.on J1.below)).mono ?_; rintro e w2 ⟨rfl, b2⟩; have J2 := J1.call b2; obtain ⟨⟨s0, s1, s2, s3⟩, -, sin⟩ := (J2.box 0).four4) | fail)
      go_ret
      exact ⟨rfl, by first | exact J2.below | (rw [← hge]; exact J2.below)⟩
    · have hzi : ¬ (60 : Int) < (Z : Int) := by omega
      have cU := cU (by omega) ⟨by omega, by omega⟩
      have cX := cX (by omega) ⟨by omega, by omega⟩
      have cG := cG (by omega) ⟨by omega, by omega⟩
      have cT := cT (by omega) ⟨by omega, by omega⟩
      go_upto_region 5 with (first | (go_at_call 15; refine (cL _ (hR.on J1.below)).mono ?_; rintro e w2 ⟨rfl, b2⟩; have J2 := J1.call b2; obtain ⟨⟨s0, s1, s2, s3⟩, -, sin⟩ := (J2.box 0).four4) | fail)
      clear x0 x1 x2 x3 x4 x5 x6 xin o0 o1 o2 o3 oin s0 s1 s2 s3 sin cL hlong cW
      obtain ⟨⟨x0, x1, x2, x3, x4, x5, x6⟩, xin⟩ := (J2.box 1).seven
      obtain ⟨⟨o0, o1, o2, o3⟩, -, oin⟩ := (J2.box 0).four4
      simp only at x0 x1 x2 x3 x4
      obtain ⟨ts, th, tl, tn⟩ := T
      simp only [RtP.val] at cU cT cM
      simp only at hT0 hT1
      go_upto_region 6 with (first
        | (go_at_call 16; refine (cU _ (hR.on J2.below) (hK.call J2.below) (hU.call J2.below)).mono ?_; rintro e w3 ⟨rfl, b3⟩; have J3 := (J2.call b3).add 26 (rtB ts th tl tn))
        | fail)
      obtain ⟨g3, hg3⟩ : ∃ g, w3.heap.size = g := ⟨_, rfl⟩
      rw [hg3] at J3 ⊢
      change Code.wp _ _ _ _ (w3.alloc (.cells (rtB ts th tl tn) 26))
      generalize w3.alloc (.cells (rtB ts th tl tn) 26) = W3 at *
      clear x0 x1 x2 x3 x4 x5 x6 xin o0 o1 o2 o3 oin b3 hg3 J1 J2 cU
      obtain ⟨⟨x0, x1, x2, x3, x4, x5, x6⟩, xin⟩ := (J3.box 2).seven
      obtain ⟨⟨o0, o1, o2, o3⟩, -, oin⟩ := (J3.box 1).four4
      simp only at x0 x1 x2 x3 x4
      obtain ⟨⟨t0, t1, t2, t3⟩, -, tin⟩ := (J3.box 0).four4
      by_cases hE : E = 0
      · obtain ⟨e1, e2, e3, e4⟩ := hT0 hE
        clear hT0 hT1
        subst hE
        rw [e1] at cT
        rw [e4] at cM
        subst e2
        subst e3
        go_upto_region 10 with (first
          | (go_at_call 13; refine (cT _ (hR.on J3.below) (hK.call J3.below) (hU.call J3.below)).mono ?_; rintro e w4 ⟨rfl, b4⟩; have J4 := J3.call b4; obtain ⟨⟨s0, s1, s2, s3⟩, -, sin⟩ := (J4.box 0).four4)
          | (go_at_call 10; refine (cM _).mono ?_; rintro e w5 ⟨rfl, b5⟩; have J5 := J4.call b5; obtain ⟨⟨m0, m1, m2, m3⟩, -, min⟩ := (J5.box 0).four4; obtain ⟨⟨i0, i1, i2, i3, i4, i5, i6⟩, iin⟩ := (J5.box 2).seven)
          | fail)
        have J6 := J5.tail
        clear x0 x1 x2 x3 x4 x5 x6 xin o0 o1 o2 o3 oin t0 t1 t2 t3 tin s0 s1 s2 s3 sin m0 m1 m2 m3 min i0 i1 i2 i3 i4 i5 i6 iin J3 J4 J5 cT cM e1 e4 hnz
        obtain ⟨⟨x0, x1, x2, x3, x4, x5, x6⟩, xin⟩ := (J6.box 1).seven
        obtain ⟨⟨o0, o1, o2, o3⟩, -, oin⟩ := (J6.box 0).four4
        simp only at x0 x1 x2 x3 x4
        rcases hcase with ⟨rfl, rfl, rfl, rfl⟩ | ⟨hG, rfl, rfl⟩ | ⟨hG, hH⟩
        · have q1 : ((N : Int) == (N : Int)) = true := by simp
          go_upto_region 11 with (first
            | (go_at_call 13; refine (cG _ (hR.on J6.below) (hK.call J6.below) (hU.call J6.below)).mono ?_; rintro e w7 ⟨rfl, b7⟩; have J7 := J6.call b7)
            | fail)
          clear x0 x1 x2 x3 x4 x5 x6 xin o0 o1 o2 o3 oin
          obtain ⟨⟨x0, x1, x2, x3, x4, x5, x6⟩, xin⟩ := (J7.box 1).seven
          obtain ⟨⟨o0, o1, o2, o3⟩, -, oin⟩ := (J7.box 0).four4
          simp only at x0 x1 x2 x3 x4
          go_upto_region 12 with (first
            | (go_at_call 16; refine (cX _ (hR.on J7.below) (hK.call J7.below) (hU.call J7.below)).mono ?_; rintro e w8 ⟨rfl, b8⟩; have J8 := (J7.call b8).add 26 (rtB zs zh zl zn))
            | fail)
          clear x0 x1 x2 x3 x4 x5 x6 xin o0 o1 o2 o3 oin
          obtain ⟨g8, hg8⟩ : ∃ g, w8.heap.size = g := ⟨_, rfl⟩
          rw [hg8] at J8 ⊢
          change Code.wp _ _ _ _ (w8.alloc (.cells (rtB zs zh zl zn) 26))
          generalize w8.alloc (.cells (rtB zs zh zl zn) 26) = W8 at *
          clear b8 hg8 J7 b7 cG cX
          obtain ⟨⟨x0, x1, x2, x3, x4, x5, x6⟩, xin⟩ := (J8.box 2).seven
          obtain ⟨⟨o0, o1, o2, o3⟩, -, oin⟩ := (J8.box 1).four4
          simp only at x0 x1 x2 x3 x4
          obtain ⟨⟨z0, z1, z2, z3⟩, -, zin⟩ := (J8.box 0).four4
          clear hK hU hR
          go_wp2
          go_ret
          exact ⟨rfl, by first | exact J8.below | (rw [← hge]; exact J8.below)⟩
        · have q0 : (G == 0) = false := by simpa using hG
          go_upto_region 11 with (first
            | (go_at_call 13; refine (cG _ (hR.on J6.below) (hK.call J6.below) (hU.call J6.below)).mono ?_; rintro e w7 ⟨rfl, b7⟩; have J7 := J6.call b7)
            | fail)
          clear x0 x1 x2 x3 x4 x5 x6 xin o0 o1 o2 o3 oin
          obtain ⟨⟨x0, x1, x2, x3, x4, x5, x6⟩, xin⟩ := (J7.box 1).seven
          obtain ⟨⟨o0, o1, o2, o3⟩, -, oin⟩ := (J7.box 0).four4
          simp only at x0 x1 x2 x3 x4
          go_upto_region 12 with (first
            | (go_at_call 16; refine (cX _ (hR.on J7.below) (hK.call J7.below) (hU.call J7.below)).mono ?_; rintro e w8 ⟨rfl, b8⟩; have J8 := (J7.call b8).add 26 (rtB zs zh zl zn))
            | fail)
          clear x0 x1 x2 x3 x4 x5 x6 xin o0 o1 o2 o3 oin
          obtain ⟨g8, hg8⟩ : ∃ g, w8.heap.size = g := ⟨_, rfl⟩
          rw [hg8] at J8 ⊢
          change Code.wp _ _ _ _ (w8.alloc (.cells (rtB zs zh zl zn) 26))
          generalize w8.alloc (.cells (rtB zs zh zl zn) 26) = W8 at *
          clear b8 hg8 J7 b7 cG cX
          obtain ⟨⟨x0, x1, x2, x3, x4, x5, x6⟩, xin⟩ := (J8.box 2).seven
          obtain ⟨⟨o0, o1, o2, o3⟩, -, oin⟩ := (J8.box 1).four4
          simp only at x0 x1 x2 x3 x4
          obtain ⟨⟨z0, z1, z2, z3⟩, -, zin⟩ := (J8.box 0).four4
          clear hK hU hR
          go_wp2
          go_ret
          exact ⟨rfl, by first | exact J8.below | (rw [← hge]; exact J8.below)⟩
        · have q0 : (G == 0) = false := by simpa using hG
          have q1 : (H == 0) = false := by simpa using hH
          go_upto_region 11 with (first
            | (go_at_call 13; refine (cG _ (hR.on J6.below) (hK.call J6.below) (hU.call J6.below)).mono ?_; rintro e w7 ⟨rfl, b7⟩; have J7 := J6.call b7)
            | fail)
          clear x0 x1 x2 x3 x4 x5 x6 xin o0 o1 o2 o3 oin
          obtain ⟨⟨x0, x1, x2, x3, x4, x5, x6⟩, xin⟩ := (J7.box 1).seven
          obtain ⟨⟨o0, o1, o2, o3⟩, -, oin⟩ := (J7.box 0).four4
          simp only at x0 x1 x2 x3 x4
          go_upto_region 12 with (first
            | (go_at_call 16; refine (cX _ (hR.on J7.below) (hK.call J7.below) (hU.call J7.below)).mono ?_; rintro e w8 ⟨rfl, b8⟩; have J8 := (J7.call b8).add 26 (rtB zs zh zl zn))
            | fail)
          clear x0 x1 x2 x3 x4 x5 x6 xin o0 o1 o2 o3 oin
          obtain ⟨g8, hg8⟩ : ∃ g, w8.heap.size = g := ⟨_, rfl⟩
          rw [hg8] at J8 ⊢
          change Code.wp _ _ _ _ (w8.alloc (.cells (rtB zs zh zl zn) 26))
          generalize w8.alloc (.cells (rtB zs zh zl zn) 26) = W8 at *
          clear b8 hg8 J7 b7 cG cX
          obtain ⟨⟨x0, x1, x2, x3, x4, x5, x6⟩, xin⟩ := (J8.box 2).seven
          obtain ⟨⟨o0, o1, o2, o3⟩, -, oin⟩ := (J8.box 1).four4
          simp only at x0 x1 x2 x3 x4
          obtain ⟨⟨z0, z1, z2, z3⟩, -, zin⟩ := (J8.box 0).four4
          clear hK hU hR
          go_wp2
          go_ret
          exact ⟨rfl, by first | exact J8.below | (rw [← hge]; exact J8.below)⟩
      · have e1 := RtP.mk.inj (show (⟨ts, th, tl, tn⟩ : RtP) = ⟨⟨#[]⟩, 0, 0, 0⟩ from hT1 hE)
        obtain ⟨rfl, rfl, rfl, rfl⟩ := e1
        have qE : (E == 0) = false := by simpa using hE
        have qE2 : (E != 0) = true := bne_iff_ne.2 hE
        clear hT0 hT1 cT cM
        have J6 := J3.tail
        go_upto_region 10 with fail
        clear hnz J3 t0 t1 t2 t3 tin
        rcases hcase with ⟨rfl, rfl, rfl, rfl⟩ | ⟨hG, rfl, rfl⟩ | ⟨hG, hH⟩
        · have q1 : ((N : Int) == (N : Int)) = true := by simp
          go_upto_region 11 with (first
            | (go_at_call 13; refine (cG _ (hR.on J6.below) (hK.call J6.below) (hU.call J6.below)).mono ?_; rintro e w7 ⟨rfl, b7⟩; have J7 := J6.call b7)
            | fail)
          clear x0 x1 x2 x3 x4 x5 x6 xin o0 o1 o2 o3 oin
          obtain ⟨⟨x0, x1, x2, x3, x4, x5, x6⟩, xin⟩ := (J7.box 1).seven
          obtain ⟨⟨o0, o1, o2, o3⟩, -, oin⟩ := (J7.box 0).four4
          simp only at x0 x1 x2 x3 x4
          go_upto_region 12 with (first
            | (go_at_call 16; refine (cX _ (hR.on J7.below) (hK.call J7.below) (hU.call J7.below)).mono ?_; rintro e w8 ⟨rfl, b8⟩; have J8 := (J7.call b8).add 26 (rtB zs zh zl zn))
            | fail)
          clear x0 x1 x2 x3 x4 x5 x6 xin o0 o1 o2 o3 oin
          obtain ⟨g8, hg8⟩ : ∃ g, w8.heap.size = g := ⟨_, rfl⟩
          rw [hg8] at J8 ⊢
          change Code.wp _ _ _ _ (w8.alloc (.cells (rtB zs zh zl zn) 26))
          generalize w8.alloc (.cells (rtB zs zh zl zn) 26) = W8 at *
          clear b8 hg8 J7 b7 cG cX
          obtain ⟨⟨x0, x1, x2, x3, x4, x5, x6⟩, xin⟩ := (J8.box 2).seven
          obtain ⟨⟨o0, o1, o2, o3⟩, -, oin⟩ := (J8.box 1).four4
          simp only at x0 x1 x2 x3 x4
          obtain ⟨⟨z0, z1, z2, z3⟩, -, zin⟩ := (J8.box 0).four4
          clear hK hU hR
          go_wp2
          go_ret
          exact ⟨rfl, by first | exact J8.below | (rw [← hge]; exact J8.below)⟩
        · have q0 : (G == 0) = false := by simpa using hG
          go_upto_region 11 with (first
            | (go_at_call 13; refine (cG _ (hR.on J6.below) (hK.call J6.below) (hU.call J6.below)).mono ?_; rintro e w7 ⟨rfl, b7⟩; have J7 := J6.call b7)
            | fail)
          clear x0 x1 x2 x3 x4 x5 x6 xin o0 o1 o2 o3 oin
          obtain ⟨⟨x0, x1, x2, x3, x4, x5, x6⟩, xin⟩ := (J7.box 1).seven
          obtain ⟨⟨o0, o1, o2, o3⟩, -, oin⟩ := (J7.box 0).four4
          simp only at x0 x1 x2 x3 x4
          go_upto_region 12 with (first
            | (go_at_call 16; refine (cX _ (hR.on J7.below) (hK.call J7.below) (hU.call J7.below)).mono ?_; rintro e w8 ⟨rfl, b8⟩; have J8 := (J7.call b8).add 26 (rtB zs zh zl zn))
            | fail)
          clear x0 x1 x2 x3 x4 x5 x6 xin o0 o1 o2 o3 oin
          obtain ⟨g8, hg8⟩ : ∃ g, w8.heap.size = g := ⟨_, rfl⟩
          rw [hg8] at J8 ⊢
          change Code.wp _ _ _ _ (w8.alloc (.cells (rtB zs zh zl zn) 26))
          generalize w8.alloc (.cells (rtB zs zh zl zn) 26) = W8 at *
          clear b8 hg8 J7 b7 cG cX
          obtain ⟨⟨x0, x1, x2, x3, x4, x5, x6⟩, xin⟩ := (J8.box 2).seven
          obtain ⟨⟨o0, o1, o2, o3⟩, -, oin⟩ := (J8.box 1).four4
          simp only at x0 x1 x2 x3 x4
          obtain ⟨⟨z0, z1, z2, z3⟩, -, zin⟩ := (J8.box 0).four4
          clear hK hU hR
          go_wp2
          go_ret
          exact ⟨rfl, by first | exact J8.below | (rw [← hge]; exact J8.below)⟩
        · have q0 : (G == 0) = false := by simpa using hG
          have q1 : (H == 0) = false := by simpa using hH
          go_upto_region 11 with (first
            | (go_at_call 13; refine (cG _ (hR.on J6.below) (hK.call J6.below) (hU.call J6.below)).mono ?_; rintro e w7 ⟨rfl, b7⟩; have J7 := J6.call b7)
            | fail)
          clear x0 x1 x2 x3 x4 x5 x6 xin o0 o1 o2 o3 oin
          obtain ⟨⟨x0, x1, x2, x3, x4, x5, x6⟩, xin⟩ := (J7.box 1).seven
          obtain ⟨⟨o0, o1, o2, o3⟩, -, oin⟩ := (J7.box 0).four4
          simp only at x0 x1 x2 x3 x4
          go_upto_region 12 with (first
            | (go_at_call 16; refine (cX _ (hR.on J7.below) (hK.call J7.below) (hU.call J7.below)).mono ?_; rintro e w8 ⟨rfl, b8⟩; have J8 := (J7.call b8).add 26 (rtB zs zh zl zn))
            | fail)
          clear x0 x1 x2 x3 x4 x5 x6 xin o0 o1 o2 o3 oin
          obtain ⟨g8, hg8⟩ : ∃ g, w8.heap.size = g := ⟨_, rfl⟩
          rw [hg8] at J8 ⊢
          change Code.wp _ _ _ _ (w8.alloc (.cells (rtB zs zh zl zn) 26))
          generalize w8.alloc (.cells (rtB zs zh zl zn) 26) = W8 at *
          clear b8 hg8 J7 b7 cG cX
          obtain ⟨⟨x0, x1, x2, x3, x4, x5, x6⟩, xin⟩ := (J8.box 2).seven
          obtain ⟨⟨o0, o1, o2, o3⟩, -, oin⟩ := (J8.box 1).four4
          simp only at x0 x1 x2 x3 x4
          obtain ⟨⟨z0, z1, z2, z3⟩, -, zin⟩ := (J8.box 0).four4
          clear hK hU hR
          go_wp2
          go_ret
          exact ⟨rfl, by first | exact J8.below | (rw [← hge]; exact J8.below)⟩
theorem verifyOne_core (H : Type) (enc : TypeId × Value → H) (W : World) (base : Nat) (args : Array Value) (ds gs : List (DataW H)) (before : List MemPlace)
    (hval : ∀ (j : Nat) t v, Tryd.f7.params[j]? = some t → args[j]? = some v → Value.okWide Tryd.prog W .any base t v)
    (hW : DataW.Whole enc Tryd.prog Tryd.f7.params.toList Rows.verifyOneSpec.vars false W args.toList ds gs before) (hT : Tab W ∧ TabU W) :
    gs = [] ∧ ds.length = 3 ∧ Calls Tryd.prog 7 args W (Tells (.bool true) W.heap.size W) := by
  obtain ⟨p, q, hA, hV, -, -, -⟩ := hW
  obtain ⟨rfl, rfl⟩ := trodVars_none hV
  have hA : DataW.TrodAll enc Tryd.prog W 0 (fun _ => true) true Tryd.f7.params.toList args.toList ds p := hA
  rw [Tryd.params7] at hA hval
  obtain ⟨v0, vs0, d0, ds0, p0, ps0, e0, rfl, -, h0, hA⟩ := trodAll_cons hA
  obtain ⟨v1, vs1, d1, ds1, p1, ps1, rfl, rfl, -, h1, hA⟩ := trodAll_cons hA
  obtain ⟨v2, vs2, d2, ds2, p2, ps2, rfl, rfl, -, h2, hA⟩ := trodAll_cons hA
  obtain ⟨rfl, rfl, rfl⟩ := trodAll_nil hA
  obtain rfl : args = #[v0, v1, v2] := Array.ext' e0
  obtain ⟨n, rfl, -, -, -⟩ := open_int Tryd.underlying3 (hval 0 3 v0 rfl rfl) h0
  obtain ⟨x, r, A, c, l, rfl, hx, hr, hl, hf, hR⟩ := open_entry16 (hval 1 39 v1 rfl rfl) h1
  obtain ⟨o, rfl, ho⟩ := open_root17 (hval 2 26 v2 rfl rfl) h2
  obtain ⟨r, rfl⟩ := Int.eq_ofNat_of_zero_le hr.1
  exact ⟨rfl, rfl, verifyOne_any n x r (by have := hr.2; omega) A c l o hl hf hx W hR hT.1 hT.2⟩
end Go.Proofs.YtkecekfapiegjaaDoor
