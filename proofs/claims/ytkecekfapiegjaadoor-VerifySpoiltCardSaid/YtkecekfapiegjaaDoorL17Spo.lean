/-
  The law VerifySpoilt (the stage's theorem, the second part): an honest entry, with another leaf, or another side, at the same position, holds only if on its way and the honest one, at one level, two unlike texts have one digest. Conditions: none.
-/
import Derived.Test.YtkecekfapiegjaaDoorU17Txts
import Derived.Test.YtkecekfapiegjaaDoorU17Awak
import Derived.Test.YtkecekfapiegjaaDoorU16Sam
import Derived.Test.YtkecekfapiegjaaDoorM16Fn
namespace Go.Proofs.YtkecekfapiegjaaDoor
set_option linter.unusedVariables false
set_option linter.unusedSimpArgs false
set_option maxRecDepth 10000
open Go.ChangeShapes Go.WideShapes Go.ChangeAt Go.RowKit

theorem log_fewS {n : Int} {l : List Lf} {k : Nat} (h : FairT n l k) (hl : l.length ≤ 70) : k ≤ 6 := by
  by_cases hk : k ≤ 6
  · exact hk
  · have h1 : 2 ^ 7 ≤ 2 ^ k := Nat.pow_le_pow_right (by decide) (by omega)
    rw [← h.len] at h1
    omega
theorem sameE_iff (x y : Lf) (p : Int) (a b : List Nd) : sameE x y p p a b = true ↔ x = y ∧ a = b := by
  rw [sameE, Bool.and_eq_true, Bool.and_eq_true, Lf.same_iff, decide_eq_true_eq]
  simp
theorem txt_size {n : Int} {x : Lf} {p : Nat} {l : List Nd} (hm : mayW n = true) (hx : x.may = true) (hxw : Word x.h ∧ Word x.l) (hy : ∀ y ∈ l, y.halved) (ho : ∀ y ∈ l, y.of n = true) (h0 : (climbS n (nodeOf n x) p l).2 = 0) : ∀ i, i ≤ l.length → (txtN n x p l i).size ≤ 3000000
  | 0, _ => by have := mayT_sizes hx; exact text_bound x (by omega) (by omega)
  | i + 1, hi => by
    have h1 := of_size ((way_fine hm hx hxw hy h0 i (by omega)).1)
    obtain ⟨z, hz⟩ : ∃ z, l[i]? = some z := ⟨_, List.getElem?_eq_getElem (by omega)⟩
    have h2 := of_size (ho z (List.mem_of_getElem? hz))
    rw [← ndAt_some hz] at h2
    rw [txtN, ndText_size]
    unfold lftN rgtN
    split <;> omega
/-- What is found, or both are the same. -/
theorem spoilt_or {n : Int} {x y : Lf} {p : Nat} {T m : List Nd} {R : RtP} (hT : ∀ z ∈ T, z.halved) (hm : ∀ z ∈ m, z.halved) (hxw : Word x.h ∧ Word x.l) (hyw : Word y.h ∧ Word y.l) (hl : m.length = T.length) (hn : (R.hash.size : Int) = n)
    (h1 : checkE R x p T = 0) (h2 : checkE R y p m = 0) (hne : ¬ (x = y ∧ T = m)) :
    (mayW n = true ∧ x.may = true ∧ y.may = true ∧ (∀ z ∈ T, z.of n = true) ∧ (∀ z ∈ m, z.of n = true) ∧ T.length ≤ 63 ∧ (climbS n (nodeOf n x) p T).2 = 0 ∧ (climbS n (nodeOf n y) p m).2 = 0) ∧
      ∃ i, i ≤ T.length ∧ txtN n x p T i ≠ txtN n y p m i ∧ dgB n (txtN n x p T i) = dgB n (txtN n y p m i) := by
  obtain ⟨-, a2, a3, a4⟩ := check_ok.1 h1
  obtain ⟨-, b2, b3, b4⟩ := check_ok.1 h2
  rw [hn] at a3 a4 b3 b4
  obtain ⟨c1, c2, c3, c4, c5⟩ := shape_zero a3
  obtain ⟨d1, d2, d3, d4, d5⟩ := shape_zero b3
  obtain ⟨e1, e2⟩ := allW_mem c3
  obtain ⟨-, f2⟩ := allW_mem d3
  have top : ∀ {z : Lf} {q : List Nd}, z.may = true → shapeN n R.n p q = 0 → topE n z p q = (R, 0) → (climbS n (nodeOf n z) p q).2 = 0 ∧ R.hash = (climbS n (nodeOf n z) p q).1.hash ∧ R.h = (climbS n (nodeOf n z) p q).1.h ∧ R.l = (climbS n (nodeOf n z) p q).1.l := fun {z q} g1 g2 g3 => by
    rw [topE, climb_shape g1 g2] at g3
    split at g3
    · rename_i g4
      obtain ⟨g3, -⟩ := Prod.mk.inj g3
      exact ⟨g4, congrArg RtP.hash g3.symm, congrArg RtP.h g3.symm, congrArg RtP.l g3.symm⟩
    · rename_i g4; exact absurd (Prod.mk.inj g3).2 g4
  obtain ⟨u1, u2, u3, u4⟩ := top a2 a3 a4
  obtain ⟨v1, v2, v3, v4⟩ := top b2 b3 b4
  refine ⟨⟨e1, a2, b2, e2, f2, by omega, u1, v1⟩, ?_⟩
  by_cases hex : ∃ i, i ≤ T.length ∧ txtN n x p T i ≠ txtN n y p m i ∧ dgB n (txtN n x p T i) = dgB n (txtN n y p m i)
  · exact hex
  · refine absurd (spoilt_found e1 a2 b2 hxw hyw hT hm e2 f2 hl.symm u1 v1 ?_ (fun i hi h3 h4 => hex ⟨i, hi, h3, h4⟩)) hne
    generalize (climbS n (nodeOf n x) p T).1 = P at *
    generalize (climbS n (nodeOf n y) p m).1 = Q at *
    obtain ⟨p1, p2, p3⟩ := P
    obtain ⟨q1, q2, q3⟩ := Q
    simp only at u2 u3 u4 v2 v3 v4
    rw [← u2, ← u3, ← u4, ← v2, ← v3, ← v4]
set_option maxRecDepth 100000 in
set_option maxHeartbeats 8000000 in
theorem verifySpoilt_fair (n : Int) (A : Option Addr) (c : Nat) (l : List Lf) (pz : Nat) (hpz : pz < 65536) (x : Lf) (hxf : x.fine15) (lv : Nat) (hlv : lv < 256) (sd : Nd) (hsd : sd.fine) (hc : l.length ≤ c) (hcm : c ≤ 9223372036854775807) (hg : greatLf l = false) (hg1 : greatLf [x] = false) (hs60 : sd.hash.size ≤ 60) (hF : FairT n l (Nat.log2 l.length))
    (w : World) (hR : lfS.Row w w.heap.size A l) (hK : Tab w) (hU : TabU w) :
    Calls Tryd.prog 8 #[.int .i64 n, .slice A l.length c, .int .u16 pz, x.val, .int .u8 lv, sd.val] w (Tells (.bool true) w.heap.size w) := by
  obtain ⟨hl70, hsz⟩ := greatLf_no hg
  have hk6 := log_fewS hF hl70
  have hx200 := (greatLf_no hg1).2 x (by simp)
  have cW := fun u hu hv => awake17_any u hu hv
  have cG := fun u hu => great15_any A c l (by omega) (fun x hx => ⟨by have := hsz x hx; omega, by have := hsz x hx; omega⟩) u hu
  have cG1 := fun (u : World) hu => great15_any (some ⟨u.heap.size, 0, none⟩) 1 [x] (by simp) (fun y hy => by rw [List.mem_singleton.1 hy]; exact hxf.1) (u.alloc (.cells (lfS.flat [x]).toArray 34)) hu
  have hrow := fun u => lf_rowL u [x]
  rw [hg] at cG
  rw [hg1] at cG1
  obtain ⟨k, hkk⟩ : ∃ k, Nat.log2 l.length = k := ⟨_, rfl⟩
  rw [hkk] at hF hk6
  clear hkk
  have c1 := fun u hR hT hV => new15_fair n A c l u hF hR hT hV
  have hN1 : 1 ≤ l.length := hF.pos
  obtain ⟨N, hN⟩ : ∃ N, l.length = N := ⟨_, rfl⟩
  rw [hN] at cG c1 hl70 hc hN1 ⊢
  have HN := hideIt hN
  have HF := hideIt hF
  have HX := hideIt hxf
  have HX2 := hideIt hx200
  have HSD := hideIt hsd
  obtain ⟨xp, xi, xs, xh, xl⟩ := x
  obtain ⟨ds, dh, dl⟩ := sd
  obtain ⟨Z, hZ⟩ : ∃ Z, ds.size = Z := ⟨_, rfl⟩
  simp only [hZ] at hs60
  have hZi : ¬ (60 : Int) < (Z : Int) := by omega
  simp only [Lf.val, List.length_cons, List.length_nil, Nat.zero_add] at cG1
  show Calls _ _ #[_, _, _, .agg (lfB xp xi xs xh xl), _, .agg (ndB ds dh dl)] _ _
  obtain ⟨gx, hgx⟩ : ∃ g, w.heap.size = g := ⟨_, rfl⟩
  have H0 := ((Has.start w).addAt 34 (lfB xp xi xs xh xl) (g := gx) hgx).addAt 49 (ndB ds dh dl) (g := gx + 1) (by simp [hgx])
  clear hN hF hg hg1 hsz hxf hx200 hsd
  go_enter Tryd.func8, Tryd.ntmps8
  go_upto_region 1 with fail
  change Code.wp _ _ _ _ ((w.alloc (.cells (lfB xp xi xs xh xl) 34)).alloc (.cells (ndB ds dh dl) 49))
  generalize (w.alloc (.cells (lfB xp xi xs xh xl) 34)).alloc (.cells (ndB ds dh dl) 49) = W0 at *
  go_upto_region 3 with (first
    | (go_at_call 18; refine (cW _ (hK.call H0.below) (hU.call H0.below)).mono ?_; rintro e w1 ⟨rfl, b1⟩; have K1 := H0.call b1)
    | fail)
  obtain ⟨⟨x0, x1, x2, x3, x4⟩, -, xin⟩ := (K1.box 1).five0
  have cG2 := cG1 w1 (hrow w1)
  have cG2 : Calls Tryd.prog 19 #[.slice (some ⟨w1.heap.size, 0, none⟩) 1 1] (w1.alloc (.cells (lfB xp xi xs xh xl) 34)) (Plain (.bool false) (w1.alloc (.cells (lfB xp xi xs xh xl) 34))) := cG2
  have K2 := K1.past (.cells (lfB xp xi xs xh xl) 34)
  obtain ⟨⟨s0, s1, s2⟩, -, -, -, sin⟩ := (K2.box 0).three0
  clear cG1 hrow cW H0 b1
  go_upto_region 8 with (first
    | (go_at_call 19; ((with_reducible refine (cG _ (hR.on K1.below)).mono ?_); rintro e w2 ⟨rfl, rfl⟩))
    | (go_at_call 19; ((with_reducible refine cG2.mono ?_); rintro e w2 ⟨rfl, rfl⟩))
    | (go_at_call 20; refine (c1 _ (hR.on K2.below) (hK.call K2.below) (hU.call K2.below)).mono ?_; rintro e w3 ⟨b3, q, rfl, hT3, hq3⟩; have K3 := K2.call b3)
    | fail)
  have hK3 := hK.call K3.below
  have hU3 := hU.call K3.below
  clear x0 x1 x2 x3 x4 xin s0 s1 s2 sin cG cG2 c1 K1 K2 b3 hq3 hR hK hU
  obtain ⟨p, hp⟩ : ∃ p, pz % N = p := ⟨_, rfl⟩
  have hpl : p < N := by rw [← hp]; exact Nat.mod_lt _ (by omega)
  have d1 : Int.tmod (pz : Int) (N : Int) = (p : Int) := by rw [Int.tmod_eq_emod_of_nonneg (by omega), ← hp]; norm_cast
  have d1b : (pz : Int) % (N : Int) = (p : Int) := by rw [← hp]; norm_cast
  have d2 : ¬ (N : Int) = 0 := by omega
  have d3 : IntKind.u64.wrap (pz : Int) = (pz : Int) := by rw [IntKind.wrap_u64]; omega
  have d4 : IntKind.u64.wrap (N : Int) = (N : Int) := by rw [IntKind.wrap_u64]; omega
  have d5 : IntKind.u64.wrap (p : Int) = (p : Int) := by rw [IntKind.wrap_u64]; omega
  have hpk : p < 2 ^ k := by rw [← HF.out.len, HN.out]; exact hpl
  obtain ⟨y, hy⟩ : ∃ y, l[p]? = some y := ⟨_, List.getElem?_eq_getElem (by rw [HN.out]; exact hpl)⟩
  obtain ⟨hholds, hwid⟩ := HF.out.holds hpk hy
  obtain ⟨hym, hyw⟩ := HF.out.all y (List.mem_of_getElem? hy)
  have hys := mayT_sizes hym
  have cO := of16_in hT3 HF.out p hpk hy
  have cR := fun u (hu : TrAt u q n l k) => (show Calls Tryd.prog 21 #[.pointer (some ⟨q.g, 0, none⟩)] u (Tells (rootT n l k).val u.heap.size u) from root15_any hu HF.out)
  have cH := fun u (hu : TrAt u q n l k) => height15_any hu (by omega)
  have hTl := sibs_len n (l.map (nodeOf n)) p k
  have hTh := HF.out.sidesHalved hpk
  generalize sibsN n (l.map (nodeOf n)) p k = T at *
  generalize rootT n l k = R at *
  have HH := hideIt hholds
  clear hp hy hholds
  obtain ⟨yp, yi, ys, yh, yl⟩ := y
  simp only at hys
  have J0 := Has.start w3
  go_upto_region 9 with (first
    | (go_at_call 23; refine cO.mono ?_; rintro e w4 ⟨b4, A5, c5, rfl, hSd, -⟩; have K4 := (K3.call b4).add 39 (enV ⟨yp, yi, ys, yh, yl⟩ p A5 k c5); have b4r := chainA b4 (.cells (enV ⟨yp, yi, ys, yh, yl⟩ p A5 k c5) 39); have hSd4 := hSd.call (chainA (Below.refl w4.heap.size w4) (.cells (enV ⟨yp, yi, ys, yh, yl⟩ p A5 k c5) 39)))
    | fail)
  obtain ⟨gh, hgh⟩ : ∃ g, w4.heap.size = g := ⟨_, rfl⟩
  rw [hgh] at K4 ⊢
  change Code.wp _ _ _ _ (w4.alloc (.cells (enV ⟨yp, yi, ys, yh, yl⟩ p A5 k c5) 39))
  generalize w4.alloc (.cells (enV ⟨yp, yi, ys, yh, yl⟩ p A5 k c5) 39) = W4 at *
  have hT4 := hT3.call b4r
  have hK4 := hK3.call b4r
  have hU4 := hU3.call b4r
  clear cO b4 hgh hSd hT3 hK3 hU3 b4r K3 J0 d1 d1b d2 d3 d4 d5
  obtain ⟨⟨h0, h1, h2, h3, h4, h5, h6⟩, hin⟩ := (K4.box 0).seven
  simp only at h0 h1 h2 h3 h4
  have qk : (((k : Nat) : Int) != (k : Int)) = false := by simp
  go_quiet ((first | (go_at_call 24; exact Calls.quiet_of_same ((cH _ hT4).mono (fun _ _ h => ⟨h.1, h.2.symm⟩))) | (go_at_call 24; exact Calls.quiet_of_same ((cH _ (hT4.call (below_drewN (Below.refl _ _) _))).mono (fun _ _ h => ⟨h.1, h.2.symm⟩))) | fail))
  have b5 := below_drewN (Below.refl W4.heap.size W4) nq
  have K5 := K4.call b5
  have hT5 := hT4.call b5
  have hK5 := hK4.call b5
  have hU5 := hU4.call b5
  have hSd5 := hSd4.call b5
  generalize W4.drewN nq = W5 at *
  clear K4 hT4 hK4 hU4 hSd4 b5 h0 h1 h2 h3 h4 h5 h6 hin cH
  have cH := fun u (hu : Below W5.heap.size W5 u) => height15_any (hT5.call hu) (by omega)
  have cR := fun u (hu : Below W5.heap.size W5 u) => cR u (hT5.call hu)
  have hRT := hSd5.row
  have hw5 : w.heap.size ≤ W5.heap.size := K5.size
  have hghl : gh < W5.heap.size := (K5.box 0).inside
  obtain ⟨⟨h0, h1, h2, h3, h4, h5, h6⟩, hin⟩ := (K5.box 0).seven
  simp only at h0 h1 h2 h3 h4
  go_upto_region 12 with fail
  obtain ⟨gm, hgm⟩ : ∃ g, W5.heap.size = g := ⟨_, rfl⟩
  have M6 := (Has.start W5).addAt 39 (enV ⟨yp, yi, ys, yh, yl⟩ p A5 k c5) (g := gm) hgm
  have b6 := chainA (Below.refl W5.heap.size W5) (.cells (enV ⟨yp, yi, ys, yh, yl⟩ p A5 k c5) 39)
  try rw [hgm]
  change Code.wp _ _ _ _ (W5.alloc (.cells (enV ⟨yp, yi, ys, yh, yl⟩ p A5 k c5) 39))
  generalize W5.alloc (.cells (enV ⟨yp, yi, ys, yh, yl⟩ p A5 k c5) 39) = W6 at *
  clear h0 h1 h2 h3 h4 h5 h6 hin
  obtain ⟨⟨h0, h1, h2, h3, h4, h5, h6⟩, hin⟩ := ((K5.call b6).box 0).seven
  simp only at h0 h1 h2 h3 h4
  have hcp := nd_copy17 W6 A5 c5 T (by omega) (hRT.on b6)
  rw [hTl] at hcp
  obtain ⟨A6, c6, w7, hrun, hS7, b7⟩ := hcp
  have M7 := M6.call b7
  have m0 := (M7.box 0).read 6
  have mf := (M7.box 0).free 6
  have min := (M7.box 0).inside
  have hM8 := M7.wrote (by omega) (fun y hy => by simp at hy) 6 (.slice A6 k c6)
  have hS8 := hS7.offOne ((Off.refl (One gm) w7).set_ (p := ⟨gm, 6, none⟩) (Or.inl rfl) (.slice A6 k c6)) (M7.box 0) (by decide)
  have hgm6 : gm < W6.heap.size := (M6.box 0).inside
  go_upto_region 13 with (first
    | (at_builtin; refine gen_run rfl _ _ _ rfl _ _ rfl rfl _ w7 hrun ?_)
    | fail)
  change Code.wp _ _ _ _ (w7.setCell ⟨gm, 6, none⟩ (.slice A6 k c6))
  have M8 : Has W5 [(gm, 39, enV ⟨yp, yi, ys, yh, yl⟩ p A6 k c6)] (w7.setCell ⟨gm, 6, none⟩ (.slice A6 k c6)) := hM8
  generalize w7.setCell ⟨gm, 6, none⟩ (.slice A6 k c6) = W8 at *
  clear h0 h1 h2 h3 h4 h5 h6 hin m0 mf min hM8 M6 M7 hrun hS7 b6 b7
  obtain ⟨j, hj⟩ : ∃ j, lv % (k + 1) = j := ⟨_, rfl⟩
  have hjk : j < k + 1 := by rw [← hj]; exact Nat.mod_lt _ (by omega)
  have e1 : Int.tmod (lv : Int) ((k : Int) + 1) = (j : Int) := by rw [show ((k : Int) + 1) = ((k + 1 : Nat) : Int) from rfl, Int.tmod_eq_emod_of_nonneg (by omega), ← hj]; norm_cast
  have e2 : (lv : Int) % ((k : Int) + 1) = (j : Int) := by rw [show ((k : Int) + 1) = ((k + 1 : Nat) : Int) from rfl, ← hj]; norm_cast
  have e3 : ¬ ((k : Int) + 1) = 0 := by omega
  have e4 : IntKind.i64.wrap ((k : Int) + 1) = (k : Int) + 1 := by rw [IntKind.wrap_i64]; omega
  have e5 : IntKind.i64.wrap (lv : Int) = (lv : Int) := by rw [IntKind.wrap_i64]; omega
  have e6 : IntKind.i64.wrap (j : Int) = (j : Int) := by rw [IntKind.wrap_i64]; omega
  have b8 := M8.below
  clear hj
  go_upto_region 14 with (first
    | (go_at_call 24; refine (cH _ b8).mono ?_; rintro e w9 ⟨rfl, rfl⟩)
    | fail)
  clear e1 e2 e3 e4 e5 e6
  have K8 := K5.call b8
  obtain ⟨⟨x0, x1, x2, x3, x4⟩, -, xin⟩ := (K8.box 2).five0
  obtain ⟨⟨s0, s1, s2⟩, -, -, -, sin⟩ := (K8.box 1).three0
  obtain ⟨⟨m0, m1, m2, m3, m4, m5, m6⟩, min⟩ := (M8.box 0).seven
  obtain ⟨mf0, mf1, mf2, mf3, mf4, mf5, mf6⟩ := (M8.box 0).seven_free
  simp only at m0 m1 m2 m3 m4
  by_cases hjj : j = k
  · have qj : (((j : Nat) : Int) == ((k : Nat) : Int)) = true := by rw [hjj]; simp
    have M9 := ((((M8.wrote (by omega) (fun y hy => by simp at hy) 0 (.bool xp)).wrote (by omega) (fun y hy => by simp at hy) 1 (.string xi)).wrote (by omega) (fun y hy => by simp at hy) 2 (.string xs)).wrote (by omega) (fun y hy => by simp at hy) 3 (.int .u64 xh)).wrote (by omega) (fun y hy => by simp at hy) 4 (.int .u64 xl)
    go_upto_region 17 with (first
      | (go_at_call 24; refine (cH _ b8).mono ?_; rintro e w9 ⟨rfl, rfl⟩)
      | fail)
    have oL := (((((Off.refl (One gm) W8).set_ (p := ⟨gm, 0, none⟩) (Or.inl rfl) (.bool xp)).set_ (p := ⟨gm, 1, none⟩) (Or.inl rfl) (.string xi)).set_ (p := ⟨gm, 2, none⟩) (Or.inl rfl) (.string xs)).set_ (p := ⟨gm, 3, none⟩) (Or.inl rfl) (.int .u64 xh)).set_ (p := ⟨gm, 4, none⟩) (Or.inl rfl) (.int .u64 xl)
    have hRm := (hS8.offOne oL (M8.box 0) (by decide)).row
    have BV := M9.below
    have BM := M9.box 0
    clear oL M9 m0 m1 m2 m3 m4 m5 m6 min mf0 mf1 mf2 mf3 mf4 mf5 mf6 x0 x1 x2 x3 x4 xin s0 s1 s2 sin K8 hS8 M8 b8
    change Code.wp _ _ _ _ (World.setCell (World.setCell (World.setCell (World.setCell (World.setCell W8 ⟨gm, 0, none⟩ (.bool xp)) ⟨gm, 1, none⟩ (.string xi)) ⟨gm, 2, none⟩ (.string xs)) ⟨gm, 3, none⟩ (.int .u64 xh)) ⟨gm, 4, none⟩ (.int .u64 xl))
    generalize World.setCell (World.setCell (World.setCell (World.setCell (World.setCell W8 ⟨gm, 0, none⟩ (.bool xp)) ⟨gm, 1, none⟩ (.string xi)) ⟨gm, 2, none⟩ (.string xs)) ⟨gm, 3, none⟩ (.int .u64 xh)) ⟨gm, 4, none⟩ (.int .u64 xl) = V at *
    have BM : Box V gm 39 (enV ⟨xp, xi, xs, xh, xl⟩ p A6 k c6) := BM
    have hz1 : xi.size ≤ 1000000 ∧ xs.size ≤ 1000000 := ⟨by have := HX2.out.1; omega, by have := HX2.out.2; omega⟩
    have hzw : Word xh ∧ Word xl := HX.out.2
    obtain ⟨m, hmT⟩ : ∃ m, T = m := ⟨_, rfl⟩
    have hmh : ∀ z ∈ m, z.halved := by rw [← hmT]; exact hTh
    have hml : m.length = k := by rw [← hmT]; exact hTl
    rw [hmT] at hRm
    clear hmT
    have cS := fun u h1 h2 => same16_any ⟨xp, xi, xs, xh, xl⟩ ⟨yp, yi, ys, yh, yl⟩ p p A6 A5 c6 c5 m T (by omega) (by omega) u h1 h2
    have cZ := fun u (hb : Below V.heap.size V u) => check17_any R ⟨xp, xi, xs, xh, xl⟩ p (by omega) A6 c6 m (by omega) hz1 hzw hmh u (hRm.on hb) (hK5.call (chain BV hb)) (hU5.call (chain BV hb))
    have cY := fun u (hb : Below V.heap.size V u) => check17_any R ⟨yp, yi, ys, yh, yl⟩ p (by omega) A5 c5 T (by omega) ⟨by simp only; omega, by simp only; omega⟩ hyw hTh u (hRT.on (chain BV hb)) (hK5.call (chain BV hb)) (hU5.call (chain BV hb))
    have cR := fun u (hb : Below V.heap.size V u) => cR u (chain BV hb)
    rw [HH.out] at cY
    rw [hml, hTl] at cS
    rw [hml] at cZ
    rw [hTl] at cY
    have hor := fun h2 hne => spoilt_or (n := n) (x := ⟨yp, yi, ys, yh, yl⟩) (y := ⟨xp, xi, xs, xh, xl⟩) (p := p) (T := T) (m := m) (R := R) hTh hmh hyw hzw (by omega) hwid HH.out h2 hne
    have hsm := sameE_iff ⟨xp, xi, xs, xh, xl⟩ ⟨yp, yi, ys, yh, yl⟩ p m T
    obtain ⟨SM, hSM⟩ : ∃ S, sameE ⟨xp, xi, xs, xh, xl⟩ ⟨yp, yi, ys, yh, yl⟩ p p m T = S := ⟨_, rfl⟩
    rw [hSM] at cS hsm
    obtain ⟨E, hE⟩ : ∃ E, checkE R ⟨xp, xi, xs, xh, xl⟩ p m = E := ⟨_, rfl⟩
    rw [hE] at cZ hor
    clear hSM hE cH
    simp only [RtP.val] at cR cZ cY
    have HS := hideIt hsm
    have HO := hideIt hor
    clear hsm hor
    have hS : ∀ u, Below V.heap.size V u → ((u.cell? ⟨gh, 0, none⟩ = some (.bool yp) ∧ u.cell? ⟨gh, 1, none⟩ = some (.string yi) ∧ u.cell? ⟨gh, 2, none⟩ = some (.string ys) ∧ u.cell? ⟨gh, 3, none⟩ = some (.int .u64 yh) ∧ u.cell? ⟨gh, 4, none⟩ = some (.int .u64 yl) ∧ u.cell? ⟨gh, 5, none⟩ = some (.int .u64 p) ∧ u.cell? ⟨gh, 6, none⟩ = some (.slice A5 k c5)) ∧ gh < u.heap.size) ∧ ((u.cell? ⟨gm, 0, none⟩ = some (.bool xp) ∧ u.cell? ⟨gm, 1, none⟩ = some (.string xi) ∧ u.cell? ⟨gm, 2, none⟩ = some (.string xs) ∧ u.cell? ⟨gm, 3, none⟩ = some (.int .u64 xh) ∧ u.cell? ⟨gm, 4, none⟩ = some (.int .u64 xl) ∧ u.cell? ⟨gm, 5, none⟩ = some (.int .u64 p) ∧ u.cell? ⟨gm, 6, none⟩ = some (.slice A6 k c6)) ∧ gm < u.heap.size) := fun u hu => ⟨((K5.call (chain BV hu)).box 0).seven, (BM.call hu).seven⟩
    have b0 := (Below.refl V.heap.size V).drew
    refine wp_region_held_drew (S := fun u => ((u.cell? ⟨gh, 0, none⟩ = some (.bool yp) ∧ u.cell? ⟨gh, 1, none⟩ = some (.string yi) ∧ u.cell? ⟨gh, 2, none⟩ = some (.string ys) ∧ u.cell? ⟨gh, 3, none⟩ = some (.int .u64 yh) ∧ u.cell? ⟨gh, 4, none⟩ = some (.int .u64 yl) ∧ u.cell? ⟨gh, 5, none⟩ = some (.int .u64 p) ∧ u.cell? ⟨gh, 6, none⟩ = some (.slice A5 k c5)) ∧ gh < u.heap.size) ∧ ((u.cell? ⟨gm, 0, none⟩ = some (.bool xp) ∧ u.cell? ⟨gm, 1, none⟩ = some (.string xi) ∧ u.cell? ⟨gm, 2, none⟩ = some (.string xs) ∧ u.cell? ⟨gm, 3, none⟩ = some (.int .u64 xh) ∧ u.cell? ⟨gm, 4, none⟩ = some (.int .u64 xl) ∧ u.cell? ⟨gm, 5, none⟩ = some (.int .u64 p) ∧ u.cell? ⟨gm, 6, none⟩ = some (.slice A6 k c6)) ∧ gm < u.heap.size)) (by kernel_rfl) (hS _ b0) (fun hHeld => ?_)
    generalize V.drew = Vd at *
    cases SM with
    | true =>
      refine wpAnyH_take (i := 0) (v := ?_) rfl (by kernel_rfl) (by kernel_rfl) (by kernel_rfl) (fun _ _ _ h => h) (Or.inl ⟨by rfl, ?_⟩) (by assumption) ?_
      rotate_left 1
      · intro w hSw; (try dsimp only at hSw); go_simp; try with_reducible rfl
      try simp only [Act.put, List.getElem_toArray, List.getElem_cons_succ, List.getElem_cons_zero, List.setIfInBounds_toArray, List.set_cons_zero, List.set_cons_succ]
      refine wpAnyH_take (i := 1) (v := ?_) rfl (by kernel_rfl) (by kernel_rfl) (by kernel_rfl) (fun _ _ _ h => h) (Or.inl ⟨by rfl, ?_⟩) (by assumption) ?_
      rotate_left 1
      · intro w hSw; (try dsimp only at hSw); go_simp; try with_reducible rfl
      try simp only [Act.put, List.getElem_toArray, List.getElem_cons_succ, List.getElem_cons_zero, List.setIfInBounds_toArray, List.set_cons_zero, List.set_cons_succ]
      refine wpAnyH_ready (rs := [2]) (by kernel_rfl) (by simp) (AllReadyH.cons rfl (fun K hK => ?_) AllReadyH.nil)
      go_simp
      go_at_call 25
      refine (cS _ (hRm.on b0) (hRT.on (chain BV b0))).mono ?_
      rintro e w10 ⟨rfl, b10⟩
      have b1 := chain b0 b10
      try simp only []
      refine hK.out _ _ (hS _ b1) (fun hHeld => ?_)
      clear hK K
      try simp only [Act.put, List.getElem_toArray, List.getElem_cons_succ, List.getElem_cons_zero, List.setIfInBounds_toArray, List.set_cons_zero, List.set_cons_succ]
      refine wpAnyH_take (i := 3) (v := ?_) rfl (by kernel_rfl) (by kernel_rfl) (by kernel_rfl) (fun _ _ _ h => h) (Or.inl ⟨by rfl, ?_⟩) (by assumption) ?_
      rotate_left 1
      · intro w hSw; (try dsimp only at hSw); go_simp; try with_reducible rfl
      try simp only [Act.put, List.getElem_toArray, List.getElem_cons_succ, List.getElem_cons_zero, List.setIfInBounds_toArray, List.set_cons_zero, List.set_cons_succ]
      refine wpAnyH_take (i := 4) (v := undef) rfl (by kernel_rfl) (by kernel_rfl) (by kernel_rfl) (fun _ _ _ h => h) (Or.inr ⟨by rfl, rfl⟩) (by assumption) ?_
      try simp only [Act.put, List.getElem_toArray, List.getElem_cons_succ, List.getElem_cons_zero, List.setIfInBounds_toArray, List.set_cons_zero, List.set_cons_succ]
      refine wpAnyH_take (i := 5) (v := undef) rfl (by kernel_rfl) (by kernel_rfl) (by kernel_rfl) (fun _ _ _ h => h) (Or.inr ⟨by rfl, rfl⟩) (by assumption) ?_
      try simp only [Act.put, List.getElem_toArray, List.getElem_cons_succ, List.getElem_cons_zero, List.setIfInBounds_toArray, List.set_cons_zero, List.set_cons_succ]
      refine wpAnyH_take (i := 6) (v := undef) rfl (by kernel_rfl) (by kernel_rfl) (by kernel_rfl) (fun _ _ _ h => h) (Or.inr ⟨by rfl, rfl⟩) (by assumption) ?_
      try simp only [Act.put, List.getElem_toArray, List.getElem_cons_succ, List.getElem_cons_zero, List.setIfInBounds_toArray, List.set_cons_zero, List.set_cons_succ]
      refine wpAnyH_take (i := 7) (v := undef) rfl (by kernel_rfl) (by kernel_rfl) (by kernel_rfl) (fun _ _ _ h => h) (Or.inr ⟨by rfl, rfl⟩) (by assumption) ?_
      try simp only [Act.put, List.getElem_toArray, List.getElem_cons_succ, List.getElem_cons_zero, List.setIfInBounds_toArray, List.set_cons_zero, List.set_cons_succ]
      refine wpAnyH_take (i := 8) (v := undef) rfl (by kernel_rfl) (by kernel_rfl) (by kernel_rfl) (fun _ _ _ h => h) (Or.inr ⟨by rfl, rfl⟩) (by assumption) ?_
      try simp only [Act.put, List.getElem_toArray, List.getElem_cons_succ, List.getElem_cons_zero, List.setIfInBounds_toArray, List.set_cons_zero, List.set_cons_succ]
      refine wpAnyH_take (i := 9) (v := ?_) rfl (by kernel_rfl) (by kernel_rfl) (by kernel_rfl) (fun _ _ _ h => h) (Or.inl ⟨by rfl, ?_⟩) (by assumption) ?_
      rotate_left 1
      · intro w hSw; (try dsimp only at hSw); go_simp; try with_reducible rfl
      try simp only [Act.put, List.getElem_toArray, List.getElem_cons_succ, List.getElem_cons_zero, List.setIfInBounds_toArray, List.set_cons_zero, List.set_cons_succ]
      refine wpAnyH_done (by kernel_rfl) ?_ _
      go_upto_region 18 with fail
      have c0 := chain b1 (Below.refl (w10).heap.size w10).drew
      refine wp_region_held_drew (S := fun u => ((u.cell? ⟨gh, 0, none⟩ = some (.bool yp) ∧ u.cell? ⟨gh, 1, none⟩ = some (.string yi) ∧ u.cell? ⟨gh, 2, none⟩ = some (.string ys) ∧ u.cell? ⟨gh, 3, none⟩ = some (.int .u64 yh) ∧ u.cell? ⟨gh, 4, none⟩ = some (.int .u64 yl) ∧ u.cell? ⟨gh, 5, none⟩ = some (.int .u64 p) ∧ u.cell? ⟨gh, 6, none⟩ = some (.slice A5 k c5)) ∧ gh < u.heap.size)) (by kernel_rfl) (hS _ c0).1 (fun hHeld => ?_)
      generalize World.drew w10 = Ve at *
      refine wpAnyH_take (i := 0) (v := ?_) rfl (by kernel_rfl) (by kernel_rfl) (by kernel_rfl) (fun _ _ _ h => h) (Or.inl ⟨by rfl, ?_⟩) (by assumption) ?_
      rotate_left 1
      · intro w hSw; (try dsimp only at hSw); go_simp; try with_reducible rfl
      try simp only [Act.put, List.getElem_toArray, List.getElem_cons_succ, List.getElem_cons_zero, List.setIfInBounds_toArray, List.set_cons_zero, List.set_cons_succ]
      refine wpAnyH_take (i := 2) (v := ?_) rfl (by kernel_rfl) (by kernel_rfl) (by kernel_rfl) (fun _ _ _ h => h) (Or.inl ⟨by rfl, ?_⟩) (by assumption) ?_
      rotate_left 1
      · intro w hSw; (try dsimp only at hSw); go_simp; try with_reducible rfl
      try simp only [Act.put, List.getElem_toArray, List.getElem_cons_succ, List.getElem_cons_zero, List.setIfInBounds_toArray, List.set_cons_zero, List.set_cons_succ]
      refine wpAnyH_ready (rs := [1]) (by kernel_rfl) (by simp) (AllReadyH.cons rfl (fun K hK => ?_) AllReadyH.nil)
      go_simp
      go_at_call 21
      refine (cR _ c0).mono ?_
      rintro e w13 ⟨rfl, b13⟩
      have c1 := chain c0 b13
      try simp only []
      refine hK.out _ _ ((hS _ c1).1) (fun hHeld => ?_)
      clear hK K
      try simp only [Act.put, List.getElem_toArray, List.getElem_cons_succ, List.getElem_cons_zero, List.setIfInBounds_toArray, List.set_cons_zero, List.set_cons_succ]
      refine wpAnyH_ready (rs := [3]) (by kernel_rfl) (by simp) (AllReadyH.cons rfl (fun K hK => ?_) AllReadyH.nil)
      go_simp
      go_at_call 13
      refine (cY _ c1).mono ?_
      rintro e w14 ⟨rfl, b14⟩
      have c2 := chain c1 b14
      try simp only []
      refine hK.out _ _ ((hS _ c2).1) (fun hHeld => ?_)
      clear hK K
      try simp only [Act.put, List.getElem_toArray, List.getElem_cons_succ, List.getElem_cons_zero, List.setIfInBounds_toArray, List.set_cons_zero, List.set_cons_succ]
      refine wpAnyH_take (i := 4) (v := ?_) rfl (by kernel_rfl) (by kernel_rfl) (by kernel_rfl) (fun _ _ _ h => h) (Or.inl ⟨by rfl, ?_⟩) (by assumption) ?_
      rotate_left 1
      · intro w hSw; (try dsimp only at hSw); go_simp; try with_reducible rfl
      try simp only [Act.put, List.getElem_toArray, List.getElem_cons_succ, List.getElem_cons_zero, List.setIfInBounds_toArray, List.set_cons_zero, List.set_cons_succ]
      refine wpAnyH_take (i := 5) (v := ?_) rfl (by kernel_rfl) (by kernel_rfl) (by kernel_rfl) (fun _ _ _ h => h) (Or.inl ⟨by rfl, ?_⟩) (by assumption) ?_
      rotate_left 1
      · intro w hSw; (try dsimp only at hSw); go_simp; try with_reducible rfl
      try simp only [Act.put, List.getElem_toArray, List.getElem_cons_succ, List.getElem_cons_zero, List.setIfInBounds_toArray, List.set_cons_zero, List.set_cons_succ]
      refine wpAnyH_done (by kernel_rfl) ?_ _
      go_wp2
      go_ret
      exact ⟨rfl, by have := (K5.call (chain BV c2)).below; first | exact this | (rw [← hgx]; exact this)⟩
    | false =>
      refine wpAnyH_take (i := 0) (v := ?_) rfl (by kernel_rfl) (by kernel_rfl) (by kernel_rfl) (fun _ _ _ h => h) (Or.inl ⟨by rfl, ?_⟩) (by assumption) ?_
      rotate_left 1
      · intro w hSw; (try dsimp only at hSw); go_simp; try with_reducible rfl
      try simp only [Act.put, List.getElem_toArray, List.getElem_cons_succ, List.getElem_cons_zero, List.setIfInBounds_toArray, List.set_cons_zero, List.set_cons_succ]
      refine wpAnyH_take (i := 1) (v := ?_) rfl (by kernel_rfl) (by kernel_rfl) (by kernel_rfl) (fun _ _ _ h => h) (Or.inl ⟨by rfl, ?_⟩) (by assumption) ?_
      rotate_left 1
      · intro w hSw; (try dsimp only at hSw); go_simp; try with_reducible rfl
      try simp only [Act.put, List.getElem_toArray, List.getElem_cons_succ, List.getElem_cons_zero, List.setIfInBounds_toArray, List.set_cons_zero, List.set_cons_succ]
      refine wpAnyH_ready (rs := [2]) (by kernel_rfl) (by simp) (AllReadyH.cons rfl (fun K hK => ?_) AllReadyH.nil)
      go_simp
      go_at_call 25
      refine (cS _ (hRm.on b0) (hRT.on (chain BV b0))).mono ?_
      rintro e w10 ⟨rfl, b10⟩
      have b1 := chain b0 b10
      try simp only []
      refine hK.out _ _ (hS _ b1) (fun hHeld => ?_)
      clear hK K
      try simp only [Act.put, List.getElem_toArray, List.getElem_cons_succ, List.getElem_cons_zero, List.setIfInBounds_toArray, List.set_cons_zero, List.set_cons_succ]
      refine wpAnyH_take (i := 3) (v := ?_) rfl (by kernel_rfl) (by kernel_rfl) (by kernel_rfl) (fun _ _ _ h => h) (Or.inl ⟨by rfl, ?_⟩) (by assumption) ?_
      rotate_left 1
      · intro w hSw; (try dsimp only at hSw); go_simp; try with_reducible rfl
      try simp only [Act.put, List.getElem_toArray, List.getElem_cons_succ, List.getElem_cons_zero, List.setIfInBounds_toArray, List.set_cons_zero, List.set_cons_succ]
      refine wpAnyH_take (i := 4) (v := ?_) rfl (by kernel_rfl) (by kernel_rfl) (by kernel_rfl) (fun _ _ _ h => h) (Or.inl ⟨by rfl, ?_⟩) (by assumption) ?_
      rotate_left 1
      · intro w hSw; (try dsimp only at hSw); go_simp; try with_reducible rfl
      try simp only [Act.put, List.getElem_toArray, List.getElem_cons_succ, List.getElem_cons_zero, List.setIfInBounds_toArray, List.set_cons_zero, List.set_cons_succ]
      refine wpAnyH_take (i := 6) (v := ?_) rfl (by kernel_rfl) (by kernel_rfl) (by kernel_rfl) (fun _ _ _ h => h) (Or.inl ⟨by rfl, ?_⟩) (by assumption) ?_
      rotate_left 1
      · intro w hSw; (try dsimp only at hSw); go_simp; try with_reducible rfl
      try simp only [Act.put, List.getElem_toArray, List.getElem_cons_succ, List.getElem_cons_zero, List.setIfInBounds_toArray, List.set_cons_zero, List.set_cons_succ]
      refine wpAnyH_ready (rs := [5]) (by kernel_rfl) (by simp) (AllReadyH.cons rfl (fun K hK => ?_) AllReadyH.nil)
      go_simp
      go_at_call 21
      refine (cR _ b1).mono ?_
      rintro e w11 ⟨rfl, b11⟩
      have b2 := chain b1 b11
      try simp only []
      refine hK.out _ _ (hS _ b2) (fun hHeld => ?_)
      clear hK K
      try simp only [Act.put, List.getElem_toArray, List.getElem_cons_succ, List.getElem_cons_zero, List.setIfInBounds_toArray, List.set_cons_zero, List.set_cons_succ]
      refine wpAnyH_ready (rs := [7]) (by kernel_rfl) (by simp) (AllReadyH.cons rfl (fun K hK => ?_) AllReadyH.nil)
      go_simp
      go_at_call 13
      refine (cZ _ b2).mono ?_
      rintro e w12 ⟨rfl, b12⟩
      have b3 := chain b2 b12
      try simp only []
      refine hK.out _ _ (hS _ b3) (fun hHeld => ?_)
      clear hK K
      try simp only [Act.put, List.getElem_toArray, List.getElem_cons_succ, List.getElem_cons_zero, List.setIfInBounds_toArray, List.set_cons_zero, List.set_cons_succ]
      refine wpAnyH_take (i := 8) (v := ?_) rfl (by kernel_rfl) (by kernel_rfl) (by kernel_rfl) (fun _ _ _ h => h) (Or.inl ⟨by rfl, ?_⟩) (by assumption) ?_
      rotate_left 1
      · intro w hSw; (try dsimp only at hSw); go_simp; try with_reducible rfl
      try simp only [Act.put, List.getElem_toArray, List.getElem_cons_succ, List.getElem_cons_zero, List.setIfInBounds_toArray, List.set_cons_zero, List.set_cons_succ]
      refine wpAnyH_take (i := 9) (v := ?_) rfl (by kernel_rfl) (by kernel_rfl) (by kernel_rfl) (fun _ _ _ h => h) (Or.inl ⟨by rfl, ?_⟩) (by assumption) ?_
      rotate_left 1
      · intro w hSw; (try dsimp only at hSw); go_simp; try with_reducible rfl
      try simp only [Act.put, List.getElem_toArray, List.getElem_cons_succ, List.getElem_cons_zero, List.setIfInBounds_toArray, List.set_cons_zero, List.set_cons_succ]
      refine wpAnyH_done (by kernel_rfl) ?_ _
      by_cases hE0 : E = 0
      · obtain ⟨⟨t1, t2, t3, t4, t5, t6, t7, t8⟩, i, hi, hne, hdg⟩ := HO.out hE0 (fun e => by have := HS.out.2 ⟨e.1.symm, e.2.symm⟩; cases this)
        subst hE0
        clear cS cZ cR cY HS HO hHeld
        have tY := fun u (hb : Below V.heap.size V u) => texts17_any n ⟨yp, yi, ys, yh, yl⟩ p (by omega) A5 c5 T t6 t1 t2 hyw hTh t4 t7 u (hRT.on (chain BV hb)) (hK5.call (chain BV hb)) (hU5.call (chain BV hb))
        have tZ := fun u (hb : Below V.heap.size V u) => texts17_any n ⟨xp, xi, xs, xh, xl⟩ p (by omega) A6 c6 m (by omega) t1 t3 hzw hmh t5 t8 u (hRm.on hb) (hK5.call (chain BV hb)) (hU5.call (chain BV hb))
        have fY := txt_size t1 t2 hyw hTh t4 t7
        have fZ := txt_size t1 t3 hzw hmh t5 t8
        rw [hTl] at tY fY
        rw [hml] at tZ fZ
        rw [hTl] at hi
        generalize txtN n ⟨yp, yi, ys, yh, yl⟩ p T = F at *
        generalize txtN n ⟨xp, xi, xs, xh, xl⟩ p m = G at *
        have hKv := fun u (hb : Below V.heap.size V u) => hK5.call (chain BV hb)
        have hfin := fun u (hb : Below V.heap.size V u) => (K5.call (chain BV hb)).below
        clear t2 t3 t4 t5 t6 t7 t8
        go_upto_region 19 with fail
        have c0 := chain b3 (Below.refl w12.heap.size w12).drew
        refine wp_region_held_drew (S := fun u => ((u.cell? ⟨gh, 0, none⟩ = some (.bool yp) ∧ u.cell? ⟨gh, 1, none⟩ = some (.string yi) ∧ u.cell? ⟨gh, 2, none⟩ = some (.string ys) ∧ u.cell? ⟨gh, 3, none⟩ = some (.int .u64 yh) ∧ u.cell? ⟨gh, 4, none⟩ = some (.int .u64 yl) ∧ u.cell? ⟨gh, 5, none⟩ = some (.int .u64 p) ∧ u.cell? ⟨gh, 6, none⟩ = some (.slice A5 k c5)) ∧ gh < u.heap.size) ∧ ((u.cell? ⟨gm, 0, none⟩ = some (.bool xp) ∧ u.cell? ⟨gm, 1, none⟩ = some (.string xi) ∧ u.cell? ⟨gm, 2, none⟩ = some (.string xs) ∧ u.cell? ⟨gm, 3, none⟩ = some (.int .u64 xh) ∧ u.cell? ⟨gm, 4, none⟩ = some (.int .u64 xl) ∧ u.cell? ⟨gm, 5, none⟩ = some (.int .u64 p) ∧ u.cell? ⟨gm, 6, none⟩ = some (.slice A6 k c6)) ∧ gm < u.heap.size)) (by kernel_rfl) (hS _ c0) (fun hHeld => ?_)
        generalize World.drew w12 = Ve at *
        refine wpAnyH_take (i := 0) (v := ?_) rfl (by kernel_rfl) (by kernel_rfl) (by kernel_rfl) (fun _ _ _ h => h) (Or.inl ⟨by rfl, ?_⟩) (by assumption) ?_
        rotate_left 1
        · intro w hSw; (try dsimp only at hSw); go_simp; try with_reducible rfl
        try simp only [Act.put, List.getElem_toArray, List.getElem_cons_succ, List.getElem_cons_zero, List.setIfInBounds_toArray, List.set_cons_zero, List.set_cons_succ]
        refine wpAnyH_take (i := 1) (v := ?_) rfl (by kernel_rfl) (by kernel_rfl) (by kernel_rfl) (fun _ _ _ h => h) (Or.inl ⟨by rfl, ?_⟩) (by assumption) ?_
        rotate_left 1
        · intro w hSw; (try dsimp only at hSw); go_simp; try with_reducible rfl
        try simp only [Act.put, List.getElem_toArray, List.getElem_cons_succ, List.getElem_cons_zero, List.setIfInBounds_toArray, List.set_cons_zero, List.set_cons_succ]
        refine wpAnyH_take (i := 3) (v := ?_) rfl (by kernel_rfl) (by kernel_rfl) (by kernel_rfl) (fun _ _ _ h => h) (Or.inl ⟨by rfl, ?_⟩) (by assumption) ?_
        rotate_left 1
        · intro w hSw; (try dsimp only at hSw); go_simp; try with_reducible rfl
        try simp only [Act.put, List.getElem_toArray, List.getElem_cons_succ, List.getElem_cons_zero, List.setIfInBounds_toArray, List.set_cons_zero, List.set_cons_succ]
        refine wpAnyH_take (i := 4) (v := ?_) rfl (by kernel_rfl) (by kernel_rfl) (by kernel_rfl) (fun _ _ _ h => h) (Or.inl ⟨by rfl, ?_⟩) (by assumption) ?_
        rotate_left 1
        · intro w hSw; (try dsimp only at hSw); go_simp; try with_reducible rfl
        try simp only [Act.put, List.getElem_toArray, List.getElem_cons_succ, List.getElem_cons_zero, List.setIfInBounds_toArray, List.set_cons_zero, List.set_cons_succ]
        refine wpAnyH_ready (rs := [2]) (by kernel_rfl) (by simp) (AllReadyH.cons rfl (fun K hK => ?_) AllReadyH.nil)
        go_simp
        go_at_call 26
        refine (tY _ c0).mono ?_
        rintro e w13 ⟨b13, A8, c8, rfl, hr8⟩
        have c1 := chain c0 b13
        try simp only []
        refine hK.out _ _ (hS _ c1) (fun hHeld => ?_)
        clear hK K
        try simp only [Act.put, List.getElem_toArray, List.getElem_cons_succ, List.getElem_cons_zero, List.setIfInBounds_toArray, List.set_cons_zero, List.set_cons_succ]
        refine wpAnyH_ready (rs := [5]) (by kernel_rfl) (by simp) (AllReadyH.cons rfl (fun K hK => ?_) AllReadyH.nil)
        go_simp
        go_at_call 26
        refine (tZ _ c1).mono ?_
        rintro e w14 ⟨b14, A9, c9, rfl, hr9⟩
        have c2 := chain c1 b14
        try simp only []
        refine hK.out _ _ (hS _ c2) (fun hHeld => ?_)
        clear hK K
        try simp only [Act.put, List.getElem_toArray, List.getElem_cons_succ, List.getElem_cons_zero, List.setIfInBounds_toArray, List.set_cons_zero, List.set_cons_succ]
        refine wpAnyH_take (i := 6) (v := ?_) rfl (by kernel_rfl) (by kernel_rfl) (by kernel_rfl) (fun _ _ _ h => h) (Or.inl ⟨by rfl, ?_⟩) (by assumption) ?_
        rotate_left 1
        · intro w hSw; (try dsimp only at hSw); go_simp; try with_reducible rfl
        try simp only [Act.put, List.getElem_toArray, List.getElem_cons_succ, List.getElem_cons_zero, List.setIfInBounds_toArray, List.set_cons_zero, List.set_cons_succ]
        refine wpAnyH_take (i := 7) (v := ?_) rfl (by kernel_rfl) (by kernel_rfl) (by kernel_rfl) (fun _ _ _ h => h) (Or.inl ⟨by rfl, ?_⟩) (by assumption) ?_
        rotate_left 1
        · intro w hSw; (try dsimp only at hSw); go_simp; try with_reducible rfl
        try simp only [Act.put, List.getElem_toArray, List.getElem_cons_succ, List.getElem_cons_zero, List.setIfInBounds_toArray, List.set_cons_zero, List.set_cons_succ]
        refine wpAnyH_done (by kernel_rfl) ?_ _
        have hr8 := hr8.on b14
        obtain ⟨K1, hK1⟩ : ∃ K1, k + 1 = K1 := ⟨_, rfl⟩
        rw [hK1] at hr8 hr9 ⊢
        clear tY tZ hS b13 b14 c0 c1 BV BM hRm hRT
        go_wp2
        go_loopg [21] K1 (fun gk s21 wr => ∃ i : Nat, i ≤ K1 ∧ K1 - i ≤ gk ∧ s21 = .int .i64 i ∧ (∀ j, j < i → F j ≠ G j → dgB n (F j) ≠ dgB n (G j)) ∧ Below w14.heap.size w14 wr)
        case atStart => exact ⟨0, Nat.zero_le _, by omega, rfl, fun j hj => absurd hj (Nat.not_lt_zero _), Below.refl _ _⟩
        case round =>
          obtain ⟨v, hv, hgk, rfl, hall, hb⟩ := hrel
          have HG := hideIt hgk
          have HA := hideIt hall
          clear hgk hall
          by_cases hlt : v < K1
          · have hvi : (v : Int) < (K1 : Int) := by omega
            obtain ⟨P, hP⟩ : ∃ P, F v = P := ⟨_, rfl⟩
            obtain ⟨Q, hQ⟩ : ∃ Q, G v = Q := ⟨_, rfl⟩
            have hPa : ((List.range K1).map F)[v]? = some P := by rw [List.getElem?_map, List.getElem?_range hlt, ← hP]; rfl
            have hQa : ((List.range K1).map G)[v]? = some Q := by rw [List.getElem?_map, List.getElem?_range hlt, ← hQ]; rfl
            have sP := fY v (by omega)
            have sQ := fZ v (by omega)
            rw [hP] at sP
            rw [hQ] at sQ
            have cP := fun u (hb' : Below V.heap.size V u) => digestT_any n P (by omega) u (hKv u hb')
            have cQ := fun u (hb' : Below V.heap.size V u) => digestT_any n Q (by omega) u (hKv u hb')
            obtain ⟨ada, rfl, -, -⟩ := t_get (hr8.on hb) hPa
            obtain ⟨adb, rfl, -, -⟩ := t_get (hr9.on hb) hQa
            have hb2 := chain c2 hb
            have hS : ∀ u, Below wr.heap.size wr u → (u.cell? (ada.add v) = some (.string P) ∧ (ada.add v).block < u.heap.size) ∧ (u.cell? (adb.add v) = some (.string Q) ∧ (adb.add v).block < u.heap.size) := fun u hu => by
              obtain ⟨a1, e1, q1, q2⟩ := t_get ((hr8.on hb).on hu) hPa
              obtain ⟨a2, e2, q3, q4⟩ := t_get ((hr9.on hb).on hu) hQa
              injection e1 with e1
              injection e2 with e2
              subst e1 e2
              exact ⟨⟨q2, q1⟩, q4, q3⟩
            have HP := hideIt hP
            have HQ := hideIt hQ
            clear hP hQ hPa hQa
            go_upto_region 23 with fail
            have d0 := (Below.refl wr.heap.size wr).drew
            refine wp_region_held_drew (S := fun u => (u.cell? (ada.add v) = some (.string P) ∧ (ada.add v).block < u.heap.size) ∧ (u.cell? (adb.add v) = some (.string Q) ∧ (adb.add v).block < u.heap.size)) (by kernel_rfl) (hS _ d0) (fun hHeld => ?_)
            generalize wr.drew = Vg at *
            by_cases hPQ : P = Q
            · have tne : (P.toList == Q.toList) = true := by rw [hPQ]; simp
              refine wpAnyH_take (i := 0) (v := ?_) rfl (by kernel_rfl) (by kernel_rfl) (by kernel_rfl) (fun _ _ _ h => h) (Or.inl ⟨by rfl, ?_⟩) (by assumption) ?_
              rotate_left 1
              · intro w hSw; (try dsimp only at hSw); go_simp; try with_reducible rfl
              try simp only [Act.put, List.getElem_toArray, List.getElem_cons_succ, List.getElem_cons_zero, List.setIfInBounds_toArray, List.set_cons_zero, List.set_cons_succ]
              refine wpAnyH_take (i := 1) (v := ?_) rfl (by kernel_rfl) (by kernel_rfl) (by kernel_rfl) (fun _ _ _ h => h) (Or.inl ⟨by rfl, ?_⟩) (by assumption) ?_
              rotate_left 1
              · intro w hSw; (try dsimp only at hSw); go_simp; try with_reducible rfl
              try simp only [Act.put, List.getElem_toArray, List.getElem_cons_succ, List.getElem_cons_zero, List.setIfInBounds_toArray, List.set_cons_zero, List.set_cons_succ]
              refine wpAnyH_take (i := 2) (v := ?_) rfl (by kernel_rfl) (by kernel_rfl) (by kernel_rfl) (fun _ _ _ h => h) (Or.inl ⟨by rfl, ?_⟩) (by assumption) ?_
              rotate_left 1
              · intro w hSw; (try dsimp only at hSw); go_simp; try with_reducible rfl
              try simp only [Act.put, List.getElem_toArray, List.getElem_cons_succ, List.getElem_cons_zero, List.setIfInBounds_toArray, List.set_cons_zero, List.set_cons_succ]
              refine wpAnyH_take (i := 3) (v := ?_) rfl (by kernel_rfl) (by kernel_rfl) (by kernel_rfl) (fun _ _ _ h => h) (Or.inl ⟨by rfl, ?_⟩) (by assumption) ?_
              rotate_left 1
              · intro w hSw; (try dsimp only at hSw); go_simp; try with_reducible rfl
              try simp only [Act.put, List.getElem_toArray, List.getElem_cons_succ, List.getElem_cons_zero, List.setIfInBounds_toArray, List.set_cons_zero, List.set_cons_succ]
              refine wpAnyH_take (i := 4) (v := ?_) rfl (by kernel_rfl) (by kernel_rfl) (by kernel_rfl) (fun _ _ _ h => h) (Or.inl ⟨by rfl, ?_⟩) (by assumption) ?_
              rotate_left 1
              · intro w hSw; (try dsimp only at hSw); go_simp; try with_reducible rfl
              try simp only [Act.put, List.getElem_toArray, List.getElem_cons_succ, List.getElem_cons_zero, List.setIfInBounds_toArray, List.set_cons_zero, List.set_cons_succ]
              refine wpAnyH_take (i := 5) (v := ?_) rfl (by kernel_rfl) (by kernel_rfl) (by kernel_rfl) (fun _ _ _ h => h) (Or.inl ⟨by rfl, ?_⟩) (by assumption) ?_
              rotate_left 1
              · intro w hSw; (try dsimp only at hSw); go_simp; try with_reducible rfl
              try simp only [Act.put, List.getElem_toArray, List.getElem_cons_succ, List.getElem_cons_zero, List.setIfInBounds_toArray, List.set_cons_zero, List.set_cons_succ]
              refine wpAnyH_take (i := 6) (v := ?_) rfl (by kernel_rfl) (by kernel_rfl) (by kernel_rfl) (fun _ _ _ h => h) (Or.inl ⟨by rfl, ?_⟩) (by assumption) ?_
              rotate_left 1
              · intro w hSw; (try dsimp only at hSw); go_simp; try with_reducible rfl
              try simp only [Act.put, List.getElem_toArray, List.getElem_cons_succ, List.getElem_cons_zero, List.setIfInBounds_toArray, List.set_cons_zero, List.set_cons_succ]
              refine wpAnyH_take (i := 7) (v := ?_) rfl (by kernel_rfl) (by kernel_rfl) (by kernel_rfl) (fun _ _ _ h => h) (Or.inl ⟨by rfl, ?_⟩) (by assumption) ?_
              rotate_left 1
              · intro w hSw; (try dsimp only at hSw); go_simp; try with_reducible rfl
              try simp only [Act.put, List.getElem_toArray, List.getElem_cons_succ, List.getElem_cons_zero, List.setIfInBounds_toArray, List.set_cons_zero, List.set_cons_succ]
              refine wpAnyH_take (i := 8) (v := ?_) rfl (by kernel_rfl) (by kernel_rfl) (by kernel_rfl) (fun _ _ _ h => h) (Or.inl ⟨by rfl, ?_⟩) (by assumption) ?_
              rotate_left 1
              · intro w hSw; (try dsimp only at hSw); go_simp; try with_reducible rfl
              try simp only [Act.put, List.getElem_toArray, List.getElem_cons_succ, List.getElem_cons_zero, List.setIfInBounds_toArray, List.set_cons_zero, List.set_cons_succ]
              refine wpAnyH_take (i := 9) (v := ?_) rfl (by kernel_rfl) (by kernel_rfl) (by kernel_rfl) (fun _ _ _ h => h) (Or.inl ⟨by rfl, ?_⟩) (by assumption) ?_
              rotate_left 1
              · intro w hSw; (try dsimp only at hSw); go_simp; try with_reducible rfl
              try simp only [Act.put, List.getElem_toArray, List.getElem_cons_succ, List.getElem_cons_zero, List.setIfInBounds_toArray, List.set_cons_zero, List.set_cons_succ]
              refine wpAnyH_take (i := 10) (v := undef) rfl (by kernel_rfl) (by kernel_rfl) (by kernel_rfl) (fun _ _ _ h => h) (Or.inr ⟨by rfl, rfl⟩) (by assumption) ?_
              try simp only [Act.put, List.getElem_toArray, List.getElem_cons_succ, List.getElem_cons_zero, List.setIfInBounds_toArray, List.set_cons_zero, List.set_cons_succ]
              refine wpAnyH_take (i := 11) (v := undef) rfl (by kernel_rfl) (by kernel_rfl) (by kernel_rfl) (fun _ _ _ h => h) (Or.inr ⟨by rfl, rfl⟩) (by assumption) ?_
              try simp only [Act.put, List.getElem_toArray, List.getElem_cons_succ, List.getElem_cons_zero, List.setIfInBounds_toArray, List.set_cons_zero, List.set_cons_succ]
              refine wpAnyH_take (i := 12) (v := undef) rfl (by kernel_rfl) (by kernel_rfl) (by kernel_rfl) (fun _ _ _ h => h) (Or.inr ⟨by rfl, rfl⟩) (by assumption) ?_
              try simp only [Act.put, List.getElem_toArray, List.getElem_cons_succ, List.getElem_cons_zero, List.setIfInBounds_toArray, List.set_cons_zero, List.set_cons_succ]
              refine wpAnyH_take (i := 13) (v := undef) rfl (by kernel_rfl) (by kernel_rfl) (by kernel_rfl) (fun _ _ _ h => h) (Or.inr ⟨by rfl, rfl⟩) (by assumption) ?_
              try simp only [Act.put, List.getElem_toArray, List.getElem_cons_succ, List.getElem_cons_zero, List.setIfInBounds_toArray, List.set_cons_zero, List.set_cons_succ]
              refine wpAnyH_take (i := 14) (v := undef) rfl (by kernel_rfl) (by kernel_rfl) (by kernel_rfl) (fun _ _ _ h => h) (Or.inr ⟨by rfl, rfl⟩) (by assumption) ?_
              try simp only [Act.put, List.getElem_toArray, List.getElem_cons_succ, List.getElem_cons_zero, List.setIfInBounds_toArray, List.set_cons_zero, List.set_cons_succ]
              refine wpAnyH_take (i := 15) (v := undef) rfl (by kernel_rfl) (by kernel_rfl) (by kernel_rfl) (fun _ _ _ h => h) (Or.inr ⟨by rfl, rfl⟩) (by assumption) ?_
              try simp only [Act.put, List.getElem_toArray, List.getElem_cons_succ, List.getElem_cons_zero, List.setIfInBounds_toArray, List.set_cons_zero, List.set_cons_succ]
              refine wpAnyH_take (i := 16) (v := undef) rfl (by kernel_rfl) (by kernel_rfl) (by kernel_rfl) (fun _ _ _ h => h) (Or.inr ⟨by rfl, rfl⟩) (by assumption) ?_
              try simp only [Act.put, List.getElem_toArray, List.getElem_cons_succ, List.getElem_cons_zero, List.setIfInBounds_toArray, List.set_cons_zero, List.set_cons_succ]
              refine wpAnyH_take (i := 17) (v := undef) rfl (by kernel_rfl) (by kernel_rfl) (by kernel_rfl) (fun _ _ _ h => h) (Or.inr ⟨by rfl, rfl⟩) (by assumption) ?_
              try simp only [Act.put, List.getElem_toArray, List.getElem_cons_succ, List.getElem_cons_zero, List.setIfInBounds_toArray, List.set_cons_zero, List.set_cons_succ]
              refine wpAnyH_take (i := 18) (v := undef) rfl (by kernel_rfl) (by kernel_rfl) (by kernel_rfl) (fun _ _ _ h => h) (Or.inr ⟨by rfl, rfl⟩) (by assumption) ?_
              try simp only [Act.put, List.getElem_toArray, List.getElem_cons_succ, List.getElem_cons_zero, List.setIfInBounds_toArray, List.set_cons_zero, List.set_cons_succ]
              refine wpAnyH_take (i := 19) (v := undef) rfl (by kernel_rfl) (by kernel_rfl) (by kernel_rfl) (fun _ _ _ h => h) (Or.inr ⟨by rfl, rfl⟩) (by assumption) ?_
              try simp only [Act.put, List.getElem_toArray, List.getElem_cons_succ, List.getElem_cons_zero, List.setIfInBounds_toArray, List.set_cons_zero, List.set_cons_succ]
              refine wpAnyH_take (i := 20) (v := undef) rfl (by kernel_rfl) (by kernel_rfl) (by kernel_rfl) (fun _ _ _ h => h) (Or.inr ⟨by rfl, rfl⟩) (by assumption) ?_
              try simp only [Act.put, List.getElem_toArray, List.getElem_cons_succ, List.getElem_cons_zero, List.setIfInBounds_toArray, List.set_cons_zero, List.set_cons_succ]
              refine wpAnyH_take (i := 21) (v := undef) rfl (by kernel_rfl) (by kernel_rfl) (by kernel_rfl) (fun _ _ _ h => h) (Or.inr ⟨by rfl, rfl⟩) (by assumption) ?_
              try simp only [Act.put, List.getElem_toArray, List.getElem_cons_succ, List.getElem_cons_zero, List.setIfInBounds_toArray, List.set_cons_zero, List.set_cons_succ]
              refine wpAnyH_take (i := 22) (v := undef) rfl (by kernel_rfl) (by kernel_rfl) (by kernel_rfl) (fun _ _ _ h => h) (Or.inr ⟨by rfl, rfl⟩) (by assumption) ?_
              try simp only [Act.put, List.getElem_toArray, List.getElem_cons_succ, List.getElem_cons_zero, List.setIfInBounds_toArray, List.set_cons_zero, List.set_cons_succ]
              refine wpAnyH_take (i := 23) (v := ?_) rfl (by kernel_rfl) (by kernel_rfl) (by kernel_rfl) (fun _ _ _ h => h) (Or.inl ⟨by rfl, ?_⟩) (by assumption) ?_
              rotate_left 1
              · intro w hSw; (try dsimp only at hSw); go_simp; try with_reducible rfl
              try simp only [Act.put, List.getElem_toArray, List.getElem_cons_succ, List.getElem_cons_zero, List.setIfInBounds_toArray, List.set_cons_zero, List.set_cons_succ]
              refine wpAnyH_done (by kernel_rfl) ?_ _
              go_wp2
              go_roundg (K1 - (v + 1))
              case measure => have := HG.out; omega
              case rel => exact ⟨v + 1, by omega, Nat.le_refl _, by go_num, fun j hj h1 => by
                  by_cases e : j = v
                  · rw [e, HP.out, HQ.out] at h1; exact absurd hPQ h1
                  · exact HA.out j (by omega) h1, chain hb d0⟩
            · have tne : (P.toList == Q.toList) = false := by rw [same_str7]; exact decide_eq_false hPQ
              obtain ⟨dP, hdP⟩ : ∃ d, dgB n P = d := ⟨_, rfl⟩
              obtain ⟨dQ, hdQ⟩ : ∃ d, dgB n Q = d := ⟨_, rfl⟩
              rw [hdP] at cP
              rw [hdQ] at cQ
              have HDP := hideIt hdP
              have HDQ := hideIt hdQ
              clear hdP hdQ
              refine wpAnyH_take (i := 0) (v := ?_) rfl (by kernel_rfl) (by kernel_rfl) (by kernel_rfl) (fun _ _ _ h => h) (Or.inl ⟨by rfl, ?_⟩) (by assumption) ?_
              rotate_left 1
              · intro w hSw; (try dsimp only at hSw); go_simp; try with_reducible rfl
              try simp only [Act.put, List.getElem_toArray, List.getElem_cons_succ, List.getElem_cons_zero, List.setIfInBounds_toArray, List.set_cons_zero, List.set_cons_succ]
              refine wpAnyH_take (i := 1) (v := ?_) rfl (by kernel_rfl) (by kernel_rfl) (by kernel_rfl) (fun _ _ _ h => h) (Or.inl ⟨by rfl, ?_⟩) (by assumption) ?_
              rotate_left 1
              · intro w hSw; (try dsimp only at hSw); go_simp; try with_reducible rfl
              try simp only [Act.put, List.getElem_toArray, List.getElem_cons_succ, List.getElem_cons_zero, List.setIfInBounds_toArray, List.set_cons_zero, List.set_cons_succ]
              refine wpAnyH_take (i := 2) (v := ?_) rfl (by kernel_rfl) (by kernel_rfl) (by kernel_rfl) (fun _ _ _ h => h) (Or.inl ⟨by rfl, ?_⟩) (by assumption) ?_
              rotate_left 1
              · intro w hSw; (try dsimp only at hSw); go_simp; try with_reducible rfl
              try simp only [Act.put, List.getElem_toArray, List.getElem_cons_succ, List.getElem_cons_zero, List.setIfInBounds_toArray, List.set_cons_zero, List.set_cons_succ]
              refine wpAnyH_take (i := 3) (v := ?_) rfl (by kernel_rfl) (by kernel_rfl) (by kernel_rfl) (fun _ _ _ h => h) (Or.inl ⟨by rfl, ?_⟩) (by assumption) ?_
              rotate_left 1
              · intro w hSw; (try dsimp only at hSw); go_simp; try with_reducible rfl
              try simp only [Act.put, List.getElem_toArray, List.getElem_cons_succ, List.getElem_cons_zero, List.setIfInBounds_toArray, List.set_cons_zero, List.set_cons_succ]
              refine wpAnyH_take (i := 4) (v := ?_) rfl (by kernel_rfl) (by kernel_rfl) (by kernel_rfl) (fun _ _ _ h => h) (Or.inl ⟨by rfl, ?_⟩) (by assumption) ?_
              rotate_left 1
              · intro w hSw; (try dsimp only at hSw); go_simp; try with_reducible rfl
              try simp only [Act.put, List.getElem_toArray, List.getElem_cons_succ, List.getElem_cons_zero, List.setIfInBounds_toArray, List.set_cons_zero, List.set_cons_succ]
              refine wpAnyH_take (i := 5) (v := ?_) rfl (by kernel_rfl) (by kernel_rfl) (by kernel_rfl) (fun _ _ _ h => h) (Or.inl ⟨by rfl, ?_⟩) (by assumption) ?_
              rotate_left 1
              · intro w hSw; (try dsimp only at hSw); go_simp; try with_reducible rfl
              try simp only [Act.put, List.getElem_toArray, List.getElem_cons_succ, List.getElem_cons_zero, List.setIfInBounds_toArray, List.set_cons_zero, List.set_cons_succ]
              refine wpAnyH_take (i := 6) (v := ?_) rfl (by kernel_rfl) (by kernel_rfl) (by kernel_rfl) (fun _ _ _ h => h) (Or.inl ⟨by rfl, ?_⟩) (by assumption) ?_
              rotate_left 1
              · intro w hSw; (try dsimp only at hSw); go_simp; try with_reducible rfl
              try simp only [Act.put, List.getElem_toArray, List.getElem_cons_succ, List.getElem_cons_zero, List.setIfInBounds_toArray, List.set_cons_zero, List.set_cons_succ]
              refine wpAnyH_take (i := 7) (v := ?_) rfl (by kernel_rfl) (by kernel_rfl) (by kernel_rfl) (fun _ _ _ h => h) (Or.inl ⟨by rfl, ?_⟩) (by assumption) ?_
              rotate_left 1
              · intro w hSw; (try dsimp only at hSw); go_simp; try with_reducible rfl
              try simp only [Act.put, List.getElem_toArray, List.getElem_cons_succ, List.getElem_cons_zero, List.setIfInBounds_toArray, List.set_cons_zero, List.set_cons_succ]
              refine wpAnyH_take (i := 8) (v := ?_) rfl (by kernel_rfl) (by kernel_rfl) (by kernel_rfl) (fun _ _ _ h => h) (Or.inl ⟨by rfl, ?_⟩) (by assumption) ?_
              rotate_left 1
              · intro w hSw; (try dsimp only at hSw); go_simp; try with_reducible rfl
              try simp only [Act.put, List.getElem_toArray, List.getElem_cons_succ, List.getElem_cons_zero, List.setIfInBounds_toArray, List.set_cons_zero, List.set_cons_succ]
              refine wpAnyH_take (i := 9) (v := ?_) rfl (by kernel_rfl) (by kernel_rfl) (by kernel_rfl) (fun _ _ _ h => h) (Or.inl ⟨by rfl, ?_⟩) (by assumption) ?_
              rotate_left 1
              · intro w hSw; (try dsimp only at hSw); go_simp; try with_reducible rfl
              try simp only [Act.put, List.getElem_toArray, List.getElem_cons_succ, List.getElem_cons_zero, List.setIfInBounds_toArray, List.set_cons_zero, List.set_cons_succ]
              refine wpAnyH_take (i := 10) (v := ?_) rfl (by kernel_rfl) (by kernel_rfl) (by kernel_rfl) (fun _ _ _ h => h) (Or.inl ⟨by rfl, ?_⟩) (by assumption) ?_
              rotate_left 1
              · intro w hSw; (try dsimp only at hSw); go_simp; try with_reducible rfl
              try simp only [Act.put, List.getElem_toArray, List.getElem_cons_succ, List.getElem_cons_zero, List.setIfInBounds_toArray, List.set_cons_zero, List.set_cons_succ]
              refine wpAnyH_take (i := 11) (v := ?_) rfl (by kernel_rfl) (by kernel_rfl) (by kernel_rfl) (fun _ _ _ h => h) (Or.inl ⟨by rfl, ?_⟩) (by assumption) ?_
              rotate_left 1
              · intro w hSw; (try dsimp only at hSw); go_simp; try with_reducible rfl
              try simp only [Act.put, List.getElem_toArray, List.getElem_cons_succ, List.getElem_cons_zero, List.setIfInBounds_toArray, List.set_cons_zero, List.set_cons_succ]
              refine wpAnyH_take (i := 12) (v := ?_) rfl (by kernel_rfl) (by kernel_rfl) (by kernel_rfl) (fun _ _ _ h => h) (Or.inl ⟨by rfl, ?_⟩) (by assumption) ?_
              rotate_left 1
              · intro w hSw; (try dsimp only at hSw); go_simp; try with_reducible rfl
              try simp only [Act.put, List.getElem_toArray, List.getElem_cons_succ, List.getElem_cons_zero, List.setIfInBounds_toArray, List.set_cons_zero, List.set_cons_succ]
              refine wpAnyH_take (i := 13) (v := ?_) rfl (by kernel_rfl) (by kernel_rfl) (by kernel_rfl) (fun _ _ _ h => h) (Or.inl ⟨by rfl, ?_⟩) (by assumption) ?_
              rotate_left 1
              · intro w hSw; (try dsimp only at hSw); go_simp; try with_reducible rfl
              try simp only [Act.put, List.getElem_toArray, List.getElem_cons_succ, List.getElem_cons_zero, List.setIfInBounds_toArray, List.set_cons_zero, List.set_cons_succ]
              refine wpAnyH_take (i := 14) (v := ?_) rfl (by kernel_rfl) (by kernel_rfl) (by kernel_rfl) (fun _ _ _ h => h) (Or.inl ⟨by rfl, ?_⟩) (by assumption) ?_
              rotate_left 1
              · intro w hSw; (try dsimp only at hSw); go_simp; try with_reducible rfl
              try simp only [Act.put, List.getElem_toArray, List.getElem_cons_succ, List.getElem_cons_zero, List.setIfInBounds_toArray, List.set_cons_zero, List.set_cons_succ]
              refine wpAnyH_take (i := 16) (v := ?_) rfl (by kernel_rfl) (by kernel_rfl) (by kernel_rfl) (fun _ _ _ h => h) (Or.inl ⟨by rfl, ?_⟩) (by assumption) ?_
              rotate_left 1
              · intro w hSw; (try dsimp only at hSw); go_simp; try with_reducible rfl
              try simp only [Act.put, List.getElem_toArray, List.getElem_cons_succ, List.getElem_cons_zero, List.setIfInBounds_toArray, List.set_cons_zero, List.set_cons_succ]
              refine wpAnyH_take (i := 17) (v := ?_) rfl (by kernel_rfl) (by kernel_rfl) (by kernel_rfl) (fun _ _ _ h => h) (Or.inl ⟨by rfl, ?_⟩) (by assumption) ?_
              rotate_left 1
              · intro w hSw; (try dsimp only at hSw); go_simp; try with_reducible rfl
              try simp only [Act.put, List.getElem_toArray, List.getElem_cons_succ, List.getElem_cons_zero, List.setIfInBounds_toArray, List.set_cons_zero, List.set_cons_succ]
              refine wpAnyH_take (i := 18) (v := ?_) rfl (by kernel_rfl) (by kernel_rfl) (by kernel_rfl) (fun _ _ _ h => h) (Or.inl ⟨by rfl, ?_⟩) (by assumption) ?_
              rotate_left 1
              · intro w hSw; (try dsimp only at hSw); go_simp; try with_reducible rfl
              try simp only [Act.put, List.getElem_toArray, List.getElem_cons_succ, List.getElem_cons_zero, List.setIfInBounds_toArray, List.set_cons_zero, List.set_cons_succ]
              refine wpAnyH_take (i := 19) (v := ?_) rfl (by kernel_rfl) (by kernel_rfl) (by kernel_rfl) (fun _ _ _ h => h) (Or.inl ⟨by rfl, ?_⟩) (by assumption) ?_
              rotate_left 1
              · intro w hSw; (try dsimp only at hSw); go_simp; try with_reducible rfl
              try simp only [Act.put, List.getElem_toArray, List.getElem_cons_succ, List.getElem_cons_zero, List.setIfInBounds_toArray, List.set_cons_zero, List.set_cons_succ]
              refine wpAnyH_take (i := 20) (v := ?_) rfl (by kernel_rfl) (by kernel_rfl) (by kernel_rfl) (fun _ _ _ h => h) (Or.inl ⟨by rfl, ?_⟩) (by assumption) ?_
              rotate_left 1
              · intro w hSw; (try dsimp only at hSw); go_simp; try with_reducible rfl
              try simp only [Act.put, List.getElem_toArray, List.getElem_cons_succ, List.getElem_cons_zero, List.setIfInBounds_toArray, List.set_cons_zero, List.set_cons_succ]
              refine wpAnyH_ready (rs := [15]) (by kernel_rfl) (by simp) (AllReadyH.cons rfl (fun K hK => ?_) AllReadyH.nil)
              go_simp
              go_at_call 27
              refine (cP _ (chain hb2 d0)).mono ?_
              rintro e w15 ⟨rfl, b15⟩
              have d1 := chain d0 b15
              try simp only []
              refine hK.out _ _ (hS _ d1) (fun hHeld => ?_)
              clear hK K
              try simp only [Act.put, List.getElem_toArray, List.getElem_cons_succ, List.getElem_cons_zero, List.setIfInBounds_toArray, List.set_cons_zero, List.set_cons_succ]
              refine wpAnyH_ready (rs := [21]) (by kernel_rfl) (by simp) (AllReadyH.cons rfl (fun K hK => ?_) AllReadyH.nil)
              go_simp
              go_at_call 27
              refine (cQ _ (chain hb2 d1)).mono ?_
              rintro e w16 ⟨rfl, b16⟩
              have d2 := chain d1 b16
              try simp only []
              refine hK.out _ _ (hS _ d2) (fun hHeld => ?_)
              clear hK K
              try simp only [Act.put, List.getElem_toArray, List.getElem_cons_succ, List.getElem_cons_zero, List.setIfInBounds_toArray, List.set_cons_zero, List.set_cons_succ]
              by_cases hdd : dP = dQ
              · have tne2 : (dP.toList == dQ.toList) = true := by rw [hdd]; simp
                refine wpAnyH_take (i := 22) (v := ?_) rfl (by kernel_rfl) (by kernel_rfl) (by kernel_rfl) (fun _ _ _ h => h) (Or.inl ⟨by rfl, ?_⟩) (by assumption) ?_
                rotate_left 1
                · intro w hSw; (try dsimp only at hSw); go_simp; try with_reducible rfl
                try simp only [Act.put, List.getElem_toArray, List.getElem_cons_succ, List.getElem_cons_zero, List.setIfInBounds_toArray, List.set_cons_zero, List.set_cons_succ]
                refine wpAnyH_take (i := 23) (v := ?_) rfl (by kernel_rfl) (by kernel_rfl) (by kernel_rfl) (fun _ _ _ h => h) (Or.inl ⟨by rfl, ?_⟩) (by assumption) ?_
                rotate_left 1
                · intro w hSw; (try dsimp only at hSw); go_simp; try with_reducible rfl
                try simp only [Act.put, List.getElem_toArray, List.getElem_cons_succ, List.getElem_cons_zero, List.setIfInBounds_toArray, List.set_cons_zero, List.set_cons_succ]
                refine wpAnyH_done (by kernel_rfl) ?_ _
                go_wp2
                go_ret
                exact ⟨rfl, by have := hfin _ (chain hb2 d2); first | exact this | (rw [← hgx]; exact this)⟩
              · have tne2 : (dP.toList == dQ.toList) = false := by rw [same_str7]; exact decide_eq_false hdd
                refine wpAnyH_take (i := 22) (v := ?_) rfl (by kernel_rfl) (by kernel_rfl) (by kernel_rfl) (fun _ _ _ h => h) (Or.inl ⟨by rfl, ?_⟩) (by assumption) ?_
                rotate_left 1
                · intro w hSw; (try dsimp only at hSw); go_simp; try with_reducible rfl
                try simp only [Act.put, List.getElem_toArray, List.getElem_cons_succ, List.getElem_cons_zero, List.setIfInBounds_toArray, List.set_cons_zero, List.set_cons_succ]
                refine wpAnyH_take (i := 23) (v := ?_) rfl (by kernel_rfl) (by kernel_rfl) (by kernel_rfl) (fun _ _ _ h => h) (Or.inl ⟨by rfl, ?_⟩) (by assumption) ?_
                rotate_left 1
                · intro w hSw; (try dsimp only at hSw); go_simp; try with_reducible rfl
                try simp only [Act.put, List.getElem_toArray, List.getElem_cons_succ, List.getElem_cons_zero, List.setIfInBounds_toArray, List.set_cons_zero, List.set_cons_succ]
                refine wpAnyH_done (by kernel_rfl) ?_ _
                go_wp2
                go_roundg (K1 - (v + 1))
                case measure => have := HG.out; omega
                case rel => exact ⟨v + 1, by omega, Nat.le_refl _, by go_num, fun j hj h1 => by
                    by_cases e : j = v
                    · rw [e, HP.out, HQ.out, HDP.out, HDQ.out]; exact hdd
                    · exact HA.out j (by omega) h1, chain hb d2⟩
          · exact absurd hdg (HA.out i (by omega) hne)
      · have q0 : (E != 0) = true := bne_iff_ne.2 hE0
        go_upto_region 18 with fail
        have c0 := chain b3 (Below.refl (w12).heap.size w12).drew
        refine wp_region_held_drew (S := fun u => ((u.cell? ⟨gh, 0, none⟩ = some (.bool yp) ∧ u.cell? ⟨gh, 1, none⟩ = some (.string yi) ∧ u.cell? ⟨gh, 2, none⟩ = some (.string ys) ∧ u.cell? ⟨gh, 3, none⟩ = some (.int .u64 yh) ∧ u.cell? ⟨gh, 4, none⟩ = some (.int .u64 yl) ∧ u.cell? ⟨gh, 5, none⟩ = some (.int .u64 p) ∧ u.cell? ⟨gh, 6, none⟩ = some (.slice A5 k c5)) ∧ gh < u.heap.size)) (by kernel_rfl) (hS _ c0).1 (fun hHeld => ?_)
        generalize World.drew w12 = Ve at *
        refine wpAnyH_take (i := 0) (v := ?_) rfl (by kernel_rfl) (by kernel_rfl) (by kernel_rfl) (fun _ _ _ h => h) (Or.inl ⟨by rfl, ?_⟩) (by assumption) ?_
        rotate_left 1
        · intro w hSw; (try dsimp only at hSw); go_simp; try with_reducible rfl
        try simp only [Act.put, List.getElem_toArray, List.getElem_cons_succ, List.getElem_cons_zero, List.setIfInBounds_toArray, List.set_cons_zero, List.set_cons_succ]
        refine wpAnyH_take (i := 2) (v := ?_) rfl (by kernel_rfl) (by kernel_rfl) (by kernel_rfl) (fun _ _ _ h => h) (Or.inl ⟨by rfl, ?_⟩) (by assumption) ?_
        rotate_left 1
        · intro w hSw; (try dsimp only at hSw); go_simp; try with_reducible rfl
        try simp only [Act.put, List.getElem_toArray, List.getElem_cons_succ, List.getElem_cons_zero, List.setIfInBounds_toArray, List.set_cons_zero, List.set_cons_succ]
        refine wpAnyH_ready (rs := [1]) (by kernel_rfl) (by simp) (AllReadyH.cons rfl (fun K hK => ?_) AllReadyH.nil)
        go_simp
        go_at_call 21
        refine (cR _ c0).mono ?_
        rintro e w13 ⟨rfl, b13⟩
        have c1 := chain c0 b13
        try simp only []
        refine hK.out _ _ ((hS _ c1).1) (fun hHeld => ?_)
        clear hK K
        try simp only [Act.put, List.getElem_toArray, List.getElem_cons_succ, List.getElem_cons_zero, List.setIfInBounds_toArray, List.set_cons_zero, List.set_cons_succ]
        refine wpAnyH_ready (rs := [3]) (by kernel_rfl) (by simp) (AllReadyH.cons rfl (fun K hK => ?_) AllReadyH.nil)
        go_simp
        go_at_call 13
        refine (cY _ c1).mono ?_
        rintro e w14 ⟨rfl, b14⟩
        have c2 := chain c1 b14
        try simp only []
        refine hK.out _ _ ((hS _ c2).1) (fun hHeld => ?_)
        clear hK K
        try simp only [Act.put, List.getElem_toArray, List.getElem_cons_succ, List.getElem_cons_zero, List.setIfInBounds_toArray, List.set_cons_zero, List.set_cons_succ]
        refine wpAnyH_take (i := 4) (v := ?_) rfl (by kernel_rfl) (by kernel_rfl) (by kernel_rfl) (fun _ _ _ h => h) (Or.inl ⟨by rfl, ?_⟩) (by assumption) ?_
        rotate_left 1
        · intro w hSw; (try dsimp only at hSw); go_simp; try with_reducible rfl
        try simp only [Act.put, List.getElem_toArray, List.getElem_cons_succ, List.getElem_cons_zero, List.setIfInBounds_toArray, List.set_cons_zero, List.set_cons_succ]
        refine wpAnyH_take (i := 5) (v := ?_) rfl (by kernel_rfl) (by kernel_rfl) (by kernel_rfl) (fun _ _ _ h => h) (Or.inl ⟨by rfl, ?_⟩) (by assumption) ?_
        rotate_left 1
        · intro w hSw; (try dsimp only at hSw); go_simp; try with_reducible rfl
        try simp only [Act.put, List.getElem_toArray, List.getElem_cons_succ, List.getElem_cons_zero, List.setIfInBounds_toArray, List.set_cons_zero, List.set_cons_succ]
        refine wpAnyH_done (by kernel_rfl) ?_ _
        go_wp2
        go_ret
        exact ⟨rfl, by have := (K5.call (chain BV c2)).below; first | exact this | (rw [← hgx]; exact this)⟩
  · have hjlt : j < k := by omega
    have qj : (((j : Nat) : Int) == (k : Int)) = false := by simpa using (by omega : ¬ (j : Int) = (k : Int))
    have hji : (j : Int) < (k : Int) := by omega
    rcases hS8 with hS8 | ⟨g6, rfl, hg6, hTne, hB6⟩
    · exfalso; rw [hS8] at hTl; simp at hTl; omega
    have hg6b := hB6.inside
    obtain ⟨u, hu, i0, i1, i2⟩ := nd_there hB6 j (by omega)
    have if0 := hB6.free (j * 3)
    have if1 := hB6.free (j * 3 + 1)
    have if2 := hB6.free (j * 3 + 2)
    go_upto_region 17 with (first
      | (go_at_call 24; refine (cH _ b8).mono ?_; rintro e w9 ⟨rfl, rfl⟩)
      | fail)
    have oS := putN_off W8 g6 j ⟨ds, dh, dl⟩
    have hBs := nd_put hB6 j ⟨ds, dh, dl⟩ (by omega)
    have BV := M8.below.trans (oS.below (B := W5.heap.size) (fun i hi => by rw [show i = _ from hi]; omega) M8.below.size)
    have BM := oS.box (M8.box 0) (fun e => by have e := (show _ = _ from e); omega)
    clear oS m0 m1 m2 m3 m4 m5 m6 min mf0 mf1 mf2 mf3 mf4 mf5 mf6 x0 x1 x2 x3 x4 xin s0 s1 s2 sin K8 M8 b8 i0 i1 i2 if0 if1 if2 hB6 hu hg6b
    change Code.wp _ _ _ _ (putN W8 g6 j ⟨ds, dh, dl⟩)
    generalize putN W8 g6 j ⟨ds, dh, dl⟩ = V at *
    have hz1 : yi.size ≤ 1000000 ∧ ys.size ≤ 1000000 := ⟨by omega, by omega⟩
    have hzw : Word yh ∧ Word yl := hyw
    obtain ⟨m, hmT⟩ : ∃ m, T.set j ⟨ds, dh, dl⟩ = m := ⟨_, rfl⟩
    have hmh : ∀ z ∈ m, z.halved := by
      rw [← hmT]
      intro z hz
      rcases List.mem_or_eq_of_mem_set hz with h | h
      · exact hTh z h
      · rw [h]; exact HSD.out.2
    have hml : m.length = k := by rw [← hmT, List.length_set]; exact hTl
    have hRm := hBs.row
    rw [hmT] at hRm
    clear hmT hBs
    obtain ⟨A6, hA6⟩ : ∃ A, (some ⟨g6, 0, none⟩ : Option Addr) = A := ⟨_, rfl⟩
    rw [hA6] at BM hRm ⊢
    clear hA6
    have cS := fun u h1 h2 => same16_any ⟨yp, yi, ys, yh, yl⟩ ⟨yp, yi, ys, yh, yl⟩ p p A6 A5 c6 c5 m T (by omega) (by omega) u h1 h2
    have cZ := fun u (hb : Below V.heap.size V u) => check17_any R ⟨yp, yi, ys, yh, yl⟩ p (by omega) A6 c6 m (by omega) hz1 hzw hmh u (hRm.on hb) (hK5.call (chain BV hb)) (hU5.call (chain BV hb))
    have cY := fun u (hb : Below V.heap.size V u) => check17_any R ⟨yp, yi, ys, yh, yl⟩ p (by omega) A5 c5 T (by omega) ⟨by simp only; omega, by simp only; omega⟩ hyw hTh u (hRT.on (chain BV hb)) (hK5.call (chain BV hb)) (hU5.call (chain BV hb))
    have cR := fun u (hb : Below V.heap.size V u) => cR u (chain BV hb)
    rw [HH.out] at cY
    rw [hml, hTl] at cS
    rw [hml] at cZ
    rw [hTl] at cY
    have hor := fun h2 hne => spoilt_or (n := n) (x := ⟨yp, yi, ys, yh, yl⟩) (y := ⟨yp, yi, ys, yh, yl⟩) (p := p) (T := T) (m := m) (R := R) hTh hmh hyw hzw (by omega) hwid HH.out h2 hne
    have hsm := sameE_iff ⟨yp, yi, ys, yh, yl⟩ ⟨yp, yi, ys, yh, yl⟩ p m T
    obtain ⟨SM, hSM⟩ : ∃ S, sameE ⟨yp, yi, ys, yh, yl⟩ ⟨yp, yi, ys, yh, yl⟩ p p m T = S := ⟨_, rfl⟩
    rw [hSM] at cS hsm
    obtain ⟨E, hE⟩ : ∃ E, checkE R ⟨yp, yi, ys, yh, yl⟩ p m = E := ⟨_, rfl⟩
    rw [hE] at cZ hor
    clear hSM hE cH
    simp only [RtP.val] at cR cZ cY
    have HS := hideIt hsm
    have HO := hideIt hor
    clear hsm hor
    have hS : ∀ u, Below V.heap.size V u → ((u.cell? ⟨gh, 0, none⟩ = some (.bool yp) ∧ u.cell? ⟨gh, 1, none⟩ = some (.string yi) ∧ u.cell? ⟨gh, 2, none⟩ = some (.string ys) ∧ u.cell? ⟨gh, 3, none⟩ = some (.int .u64 yh) ∧ u.cell? ⟨gh, 4, none⟩ = some (.int .u64 yl) ∧ u.cell? ⟨gh, 5, none⟩ = some (.int .u64 p) ∧ u.cell? ⟨gh, 6, none⟩ = some (.slice A5 k c5)) ∧ gh < u.heap.size) ∧ ((u.cell? ⟨gm, 0, none⟩ = some (.bool yp) ∧ u.cell? ⟨gm, 1, none⟩ = some (.string yi) ∧ u.cell? ⟨gm, 2, none⟩ = some (.string ys) ∧ u.cell? ⟨gm, 3, none⟩ = some (.int .u64 yh) ∧ u.cell? ⟨gm, 4, none⟩ = some (.int .u64 yl) ∧ u.cell? ⟨gm, 5, none⟩ = some (.int .u64 p) ∧ u.cell? ⟨gm, 6, none⟩ = some (.slice A6 k c6)) ∧ gm < u.heap.size) := fun u hu => ⟨((K5.call (chain BV hu)).box 0).seven, (BM.call hu).seven⟩
    have b0 := (Below.refl V.heap.size V).drew
    refine wp_region_held_drew (S := fun u => ((u.cell? ⟨gh, 0, none⟩ = some (.bool yp) ∧ u.cell? ⟨gh, 1, none⟩ = some (.string yi) ∧ u.cell? ⟨gh, 2, none⟩ = some (.string ys) ∧ u.cell? ⟨gh, 3, none⟩ = some (.int .u64 yh) ∧ u.cell? ⟨gh, 4, none⟩ = some (.int .u64 yl) ∧ u.cell? ⟨gh, 5, none⟩ = some (.int .u64 p) ∧ u.cell? ⟨gh, 6, none⟩ = some (.slice A5 k c5)) ∧ gh < u.heap.size) ∧ ((u.cell? ⟨gm, 0, none⟩ = some (.bool yp) ∧ u.cell? ⟨gm, 1, none⟩ = some (.string yi) ∧ u.cell? ⟨gm, 2, none⟩ = some (.string ys) ∧ u.cell? ⟨gm, 3, none⟩ = some (.int .u64 yh) ∧ u.cell? ⟨gm, 4, none⟩ = some (.int .u64 yl) ∧ u.cell? ⟨gm, 5, none⟩ = some (.int .u64 p) ∧ u.cell? ⟨gm, 6, none⟩ = some (.slice A6 k c6)) ∧ gm < u.heap.size)) (by kernel_rfl) (hS _ b0) (fun hHeld => ?_)
    generalize V.drew = Vd at *
    cases SM with
    | true =>
      refine wpAnyH_take (i := 0) (v := ?_) rfl (by kernel_rfl) (by kernel_rfl) (by kernel_rfl) (fun _ _ _ h => h) (Or.inl ⟨by rfl, ?_⟩) (by assumption) ?_
      rotate_left 1
      · intro w hSw; (try dsimp only at hSw); go_simp; try with_reducible rfl
      try simp only [Act.put, List.getElem_toArray, List.getElem_cons_succ, List.getElem_cons_zero, List.setIfInBounds_toArray, List.set_cons_zero, List.set_cons_succ]
      refine wpAnyH_take (i := 1) (v := ?_) rfl (by kernel_rfl) (by kernel_rfl) (by kernel_rfl) (fun _ _ _ h => h) (Or.inl ⟨by rfl, ?_⟩) (by assumption) ?_
      rotate_left 1
      · intro w hSw; (try dsimp only at hSw); go_simp; try with_reducible rfl
      try simp only [Act.put, List.getElem_toArray, List.getElem_cons_succ, List.getElem_cons_zero, List.setIfInBounds_toArray, List.set_cons_zero, List.set_cons_succ]
      refine wpAnyH_ready (rs := [2]) (by kernel_rfl) (by simp) (AllReadyH.cons rfl (fun K hK => ?_) AllReadyH.nil)
      go_simp
      go_at_call 25
      refine (cS _ (hRm.on b0) (hRT.on (chain BV b0))).mono ?_
      rintro e w10 ⟨rfl, b10⟩
      have b1 := chain b0 b10
      try simp only []
      refine hK.out _ _ (hS _ b1) (fun hHeld => ?_)
      clear hK K
      try simp only [Act.put, List.getElem_toArray, List.getElem_cons_succ, List.getElem_cons_zero, List.setIfInBounds_toArray, List.set_cons_zero, List.set_cons_succ]
      refine wpAnyH_take (i := 3) (v := ?_) rfl (by kernel_rfl) (by kernel_rfl) (by kernel_rfl) (fun _ _ _ h => h) (Or.inl ⟨by rfl, ?_⟩) (by assumption) ?_
      rotate_left 1
      · intro w hSw; (try dsimp only at hSw); go_simp; try with_reducible rfl
      try simp only [Act.put, List.getElem_toArray, List.getElem_cons_succ, List.getElem_cons_zero, List.setIfInBounds_toArray, List.set_cons_zero, List.set_cons_succ]
      refine wpAnyH_take (i := 4) (v := undef) rfl (by kernel_rfl) (by kernel_rfl) (by kernel_rfl) (fun _ _ _ h => h) (Or.inr ⟨by rfl, rfl⟩) (by assumption) ?_
      try simp only [Act.put, List.getElem_toArray, List.getElem_cons_succ, List.getElem_cons_zero, List.setIfInBounds_toArray, List.set_cons_zero, List.set_cons_succ]
      refine wpAnyH_take (i := 5) (v := undef) rfl (by kernel_rfl) (by kernel_rfl) (by kernel_rfl) (fun _ _ _ h => h) (Or.inr ⟨by rfl, rfl⟩) (by assumption) ?_
      try simp only [Act.put, List.getElem_toArray, List.getElem_cons_succ, List.getElem_cons_zero, List.setIfInBounds_toArray, List.set_cons_zero, List.set_cons_succ]
      refine wpAnyH_take (i := 6) (v := undef) rfl (by kernel_rfl) (by kernel_rfl) (by kernel_rfl) (fun _ _ _ h => h) (Or.inr ⟨by rfl, rfl⟩) (by assumption) ?_
      try simp only [Act.put, List.getElem_toArray, List.getElem_cons_succ, List.getElem_cons_zero, List.setIfInBounds_toArray, List.set_cons_zero, List.set_cons_succ]
      refine wpAnyH_take (i := 7) (v := undef) rfl (by kernel_rfl) (by kernel_rfl) (by kernel_rfl) (fun _ _ _ h => h) (Or.inr ⟨by rfl, rfl⟩) (by assumption) ?_
      try simp only [Act.put, List.getElem_toArray, List.getElem_cons_succ, List.getElem_cons_zero, List.setIfInBounds_toArray, List.set_cons_zero, List.set_cons_succ]
      refine wpAnyH_take (i := 8) (v := undef) rfl (by kernel_rfl) (by kernel_rfl) (by kernel_rfl) (fun _ _ _ h => h) (Or.inr ⟨by rfl, rfl⟩) (by assumption) ?_
      try simp only [Act.put, List.getElem_toArray, List.getElem_cons_succ, List.getElem_cons_zero, List.setIfInBounds_toArray, List.set_cons_zero, List.set_cons_succ]
      refine wpAnyH_take (i := 9) (v := ?_) rfl (by kernel_rfl) (by kernel_rfl) (by kernel_rfl) (fun _ _ _ h => h) (Or.inl ⟨by rfl, ?_⟩) (by assumption) ?_
      rotate_left 1
      · intro w hSw; (try dsimp only at hSw); go_simp; try with_reducible rfl
      try simp only [Act.put, List.getElem_toArray, List.getElem_cons_succ, List.getElem_cons_zero, List.setIfInBounds_toArray, List.set_cons_zero, List.set_cons_succ]
      refine wpAnyH_done (by kernel_rfl) ?_ _
      go_upto_region 18 with fail
      have c0 := chain b1 (Below.refl (w10).heap.size w10).drew
      refine wp_region_held_drew (S := fun u => ((u.cell? ⟨gh, 0, none⟩ = some (.bool yp) ∧ u.cell? ⟨gh, 1, none⟩ = some (.string yi) ∧ u.cell? ⟨gh, 2, none⟩ = some (.string ys) ∧ u.cell? ⟨gh, 3, none⟩ = some (.int .u64 yh) ∧ u.cell? ⟨gh, 4, none⟩ = some (.int .u64 yl) ∧ u.cell? ⟨gh, 5, none⟩ = some (.int .u64 p) ∧ u.cell? ⟨gh, 6, none⟩ = some (.slice A5 k c5)) ∧ gh < u.heap.size)) (by kernel_rfl) (hS _ c0).1 (fun hHeld => ?_)
      generalize World.drew w10 = Ve at *
      refine wpAnyH_take (i := 0) (v := ?_) rfl (by kernel_rfl) (by kernel_rfl) (by kernel_rfl) (fun _ _ _ h => h) (Or.inl ⟨by rfl, ?_⟩) (by assumption) ?_
      rotate_left 1
      · intro w hSw; (try dsimp only at hSw); go_simp; try with_reducible rfl
      try simp only [Act.put, List.getElem_toArray, List.getElem_cons_succ, List.getElem_cons_zero, List.setIfInBounds_toArray, List.set_cons_zero, List.set_cons_succ]
      refine wpAnyH_take (i := 2) (v := ?_) rfl (by kernel_rfl) (by kernel_rfl) (by kernel_rfl) (fun _ _ _ h => h) (Or.inl ⟨by rfl, ?_⟩) (by assumption) ?_
      rotate_left 1
      · intro w hSw; (try dsimp only at hSw); go_simp; try with_reducible rfl
      try simp only [Act.put, List.getElem_toArray, List.getElem_cons_succ, List.getElem_cons_zero, List.setIfInBounds_toArray, List.set_cons_zero, List.set_cons_succ]
      refine wpAnyH_ready (rs := [1]) (by kernel_rfl) (by simp) (AllReadyH.cons rfl (fun K hK => ?_) AllReadyH.nil)
      go_simp
      go_at_call 21
      refine (cR _ c0).mono ?_
      rintro e w13 ⟨rfl, b13⟩
      have c1 := chain c0 b13
      try simp only []
      refine hK.out _ _ ((hS _ c1).1) (fun hHeld => ?_)
      clear hK K
      try simp only [Act.put, List.getElem_toArray, List.getElem_cons_succ, List.getElem_cons_zero, List.setIfInBounds_toArray, List.set_cons_zero, List.set_cons_succ]
      refine wpAnyH_ready (rs := [3]) (by kernel_rfl) (by simp) (AllReadyH.cons rfl (fun K hK => ?_) AllReadyH.nil)
      go_simp
      go_at_call 13
      refine (cY _ c1).mono ?_
      rintro e w14 ⟨rfl, b14⟩
      have c2 := chain c1 b14
      try simp only []
      refine hK.out _ _ ((hS _ c2).1) (fun hHeld => ?_)
      clear hK K
      try simp only [Act.put, List.getElem_toArray, List.getElem_cons_succ, List.getElem_cons_zero, List.setIfInBounds_toArray, List.set_cons_zero, List.set_cons_succ]
      refine wpAnyH_take (i := 4) (v := ?_) rfl (by kernel_rfl) (by kernel_rfl) (by kernel_rfl) (fun _ _ _ h => h) (Or.inl ⟨by rfl, ?_⟩) (by assumption) ?_
      rotate_left 1
      · intro w hSw; (try dsimp only at hSw); go_simp; try with_reducible rfl
      try simp only [Act.put, List.getElem_toArray, List.getElem_cons_succ, List.getElem_cons_zero, List.setIfInBounds_toArray, List.set_cons_zero, List.set_cons_succ]
      refine wpAnyH_take (i := 5) (v := ?_) rfl (by kernel_rfl) (by kernel_rfl) (by kernel_rfl) (fun _ _ _ h => h) (Or.inl ⟨by rfl, ?_⟩) (by assumption) ?_
      rotate_left 1
      · intro w hSw; (try dsimp only at hSw); go_simp; try with_reducible rfl
      try simp only [Act.put, List.getElem_toArray, List.getElem_cons_succ, List.getElem_cons_zero, List.setIfInBounds_toArray, List.set_cons_zero, List.set_cons_succ]
      refine wpAnyH_done (by kernel_rfl) ?_ _
      go_wp2
      go_ret
      exact ⟨rfl, by have := (K5.call (chain BV c2)).below; first | exact this | (rw [← hgx]; exact this)⟩
    | false =>
      refine wpAnyH_take (i := 0) (v := ?_) rfl (by kernel_rfl) (by kernel_rfl) (by kernel_rfl) (fun _ _ _ h => h) (Or.inl ⟨by rfl, ?_⟩) (by assumption) ?_
      rotate_left 1
      · intro w hSw; (try dsimp only at hSw); go_simp; try with_reducible rfl
      try simp only [Act.put, List.getElem_toArray, List.getElem_cons_succ, List.getElem_cons_zero, List.setIfInBounds_toArray, List.set_cons_zero, List.set_cons_succ]
      refine wpAnyH_take (i := 1) (v := ?_) rfl (by kernel_rfl) (by kernel_rfl) (by kernel_rfl) (fun _ _ _ h => h) (Or.inl ⟨by rfl, ?_⟩) (by assumption) ?_
      rotate_left 1
      · intro w hSw; (try dsimp only at hSw); go_simp; try with_reducible rfl
      try simp only [Act.put, List.getElem_toArray, List.getElem_cons_succ, List.getElem_cons_zero, List.setIfInBounds_toArray, List.set_cons_zero, List.set_cons_succ]
      refine wpAnyH_ready (rs := [2]) (by kernel_rfl) (by simp) (AllReadyH.cons rfl (fun K hK => ?_) AllReadyH.nil)
      go_simp
      go_at_call 25
      refine (cS _ (hRm.on b0) (hRT.on (chain BV b0))).mono ?_
      rintro e w10 ⟨rfl, b10⟩
      have b1 := chain b0 b10
      try simp only []
      refine hK.out _ _ (hS _ b1) (fun hHeld => ?_)
      clear hK K
      try simp only [Act.put, List.getElem_toArray, List.getElem_cons_succ, List.getElem_cons_zero, List.setIfInBounds_toArray, List.set_cons_zero, List.set_cons_succ]
      refine wpAnyH_take (i := 3) (v := ?_) rfl (by kernel_rfl) (by kernel_rfl) (by kernel_rfl) (fun _ _ _ h => h) (Or.inl ⟨by rfl, ?_⟩) (by assumption) ?_
      rotate_left 1
      · intro w hSw; (try dsimp only at hSw); go_simp; try with_reducible rfl
      try simp only [Act.put, List.getElem_toArray, List.getElem_cons_succ, List.getElem_cons_zero, List.setIfInBounds_toArray, List.set_cons_zero, List.set_cons_succ]
      refine wpAnyH_take (i := 4) (v := ?_) rfl (by kernel_rfl) (by kernel_rfl) (by kernel_rfl) (fun _ _ _ h => h) (Or.inl ⟨by rfl, ?_⟩) (by assumption) ?_
      rotate_left 1
      · intro w hSw; (try dsimp only at hSw); go_simp; try with_reducible rfl
      try simp only [Act.put, List.getElem_toArray, List.getElem_cons_succ, List.getElem_cons_zero, List.setIfInBounds_toArray, List.set_cons_zero, List.set_cons_succ]
      refine wpAnyH_take (i := 6) (v := ?_) rfl (by kernel_rfl) (by kernel_rfl) (by kernel_rfl) (fun _ _ _ h => h) (Or.inl ⟨by rfl, ?_⟩) (by assumption) ?_
      rotate_left 1
      · intro w hSw; (try dsimp only at hSw); go_simp; try with_reducible rfl
      try simp only [Act.put, List.getElem_toArray, List.getElem_cons_succ, List.getElem_cons_zero, List.setIfInBounds_toArray, List.set_cons_zero, List.set_cons_succ]
      refine wpAnyH_ready (rs := [5]) (by kernel_rfl) (by simp) (AllReadyH.cons rfl (fun K hK => ?_) AllReadyH.nil)
      go_simp
      go_at_call 21
      refine (cR _ b1).mono ?_
      rintro e w11 ⟨rfl, b11⟩
      have b2 := chain b1 b11
      try simp only []
      refine hK.out _ _ (hS _ b2) (fun hHeld => ?_)
      clear hK K
      try simp only [Act.put, List.getElem_toArray, List.getElem_cons_succ, List.getElem_cons_zero, List.setIfInBounds_toArray, List.set_cons_zero, List.set_cons_succ]
      refine wpAnyH_ready (rs := [7]) (by kernel_rfl) (by simp) (AllReadyH.cons rfl (fun K hK => ?_) AllReadyH.nil)
      go_simp
      go_at_call 13
      refine (cZ _ b2).mono ?_
      rintro e w12 ⟨rfl, b12⟩
      have b3 := chain b2 b12
      try simp only []
      refine hK.out _ _ (hS _ b3) (fun hHeld => ?_)
      clear hK K
      try simp only [Act.put, List.getElem_toArray, List.getElem_cons_succ, List.getElem_cons_zero, List.setIfInBounds_toArray, List.set_cons_zero, List.set_cons_succ]
      refine wpAnyH_take (i := 8) (v := ?_) rfl (by kernel_rfl) (by kernel_rfl) (by kernel_rfl) (fun _ _ _ h => h) (Or.inl ⟨by rfl, ?_⟩) (by assumption) ?_
      rotate_left 1
      · intro w hSw; (try dsimp only at hSw); go_simp; try with_reducible rfl
      try simp only [Act.put, List.getElem_toArray, List.getElem_cons_succ, List.getElem_cons_zero, List.setIfInBounds_toArray, List.set_cons_zero, List.set_cons_succ]
      refine wpAnyH_take (i := 9) (v := ?_) rfl (by kernel_rfl) (by kernel_rfl) (by kernel_rfl) (fun _ _ _ h => h) (Or.inl ⟨by rfl, ?_⟩) (by assumption) ?_
      rotate_left 1
      · intro w hSw; (try dsimp only at hSw); go_simp; try with_reducible rfl
      try simp only [Act.put, List.getElem_toArray, List.getElem_cons_succ, List.getElem_cons_zero, List.setIfInBounds_toArray, List.set_cons_zero, List.set_cons_succ]
      refine wpAnyH_done (by kernel_rfl) ?_ _
      by_cases hE0 : E = 0
      · obtain ⟨⟨t1, t2, t3, t4, t5, t6, t7, t8⟩, i, hi, hne, hdg⟩ := HO.out hE0 (fun e => by have := HS.out.2 ⟨e.1.symm, e.2.symm⟩; cases this)
        subst hE0
        clear cS cZ cR cY HS HO hHeld
        have tY := fun u (hb : Below V.heap.size V u) => texts17_any n ⟨yp, yi, ys, yh, yl⟩ p (by omega) A5 c5 T t6 t1 t2 hyw hTh t4 t7 u (hRT.on (chain BV hb)) (hK5.call (chain BV hb)) (hU5.call (chain BV hb))
        have tZ := fun u (hb : Below V.heap.size V u) => texts17_any n ⟨yp, yi, ys, yh, yl⟩ p (by omega) A6 c6 m (by omega) t1 t3 hzw hmh t5 t8 u (hRm.on hb) (hK5.call (chain BV hb)) (hU5.call (chain BV hb))
        have fY := txt_size t1 t2 hyw hTh t4 t7
        have fZ := txt_size t1 t3 hzw hmh t5 t8
        rw [hTl] at tY fY
        rw [hml] at tZ fZ
        rw [hTl] at hi
        generalize txtN n ⟨yp, yi, ys, yh, yl⟩ p T = F at *
        generalize txtN n ⟨yp, yi, ys, yh, yl⟩ p m = G at *
        have hKv := fun u (hb : Below V.heap.size V u) => hK5.call (chain BV hb)
        have hfin := fun u (hb : Below V.heap.size V u) => (K5.call (chain BV hb)).below
        clear t2 t3 t4 t5 t6 t7 t8
        go_upto_region 19 with fail
        have c0 := chain b3 (Below.refl w12.heap.size w12).drew
        refine wp_region_held_drew (S := fun u => ((u.cell? ⟨gh, 0, none⟩ = some (.bool yp) ∧ u.cell? ⟨gh, 1, none⟩ = some (.string yi) ∧ u.cell? ⟨gh, 2, none⟩ = some (.string ys) ∧ u.cell? ⟨gh, 3, none⟩ = some (.int .u64 yh) ∧ u.cell? ⟨gh, 4, none⟩ = some (.int .u64 yl) ∧ u.cell? ⟨gh, 5, none⟩ = some (.int .u64 p) ∧ u.cell? ⟨gh, 6, none⟩ = some (.slice A5 k c5)) ∧ gh < u.heap.size) ∧ ((u.cell? ⟨gm, 0, none⟩ = some (.bool yp) ∧ u.cell? ⟨gm, 1, none⟩ = some (.string yi) ∧ u.cell? ⟨gm, 2, none⟩ = some (.string ys) ∧ u.cell? ⟨gm, 3, none⟩ = some (.int .u64 yh) ∧ u.cell? ⟨gm, 4, none⟩ = some (.int .u64 yl) ∧ u.cell? ⟨gm, 5, none⟩ = some (.int .u64 p) ∧ u.cell? ⟨gm, 6, none⟩ = some (.slice A6 k c6)) ∧ gm < u.heap.size)) (by kernel_rfl) (hS _ c0) (fun hHeld => ?_)
        generalize World.drew w12 = Ve at *
        refine wpAnyH_take (i := 0) (v := ?_) rfl (by kernel_rfl) (by kernel_rfl) (by kernel_rfl) (fun _ _ _ h => h) (Or.inl ⟨by rfl, ?_⟩) (by assumption) ?_
        rotate_left 1
        · intro w hSw; (try dsimp only at hSw); go_simp; try with_reducible rfl
        try simp only [Act.put, List.getElem_toArray, List.getElem_cons_succ, List.getElem_cons_zero, List.setIfInBounds_toArray, List.set_cons_zero, List.set_cons_succ]
        refine wpAnyH_take (i := 1) (v := ?_) rfl (by kernel_rfl) (by kernel_rfl) (by kernel_rfl) (fun _ _ _ h => h) (Or.inl ⟨by rfl, ?_⟩) (by assumption) ?_
        rotate_left 1
        · intro w hSw; (try dsimp only at hSw); go_simp; try with_reducible rfl
        try simp only [Act.put, List.getElem_toArray, List.getElem_cons_succ, List.getElem_cons_zero, List.setIfInBounds_toArray, List.set_cons_zero, List.set_cons_succ]
        refine wpAnyH_take (i := 3) (v := ?_) rfl (by kernel_rfl) (by kernel_rfl) (by kernel_rfl) (fun _ _ _ h => h) (Or.inl ⟨by rfl, ?_⟩) (by assumption) ?_
        rotate_left 1
        · intro w hSw; (try dsimp only at hSw); go_simp; try with_reducible rfl
        try simp only [Act.put, List.getElem_toArray, List.getElem_cons_succ, List.getElem_cons_zero, List.setIfInBounds_toArray, List.set_cons_zero, List.set_cons_succ]
        refine wpAnyH_take (i := 4) (v := ?_) rfl (by kernel_rfl) (by kernel_rfl) (by kernel_rfl) (fun _ _ _ h => h) (Or.inl ⟨by rfl, ?_⟩) (by assumption) ?_
        rotate_left 1
        · intro w hSw; (try dsimp only at hSw); go_simp; try with_reducible rfl
        try simp only [Act.put, List.getElem_toArray, List.getElem_cons_succ, List.getElem_cons_zero, List.setIfInBounds_toArray, List.set_cons_zero, List.set_cons_succ]
        refine wpAnyH_ready (rs := [2]) (by kernel_rfl) (by simp) (AllReadyH.cons rfl (fun K hK => ?_) AllReadyH.nil)
        go_simp
        go_at_call 26
        refine (tY _ c0).mono ?_
        rintro e w13 ⟨b13, A8, c8, rfl, hr8⟩
        have c1 := chain c0 b13
        try simp only []
        refine hK.out _ _ (hS _ c1) (fun hHeld => ?_)
        clear hK K
        try simp only [Act.put, List.getElem_toArray, List.getElem_cons_succ, List.getElem_cons_zero, List.setIfInBounds_toArray, List.set_cons_zero, List.set_cons_succ]
        refine wpAnyH_ready (rs := [5]) (by kernel_rfl) (by simp) (AllReadyH.cons rfl (fun K hK => ?_) AllReadyH.nil)
        go_simp
        go_at_call 26
        refine (tZ _ c1).mono ?_
        rintro e w14 ⟨b14, A9, c9, rfl, hr9⟩
        have c2 := chain c1 b14
        try simp only []
        refine hK.out _ _ (hS _ c2) (fun hHeld => ?_)
        clear hK K
        try simp only [Act.put, List.getElem_toArray, List.getElem_cons_succ, List.getElem_cons_zero, List.setIfInBounds_toArray, List.set_cons_zero, List.set_cons_succ]
        refine wpAnyH_take (i := 6) (v := ?_) rfl (by kernel_rfl) (by kernel_rfl) (by kernel_rfl) (fun _ _ _ h => h) (Or.inl ⟨by rfl, ?_⟩) (by assumption) ?_
        rotate_left 1
        · intro w hSw; (try dsimp only at hSw); go_simp; try with_reducible rfl
        try simp only [Act.put, List.getElem_toArray, List.getElem_cons_succ, List.getElem_cons_zero, List.setIfInBounds_toArray, List.set_cons_zero, List.set_cons_succ]
        refine wpAnyH_take (i := 7) (v := ?_) rfl (by kernel_rfl) (by kernel_rfl) (by kernel_rfl) (fun _ _ _ h => h) (Or.inl ⟨by rfl, ?_⟩) (by assumption) ?_
        rotate_left 1
        · intro w hSw; (try dsimp only at hSw); go_simp; try with_reducible rfl
        try simp only [Act.put, List.getElem_toArray, List.getElem_cons_succ, List.getElem_cons_zero, List.setIfInBounds_toArray, List.set_cons_zero, List.set_cons_succ]
        refine wpAnyH_done (by kernel_rfl) ?_ _
        have hr8 := hr8.on b14
        obtain ⟨K1, hK1⟩ : ∃ K1, k + 1 = K1 := ⟨_, rfl⟩
        rw [hK1] at hr8 hr9 ⊢
        clear tY tZ hS b13 b14 c0 c1 BV BM hRm hRT
        go_wp2
        go_loopg [21] K1 (fun gk s21 wr => ∃ i : Nat, i ≤ K1 ∧ K1 - i ≤ gk ∧ s21 = .int .i64 i ∧ (∀ j, j < i → F j ≠ G j → dgB n (F j) ≠ dgB n (G j)) ∧ Below w14.heap.size w14 wr)
        case atStart => exact ⟨0, Nat.zero_le _, by omega, rfl, fun j hj => absurd hj (Nat.not_lt_zero _), Below.refl _ _⟩
        case round =>
          obtain ⟨v, hv, hgk, rfl, hall, hb⟩ := hrel
          have HG := hideIt hgk
          have HA := hideIt hall
          clear hgk hall
          by_cases hlt : v < K1
          · have hvi : (v : Int) < (K1 : Int) := by omega
            obtain ⟨P, hP⟩ : ∃ P, F v = P := ⟨_, rfl⟩
            obtain ⟨Q, hQ⟩ : ∃ Q, G v = Q := ⟨_, rfl⟩
            have hPa : ((List.range K1).map F)[v]? = some P := by rw [List.getElem?_map, List.getElem?_range hlt, ← hP]; rfl
            have hQa : ((List.range K1).map G)[v]? = some Q := by rw [List.getElem?_map, List.getElem?_range hlt, ← hQ]; rfl
            have sP := fY v (by omega)
            have sQ := fZ v (by omega)
            rw [hP] at sP
            rw [hQ] at sQ
            have cP := fun u (hb' : Below V.heap.size V u) => digestT_any n P (by omega) u (hKv u hb')
            have cQ := fun u (hb' : Below V.heap.size V u) => digestT_any n Q (by omega) u (hKv u hb')
            obtain ⟨ada, rfl, -, -⟩ := t_get (hr8.on hb) hPa
            obtain ⟨adb, rfl, -, -⟩ := t_get (hr9.on hb) hQa
            have hb2 := chain c2 hb
            have hS : ∀ u, Below wr.heap.size wr u → (u.cell? (ada.add v) = some (.string P) ∧ (ada.add v).block < u.heap.size) ∧ (u.cell? (adb.add v) = some (.string Q) ∧ (adb.add v).block < u.heap.size) := fun u hu => by
              obtain ⟨a1, e1, q1, q2⟩ := t_get ((hr8.on hb).on hu) hPa
              obtain ⟨a2, e2, q3, q4⟩ := t_get ((hr9.on hb).on hu) hQa
              injection e1 with e1
              injection e2 with e2
              subst e1 e2
              exact ⟨⟨q2, q1⟩, q4, q3⟩
            have HP := hideIt hP
            have HQ := hideIt hQ
            clear hP hQ hPa hQa
            go_upto_region 23 with fail
            have d0 := (Below.refl wr.heap.size wr).drew
            refine wp_region_held_drew (S := fun u => (u.cell? (ada.add v) = some (.string P) ∧ (ada.add v).block < u.heap.size) ∧ (u.cell? (adb.add v) = some (.string Q) ∧ (adb.add v).block < u.heap.size)) (by kernel_rfl) (hS _ d0) (fun hHeld => ?_)
            generalize wr.drew = Vg at *
            by_cases hPQ : P = Q
            · have tne : (P.toList == Q.toList) = true := by rw [hPQ]; simp
              refine wpAnyH_take (i := 0) (v := ?_) rfl (by kernel_rfl) (by kernel_rfl) (by kernel_rfl) (fun _ _ _ h => h) (Or.inl ⟨by rfl, ?_⟩) (by assumption) ?_
              rotate_left 1
              · intro w hSw; (try dsimp only at hSw); go_simp; try with_reducible rfl
              try simp only [Act.put, List.getElem_toArray, List.getElem_cons_succ, List.getElem_cons_zero, List.setIfInBounds_toArray, List.set_cons_zero, List.set_cons_succ]
              refine wpAnyH_take (i := 1) (v := ?_) rfl (by kernel_rfl) (by kernel_rfl) (by kernel_rfl) (fun _ _ _ h => h) (Or.inl ⟨by rfl, ?_⟩) (by assumption) ?_
              rotate_left 1
              · intro w hSw; (try dsimp only at hSw); go_simp; try with_reducible rfl
              try simp only [Act.put, List.getElem_toArray, List.getElem_cons_succ, List.getElem_cons_zero, List.setIfInBounds_toArray, List.set_cons_zero, List.set_cons_succ]
              refine wpAnyH_take (i := 2) (v := ?_) rfl (by kernel_rfl) (by kernel_rfl) (by kernel_rfl) (fun _ _ _ h => h) (Or.inl ⟨by rfl, ?_⟩) (by assumption) ?_
              rotate_left 1
              · intro w hSw; (try dsimp only at hSw); go_simp; try with_reducible rfl
              try simp only [Act.put, List.getElem_toArray, List.getElem_cons_succ, List.getElem_cons_zero, List.setIfInBounds_toArray, List.set_cons_zero, List.set_cons_succ]
              refine wpAnyH_take (i := 3) (v := ?_) rfl (by kernel_rfl) (by kernel_rfl) (by kernel_rfl) (fun _ _ _ h => h) (Or.inl ⟨by rfl, ?_⟩) (by assumption) ?_
              rotate_left 1
              · intro w hSw; (try dsimp only at hSw); go_simp; try with_reducible rfl
              try simp only [Act.put, List.getElem_toArray, List.getElem_cons_succ, List.getElem_cons_zero, List.setIfInBounds_toArray, List.set_cons_zero, List.set_cons_succ]
              refine wpAnyH_take (i := 4) (v := ?_) rfl (by kernel_rfl) (by kernel_rfl) (by kernel_rfl) (fun _ _ _ h => h) (Or.inl ⟨by rfl, ?_⟩) (by assumption) ?_
              rotate_left 1
              · intro w hSw; (try dsimp only at hSw); go_simp; try with_reducible rfl
              try simp only [Act.put, List.getElem_toArray, List.getElem_cons_succ, List.getElem_cons_zero, List.setIfInBounds_toArray, List.set_cons_zero, List.set_cons_succ]
              refine wpAnyH_take (i := 5) (v := ?_) rfl (by kernel_rfl) (by kernel_rfl) (by kernel_rfl) (fun _ _ _ h => h) (Or.inl ⟨by rfl, ?_⟩) (by assumption) ?_
              rotate_left 1
              · intro w hSw; (try dsimp only at hSw); go_simp; try with_reducible rfl
              try simp only [Act.put, List.getElem_toArray, List.getElem_cons_succ, List.getElem_cons_zero, List.setIfInBounds_toArray, List.set_cons_zero, List.set_cons_succ]
              refine wpAnyH_take (i := 6) (v := ?_) rfl (by kernel_rfl) (by kernel_rfl) (by kernel_rfl) (fun _ _ _ h => h) (Or.inl ⟨by rfl, ?_⟩) (by assumption) ?_
              rotate_left 1
              · intro w hSw; (try dsimp only at hSw); go_simp; try with_reducible rfl
              try simp only [Act.put, List.getElem_toArray, List.getElem_cons_succ, List.getElem_cons_zero, List.setIfInBounds_toArray, List.set_cons_zero, List.set_cons_succ]
              refine wpAnyH_take (i := 7) (v := ?_) rfl (by kernel_rfl) (by kernel_rfl) (by kernel_rfl) (fun _ _ _ h => h) (Or.inl ⟨by rfl, ?_⟩) (by assumption) ?_
              rotate_left 1
              · intro w hSw; (try dsimp only at hSw); go_simp; try with_reducible rfl
              try simp only [Act.put, List.getElem_toArray, List.getElem_cons_succ, List.getElem_cons_zero, List.setIfInBounds_toArray, List.set_cons_zero, List.set_cons_succ]
              refine wpAnyH_take (i := 8) (v := ?_) rfl (by kernel_rfl) (by kernel_rfl) (by kernel_rfl) (fun _ _ _ h => h) (Or.inl ⟨by rfl, ?_⟩) (by assumption) ?_
              rotate_left 1
              · intro w hSw; (try dsimp only at hSw); go_simp; try with_reducible rfl
              try simp only [Act.put, List.getElem_toArray, List.getElem_cons_succ, List.getElem_cons_zero, List.setIfInBounds_toArray, List.set_cons_zero, List.set_cons_succ]
              refine wpAnyH_take (i := 9) (v := ?_) rfl (by kernel_rfl) (by kernel_rfl) (by kernel_rfl) (fun _ _ _ h => h) (Or.inl ⟨by rfl, ?_⟩) (by assumption) ?_
              rotate_left 1
              · intro w hSw; (try dsimp only at hSw); go_simp; try with_reducible rfl
              try simp only [Act.put, List.getElem_toArray, List.getElem_cons_succ, List.getElem_cons_zero, List.setIfInBounds_toArray, List.set_cons_zero, List.set_cons_succ]
              refine wpAnyH_take (i := 10) (v := undef) rfl (by kernel_rfl) (by kernel_rfl) (by kernel_rfl) (fun _ _ _ h => h) (Or.inr ⟨by rfl, rfl⟩) (by assumption) ?_
              try simp only [Act.put, List.getElem_toArray, List.getElem_cons_succ, List.getElem_cons_zero, List.setIfInBounds_toArray, List.set_cons_zero, List.set_cons_succ]
              refine wpAnyH_take (i := 11) (v := undef) rfl (by kernel_rfl) (by kernel_rfl) (by kernel_rfl) (fun _ _ _ h => h) (Or.inr ⟨by rfl, rfl⟩) (by assumption) ?_
              try simp only [Act.put, List.getElem_toArray, List.getElem_cons_succ, List.getElem_cons_zero, List.setIfInBounds_toArray, List.set_cons_zero, List.set_cons_succ]
              refine wpAnyH_take (i := 12) (v := undef) rfl (by kernel_rfl) (by kernel_rfl) (by kernel_rfl) (fun _ _ _ h => h) (Or.inr ⟨by rfl, rfl⟩) (by assumption) ?_
              try simp only [Act.put, List.getElem_toArray, List.getElem_cons_succ, List.getElem_cons_zero, List.setIfInBounds_toArray, List.set_cons_zero, List.set_cons_succ]
              refine wpAnyH_take (i := 13) (v := undef) rfl (by kernel_rfl) (by kernel_rfl) (by kernel_rfl) (fun _ _ _ h => h) (Or.inr ⟨by rfl, rfl⟩) (by assumption) ?_
              try simp only [Act.put, List.getElem_toArray, List.getElem_cons_succ, List.getElem_cons_zero, List.setIfInBounds_toArray, List.set_cons_zero, List.set_cons_succ]
              refine wpAnyH_take (i := 14) (v := undef) rfl (by kernel_rfl) (by kernel_rfl) (by kernel_rfl) (fun _ _ _ h => h) (Or.inr ⟨by rfl, rfl⟩) (by assumption) ?_
              try simp only [Act.put, List.getElem_toArray, List.getElem_cons_succ, List.getElem_cons_zero, List.setIfInBounds_toArray, List.set_cons_zero, List.set_cons_succ]
              refine wpAnyH_take (i := 15) (v := undef) rfl (by kernel_rfl) (by kernel_rfl) (by kernel_rfl) (fun _ _ _ h => h) (Or.inr ⟨by rfl, rfl⟩) (by assumption) ?_
              try simp only [Act.put, List.getElem_toArray, List.getElem_cons_succ, List.getElem_cons_zero, List.setIfInBounds_toArray, List.set_cons_zero, List.set_cons_succ]
              refine wpAnyH_take (i := 16) (v := undef) rfl (by kernel_rfl) (by kernel_rfl) (by kernel_rfl) (fun _ _ _ h => h) (Or.inr ⟨by rfl, rfl⟩) (by assumption) ?_
              try simp only [Act.put, List.getElem_toArray, List.getElem_cons_succ, List.getElem_cons_zero, List.setIfInBounds_toArray, List.set_cons_zero, List.set_cons_succ]
              refine wpAnyH_take (i := 17) (v := undef) rfl (by kernel_rfl) (by kernel_rfl) (by kernel_rfl) (fun _ _ _ h => h) (Or.inr ⟨by rfl, rfl⟩) (by assumption) ?_
              try simp only [Act.put, List.getElem_toArray, List.getElem_cons_succ, List.getElem_cons_zero, List.setIfInBounds_toArray, List.set_cons_zero, List.set_cons_succ]
              refine wpAnyH_take (i := 18) (v := undef) rfl (by kernel_rfl) (by kernel_rfl) (by kernel_rfl) (fun _ _ _ h => h) (Or.inr ⟨by rfl, rfl⟩) (by assumption) ?_
              try simp only [Act.put, List.getElem_toArray, List.getElem_cons_succ, List.getElem_cons_zero, List.setIfInBounds_toArray, List.set_cons_zero, List.set_cons_succ]
              refine wpAnyH_take (i := 19) (v := undef) rfl (by kernel_rfl) (by kernel_rfl) (by kernel_rfl) (fun _ _ _ h => h) (Or.inr ⟨by rfl, rfl⟩) (by assumption) ?_
              try simp only [Act.put, List.getElem_toArray, List.getElem_cons_succ, List.getElem_cons_zero, List.setIfInBounds_toArray, List.set_cons_zero, List.set_cons_succ]
              refine wpAnyH_take (i := 20) (v := undef) rfl (by kernel_rfl) (by kernel_rfl) (by kernel_rfl) (fun _ _ _ h => h) (Or.inr ⟨by rfl, rfl⟩) (by assumption) ?_
              try simp only [Act.put, List.getElem_toArray, List.getElem_cons_succ, List.getElem_cons_zero, List.setIfInBounds_toArray, List.set_cons_zero, List.set_cons_succ]
              refine wpAnyH_take (i := 21) (v := undef) rfl (by kernel_rfl) (by kernel_rfl) (by kernel_rfl) (fun _ _ _ h => h) (Or.inr ⟨by rfl, rfl⟩) (by assumption) ?_
              try simp only [Act.put, List.getElem_toArray, List.getElem_cons_succ, List.getElem_cons_zero, List.setIfInBounds_toArray, List.set_cons_zero, List.set_cons_succ]
              refine wpAnyH_take (i := 22) (v := undef) rfl (by kernel_rfl) (by kernel_rfl) (by kernel_rfl) (fun _ _ _ h => h) (Or.inr ⟨by rfl, rfl⟩) (by assumption) ?_
              try simp only [Act.put, List.getElem_toArray, List.getElem_cons_succ, List.getElem_cons_zero, List.setIfInBounds_toArray, List.set_cons_zero, List.set_cons_succ]
              refine wpAnyH_take (i := 23) (v := ?_) rfl (by kernel_rfl) (by kernel_rfl) (by kernel_rfl) (fun _ _ _ h => h) (Or.inl ⟨by rfl, ?_⟩) (by assumption) ?_
              rotate_left 1
              · intro w hSw; (try dsimp only at hSw); go_simp; try with_reducible rfl
              try simp only [Act.put, List.getElem_toArray, List.getElem_cons_succ, List.getElem_cons_zero, List.setIfInBounds_toArray, List.set_cons_zero, List.set_cons_succ]
              refine wpAnyH_done (by kernel_rfl) ?_ _
              go_wp2
              go_roundg (K1 - (v + 1))
              case measure => have := HG.out; omega
              case rel => exact ⟨v + 1, by omega, Nat.le_refl _, by go_num, fun j hj h1 => by
                  by_cases e : j = v
                  · rw [e, HP.out, HQ.out] at h1; exact absurd hPQ h1
                  · exact HA.out j (by omega) h1, chain hb d0⟩
            · have tne : (P.toList == Q.toList) = false := by rw [same_str7]; exact decide_eq_false hPQ
              obtain ⟨dP, hdP⟩ : ∃ d, dgB n P = d := ⟨_, rfl⟩
              obtain ⟨dQ, hdQ⟩ : ∃ d, dgB n Q = d := ⟨_, rfl⟩
              rw [hdP] at cP
              rw [hdQ] at cQ
              have HDP := hideIt hdP
              have HDQ := hideIt hdQ
              clear hdP hdQ
              refine wpAnyH_take (i := 0) (v := ?_) rfl (by kernel_rfl) (by kernel_rfl) (by kernel_rfl) (fun _ _ _ h => h) (Or.inl ⟨by rfl, ?_⟩) (by assumption) ?_
              rotate_left 1
              · intro w hSw; (try dsimp only at hSw); go_simp; try with_reducible rfl
              try simp only [Act.put, List.getElem_toArray, List.getElem_cons_succ, List.getElem_cons_zero, List.setIfInBounds_toArray, List.set_cons_zero, List.set_cons_succ]
              refine wpAnyH_take (i := 1) (v := ?_) rfl (by kernel_rfl) (by kernel_rfl) (by kernel_rfl) (fun _ _ _ h => h) (Or.inl ⟨by rfl, ?_⟩) (by assumption) ?_
              rotate_left 1
              · intro w hSw; (try dsimp only at hSw); go_simp; try with_reducible rfl
              try simp only [Act.put, List.getElem_toArray, List.getElem_cons_succ, List.getElem_cons_zero, List.setIfInBounds_toArray, List.set_cons_zero, List.set_cons_succ]
              refine wpAnyH_take (i := 2) (v := ?_) rfl (by kernel_rfl) (by kernel_rfl) (by kernel_rfl) (fun _ _ _ h => h) (Or.inl ⟨by rfl, ?_⟩) (by assumption) ?_
              rotate_left 1
              · intro w hSw; (try dsimp only at hSw); go_simp; try with_reducible rfl
              try simp only [Act.put, List.getElem_toArray, List.getElem_cons_succ, List.getElem_cons_zero, List.setIfInBounds_toArray, List.set_cons_zero, List.set_cons_succ]
              refine wpAnyH_take (i := 3) (v := ?_) rfl (by kernel_rfl) (by kernel_rfl) (by kernel_rfl) (fun _ _ _ h => h) (Or.inl ⟨by rfl, ?_⟩) (by assumption) ?_
              rotate_left 1
              · intro w hSw; (try dsimp only at hSw); go_simp; try with_reducible rfl
              try simp only [Act.put, List.getElem_toArray, List.getElem_cons_succ, List.getElem_cons_zero, List.setIfInBounds_toArray, List.set_cons_zero, List.set_cons_succ]
              refine wpAnyH_take (i := 4) (v := ?_) rfl (by kernel_rfl) (by kernel_rfl) (by kernel_rfl) (fun _ _ _ h => h) (Or.inl ⟨by rfl, ?_⟩) (by assumption) ?_
              rotate_left 1
              · intro w hSw; (try dsimp only at hSw); go_simp; try with_reducible rfl
              try simp only [Act.put, List.getElem_toArray, List.getElem_cons_succ, List.getElem_cons_zero, List.setIfInBounds_toArray, List.set_cons_zero, List.set_cons_succ]
              refine wpAnyH_take (i := 5) (v := ?_) rfl (by kernel_rfl) (by kernel_rfl) (by kernel_rfl) (fun _ _ _ h => h) (Or.inl ⟨by rfl, ?_⟩) (by assumption) ?_
              rotate_left 1
              · intro w hSw; (try dsimp only at hSw); go_simp; try with_reducible rfl
              try simp only [Act.put, List.getElem_toArray, List.getElem_cons_succ, List.getElem_cons_zero, List.setIfInBounds_toArray, List.set_cons_zero, List.set_cons_succ]
              refine wpAnyH_take (i := 6) (v := ?_) rfl (by kernel_rfl) (by kernel_rfl) (by kernel_rfl) (fun _ _ _ h => h) (Or.inl ⟨by rfl, ?_⟩) (by assumption) ?_
              rotate_left 1
              · intro w hSw; (try dsimp only at hSw); go_simp; try with_reducible rfl
              try simp only [Act.put, List.getElem_toArray, List.getElem_cons_succ, List.getElem_cons_zero, List.setIfInBounds_toArray, List.set_cons_zero, List.set_cons_succ]
              refine wpAnyH_take (i := 7) (v := ?_) rfl (by kernel_rfl) (by kernel_rfl) (by kernel_rfl) (fun _ _ _ h => h) (Or.inl ⟨by rfl, ?_⟩) (by assumption) ?_
              rotate_left 1
              · intro w hSw; (try dsimp only at hSw); go_simp; try with_reducible rfl
              try simp only [Act.put, List.getElem_toArray, List.getElem_cons_succ, List.getElem_cons_zero, List.setIfInBounds_toArray, List.set_cons_zero, List.set_cons_succ]
              refine wpAnyH_take (i := 8) (v := ?_) rfl (by kernel_rfl) (by kernel_rfl) (by kernel_rfl) (fun _ _ _ h => h) (Or.inl ⟨by rfl, ?_⟩) (by assumption) ?_
              rotate_left 1
              · intro w hSw; (try dsimp only at hSw); go_simp; try with_reducible rfl
              try simp only [Act.put, List.getElem_toArray, List.getElem_cons_succ, List.getElem_cons_zero, List.setIfInBounds_toArray, List.set_cons_zero, List.set_cons_succ]
              refine wpAnyH_take (i := 9) (v := ?_) rfl (by kernel_rfl) (by kernel_rfl) (by kernel_rfl) (fun _ _ _ h => h) (Or.inl ⟨by rfl, ?_⟩) (by assumption) ?_
              rotate_left 1
              · intro w hSw; (try dsimp only at hSw); go_simp; try with_reducible rfl
              try simp only [Act.put, List.getElem_toArray, List.getElem_cons_succ, List.getElem_cons_zero, List.setIfInBounds_toArray, List.set_cons_zero, List.set_cons_succ]
              refine wpAnyH_take (i := 10) (v := ?_) rfl (by kernel_rfl) (by kernel_rfl) (by kernel_rfl) (fun _ _ _ h => h) (Or.inl ⟨by rfl, ?_⟩) (by assumption) ?_
              rotate_left 1
              · intro w hSw; (try dsimp only at hSw); go_simp; try with_reducible rfl
              try simp only [Act.put, List.getElem_toArray, List.getElem_cons_succ, List.getElem_cons_zero, List.setIfInBounds_toArray, List.set_cons_zero, List.set_cons_succ]
              refine wpAnyH_take (i := 11) (v := ?_) rfl (by kernel_rfl) (by kernel_rfl) (by kernel_rfl) (fun _ _ _ h => h) (Or.inl ⟨by rfl, ?_⟩) (by assumption) ?_
              rotate_left 1
              · intro w hSw; (try dsimp only at hSw); go_simp; try with_reducible rfl
              try simp only [Act.put, List.getElem_toArray, List.getElem_cons_succ, List.getElem_cons_zero, List.setIfInBounds_toArray, List.set_cons_zero, List.set_cons_succ]
              refine wpAnyH_take (i := 12) (v := ?_) rfl (by kernel_rfl) (by kernel_rfl) (by kernel_rfl) (fun _ _ _ h => h) (Or.inl ⟨by rfl, ?_⟩) (by assumption) ?_
              rotate_left 1
              · intro w hSw; (try dsimp only at hSw); go_simp; try with_reducible rfl
              try simp only [Act.put, List.getElem_toArray, List.getElem_cons_succ, List.getElem_cons_zero, List.setIfInBounds_toArray, List.set_cons_zero, List.set_cons_succ]
              refine wpAnyH_take (i := 13) (v := ?_) rfl (by kernel_rfl) (by kernel_rfl) (by kernel_rfl) (fun _ _ _ h => h) (Or.inl ⟨by rfl, ?_⟩) (by assumption) ?_
              rotate_left 1
              · intro w hSw; (try dsimp only at hSw); go_simp; try with_reducible rfl
              try simp only [Act.put, List.getElem_toArray, List.getElem_cons_succ, List.getElem_cons_zero, List.setIfInBounds_toArray, List.set_cons_zero, List.set_cons_succ]
              refine wpAnyH_take (i := 14) (v := ?_) rfl (by kernel_rfl) (by kernel_rfl) (by kernel_rfl) (fun _ _ _ h => h) (Or.inl ⟨by rfl, ?_⟩) (by assumption) ?_
              rotate_left 1
              · intro w hSw; (try dsimp only at hSw); go_simp; try with_reducible rfl
              try simp only [Act.put, List.getElem_toArray, List.getElem_cons_succ, List.getElem_cons_zero, List.setIfInBounds_toArray, List.set_cons_zero, List.set_cons_succ]
              refine wpAnyH_take (i := 16) (v := ?_) rfl (by kernel_rfl) (by kernel_rfl) (by kernel_rfl) (fun _ _ _ h => h) (Or.inl ⟨by rfl, ?_⟩) (by assumption) ?_
              rotate_left 1
              · intro w hSw; (try dsimp only at hSw); go_simp; try with_reducible rfl
              try simp only [Act.put, List.getElem_toArray, List.getElem_cons_succ, List.getElem_cons_zero, List.setIfInBounds_toArray, List.set_cons_zero, List.set_cons_succ]
              refine wpAnyH_take (i := 17) (v := ?_) rfl (by kernel_rfl) (by kernel_rfl) (by kernel_rfl) (fun _ _ _ h => h) (Or.inl ⟨by rfl, ?_⟩) (by assumption) ?_
              rotate_left 1
              · intro w hSw; (try dsimp only at hSw); go_simp; try with_reducible rfl
              try simp only [Act.put, List.getElem_toArray, List.getElem_cons_succ, List.getElem_cons_zero, List.setIfInBounds_toArray, List.set_cons_zero, List.set_cons_succ]
              refine wpAnyH_take (i := 18) (v := ?_) rfl (by kernel_rfl) (by kernel_rfl) (by kernel_rfl) (fun _ _ _ h => h) (Or.inl ⟨by rfl, ?_⟩) (by assumption) ?_
              rotate_left 1
              · intro w hSw; (try dsimp only at hSw); go_simp; try with_reducible rfl
              try simp only [Act.put, List.getElem_toArray, List.getElem_cons_succ, List.getElem_cons_zero, List.setIfInBounds_toArray, List.set_cons_zero, List.set_cons_succ]
              refine wpAnyH_take (i := 19) (v := ?_) rfl (by kernel_rfl) (by kernel_rfl) (by kernel_rfl) (fun _ _ _ h => h) (Or.inl ⟨by rfl, ?_⟩) (by assumption) ?_
              rotate_left 1
              · intro w hSw; (try dsimp only at hSw); go_simp; try with_reducible rfl
              try simp only [Act.put, List.getElem_toArray, List.getElem_cons_succ, List.getElem_cons_zero, List.setIfInBounds_toArray, List.set_cons_zero, List.set_cons_succ]
              refine wpAnyH_take (i := 20) (v := ?_) rfl (by kernel_rfl) (by kernel_rfl) (by kernel_rfl) (fun _ _ _ h => h) (Or.inl ⟨by rfl, ?_⟩) (by assumption) ?_
              rotate_left 1
              · intro w hSw; (try dsimp only at hSw); go_simp; try with_reducible rfl
              try simp only [Act.put, List.getElem_toArray, List.getElem_cons_succ, List.getElem_cons_zero, List.setIfInBounds_toArray, List.set_cons_zero, List.set_cons_succ]
              refine wpAnyH_ready (rs := [15]) (by kernel_rfl) (by simp) (AllReadyH.cons rfl (fun K hK => ?_) AllReadyH.nil)
              go_simp
              go_at_call 27
              refine (cP _ (chain hb2 d0)).mono ?_
              rintro e w15 ⟨rfl, b15⟩
              have d1 := chain d0 b15
              try simp only []
              refine hK.out _ _ (hS _ d1) (fun hHeld => ?_)
              clear hK K
              try simp only [Act.put, List.getElem_toArray, List.getElem_cons_succ, List.getElem_cons_zero, List.setIfInBounds_toArray, List.set_cons_zero, List.set_cons_succ]
              refine wpAnyH_ready (rs := [21]) (by kernel_rfl) (by simp) (AllReadyH.cons rfl (fun K hK => ?_) AllReadyH.nil)
              go_simp
              go_at_call 27
              refine (cQ _ (chain hb2 d1)).mono ?_
              rintro e w16 ⟨rfl, b16⟩
              have d2 := chain d1 b16
              try simp only []
              refine hK.out _ _ (hS _ d2) (fun hHeld => ?_)
              clear hK K
              try simp only [Act.put, List.getElem_toArray, List.getElem_cons_succ, List.getElem_cons_zero, List.setIfInBounds_toArray, List.set_cons_zero, List.set_cons_succ]
              by_cases hdd : dP = dQ
              · have tne2 : (dP.toList == dQ.toList) = true := by rw [hdd]; simp
                refine wpAnyH_take (i := 22) (v := ?_) rfl (by kernel_rfl) (by kernel_rfl) (by kernel_rfl) (fun _ _ _ h => h) (Or.inl ⟨by rfl, ?_⟩) (by assumption) ?_
                rotate_left 1
                · intro w hSw; (try dsimp only at hSw); go_simp; try with_reducible rfl
                try simp only [Act.put, List.getElem_toArray, List.getElem_cons_succ, List.getElem_cons_zero, List.setIfInBounds_toArray, List.set_cons_zero, List.set_cons_succ]
                refine wpAnyH_take (i := 23) (v := ?_) rfl (by kernel_rfl) (by kernel_rfl) (by kernel_rfl) (fun _ _ _ h => h) (Or.inl ⟨by rfl, ?_⟩) (by assumption) ?_
                rotate_left 1
                · intro w hSw; (try dsimp only at hSw); go_simp; try with_reducible rfl
                try simp only [Act.put, List.getElem_toArray, List.getElem_cons_succ, List.getElem_cons_zero, List.setIfInBounds_toArray, List.set_cons_zero, List.set_cons_succ]
                refine wpAnyH_done (by kernel_rfl) ?_ _
                go_wp2
                go_ret
                exact ⟨rfl, by have := hfin _ (chain hb2 d2); first | exact this | (rw [← hgx]; exact this)⟩
              · have tne2 : (dP.toList == dQ.toList) = false := by rw [same_str7]; exact decide_eq_false hdd
                refine wpAnyH_take (i := 22) (v := ?_) rfl (by kernel_rfl) (by kernel_rfl) (by kernel_rfl) (fun _ _ _ h => h) (Or.inl ⟨by rfl, ?_⟩) (by assumption) ?_
                rotate_left 1
                · intro w hSw; (try dsimp only at hSw); go_simp; try with_reducible rfl
                try simp only [Act.put, List.getElem_toArray, List.getElem_cons_succ, List.getElem_cons_zero, List.setIfInBounds_toArray, List.set_cons_zero, List.set_cons_succ]
                refine wpAnyH_take (i := 23) (v := ?_) rfl (by kernel_rfl) (by kernel_rfl) (by kernel_rfl) (fun _ _ _ h => h) (Or.inl ⟨by rfl, ?_⟩) (by assumption) ?_
                rotate_left 1
                · intro w hSw; (try dsimp only at hSw); go_simp; try with_reducible rfl
                try simp only [Act.put, List.getElem_toArray, List.getElem_cons_succ, List.getElem_cons_zero, List.setIfInBounds_toArray, List.set_cons_zero, List.set_cons_succ]
                refine wpAnyH_done (by kernel_rfl) ?_ _
                go_wp2
                go_roundg (K1 - (v + 1))
                case measure => have := HG.out; omega
                case rel => exact ⟨v + 1, by omega, Nat.le_refl _, by go_num, fun j hj h1 => by
                    by_cases e : j = v
                    · rw [e, HP.out, HQ.out, HDP.out, HDQ.out]; exact hdd
                    · exact HA.out j (by omega) h1, chain hb d2⟩
          · exact absurd hdg (HA.out i (by omega) hne)
      · have q0 : (E != 0) = true := bne_iff_ne.2 hE0
        go_upto_region 18 with fail
        have c0 := chain b3 (Below.refl (w12).heap.size w12).drew
        refine wp_region_held_drew (S := fun u => ((u.cell? ⟨gh, 0, none⟩ = some (.bool yp) ∧ u.cell? ⟨gh, 1, none⟩ = some (.string yi) ∧ u.cell? ⟨gh, 2, none⟩ = some (.string ys) ∧ u.cell? ⟨gh, 3, none⟩ = some (.int .u64 yh) ∧ u.cell? ⟨gh, 4, none⟩ = some (.int .u64 yl) ∧ u.cell? ⟨gh, 5, none⟩ = some (.int .u64 p) ∧ u.cell? ⟨gh, 6, none⟩ = some (.slice A5 k c5)) ∧ gh < u.heap.size)) (by kernel_rfl) (hS _ c0).1 (fun hHeld => ?_)
        generalize World.drew w12 = Ve at *
        refine wpAnyH_take (i := 0) (v := ?_) rfl (by kernel_rfl) (by kernel_rfl) (by kernel_rfl) (fun _ _ _ h => h) (Or.inl ⟨by rfl, ?_⟩) (by assumption) ?_
        rotate_left 1
        · intro w hSw; (try dsimp only at hSw); go_simp; try with_reducible rfl
        try simp only [Act.put, List.getElem_toArray, List.getElem_cons_succ, List.getElem_cons_zero, List.setIfInBounds_toArray, List.set_cons_zero, List.set_cons_succ]
        refine wpAnyH_take (i := 2) (v := ?_) rfl (by kernel_rfl) (by kernel_rfl) (by kernel_rfl) (fun _ _ _ h => h) (Or.inl ⟨by rfl, ?_⟩) (by assumption) ?_
        rotate_left 1
        · intro w hSw; (try dsimp only at hSw); go_simp; try with_reducible rfl
        try simp only [Act.put, List.getElem_toArray, List.getElem_cons_succ, List.getElem_cons_zero, List.setIfInBounds_toArray, List.set_cons_zero, List.set_cons_succ]
        refine wpAnyH_ready (rs := [1]) (by kernel_rfl) (by simp) (AllReadyH.cons rfl (fun K hK => ?_) AllReadyH.nil)
        go_simp
        go_at_call 21
        refine (cR _ c0).mono ?_
        rintro e w13 ⟨rfl, b13⟩
        have c1 := chain c0 b13
        try simp only []
        refine hK.out _ _ ((hS _ c1).1) (fun hHeld => ?_)
        clear hK K
        try simp only [Act.put, List.getElem_toArray, List.getElem_cons_succ, List.getElem_cons_zero, List.setIfInBounds_toArray, List.set_cons_zero, List.set_cons_succ]
        refine wpAnyH_ready (rs := [3]) (by kernel_rfl) (by simp) (AllReadyH.cons rfl (fun K hK => ?_) AllReadyH.nil)
        go_simp
        go_at_call 13
        refine (cY _ c1).mono ?_
        rintro e w14 ⟨rfl, b14⟩
        have c2 := chain c1 b14
        try simp only []
        refine hK.out _ _ ((hS _ c2).1) (fun hHeld => ?_)
        clear hK K
        try simp only [Act.put, List.getElem_toArray, List.getElem_cons_succ, List.getElem_cons_zero, List.setIfInBounds_toArray, List.set_cons_zero, List.set_cons_succ]
        refine wpAnyH_take (i := 4) (v := ?_) rfl (by kernel_rfl) (by kernel_rfl) (by kernel_rfl) (fun _ _ _ h => h) (Or.inl ⟨by rfl, ?_⟩) (by assumption) ?_
        rotate_left 1
        · intro w hSw; (try dsimp only at hSw); go_simp; try with_reducible rfl
        try simp only [Act.put, List.getElem_toArray, List.getElem_cons_succ, List.getElem_cons_zero, List.setIfInBounds_toArray, List.set_cons_zero, List.set_cons_succ]
        refine wpAnyH_take (i := 5) (v := ?_) rfl (by kernel_rfl) (by kernel_rfl) (by kernel_rfl) (fun _ _ _ h => h) (Or.inl ⟨by rfl, ?_⟩) (by assumption) ?_
        rotate_left 1
        · intro w hSw; (try dsimp only at hSw); go_simp; try with_reducible rfl
        try simp only [Act.put, List.getElem_toArray, List.getElem_cons_succ, List.getElem_cons_zero, List.setIfInBounds_toArray, List.set_cons_zero, List.set_cons_succ]
        refine wpAnyH_done (by kernel_rfl) ?_ _
        go_wp2
        go_ret
        exact ⟨rfl, by have := (K5.call (chain BV c2)).below; first | exact this | (rw [← hgx]; exact this)⟩
end Go.Proofs.YtkecekfapiegjaaDoor
