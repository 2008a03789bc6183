/-
  What the outright laws of stage 17 ask first: the chapter's example.
-/
import Derived.Test.YtkecekfapiegjaaDoorM17Clm
import Derived.Test.YtkecekfapiegjaaDoorW8Off
namespace Go.Proofs.YtkecekfapiegjaaDoor
set_option linter.unusedVariables false
set_option linter.unusedSimpArgs false
set_option maxRecDepth 10000
open Go.RowKit

theorem Has.sub17 {w W : World} {l l' : List Blk} (h : Has w l W) (hs : ∀ x ∈ l', x ∈ l) : Has w l' W := ⟨fun x hx => h.1 x (hs x hx), h.2⟩
def aE : Lf := ⟨false, ⟨#[97]⟩, ⟨#[115]⟩, 0, 9⟩
def aF : Lf := ⟨false, ⟨#[97]⟩, ⟨#[115]⟩, 0, 10⟩
theorem aw_may : aE.may = true ∧ aF.may = true ∧ Lf.zero.may = false := by decide +kernel
theorem aw_shape : shapeN 8 0 0 [] = 0 := by decide
theorem aw_top (x : Lf) (h : x.may = true) : topE 8 x 0 [] = (⟨dgB 8 x.text, x.h, x.l, 0⟩, 0) := by
  have e : climbN 8 (nodeOf 8 x) 0 [] = (nodeOf 8 x, 0) := climb_shape h aw_shape
  rw [topE, e, if_pos rfl, nodeOf, if_pos ⟨by decide, h⟩]
  rfl
/-- The example's root. -/
def aR : RtP := ⟨dgB 8 aE.text, 0, 9, 0⟩
theorem aw_size : aR.hash.size = 8 := by
  have := dgB_size (w := 8) (by decide) aE.text
  show (dgB 8 aE.text).size = 8
  omega
theorem aw_up : upE 8 aE 0 [] = (aR, 0) := up_ok.2 ⟨aw_may.1, aw_shape, aw_top aE aw_may.1⟩
theorem aw_mayR : mayR aR = 0 := mayR_yes (by decide) (by decide) (by rw [aw_size]; decide)
theorem aw_check : checkE aR aE 0 [] = 0 := check_ok.2 ⟨aw_mayR, aw_may.1, by rw [aw_size]; exact aw_shape, by rw [aw_size]; exact aw_top aE aw_may.1⟩
theorem aw_other : checkE aR aF 0 [] = 160 := by
  rw [checkE, aw_mayR, if_pos rfl, if_pos aw_may.2.1, aw_size]
  have e1 : shapeN ((8 : Nat) : Int) aR.n 0 [] = 0 := aw_shape
  have e2 : topE ((8 : Nat) : Int) aF 0 [] = (⟨dgB 8 aF.text, 0, 10, 0⟩, 0) := aw_top aF aw_may.2.1
  rw [e1, e2, if_pos rfl, if_pos rfl, if_neg]
  intro e
  have := congrArg RtP.l ((rtSame_iff _ _).1 e)
  exact absurd this (by decide)
theorem aw_none : checkE aR Lf.zero 0 [] = 130 := by
  rw [checkE, aw_mayR, if_pos rfl, if_neg (by rw [aw_may.2.2]; decide)]
theorem aw_high : checkE ⟨aR.hash, aR.h, aR.l, 64⟩ aE 0 [] = 120 := check_high (Or.inr (by decide))
set_option maxRecDepth 100000 in
set_option maxHeartbeats 8000000 in
theorem awake17_any (w : World) (hK : Tab w) (hU : TabU w) : Calls Tryd.prog 18 #[] w (Tells (.bool true) w.heap.size w) := by
  have cN := fun u hu hv => leafNode_any 8 aE (by decide) (by decide) ⟨by decide, by decide⟩ ⟨by decide, by decide⟩ u hu hv
  have cU := fun u hK hU => up17_any 8 aE 0 (by decide) none 0 [] (by simp) ⟨by decide, by decide⟩ ⟨⟨by decide, by decide⟩, by decide, by decide⟩ (by simp) u (Sh.Row.nil ndS _ _ _) hK hU
  have cC := fun (r : RtP) (x : Lf) (V : Int) (hV : checkE r x 0 [] = V) h1 h2 u hK hU => (show Calls Tryd.prog 13 #[r.val, .agg (enV x 0 none 0 0)] u (Tells (.int .i64 V) u.heap.size u) from hV ▸ check17_any r x 0 (by decide) none 0 [] (by simp) h1 h2 (by simp) u (Sh.Row.nil ndS _ _ _) hK hU)
  have c1 := fun u hK hU => cC aR aE 0 aw_check ⟨by decide, by decide⟩ ⟨⟨by decide, by decide⟩, by decide, by decide⟩ u hK hU
  have c2 := fun u hK hU => cC aR aF 160 aw_other ⟨by decide, by decide⟩ ⟨⟨by decide, by decide⟩, by decide, by decide⟩ u hK hU
  have c3 := fun u hK hU => cC ⟨aR.hash, aR.h, aR.l, 64⟩ aE 120 aw_high ⟨by decide, by decide⟩ ⟨⟨by decide, by decide⟩, by decide, by decide⟩ u hK hU
  have c4 := fun u hK hU => cC aR Lf.zero 130 aw_none ⟨by decide, by decide⟩ ⟨⟨by decide, by decide⟩, by decide, by decide⟩ u hK hU
  have eN : nodeOf 8 aE = ⟨dgB 8 aE.text, 0, 9⟩ := by rw [nodeOf, if_pos ⟨by decide, aw_may.1⟩]; rfl
  rw [eN] at cN
  rw [aw_up] at cU
  have hq := fun u => run_eql_rt aR aR u
  rw [RtP.same_self] at hq
  clear cC eN
  simp only [aR, aE, aF, Lf.val, Nd.val, RtP.val, Lf.zero] at cN cU c1 c2 c3 c4 hq
  generalize dgB 8 _ = D at *
  obtain ⟨ge, hge⟩ : ∃ g, w.heap.size = g := ⟨_, rfl⟩
  have J0 := (Has.start w).addAt 34 (lfB false ⟨#[97]⟩ ⟨#[115]⟩ 0 9) (g := ge) hge
  go_enter Tryd.func18, Tryd.ntmps18
  go_upto_region 2 with fail
  change Code.wp _ _ _ _ (w.alloc (.cells (lfB false ⟨#[97]⟩ ⟨#[115]⟩ 0 9) 34))
  generalize w.alloc (.cells (lfB false ⟨#[97]⟩ ⟨#[115]⟩ 0 9) 34) = W1 at *
  obtain ⟨x0, x1, x2, x3, x4⟩ := (J0.box 0).lfat
  have xin := (J0.box 0).inside
  go_upto_region 3 with (first
    | (go_at_call 36; refine (cN _ (hK.call J0.below) (hU.call J0.below)).mono ?_; rintro e w2 ⟨rfl, b2⟩; have J2 := J0.call b2)
    | fail)
  obtain ⟨x0, x1, x2, x3, x4⟩ := (J2.box 0).lfat
  have xin := (J2.box 0).inside
  obtain ⟨g0, hg0⟩ : ∃ g, w2.heap.size = g := ⟨_, rfl⟩
  have hgg : ge < g0 := by rw [← hg0]; exact xin
  have hlo : w.heap.size ≤ g0 := by rw [← hg0]; exact J2.size
  have K1 := J2.addAt 49 (ndB D 0 9) (g := g0) hg0
  obtain ⟨n0, n1, n2, -, -, -, nin⟩ := (K1.box 0).three
  have K2 := K1.addAt 26 (rtB D 0 9 0) (g := g0 + 1) (by simp [hg0])
  have K3 := K2.addAt 39 (enV ⟨false, ⟨#[97]⟩, ⟨#[115]⟩, 0, 9⟩ 0 none 0 0) (g := g0 + 1 + 1) (by simp [hg0])
  go_upto_region 6 with fail
  have K4 := K3.addAt 39 (enV ⟨false, ⟨#[97]⟩, ⟨#[115]⟩, 0, 9⟩ 0 none 0 0) (g := g0 + 1 + 1 + 1) (by simp [hg0])
  rw [hg0]
  change Code.wp _ _ _ _ ((((w2.alloc (.cells (ndB D 0 9) 49)).alloc (.cells (rtB D 0 9 0) 26)).alloc (.cells (enV ⟨false, ⟨#[97]⟩, ⟨#[115]⟩, 0, 9⟩ 0 none 0 0) 39)).alloc (.cells (enV ⟨false, ⟨#[97]⟩, ⟨#[115]⟩, 0, 9⟩ 0 none 0 0) 39))
  have hsz : ((((w2.alloc (.cells (ndB D 0 9) 49)).alloc (.cells (rtB D 0 9 0) 26)).alloc (.cells (enV ⟨false, ⟨#[97]⟩, ⟨#[115]⟩, 0, 9⟩ 0 none 0 0) 39)).alloc (.cells (enV ⟨false, ⟨#[97]⟩, ⟨#[115]⟩, 0, 9⟩ 0 none 0 0) 39)).heap.size = g0 + 4 := by simp [hg0]
  generalize (((w2.alloc (.cells (ndB D 0 9) 49)).alloc (.cells (rtB D 0 9 0) 26)).alloc (.cells (enV ⟨false, ⟨#[97]⟩, ⟨#[115]⟩, 0, 9⟩ 0 none 0 0) 39)).alloc (.cells (enV ⟨false, ⟨#[97]⟩, ⟨#[115]⟩, 0, 9⟩ 0 none 0 0) 39) = W4 at *
  clear K1 K2 K3 n0 n1 n2 nin x0 x1 x2 x3 x4 xin J2
  have hn4 : ∀ y ∈ [(g0 + 1 + 1, 39, enV ⟨false, ⟨#[97]⟩, ⟨#[115]⟩, 0, 9⟩ 0 none 0 0), (g0 + 1, 26, rtB D 0 9 0), (g0, 49, ndB D 0 9), (ge, 34, lfB false ⟨#[97]⟩ ⟨#[115]⟩ 0 9)], y.1 ≠ g0 + 1 + 1 + 1 := fun y hy => by
    simp only [List.mem_cons, List.not_mem_nil, or_false] at hy
    rcases hy with rfl | rfl | rfl | rfl <;> simp only <;> omega
  have y4 := (K4.box 0).read 4
  have yf := (K4.box 0).free 4
  have yin := (K4.box 0).inside
  have K5 := K4.wrote (by omega) hn4 4 (.int .u64 10)
  go_upto_region 7 with fail
  change Code.wp _ _ _ _ (W4.setCell ⟨g0 + 1 + 1 + 1, 4, none⟩ (.int .u64 10))
  have hsz5 : (W4.setCell ⟨g0 + 1 + 1 + 1, 4, none⟩ (.int .u64 10)).heap.size = g0 + 4 := by simp [hsz]
  generalize W4.setCell ⟨g0 + 1 + 1 + 1, 4, none⟩ (.int .u64 10) = W5 at *
  have K5 : Has w [(g0 + 1 + 1 + 1, 39, enV ⟨false, ⟨#[97]⟩, ⟨#[115]⟩, 0, 10⟩ 0 none 0 0), (g0 + 1 + 1, 39, enV ⟨false, ⟨#[97]⟩, ⟨#[115]⟩, 0, 9⟩ 0 none 0 0), (g0 + 1, 26, rtB D 0 9 0)] W5 := K5.sub17 (fun y hy => by
    simp only [List.mem_cons, List.not_mem_nil, or_false] at hy ⊢
    rcases hy with rfl | rfl | rfl
    · exact Or.inl rfl
    · exact Or.inr (Or.inl rfl)
    · exact Or.inr (Or.inr (Or.inl rfl)))
  clear K4 y4 yf yin hn4 hsz
  obtain ⟨⟨r0, r1, r2, r3⟩, -, rin⟩ := (K5.box 2).four4
  have K6 := K5.addAt 26 (rtB D 0 9 0) (g := g0 + 4) hsz5
  go_upto_region 8 with fail
  change Code.wp _ _ _ _ (W5.alloc (.cells (rtB D 0 9 0) 26))
  generalize W5.alloc (.cells (rtB D 0 9 0) 26) = W6 at *
  have hn6 : ∀ y ∈ [(g0 + 1 + 1 + 1, 39, enV ⟨false, ⟨#[97]⟩, ⟨#[115]⟩, 0, 10⟩ 0 none 0 0), (g0 + 1 + 1, 39, enV ⟨false, ⟨#[97]⟩, ⟨#[115]⟩, 0, 9⟩ 0 none 0 0), (g0 + 1, 26, rtB D 0 9 0)], y.1 ≠ g0 + 4 := fun y hy => by
    simp only [List.mem_cons, List.not_mem_nil, or_false] at hy
    rcases hy with rfl | rfl | rfl <;> simp only <;> omega
  have y3 := (K6.box 0).read 3
  have yf := (K6.box 0).free 3
  have yin := (K6.box 0).inside
  have K7 := K6.wrote (by omega) hn6 3 (.int .i64 64)
  go_upto_region 9 with fail
  change Code.wp _ _ _ _ (W6.setCell ⟨g0 + 4, 3, none⟩ (.int .i64 64))
  generalize W6.setCell ⟨g0 + 4, 3, none⟩ (.int .i64 64) = W7 at *
  have K7 : Has w [(g0 + 4, 26, rtB D 0 9 64), (g0 + 1 + 1 + 1, 39, enV ⟨false, ⟨#[97]⟩, ⟨#[115]⟩, 0, 10⟩ 0 none 0 0), (g0 + 1 + 1, 39, enV ⟨false, ⟨#[97]⟩, ⟨#[115]⟩, 0, 9⟩ 0 none 0 0), (g0 + 1, 26, rtB D 0 9 0)] W7 := K7
  clear K5 K6 y3 yf yin hn6 hsz5 r0 r1 r2 r3 rin
  obtain ⟨⟨e0, e1, e2, e3, e4, e5, e6⟩, ein⟩ := (K7.box 2).seven
  simp only at e0 e1 e2 e3 e4
  go_upto_region 10 with (first
    | (go_at_call 16; refine (cU _ (hK.call K7.below) (hU.call K7.below)).mono ?_; rintro e w8 ⟨rfl, b8⟩; have K8 := (K7.call b8).add 26 (rtB D 0 9 0))
    | fail)
  obtain ⟨gx, hgx⟩ : ∃ g, w8.heap.size = g := ⟨_, rfl⟩
  rw [hgx] at K8 ⊢
  change Code.wp _ _ _ _ (w8.alloc (.cells (rtB D 0 9 0) 26))
  generalize w8.alloc (.cells (rtB D 0 9 0) 26) = W8 at *
  clear K7 e0 e1 e2 e3 e4 e5 e6 ein b8 hgx
  obtain ⟨⟨t0, t1, t2, t3⟩, -, tin⟩ := (K8.box 0).four4; obtain ⟨⟨h0, h1, h2, h3⟩, -, hin⟩ := (K8.box 1).four4; obtain ⟨⟨o0, o1, o2, o3, o4, o5, o6⟩, oin⟩ := (K8.box 2).seven; obtain ⟨⟨e0, e1, e2, e3, e4, e5, e6⟩, ein⟩ := (K8.box 3).seven; obtain ⟨⟨r0, r1, r2, r3⟩, -, rin⟩ := (K8.box 4).four4; simp only at o0 o1 o2 o3 o4 e0 e1 e2 e3 e4
  go_wp2_with (first
    | (go_at_call 13; first
        | (refine (c4 _ (hK.call K11.below) (hU.call K11.below)).mono ?_; rintro e w12 ⟨rfl, b12⟩; have K12 := K11.call b12; obtain ⟨⟨t0, t1, t2, t3⟩, -, tin⟩ := (K12.box 0).four4; obtain ⟨⟨h0, h1, h2, h3⟩, -, hin⟩ := (K12.box 1).four4; obtain ⟨⟨o0, o1, o2, o3, o4, o5, o6⟩, oin⟩ := (K12.box 2).seven; obtain ⟨⟨e0, e1, e2, e3, e4, e5, e6⟩, ein⟩ := (K12.box 3).seven; obtain ⟨⟨r0, r1, r2, r3⟩, -, rin⟩ := (K12.box 4).four4; simp only at o0 o1 o2 o3 o4 e0 e1 e2 e3 e4)
        | (refine (c3 _ (hK.call K10.below) (hU.call K10.below)).mono ?_; rintro e w11 ⟨rfl, b11⟩; have K11 := K10.call b11; obtain ⟨⟨t0, t1, t2, t3⟩, -, tin⟩ := (K11.box 0).four4; obtain ⟨⟨h0, h1, h2, h3⟩, -, hin⟩ := (K11.box 1).four4; obtain ⟨⟨o0, o1, o2, o3, o4, o5, o6⟩, oin⟩ := (K11.box 2).seven; obtain ⟨⟨e0, e1, e2, e3, e4, e5, e6⟩, ein⟩ := (K11.box 3).seven; obtain ⟨⟨r0, r1, r2, r3⟩, -, rin⟩ := (K11.box 4).four4; simp only at o0 o1 o2 o3 o4 e0 e1 e2 e3 e4)
        | (refine (c2 _ (hK.call K9.below) (hU.call K9.below)).mono ?_; rintro e w10 ⟨rfl, b10⟩; have K10 := K9.call b10; obtain ⟨⟨t0, t1, t2, t3⟩, -, tin⟩ := (K10.box 0).four4; obtain ⟨⟨h0, h1, h2, h3⟩, -, hin⟩ := (K10.box 1).four4; obtain ⟨⟨o0, o1, o2, o3, o4, o5, o6⟩, oin⟩ := (K10.box 2).seven; obtain ⟨⟨e0, e1, e2, e3, e4, e5, e6⟩, ein⟩ := (K10.box 3).seven; obtain ⟨⟨r0, r1, r2, r3⟩, -, rin⟩ := (K10.box 4).four4; simp only at o0 o1 o2 o3 o4 e0 e1 e2 e3 e4)
        | (refine (c1 _ (hK.call K8.below) (hU.call K8.below)).mono ?_; rintro e w9 ⟨rfl, b9⟩; have K9 := K8.call b9; obtain ⟨⟨t0, t1, t2, t3⟩, -, tin⟩ := (K9.box 0).four4; obtain ⟨⟨h0, h1, h2, h3⟩, -, hin⟩ := (K9.box 1).four4; obtain ⟨⟨o0, o1, o2, o3, o4, o5, o6⟩, oin⟩ := (K9.box 2).seven; obtain ⟨⟨e0, e1, e2, e3, e4, e5, e6⟩, ein⟩ := (K9.box 3).seven; obtain ⟨⟨r0, r1, r2, r3⟩, -, rin⟩ := (K9.box 4).four4; simp only at o0 o1 o2 o3 o4 e0 e1 e2 e3 e4))
    | fail)
  go_ret
  exact ⟨rfl, by first | exact K12.below | (rw [← hge]; exact K12.below)⟩
end Go.Proofs.YtkecekfapiegjaaDoor
