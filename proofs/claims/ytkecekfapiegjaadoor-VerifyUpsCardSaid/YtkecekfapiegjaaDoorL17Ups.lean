/-
  The law VerifyUps: what comes of any entry, by any width, is what the chapter says; it stays. Conditions: none.
-/
import Derived.Test.YtkecekfapiegjaaDoorM17Opn
import Derived.Test.YtkecekfapiegjaaDoorM17Ref
namespace Go.Proofs.YtkecekfapiegjaaDoor
set_option linter.unusedVariables false
set_option linter.unusedSimpArgs false
set_option maxRecDepth 10000
open Go.ChangeShapes Go.WideShapes Go.ChangeAt Go.RowKit

set_option maxRecDepth 100000 in
set_option maxHeartbeats 8000000 in
theorem verifyUps_any (n : Int) (x : Lf) (q : Nat) (hq : q < 18446744073709551616) (A : Option Addr) (c : Nat) (l : List Nd) (hl : l.length ≤ 9223372036854775807) (hf : ∀ y ∈ l, y.fine) (hx : x.fine15) (w : World) (hR : ndS.Row w w.heap.size A l) (hK : Tab w) (hU : TabU w) :
    Calls Tryd.prog 4 #[.int .i64 n, .agg (enV x q A l.length c)] w (Tells (.bool true) w.heap.size w) := by
  have cL := fun u hu => long16_any x q A c l hl (fun y hy => (hf y hy).1) hx.1 u hu
  have hlong := fun (h : longE x l = false) => longE_no h
  have hy : ∀ y ∈ l, y.halved := fun y hy => (hf y hy).2
  have cU := fun (hl : l.length ≤ 1000000000) hx' A' c' u hR' => up17_any n x q hq A' c' l hl hx' hx.2 hy u hR'
  have cR := fun (hl : l.length ≤ 1000000000) hx' u hR' => rup17_any n x q hq A c l hl hx' hx.2 hy u hR'
  have hcp := fun u (hl : l.length ≤ 1000000) hu => nd_copy17 u A c l hl hu
  obtain ⟨B, hB⟩ : ∃ B, longE x l = B := ⟨_, rfl⟩
  rw [hB] at cL hlong
  obtain ⟨⟨T, E⟩, hT⟩ : ∃ T, upE n x q l = T := ⟨_, rfl⟩
  rw [hT] at cU cR
  simp only at cU cR
  have hn := fun u => run_neq_rt T T u
  rw [RtP.same_self] at hn
  obtain ⟨N, hN⟩ : ∃ N, l.length = N := ⟨_, rfl⟩
  rw [hN] at cL cU cR hcp hlong hl ⊢
  have HN := hideIt hN
  clear hB hT hN hf
  obtain ⟨xp, xi, xs, xh, xl⟩ := x
  obtain ⟨ts, th, tl, tn⟩ := T
  simp only [RtP.val] at hn cU cR
  simp only at cL cU cR hlong
  obtain ⟨ge, hge⟩ : ∃ g, w.heap.size = g := ⟨_, rfl⟩
  have J0 := (Has.start w).addAt 39 (enV ⟨xp, xi, xs, xh, xl⟩ q A N c) (g := ge) hge
  go_enter Tryd.func4, Tryd.ntmps4
  go_upto_region 1 with fail
  change Code.wp _ _ _ _ (w.alloc (.cells (enV ⟨xp, xi, xs, xh, xl⟩ q A N c) 39))
  generalize w.alloc (.cells (enV ⟨xp, xi, xs, xh, xl⟩ q A N c) 39) = W0 at *
  obtain ⟨⟨x0, x1, x2, x3, x4, x5, x6⟩, xin⟩ := (J0.box 0).seven
  simp only at x0 x1 x2 x3 x4
  cases B with
  | true =>
    go_wp2_with (first | (go_at_call 15; refine (cL _ (hR.on J0.below)).mono ?_; rintro e w1 ⟨rfl, b1⟩; have J1 := J0.call b1) | fail)
    go_ret
    exact ⟨rfl, by first | exact J1.below | (rw [← hge]; exact J1.below)⟩
  | false =>
    obtain ⟨h100, -, hz1, hz2⟩ := hlong rfl
    have cU := cU (by omega) ⟨by omega, by omega⟩
    have cR := cR (by omega) ⟨by omega, by omega⟩
    have hcp := fun u => hcp u (by omega)
    go_upto_region 4 with (first | (go_at_call 15; refine (cL _ (hR.on J0.below)).mono ?_; rintro e w1 ⟨rfl, b1⟩; have J1 := J0.call b1; obtain ⟨⟨v0, v1, v2, v3, v4, v5, v6⟩, vin⟩ := (J1.box 0).seven; simp only at v0 v1 v2 v3 v4) | fail)
    have J2 := J1.add 39 (enV ⟨xp, xi, xs, xh, xl⟩ q A N c)
    have hgm : w.heap.size ≤ w1.heap.size := J1.size
    have hgl : ge < w1.heap.size := (J1.box 0).inside
    obtain ⟨gm, hgm0⟩ : ∃ g, w1.heap.size = g := ⟨_, rfl⟩
    rw [hgm0] at J2 hgm hgl ⊢
    change Code.wp _ _ _ _ (w1.alloc (.cells (enV ⟨xp, xi, xs, xh, xl⟩ q A N c) 39))
    generalize w1.alloc (.cells (enV ⟨xp, xi, xs, xh, xl⟩ q A N c) 39) = W2 at *
    clear x0 x1 x2 x3 x4 x5 x6 xin v0 v1 v2 v3 v4 v5 v6 vin J0 J1 b1 hgm0 cL hlong
    obtain ⟨⟨x0, x1, x2, x3, x4, x5, x6⟩, xin⟩ := (J2.box 1).seven
    simp only at x0 x1 x2 x3 x4
    obtain ⟨A', c', w2, hrun, hR2, b2⟩ := hcp W2 (hR.on J2.below)
    have J3 := J2.call b2
    obtain ⟨⟨y0, y1, y2, y3, y4, y5, y6⟩, yin⟩ := (J3.box 0).seven
    have yf := (J3.box 0).free 6
    simp only at y0 y1 y2 y3 y4
    have hgn : ∀ y ∈ [((ge : Nat), 39, enV ⟨xp, xi, xs, xh, xl⟩ q A N c)], y.1 ≠ gm := fun y hy => by
      obtain rfl := List.mem_singleton.1 hy
      simp only
      omega
    have J4 := J3.wrote hgm hgn 6 (.slice A' N c')
    have hS3 := hR2.more (J2.size)
    have hS4 := hR2.offOne ((Off.refl (One gm) w2).set_ (p := ⟨gm, 6, none⟩) (Or.inl rfl) (.slice A' N c')) (J3.box 0) (by decide)
    go_upto_region 5 with (first
      | (at_builtin; refine gen_run rfl _ _ _ rfl _ _ rfl rfl _ w2 hrun ?_)
      | fail)
    change Code.wp _ _ _ _ (w2.setCell ⟨gm, 6, none⟩ (.slice A' N c'))
    have J4 : Has w [(gm, 39, enV ⟨xp, xi, xs, xh, xl⟩ q A' N c'), (ge, 39, enV ⟨xp, xi, xs, xh, xl⟩ q A N c)] (w2.setCell ⟨gm, 6, none⟩ (.slice A' N c')) := J4
    generalize w2.setCell ⟨gm, 6, none⟩ (.slice A' N c') = W4 at *
    clear x0 x1 x2 x3 x4 x5 x6 xin y0 y1 y2 y3 y4 y5 y6 yin yf J3 J2 hrun hR2 hS3 b2
    obtain ⟨⟨x0, x1, x2, x3, x4, x5, x6⟩, xin⟩ := (J4.box 0).seven
    simp only at x0 x1 x2 x3 x4
    have K0 := Has.start W4
    go_upto_region 6 with (first
      | (go_at_call 16; refine (cU A' c' _ hS4.row (hK.call J4.below) (hU.call J4.below)).mono ?_; rintro e w5 ⟨rfl, b5⟩; have K1 := (K0.call b5).add 26 (rtB ts th tl tn))
      | fail)
    obtain ⟨g6, hg6⟩ : ∃ g, w5.heap.size = g := ⟨_, rfl⟩
    rw [hg6] at K1 ⊢
    change Code.wp _ _ _ _ (w5.alloc (.cells (rtB ts th tl tn) 26))
    generalize w5.alloc (.cells (rtB ts th tl tn) 26) = W5 at *
    have J5 := J4.call K1.below
    clear x0 x1 x2 x3 x4 x5 x6 xin b5 hg6 K0 cU
    obtain ⟨⟨x0, x1, x2, x3, x4, x5, x6⟩, xin⟩ := (J5.box 1).seven
    simp only at x0 x1 x2 x3 x4
    go_upto_region 7 with (first
      | (go_at_call 17; refine (cR _ (hR.on J5.below)).mono ?_; rintro e w6 ⟨rfl, b6⟩; have K2 := (K1.call b6).add 26 (rtB ts th tl tn))
      | fail)
    obtain ⟨g8, hg8⟩ : ∃ g, w6.heap.size = g := ⟨_, rfl⟩
    rw [hg8] at K2 ⊢
    change Code.wp _ _ _ _ (w6.alloc (.cells (rtB ts th tl tn) 26))
    generalize w6.alloc (.cells (rtB ts th tl tn) 26) = W6 at *
    have J6 := J4.call K2.below
    have hS6 := (hS4.call K2.below).row
    have hR6 := hR.on J6.below
    clear x0 x1 x2 x3 x4 x5 x6 xin b6 hg8 cR
    obtain ⟨⟨z0, z1, z2, z3⟩, -, zin⟩ := (K2.box 0).four4
    obtain ⟨⟨y0, y1, y2, y3⟩, -, yin⟩ := (K2.box 1).four4
    clear K1 K2 hS4 J5
    go_wp2
    go_loopg [10] N (fun gk i wr => ∃ k : Nat, k ≤ N ∧ N - k ≤ gk ∧ i = .int .i64 k ∧ Below W6.heap.size W6 wr)
    case atStart => exact ⟨0, Nat.zero_le _, by omega, rfl, Below.refl _ _⟩
    case round =>
      obtain ⟨k, hk, hgk, rfl, hb⟩ := hrel
      have HG := hideIt hgk
      have J := J6.call hb
      clear hgk z0 z1 z2 z3 zin y0 y1 y2 y3 yin
      obtain ⟨⟨x0, x1, x2, x3, x4, x5, x6⟩, xin⟩ := (J.box 0).seven
      obtain ⟨⟨y0, y1, y2, y3, y4, y5, y6⟩, yin⟩ := (J.box 1).seven
      by_cases hlt : k < N
      · obtain ⟨z, hz⟩ : ∃ z, l[k]? = some z := ⟨_, List.getElem?_eq_getElem (by rw [HN.out]; exact hlt)⟩
        obtain ⟨ad, rfl, g1, p0, p1, p2⟩ := nd_get (hR6.on hb) hz
        obtain ⟨ae, rfl, g2, r0, r1, r2⟩ := nd_get (hS6.on hb) hz
        have hq := fun u => (show (binOp .neq 49 z.val z.val).run Tryd.prog u = .ok (.bool false) u by rw [run_neq_nd, Nd.same_self]; rfl)
        obtain ⟨zs, zh, zl⟩ := z
        simp only [Nd.val] at p0 p1 p2 r0 r1 r2 hq
        have hlti : (k : Int) < (N : Int) := by omega
        go_upto_region 12 with fail
        go_quiet (fail)
        go_wp2
        go_roundg (N - (k + 1))
        case measure => have := HG.out; omega
        case rel => exact ⟨k + 1, by omega, Nat.le_refl _, by go_num, below_drewN hb _⟩
      · have e : k = N := by omega
        subst e
        have hlti : ¬ (k : Int) < (k : Int) := by omega
        go_wp2
        go_ret
        exact ⟨rfl, by first | exact J.below | (rw [← hge]; exact J.below)⟩
theorem verifyUps_core (H : Type) (enc : TypeId × Value → H) (W : World) (base : Nat) (args : Array Value) (ds gs : List (DataW H)) (before : List MemPlace)
    (hval : ∀ (j : Nat) t v, Tryd.f4.params[j]? = some t → args[j]? = some v → Value.okWide Tryd.prog W .any base t v)
    (hW : DataW.Whole enc Tryd.prog Tryd.f4.params.toList Rows.verifyUpsSpec.vars false W args.toList ds gs before) (hT : Tab W ∧ TabU W) :
    gs = [] ∧ ds.length = 2 ∧ Calls Tryd.prog 4 args W (Tells (.bool true) W.heap.size W) := by
  obtain ⟨p, q, hA, hV, -, -, -⟩ := hW
  obtain ⟨rfl, rfl⟩ := trodVars_none hV
  have hA : DataW.TrodAll enc Tryd.prog W 0 (fun _ => true) true Tryd.f4.params.toList args.toList ds p := hA
  rw [Tryd.params4] at hA hval
  obtain ⟨v0, vs0, d0, ds0, p0, ps0, e0, rfl, -, h0, hA⟩ := trodAll_cons hA
  obtain ⟨v1, vs1, d1, ds1, p1, ps1, rfl, rfl, -, h1, hA⟩ := trodAll_cons hA
  obtain ⟨rfl, rfl, rfl⟩ := trodAll_nil hA
  obtain rfl : args = #[v0, v1] := Array.ext' e0
  obtain ⟨n, rfl, -, -, -⟩ := open_int Tryd.underlying3 (hval 0 3 v0 rfl rfl) h0
  obtain ⟨x, r, A, c, l, rfl, hx, hr, hl, hf, hR⟩ := open_entry16 (hval 1 39 v1 rfl rfl) h1
  obtain ⟨r, rfl⟩ := Int.eq_ofNat_of_zero_le hr.1
  exact ⟨rfl, rfl, verifyUps_any n x r (by have := hr.2; omega) A c l hl hf hx W hR hT.1 hT.2⟩

end Go.Proofs.YtkecekfapiegjaaDoor
