/-
  The law VerifyHonest (the stage's theorem): each leaf of a tree holds, by its proof, under the root, and under no other one of that width. Conditions: none.
-/
import Derived.Test.YtkecekfapiegjaaDoorM17Opn
import Derived.Test.YtkecekfapiegjaaDoorU17Awak
import Derived.Test.YtkecekfapiegjaaDoorM16Fn
namespace Go.Proofs.YtkecekfapiegjaaDoor
set_option linter.unusedVariables false
set_option linter.unusedSimpArgs false
set_option maxRecDepth 10000
open Go.ChangeShapes Go.WideShapes Go.ChangeAt Go.RowKit

/-- Check of a tree's entry. -/
theorem honest_check {n : Int} {l : List Lf} {k : Nat} (hF : FairT n l k) {W : World} {lo : Nat} {ms : List EnM} (hok : EnOk W lo (sdsOf n l k) (posL l) ms) (hml : ms.length = l.length) {i : Nat} {m : EnM} (hm : ms[i]? = some m) (r : RtP) (V : Int)
    (hV : ∀ x, l[i]? = some x → checkE r x i (sdsOf n l k i) = V) (u : World) (hb : Below W.heap.size W u) (hK : Tab u) (hU : TabU u) :
    Calls Tryd.prog 13 #[r.val, .agg (enV m.lf m.pos m.A m.n m.c)] u (Tells (.int .i64 V) u.heap.size u) := by
  have hi := (List.getElem?_eq_some_iff.1 hm).1
  obtain ⟨x, hx⟩ : ∃ x, l[i]? = some x := ⟨_, List.getElem?_eq_getElem (by omega)⟩
  have hp : i < 2 ^ k := by rw [← hF.len]; omega
  have hfew := hF.few
  have h10 : 2 ^ k ≤ 2 ^ 10 := Nat.pow_le_pow_right (by decide) hfew
  obtain ⟨A, c, hm2, hS⟩ := hok.at_ hml hx
  rw [hm] at hm2
  injection hm2 with hm2
  subst hm2
  obtain ⟨h1, h2, h3⟩ := hF.all x (List.mem_of_getElem? hx)
  obtain ⟨s1, s2⟩ := mayT_sizes h1
  have hl : (sdsOf n l k i).length = k := sibs_len _ _ _ _
  rw [← hV x hx]
  exact check17_any r x i (by omega) A c (sdsOf n l k i) (by omega) ⟨by omega, by omega⟩ ⟨h2, h3⟩ (hF.sidesHalved hp) u (hS.call hb).row hK hU
theorem log_few17 {n : Int} {l : List Lf} {k : Nat} (h : FairT n l k) (hl : l.length ≤ 70) : k ≤ 6 := by
  by_cases hk : k ≤ 6
  · exact hk
  · have h1 : 2 ^ 7 ≤ 2 ^ k := Nat.pow_le_pow_right (by decide) (by omega)
    rw [← h.len] at h1
    omega
set_option maxRecDepth 100000 in
set_option maxHeartbeats 8000000 in
theorem verifyHonest_fair (n : Int) (A : Option Addr) (c : Nat) (l : List Lf) (o : RtP) (hc : l.length ≤ c) (hcm : c ≤ 9223372036854775807) (hg : greatLf l = false) (hF : FairT n l (Nat.log2 l.length)) (ho : o.hash.size ≤ 60)
    (w : World) (hR : lfS.Row w w.heap.size A l) (hK : Tab w) (hU : TabU w) :
    Calls Tryd.prog 6 #[.int .i64 n, .slice A l.length c, o.val] w (Tells (.bool true) w.heap.size w) := by
  obtain ⟨hl70, hsz⟩ := greatLf_no hg
  have cW := fun u hu hv => awake17_any u hu hv
  have cG := fun u hu => great15_any A c l (by omega) (fun x hx => ⟨by have := hsz x hx; omega, by have := hsz x hx; omega⟩) u hu
  rw [hg] at cG
  obtain ⟨k, hkk⟩ : ∃ k, Nat.log2 l.length = k := ⟨_, rfl⟩
  rw [hkk] at hF
  clear hkk
  have c1 := fun u hR hT hV => new15_fair n A c l u hF hR hT hV
  have hlen := hF.len
  have HF := hideIt hF
  have hsame := rtSame_iff o (rootT n l k)
  have hqo := fun u => run_neq_rt o (rootT n l k) u
  rw [← rtSame_eq] at hqo
  obtain ⟨S, hS⟩ : ∃ S, rtSame o (rootT n l k) = S := ⟨_, rfl⟩
  rw [hS] at hsame hqo
  obtain ⟨N, hN⟩ : ∃ N, l.length = N := ⟨_, rfl⟩
  rw [hN] at cG c1 hlen hl70 hc ⊢
  have HN := hideIt hN
  have HL := hideIt hlen
  have HO := hideIt hsame
  clear hg hF hN hlen hS hsame
  obtain ⟨os, oh, ol, on⟩ := o
  obtain ⟨Z, hZ⟩ : ∃ Z, os.size = Z := ⟨_, rfl⟩
  simp only [hZ] at ho
  have hZi : ¬ (60 : Int) < (Z : Int) := by omega
  obtain ⟨ge, hge⟩ : ∃ g, w.heap.size = g := ⟨_, rfl⟩
  have J0 := (Has.start w).addAt 26 (rtB os oh ol on) (g := ge) hge
  show Calls _ _ #[_, _, .agg (rtB os oh ol on)] _ _
  go_enter Tryd.func6, Tryd.ntmps6
  go_upto_region 1 with fail
  change Code.wp _ _ _ _ (w.alloc (.cells (rtB os oh ol on) 26))
  generalize w.alloc (.cells (rtB os oh ol on) 26) = W0 at *
  go_upto_region 8 with (first
    | (go_at_call 18; refine (cW _ (hK.call J0.below) (hU.call J0.below)).mono ?_; rintro e w1 ⟨rfl, b1⟩; have J1 := J0.call b1; obtain ⟨⟨s0, s1, s2, s3⟩, -, sin⟩ := (J1.box 0).four4)
    | (go_at_call 19; refine (cG _ (hR.on J1.below)).mono ?_; rintro e w2 ⟨rfl, rfl⟩)
    | (go_at_call 20; refine (c1 _ (hR.on J1.below) (hK.call J1.below) (hU.call J1.below)).mono ?_; rintro e w3 ⟨b3, q, rfl, hT3, hq3⟩; have J3 := J1.call b3)
    | fail)
  have hKw := J3.below
  have hK3 := hK.call hKw
  have hU3 := hU.call hKw
  clear s0 s1 s2 s3 sin J0 J1 b1 b3 cW cG c1 hq3 hR hK hU
  have cR := fun u (hu : TrAt u q n l k) => (show Calls Tryd.prog 21 #[.pointer (some ⟨q.g, 0, none⟩)] u (Tells (rootT n l k).val u.heap.size u) from root15_any hu HF.out)
  have hV0 : ∀ (i : Nat) x, l[i]? = some x → checkE (rootT n l k) x i (sdsOf n l k i) = 0 ∧ ((rootT n l k).hash.size : Int) = n := fun i x hx => HF.out.holds (by rw [← HF.out.len]; exact (List.getElem?_eq_some_iff.1 hx).1) hx
  obtain ⟨R, hRR⟩ : ∃ R, rootT n l k = R := ⟨_, rfl⟩
  rw [hRR] at cR hV0 hqo HO
  clear hRR
  have hV2 : ∀ (i : Nat) x, l[i]? = some x → checkE ⟨R.hash, R.h, IntKind.u64.wrap (R.l + 1), R.n⟩ x i (sdsOf n l k i) = 160 := fun i x hx => holds_sum (hV0 i x hx).1 (fun h => by
    have := h.2
    rw [IntKind.wrap_u64] at this
    omega)
  obtain ⟨ts, th, tl, tn⟩ := R
  simp only [RtP.val] at cR hqo
  simp only at hV2
  have HV := hideIt hV0
  have HV2 := hideIt hV2
  clear hV0 hV2
  go_upto_region 9 with (first
    | (go_at_call 21; refine (cR _ hT3).mono ?_; rintro e w4 ⟨rfl, b4⟩; have J4 := (J3.call b4).add 26 (rtB ts th tl tn); have b4r := chainA b4 (.cells (rtB ts th tl tn) 26))
    | fail)
  obtain ⟨gr, hgr⟩ : ∃ g, w4.heap.size = g := ⟨_, rfl⟩
  rw [hgr] at J4 ⊢
  change Code.wp _ _ _ _ (w4.alloc (.cells (rtB ts th tl tn) 26))
  generalize w4.alloc (.cells (rtB ts th tl tn) 26) = W4 at *
  have hT4 := hT3.call b4r
  have hK4 := hK3.call b4r
  have hU4 := hU3.call b4r
  clear cR b4 hgr hT3 hK3 hU3 b4r J3 hKw
  have cA := all16_tree hT4 HF.out
  rw [HN.out] at cA
  go_upto_region 10 with (first
    | (go_at_call 22; refine cA.mono ?_; rintro e w8 ⟨b8, gx, cx, ms, rfl, hgx, hcx, BX, hml, hok⟩; have J8 := J4.call b8)
    | fail)
  have hK8 := hK4.call b8
  have hU8 := hU4.call b8
  clear cA hT4 hK4 hU4 b8 J4
  obtain ⟨⟨t0, t1, t2, t3⟩, -, tin⟩ := (J8.box 0).four4
  have cV := all17_any ⟨ts, th, tl, tn⟩ (some ⟨gx, 0, none⟩) cx ms (by omega) (fun _ => 0) w8 BX.row (fun i m u hm hb => honest_check HF.out hok (by rw [hml, HN.out]) hm ⟨ts, th, tl, tn⟩ 0 (fun x hx => (HV.out i x hx).1) u hb (hK8.call hb) (hU8.call hb))
  rw [hml] at cV
  simp only [RtP.val] at cV
  have hfst : ∀ k' E', FirstV (fun _ => 0) N k' E' → N = k' ∧ 0 = E' := fun k' E' h => FirstV.once ⟨Nat.le_refl _, fun _ _ => rfl, Or.inl ⟨rfl, rfl⟩⟩ h
  go_upto_region 11 with (first
    | (go_at_call 14; refine cV.mono ?_; rintro e w9 ⟨b9, k9, E9, rfl, hfv⟩; obtain ⟨rfl, rfl⟩ := hfst _ _ hfv; have J9 := J8.call b9)
    | fail)
  clear t0 t1 t2 t3 tin cV hfst hfv
  have J10 := J9
  obtain ⟨⟨t0, t1, t2, t3⟩, -, tin⟩ := (J9.box 0).four4
  have hlo : w.heap.size ≤ w9.heap.size := J9.size
  have hl1 : gr < w9.heap.size := (J9.box 0).inside
  have hl2 : ge < w9.heap.size := (J9.box 1).inside
  have q0 : (((N : Nat) : Int) != (N : Int)) = false := by simp
  obtain ⟨gm, hgm⟩ : ∃ g, w9.heap.size = g := ⟨_, rfl⟩
  have K1 := J9.addAt 26 (rtB ts th tl tn) (g := gm) hgm
  go_upto_region 14 with fail
  rw [hgm] at hlo hl1 hl2
  change Code.wp _ _ _ _ (w9.alloc (.cells (rtB ts th tl tn) 26))
  have bK := chainA b9 (.cells (rtB ts th tl tn) 26)
  generalize w9.alloc (.cells (rtB ts th tl tn) 26) = W10 at *
  have hn : ∀ y ∈ [(gr, 26, rtB ts th tl tn), (ge, 26, rtB os oh ol on)], y.1 ≠ gm := fun y hy => by
    simp only [List.mem_cons, List.not_mem_nil, or_false] at hy
    rcases hy with rfl | rfl <;> simp only <;> omega
  have y2 : W10.cell? ⟨gm, 2, none⟩ = some (.int .u64 tl) := (K1.box 0).read 2
  have yf := (K1.box 0).free 2
  have yin := (K1.box 0).inside
  obtain ⟨m2, hm2⟩ : ∃ m, IntKind.u64.wrap (tl + 1) = m := ⟨_, rfl⟩
  rw [hm2] at HV2
  have K2 := K1.wrote hlo hn 2 (.int .u64 m2)
  have bK2 : Below w8.heap.size w8 (W10.setCell ⟨gm, 2, none⟩ (.int .u64 m2)) := bK.setCell (p := ⟨gm, 2, none⟩) (by show w8.heap.size ≤ gm; have := b9.size; omega) _
  go_upto_region 15 with fail
  change Code.wp _ _ _ _ (W10.setCell ⟨gm, 2, none⟩ (.int .u64 m2))
  generalize W10.setCell ⟨gm, 2, none⟩ (.int .u64 m2) = W11 at *
  have K2 : Has w [(gm, 26, rtB ts th m2 tn), (gr, 26, rtB ts th tl tn), (ge, 26, rtB os oh ol on)] W11 := K2
  clear t0 t1 t2 t3 tin J9 J10 K1 y2 yf yin bK hn b9 J8 hm2
  go_wp2
  go_loopg [14] N (fun gk i wr => ∃ p : Nat, p ≤ N ∧ N - p ≤ gk ∧ i = .int .i64 p ∧ Below W11.heap.size W11 wr)
  case atStart => exact ⟨0, Nat.zero_le _, by omega, rfl, Below.refl _ _⟩
  case round =>
    obtain ⟨p, hp, hgk, rfl, hb⟩ := hrel
    have HG := hideIt hgk
    clear hgk
    by_cases hlt : p < N
    · obtain ⟨x, hx⟩ : ∃ r, l[p]? = some r := ⟨_, List.getElem?_eq_getElem (by rw [HN.out]; exact hlt)⟩
      obtain ⟨A7, c7, hms, -⟩ := hok.at_ (by rw [hml, HN.out]) hx
      have hsl : (sdsOf n l k p).length = k := sibs_len _ _ _ _
      rw [hsl] at hms
      have hb9 := chain bK2 hb
      have cM := fun u hb' => honest_check HF.out hok (by rw [hml, HN.out]) hms ⟨ts, th, m2, tn⟩ 160 (fun y hy => HV2.out p y hy) u hb' (hK8.call hb') (hU8.call hb')
      have cO := fun V (hV : checkE ⟨os, oh, ol, on⟩ x p (sdsOf n l k p) = V) u hb' => honest_check HF.out hok (by rw [hml, HN.out]) hms ⟨os, oh, ol, on⟩ V (fun y hy => by rw [hx] at hy; injection hy with hy; rw [← hy]; exact hV) u hb' (hK8.call hb') (hU8.call hb')
      obtain ⟨v0, v1⟩ := HV.out p x hx
      have hO : S = false → (Z : Int) = n → checkE ⟨os, oh, ol, on⟩ x p (sdsOf n l k p) ≠ 0 := fun hS hZn h0 => by
        have e := HO.out.2 (holds_once h0 v0 (by simp only; rw [hZ, hZn]; exact v1.symm))
        rw [hS] at e
        cases e
      obtain ⟨yp, yi, ys, yh, yl⟩ := x
      have hpi : (p : Int) < (N : Int) := by omega
      simp only [RtP.val] at cM cO
      have hS : ∀ u, Below wr.heap.size wr u → (((u.cell? ⟨ge, 0, none⟩ = some (.string os) ∧ u.cell? ⟨ge, 1, none⟩ = some (.int .u64 oh) ∧ u.cell? ⟨ge, 2, none⟩ = some (.int .u64 ol) ∧ u.cell? ⟨ge, 3, none⟩ = some (.int .i64 on)) ∧ ge < u.heap.size) ∧ ((u.cell? ⟨gr, 0, none⟩ = some (.string ts) ∧ u.cell? ⟨gr, 1, none⟩ = some (.int .u64 th) ∧ u.cell? ⟨gr, 2, none⟩ = some (.int .u64 tl) ∧ u.cell? ⟨gr, 3, none⟩ = some (.int .i64 tn)) ∧ gr < u.heap.size)) ∧ (((u.cell? ⟨gm, 0, none⟩ = some (.string ts) ∧ u.cell? ⟨gm, 1, none⟩ = some (.int .u64 th) ∧ u.cell? ⟨gm, 2, none⟩ = some (.int .u64 m2) ∧ u.cell? ⟨gm, 3, none⟩ = some (.int .i64 tn)) ∧ gm < u.heap.size) ∧ ((u.cell? ⟨gx, p * 7, none⟩ = some (.bool yp) ∧ u.cell? ⟨gx, p * 7 + 1, none⟩ = some (.string yi) ∧ u.cell? ⟨gx, p * 7 + 2, none⟩ = some (.string ys) ∧ u.cell? ⟨gx, p * 7 + 3, none⟩ = some (.int .u64 yh) ∧ u.cell? ⟨gx, p * 7 + 4, none⟩ = some (.int .u64 yl) ∧ u.cell? ⟨gx, p * 7 + 5, none⟩ = some (.int .u64 p) ∧ u.cell? ⟨gx, p * 7 + 6, none⟩ = some (.slice A7 k c7)) ∧ gx < u.heap.size)) := fun u hu => by
        have B := BX.call (chain hb9 hu)
        have K := K2.call (chain hb hu)
        exact ⟨⟨⟨(K.box 2).four4.1, (K.box 2).inside⟩, (K.box 1).four4.1, (K.box 1).inside⟩, ⟨(K.box 0).four4.1, (K.box 0).inside⟩, ⟨B.cell hms (j := 0) (by decide), B.cell hms (j := 1) (by decide), B.cell hms (j := 2) (by decide), B.cell hms (j := 3) (by decide), B.cell hms (j := 4) (by decide), B.cell hms (j := 5) (by decide), B.cell hms (j := 6) (by decide)⟩, B.inside⟩
      clear v0 v1 hx
      have b0 := (Below.refl wr.heap.size wr).drew
      cases S with
      | true =>
        go_upto_region 18 with fail
        refine wp_region_held_drew (S := fun u => (((u.cell? ⟨ge, 0, none⟩ = some (.string os) ∧ u.cell? ⟨ge, 1, none⟩ = some (.int .u64 oh) ∧ u.cell? ⟨ge, 2, none⟩ = some (.int .u64 ol) ∧ u.cell? ⟨ge, 3, none⟩ = some (.int .i64 on)) ∧ ge < u.heap.size) ∧ ((u.cell? ⟨gr, 0, none⟩ = some (.string ts) ∧ u.cell? ⟨gr, 1, none⟩ = some (.int .u64 th) ∧ u.cell? ⟨gr, 2, none⟩ = some (.int .u64 tl) ∧ u.cell? ⟨gr, 3, none⟩ = some (.int .i64 tn)) ∧ gr < u.heap.size)) ∧ (((u.cell? ⟨gm, 0, none⟩ = some (.string ts) ∧ u.cell? ⟨gm, 1, none⟩ = some (.int .u64 th) ∧ u.cell? ⟨gm, 2, none⟩ = some (.int .u64 m2) ∧ u.cell? ⟨gm, 3, none⟩ = some (.int .i64 tn)) ∧ gm < u.heap.size) ∧ ((u.cell? ⟨gx, p * 7, none⟩ = some (.bool yp) ∧ u.cell? ⟨gx, p * 7 + 1, none⟩ = some (.string yi) ∧ u.cell? ⟨gx, p * 7 + 2, none⟩ = some (.string ys) ∧ u.cell? ⟨gx, p * 7 + 3, none⟩ = some (.int .u64 yh) ∧ u.cell? ⟨gx, p * 7 + 4, none⟩ = some (.int .u64 yl) ∧ u.cell? ⟨gx, p * 7 + 5, none⟩ = some (.int .u64 p) ∧ u.cell? ⟨gx, p * 7 + 6, none⟩ = some (.slice A7 k c7)) ∧ gx < u.heap.size))) (by kernel_rfl) (hS _ b0) (fun hHeld => ?_)
        generalize wr.drew = Wd at *
        refine wpAnyH_take (i := 0) (v := ?_) rfl (by kernel_rfl) (by kernel_rfl) (by kernel_rfl) (fun _ _ _ h => h) (Or.inl ⟨by rfl, ?_⟩) (by assumption) ?_
        rotate_left 1
        · intro w hSw; (try dsimp only at hSw); go_simp; try with_reducible rfl
        try simp only [Act.put, List.getElem_toArray, List.getElem_cons_succ, List.getElem_cons_zero, List.setIfInBounds_toArray, List.set_cons_zero, List.set_cons_succ]
        refine wpAnyH_take (i := 1) (v := ?_) rfl (by kernel_rfl) (by kernel_rfl) (by kernel_rfl) (fun _ _ _ h => h) (Or.inl ⟨by rfl, ?_⟩) (by assumption) ?_
        rotate_left 1
        · intro w hSw; (try dsimp only at hSw); go_simp; try with_reducible rfl
        try simp only [Act.put, List.getElem_toArray, List.getElem_cons_succ, List.getElem_cons_zero, List.setIfInBounds_toArray, List.set_cons_zero, List.set_cons_succ]
        refine wpAnyH_take (i := 2) (v := ?_) rfl (by kernel_rfl) (by kernel_rfl) (by kernel_rfl) (fun _ _ _ h => h) (Or.inl ⟨by rfl, ?_⟩) (by assumption) ?_
        rotate_left 1
        · intro w hSw; (try dsimp only at hSw); go_simp; try with_reducible rfl
        try simp only [Act.put, List.getElem_toArray, List.getElem_cons_succ, List.getElem_cons_zero, List.setIfInBounds_toArray, List.set_cons_zero, List.set_cons_succ]
        refine wpAnyH_take (i := 3) (v := ?_) rfl (by kernel_rfl) (by kernel_rfl) (by kernel_rfl) (fun _ _ _ h => h) (Or.inl ⟨by rfl, ?_⟩) (by assumption) ?_
        rotate_left 1
        · intro w hSw; (try dsimp only at hSw); go_simp; try with_reducible rfl
        try simp only [Act.put, List.getElem_toArray, List.getElem_cons_succ, List.getElem_cons_zero, List.setIfInBounds_toArray, List.set_cons_zero, List.set_cons_succ]
        refine wpAnyH_take (i := 4) (v := undef) rfl (by kernel_rfl) (by kernel_rfl) (by kernel_rfl) (fun _ _ _ h => h) (Or.inr ⟨by rfl, rfl⟩) (by assumption) ?_
        try simp only [Act.put, List.getElem_toArray, List.getElem_cons_succ, List.getElem_cons_zero, List.setIfInBounds_toArray, List.set_cons_zero, List.set_cons_succ]
        refine wpAnyH_take (i := 5) (v := undef) rfl (by kernel_rfl) (by kernel_rfl) (by kernel_rfl) (fun _ _ _ h => h) (Or.inr ⟨by rfl, rfl⟩) (by assumption) ?_
        try simp only [Act.put, List.getElem_toArray, List.getElem_cons_succ, List.getElem_cons_zero, List.setIfInBounds_toArray, List.set_cons_zero, List.set_cons_succ]
        refine wpAnyH_take (i := 6) (v := undef) rfl (by kernel_rfl) (by kernel_rfl) (by kernel_rfl) (fun _ _ _ h => h) (Or.inr ⟨by rfl, rfl⟩) (by assumption) ?_
        try simp only [Act.put, List.getElem_toArray, List.getElem_cons_succ, List.getElem_cons_zero, List.setIfInBounds_toArray, List.set_cons_zero, List.set_cons_succ]
        refine wpAnyH_take (i := 7) (v := undef) rfl (by kernel_rfl) (by kernel_rfl) (by kernel_rfl) (fun _ _ _ h => h) (Or.inr ⟨by rfl, rfl⟩) (by assumption) ?_
        try simp only [Act.put, List.getElem_toArray, List.getElem_cons_succ, List.getElem_cons_zero, List.setIfInBounds_toArray, List.set_cons_zero, List.set_cons_succ]
        refine wpAnyH_take (i := 8) (v := undef) rfl (by kernel_rfl) (by kernel_rfl) (by kernel_rfl) (fun _ _ _ h => h) (Or.inr ⟨by rfl, rfl⟩) (by assumption) ?_
        try simp only [Act.put, List.getElem_toArray, List.getElem_cons_succ, List.getElem_cons_zero, List.setIfInBounds_toArray, List.set_cons_zero, List.set_cons_succ]
        refine wpAnyH_take (i := 9) (v := ?_) rfl (by kernel_rfl) (by kernel_rfl) (by kernel_rfl) (fun _ _ _ h => h) (Or.inl ⟨by rfl, ?_⟩) (by assumption) ?_
        rotate_left 1
        · intro w hSw; (try dsimp only at hSw); go_simp; try with_reducible rfl
        try simp only [Act.put, List.getElem_toArray, List.getElem_cons_succ, List.getElem_cons_zero, List.setIfInBounds_toArray, List.set_cons_zero, List.set_cons_succ]
        refine wpAnyH_take (i := 10) (v := ?_) rfl (by kernel_rfl) (by kernel_rfl) (by kernel_rfl) (fun _ _ _ h => h) (Or.inl ⟨by rfl, ?_⟩) (by assumption) ?_
        rotate_left 1
        · intro w hSw; (try dsimp only at hSw); go_simp; try with_reducible rfl
        try simp only [Act.put, List.getElem_toArray, List.getElem_cons_succ, List.getElem_cons_zero, List.setIfInBounds_toArray, List.set_cons_zero, List.set_cons_succ]
        refine wpAnyH_take (i := 11) (v := undef) rfl (by kernel_rfl) (by kernel_rfl) (by kernel_rfl) (fun _ _ _ h => h) (Or.inr ⟨by rfl, rfl⟩) (by assumption) ?_
        try simp only [Act.put, List.getElem_toArray, List.getElem_cons_succ, List.getElem_cons_zero, List.setIfInBounds_toArray, List.set_cons_zero, List.set_cons_succ]
        refine wpAnyH_take (i := 12) (v := undef) rfl (by kernel_rfl) (by kernel_rfl) (by kernel_rfl) (fun _ _ _ h => h) (Or.inr ⟨by rfl, rfl⟩) (by assumption) ?_
        try simp only [Act.put, List.getElem_toArray, List.getElem_cons_succ, List.getElem_cons_zero, List.setIfInBounds_toArray, List.set_cons_zero, List.set_cons_succ]
        refine wpAnyH_take (i := 13) (v := undef) rfl (by kernel_rfl) (by kernel_rfl) (by kernel_rfl) (fun _ _ _ h => h) (Or.inr ⟨by rfl, rfl⟩) (by assumption) ?_
        try simp only [Act.put, List.getElem_toArray, List.getElem_cons_succ, List.getElem_cons_zero, List.setIfInBounds_toArray, List.set_cons_zero, List.set_cons_succ]
        refine wpAnyH_take (i := 14) (v := undef) rfl (by kernel_rfl) (by kernel_rfl) (by kernel_rfl) (fun _ _ _ h => h) (Or.inr ⟨by rfl, rfl⟩) (by assumption) ?_
        try simp only [Act.put, List.getElem_toArray, List.getElem_cons_succ, List.getElem_cons_zero, List.setIfInBounds_toArray, List.set_cons_zero, List.set_cons_succ]
        refine wpAnyH_take (i := 15) (v := undef) rfl (by kernel_rfl) (by kernel_rfl) (by kernel_rfl) (fun _ _ _ h => h) (Or.inr ⟨by rfl, rfl⟩) (by assumption) ?_
        try simp only [Act.put, List.getElem_toArray, List.getElem_cons_succ, List.getElem_cons_zero, List.setIfInBounds_toArray, List.set_cons_zero, List.set_cons_succ]
        refine wpAnyH_take (i := 16) (v := undef) rfl (by kernel_rfl) (by kernel_rfl) (by kernel_rfl) (fun _ _ _ h => h) (Or.inr ⟨by rfl, rfl⟩) (by assumption) ?_
        try simp only [Act.put, List.getElem_toArray, List.getElem_cons_succ, List.getElem_cons_zero, List.setIfInBounds_toArray, List.set_cons_zero, List.set_cons_succ]
        refine wpAnyH_take (i := 17) (v := undef) rfl (by kernel_rfl) (by kernel_rfl) (by kernel_rfl) (fun _ _ _ h => h) (Or.inr ⟨by rfl, rfl⟩) (by assumption) ?_
        try simp only [Act.put, List.getElem_toArray, List.getElem_cons_succ, List.getElem_cons_zero, List.setIfInBounds_toArray, List.set_cons_zero, List.set_cons_succ]
        refine wpAnyH_take (i := 18) (v := ?_) rfl (by kernel_rfl) (by kernel_rfl) (by kernel_rfl) (fun _ _ _ h => h) (Or.inl ⟨by rfl, ?_⟩) (by assumption) ?_
        rotate_left 1
        · intro w hSw; (try dsimp only at hSw); go_simp; try with_reducible rfl
        try simp only [Act.put, List.getElem_toArray, List.getElem_cons_succ, List.getElem_cons_zero, List.setIfInBounds_toArray, List.set_cons_zero, List.set_cons_succ]
        refine wpAnyH_take (i := 19) (v := ?_) rfl (by kernel_rfl) (by kernel_rfl) (by kernel_rfl) (fun _ _ _ h => h) (Or.inl ⟨by rfl, ?_⟩) (by assumption) ?_
        rotate_left 1
        · intro w hSw; (try dsimp only at hSw); go_simp; try with_reducible rfl
        try simp only [Act.put, List.getElem_toArray, List.getElem_cons_succ, List.getElem_cons_zero, List.setIfInBounds_toArray, List.set_cons_zero, List.set_cons_succ]
        refine wpAnyH_take (i := 20) (v := ?_) rfl (by kernel_rfl) (by kernel_rfl) (by kernel_rfl) (fun _ _ _ h => h) (Or.inl ⟨by rfl, ?_⟩) (by assumption) ?_
        rotate_left 1
        · intro w hSw; (try dsimp only at hSw); go_simp; try with_reducible rfl
        try simp only [Act.put, List.getElem_toArray, List.getElem_cons_succ, List.getElem_cons_zero, List.setIfInBounds_toArray, List.set_cons_zero, List.set_cons_succ]
        refine wpAnyH_take (i := 21) (v := ?_) rfl (by kernel_rfl) (by kernel_rfl) (by kernel_rfl) (fun _ _ _ h => h) (Or.inl ⟨by rfl, ?_⟩) (by assumption) ?_
        rotate_left 1
        · intro w hSw; (try dsimp only at hSw); go_simp; try with_reducible rfl
        try simp only [Act.put, List.getElem_toArray, List.getElem_cons_succ, List.getElem_cons_zero, List.setIfInBounds_toArray, List.set_cons_zero, List.set_cons_succ]
        refine wpAnyH_take (i := 22) (v := ?_) rfl (by kernel_rfl) (by kernel_rfl) (by kernel_rfl) (fun _ _ _ h => h) (Or.inl ⟨by rfl, ?_⟩) (by assumption) ?_
        rotate_left 1
        · intro w hSw; (try dsimp only at hSw); go_simp; try with_reducible rfl
        try simp only [Act.put, List.getElem_toArray, List.getElem_cons_succ, List.getElem_cons_zero, List.setIfInBounds_toArray, List.set_cons_zero, List.set_cons_succ]
        refine wpAnyH_take (i := 23) (v := ?_) rfl (by kernel_rfl) (by kernel_rfl) (by kernel_rfl) (fun _ _ _ h => h) (Or.inl ⟨by rfl, ?_⟩) (by assumption) ?_
        rotate_left 1
        · intro w hSw; (try dsimp only at hSw); go_simp; try with_reducible rfl
        try simp only [Act.put, List.getElem_toArray, List.getElem_cons_succ, List.getElem_cons_zero, List.setIfInBounds_toArray, List.set_cons_zero, List.set_cons_succ]
        refine wpAnyH_take (i := 24) (v := ?_) rfl (by kernel_rfl) (by kernel_rfl) (by kernel_rfl) (fun _ _ _ h => h) (Or.inl ⟨by rfl, ?_⟩) (by assumption) ?_
        rotate_left 1
        · intro w hSw; (try dsimp only at hSw); go_simp; try with_reducible rfl
        try simp only [Act.put, List.getElem_toArray, List.getElem_cons_succ, List.getElem_cons_zero, List.setIfInBounds_toArray, List.set_cons_zero, List.set_cons_succ]
        refine wpAnyH_ready (rs := [25]) (by kernel_rfl) (by simp) (AllReadyH.cons rfl (fun K hK => ?_) AllReadyH.nil)
        go_simp
        go_at_call 13
        refine (cM _ (chain hb9 b0)).mono ?_
        rintro e w13 ⟨rfl, b13⟩
        have b2 := chain b0 b13
        try simp only []
        refine hK.out _ _ (hS _ b2) (fun hHeld => ?_)
        clear hK K
        try simp only [Act.put, List.getElem_toArray, List.getElem_cons_succ, List.getElem_cons_zero, List.setIfInBounds_toArray, List.set_cons_zero, List.set_cons_succ]
        refine wpAnyH_take (i := 26) (v := ?_) rfl (by kernel_rfl) (by kernel_rfl) (by kernel_rfl) (fun _ _ _ h => h) (Or.inl ⟨by rfl, ?_⟩) (by assumption) ?_
        rotate_left 1
        · intro w hSw; (try dsimp only at hSw); go_simp; try with_reducible rfl
        try simp only [Act.put, List.getElem_toArray, List.getElem_cons_succ, List.getElem_cons_zero, List.setIfInBounds_toArray, List.set_cons_zero, List.set_cons_succ]
        refine wpAnyH_take (i := 27) (v := ?_) rfl (by kernel_rfl) (by kernel_rfl) (by kernel_rfl) (fun _ _ _ h => h) (Or.inl ⟨by rfl, ?_⟩) (by assumption) ?_
        rotate_left 1
        · intro w hSw; (try dsimp only at hSw); go_simp; try with_reducible rfl
        try simp only [Act.put, List.getElem_toArray, List.getElem_cons_succ, List.getElem_cons_zero, List.setIfInBounds_toArray, List.set_cons_zero, List.set_cons_succ]
        refine wpAnyH_done (by kernel_rfl) ?_ _
        go_wp2
        go_roundg (N - (p + 1))
        case measure => have := HG.out; omega
        case rel => exact ⟨p + 1, by omega, Nat.le_refl _, by go_num, chain hb b2⟩
      | false =>
        by_cases hZn : (Z : Int) = n
        · have qz : ((Z : Int) == n) = true := by simpa using hZn
          obtain ⟨V, hV⟩ : ∃ V, checkE ⟨os, oh, ol, on⟩ ⟨yp, yi, ys, yh, yl⟩ p (sdsOf n l k p) = V := ⟨_, rfl⟩
          have cO := cO V hV
          have hV0 := hO rfl hZn
          rw [hV] at hV0
          have qv : (V == 0) = false := by simpa using hV0
          clear hO hV hZn
          go_upto_region 18 with fail
          refine wp_region_held_drew (S := fun u => (((u.cell? ⟨ge, 0, none⟩ = some (.string os) ∧ u.cell? ⟨ge, 1, none⟩ = some (.int .u64 oh) ∧ u.cell? ⟨ge, 2, none⟩ = some (.int .u64 ol) ∧ u.cell? ⟨ge, 3, none⟩ = some (.int .i64 on)) ∧ ge < u.heap.size) ∧ ((u.cell? ⟨gr, 0, none⟩ = some (.string ts) ∧ u.cell? ⟨gr, 1, none⟩ = some (.int .u64 th) ∧ u.cell? ⟨gr, 2, none⟩ = some (.int .u64 tl) ∧ u.cell? ⟨gr, 3, none⟩ = some (.int .i64 tn)) ∧ gr < u.heap.size)) ∧ (((u.cell? ⟨gm, 0, none⟩ = some (.string ts) ∧ u.cell? ⟨gm, 1, none⟩ = some (.int .u64 th) ∧ u.cell? ⟨gm, 2, none⟩ = some (.int .u64 m2) ∧ u.cell? ⟨gm, 3, none⟩ = some (.int .i64 tn)) ∧ gm < u.heap.size) ∧ ((u.cell? ⟨gx, p * 7, none⟩ = some (.bool yp) ∧ u.cell? ⟨gx, p * 7 + 1, none⟩ = some (.string yi) ∧ u.cell? ⟨gx, p * 7 + 2, none⟩ = some (.string ys) ∧ u.cell? ⟨gx, p * 7 + 3, none⟩ = some (.int .u64 yh) ∧ u.cell? ⟨gx, p * 7 + 4, none⟩ = some (.int .u64 yl) ∧ u.cell? ⟨gx, p * 7 + 5, none⟩ = some (.int .u64 p) ∧ u.cell? ⟨gx, p * 7 + 6, none⟩ = some (.slice A7 k c7)) ∧ gx < u.heap.size))) (by kernel_rfl) (hS _ b0) (fun hHeld => ?_)
          generalize wr.drew = Wd at *
          refine wpAnyH_take (i := 0) (v := ?_) rfl (by kernel_rfl) (by kernel_rfl) (by kernel_rfl) (fun _ _ _ h => h) (Or.inl ⟨by rfl, ?_⟩) (by assumption) ?_
          rotate_left 1
          · intro w hSw; (try dsimp only at hSw); go_simp; try with_reducible rfl
          try simp only [Act.put, List.getElem_toArray, List.getElem_cons_succ, List.getElem_cons_zero, List.setIfInBounds_toArray, List.set_cons_zero, List.set_cons_succ]
          refine wpAnyH_take (i := 1) (v := ?_) rfl (by kernel_rfl) (by kernel_rfl) (by kernel_rfl) (fun _ _ _ h => h) (Or.inl ⟨by rfl, ?_⟩) (by assumption) ?_
          rotate_left 1
          · intro w hSw; (try dsimp only at hSw); go_simp; try with_reducible rfl
          try simp only [Act.put, List.getElem_toArray, List.getElem_cons_succ, List.getElem_cons_zero, List.setIfInBounds_toArray, List.set_cons_zero, List.set_cons_succ]
          refine wpAnyH_take (i := 2) (v := ?_) rfl (by kernel_rfl) (by kernel_rfl) (by kernel_rfl) (fun _ _ _ h => h) (Or.inl ⟨by rfl, ?_⟩) (by assumption) ?_
          rotate_left 1
          · intro w hSw; (try dsimp only at hSw); go_simp; try with_reducible rfl
          try simp only [Act.put, List.getElem_toArray, List.getElem_cons_succ, List.getElem_cons_zero, List.setIfInBounds_toArray, List.set_cons_zero, List.set_cons_succ]
          refine wpAnyH_take (i := 3) (v := ?_) rfl (by kernel_rfl) (by kernel_rfl) (by kernel_rfl) (fun _ _ _ h => h) (Or.inl ⟨by rfl, ?_⟩) (by assumption) ?_
          rotate_left 1
          · intro w hSw; (try dsimp only at hSw); go_simp; try with_reducible rfl
          try simp only [Act.put, List.getElem_toArray, List.getElem_cons_succ, List.getElem_cons_zero, List.setIfInBounds_toArray, List.set_cons_zero, List.set_cons_succ]
          refine wpAnyH_take (i := 4) (v := ?_) rfl (by kernel_rfl) (by kernel_rfl) (by kernel_rfl) (fun _ _ _ h => h) (Or.inl ⟨by rfl, ?_⟩) (by assumption) ?_
          rotate_left 1
          · intro w hSw; (try dsimp only at hSw); go_simp; try with_reducible rfl
          try simp only [Act.put, List.getElem_toArray, List.getElem_cons_succ, List.getElem_cons_zero, List.setIfInBounds_toArray, List.set_cons_zero, List.set_cons_succ]
          refine wpAnyH_take (i := 5) (v := ?_) rfl (by kernel_rfl) (by kernel_rfl) (by kernel_rfl) (fun _ _ _ h => h) (Or.inl ⟨by rfl, ?_⟩) (by assumption) ?_
          rotate_left 1
          · intro w hSw; (try dsimp only at hSw); go_simp; try with_reducible rfl
          try simp only [Act.put, List.getElem_toArray, List.getElem_cons_succ, List.getElem_cons_zero, List.setIfInBounds_toArray, List.set_cons_zero, List.set_cons_succ]
          refine wpAnyH_take (i := 6) (v := ?_) rfl (by kernel_rfl) (by kernel_rfl) (by kernel_rfl) (fun _ _ _ h => h) (Or.inl ⟨by rfl, ?_⟩) (by assumption) ?_
          rotate_left 1
          · intro w hSw; (try dsimp only at hSw); go_simp; try with_reducible rfl
          try simp only [Act.put, List.getElem_toArray, List.getElem_cons_succ, List.getElem_cons_zero, List.setIfInBounds_toArray, List.set_cons_zero, List.set_cons_succ]
          refine wpAnyH_take (i := 7) (v := ?_) rfl (by kernel_rfl) (by kernel_rfl) (by kernel_rfl) (fun _ _ _ h => h) (Or.inl ⟨by rfl, ?_⟩) (by assumption) ?_
          rotate_left 1
          · intro w hSw; (try dsimp only at hSw); go_simp; try with_reducible rfl
          try simp only [Act.put, List.getElem_toArray, List.getElem_cons_succ, List.getElem_cons_zero, List.setIfInBounds_toArray, List.set_cons_zero, List.set_cons_succ]
          refine wpAnyH_take (i := 8) (v := ?_) rfl (by kernel_rfl) (by kernel_rfl) (by kernel_rfl) (fun _ _ _ h => h) (Or.inl ⟨by rfl, ?_⟩) (by assumption) ?_
          rotate_left 1
          · intro w hSw; (try dsimp only at hSw); go_simp; try with_reducible rfl
          try simp only [Act.put, List.getElem_toArray, List.getElem_cons_succ, List.getElem_cons_zero, List.setIfInBounds_toArray, List.set_cons_zero, List.set_cons_succ]
          refine wpAnyH_take (i := 9) (v := ?_) rfl (by kernel_rfl) (by kernel_rfl) (by kernel_rfl) (fun _ _ _ h => h) (Or.inl ⟨by rfl, ?_⟩) (by assumption) ?_
          rotate_left 1
          · intro w hSw; (try dsimp only at hSw); go_simp; try with_reducible rfl
          try simp only [Act.put, List.getElem_toArray, List.getElem_cons_succ, List.getElem_cons_zero, List.setIfInBounds_toArray, List.set_cons_zero, List.set_cons_succ]
          refine wpAnyH_take (i := 10) (v := ?_) rfl (by kernel_rfl) (by kernel_rfl) (by kernel_rfl) (fun _ _ _ h => h) (Or.inl ⟨by rfl, ?_⟩) (by assumption) ?_
          rotate_left 1
          · intro w hSw; (try dsimp only at hSw); go_simp; try with_reducible rfl
          try simp only [Act.put, List.getElem_toArray, List.getElem_cons_succ, List.getElem_cons_zero, List.setIfInBounds_toArray, List.set_cons_zero, List.set_cons_succ]
          refine wpAnyH_take (i := 11) (v := ?_) rfl (by kernel_rfl) (by kernel_rfl) (by kernel_rfl) (fun _ _ _ h => h) (Or.inl ⟨by rfl, ?_⟩) (by assumption) ?_
          rotate_left 1
          · intro w hSw; (try dsimp only at hSw); go_simp; try with_reducible rfl
          try simp only [Act.put, List.getElem_toArray, List.getElem_cons_succ, List.getElem_cons_zero, List.setIfInBounds_toArray, List.set_cons_zero, List.set_cons_succ]
          refine wpAnyH_take (i := 12) (v := ?_) rfl (by kernel_rfl) (by kernel_rfl) (by kernel_rfl) (fun _ _ _ h => h) (Or.inl ⟨by rfl, ?_⟩) (by assumption) ?_
          rotate_left 1
          · intro w hSw; (try dsimp only at hSw); go_simp; try with_reducible rfl
          try simp only [Act.put, List.getElem_toArray, List.getElem_cons_succ, List.getElem_cons_zero, List.setIfInBounds_toArray, List.set_cons_zero, List.set_cons_succ]
          refine wpAnyH_take (i := 13) (v := ?_) rfl (by kernel_rfl) (by kernel_rfl) (by kernel_rfl) (fun _ _ _ h => h) (Or.inl ⟨by rfl, ?_⟩) (by assumption) ?_
          rotate_left 1
          · intro w hSw; (try dsimp only at hSw); go_simp; try with_reducible rfl
          try simp only [Act.put, List.getElem_toArray, List.getElem_cons_succ, List.getElem_cons_zero, List.setIfInBounds_toArray, List.set_cons_zero, List.set_cons_succ]
          refine wpAnyH_take (i := 14) (v := ?_) rfl (by kernel_rfl) (by kernel_rfl) (by kernel_rfl) (fun _ _ _ h => h) (Or.inl ⟨by rfl, ?_⟩) (by assumption) ?_
          rotate_left 1
          · intro w hSw; (try dsimp only at hSw); go_simp; try with_reducible rfl
          try simp only [Act.put, List.getElem_toArray, List.getElem_cons_succ, List.getElem_cons_zero, List.setIfInBounds_toArray, List.set_cons_zero, List.set_cons_succ]
          refine wpAnyH_take (i := 15) (v := ?_) rfl (by kernel_rfl) (by kernel_rfl) (by kernel_rfl) (fun _ _ _ h => h) (Or.inl ⟨by rfl, ?_⟩) (by assumption) ?_
          rotate_left 1
          · intro w hSw; (try dsimp only at hSw); go_simp; try with_reducible rfl
          try simp only [Act.put, List.getElem_toArray, List.getElem_cons_succ, List.getElem_cons_zero, List.setIfInBounds_toArray, List.set_cons_zero, List.set_cons_succ]
          refine wpAnyH_ready (rs := [16]) (by kernel_rfl) (by simp) (AllReadyH.cons rfl (fun K hK => ?_) AllReadyH.nil)
          go_simp
          go_at_call 13
          refine (cO _ (chain hb9 b0)).mono ?_
          rintro e w12 ⟨rfl, b12⟩
          have b1 := chain b0 b12
          try simp only []
          refine hK.out _ _ (hS _ b1) (fun hHeld => ?_)
          clear hK K
          try simp only [Act.put, List.getElem_toArray, List.getElem_cons_succ, List.getElem_cons_zero, List.setIfInBounds_toArray, List.set_cons_zero, List.set_cons_succ]
          refine wpAnyH_take (i := 17) (v := ?_) rfl (by kernel_rfl) (by kernel_rfl) (by kernel_rfl) (fun _ _ _ h => h) (Or.inl ⟨by rfl, ?_⟩) (by assumption) ?_
          rotate_left 1
          · intro w hSw; (try dsimp only at hSw); go_simp; try with_reducible rfl
          try simp only [Act.put, List.getElem_toArray, List.getElem_cons_succ, List.getElem_cons_zero, List.setIfInBounds_toArray, List.set_cons_zero, List.set_cons_succ]
          refine wpAnyH_take (i := 18) (v := ?_) rfl (by kernel_rfl) (by kernel_rfl) (by kernel_rfl) (fun _ _ _ h => h) (Or.inl ⟨by rfl, ?_⟩) (by assumption) ?_
          rotate_left 1
          · intro w hSw; (try dsimp only at hSw); go_simp; try with_reducible rfl
          try simp only [Act.put, List.getElem_toArray, List.getElem_cons_succ, List.getElem_cons_zero, List.setIfInBounds_toArray, List.set_cons_zero, List.set_cons_succ]
          refine wpAnyH_take (i := 19) (v := ?_) rfl (by kernel_rfl) (by kernel_rfl) (by kernel_rfl) (fun _ _ _ h => h) (Or.inl ⟨by rfl, ?_⟩) (by assumption) ?_
          rotate_left 1
          · intro w hSw; (try dsimp only at hSw); go_simp; try with_reducible rfl
          try simp only [Act.put, List.getElem_toArray, List.getElem_cons_succ, List.getElem_cons_zero, List.setIfInBounds_toArray, List.set_cons_zero, List.set_cons_succ]
          refine wpAnyH_take (i := 20) (v := ?_) rfl (by kernel_rfl) (by kernel_rfl) (by kernel_rfl) (fun _ _ _ h => h) (Or.inl ⟨by rfl, ?_⟩) (by assumption) ?_
          rotate_left 1
          · intro w hSw; (try dsimp only at hSw); go_simp; try with_reducible rfl
          try simp only [Act.put, List.getElem_toArray, List.getElem_cons_succ, List.getElem_cons_zero, List.setIfInBounds_toArray, List.set_cons_zero, List.set_cons_succ]
          refine wpAnyH_take (i := 21) (v := ?_) rfl (by kernel_rfl) (by kernel_rfl) (by kernel_rfl) (fun _ _ _ h => h) (Or.inl ⟨by rfl, ?_⟩) (by assumption) ?_
          rotate_left 1
          · intro w hSw; (try dsimp only at hSw); go_simp; try with_reducible rfl
          try simp only [Act.put, List.getElem_toArray, List.getElem_cons_succ, List.getElem_cons_zero, List.setIfInBounds_toArray, List.set_cons_zero, List.set_cons_succ]
          refine wpAnyH_take (i := 22) (v := ?_) rfl (by kernel_rfl) (by kernel_rfl) (by kernel_rfl) (fun _ _ _ h => h) (Or.inl ⟨by rfl, ?_⟩) (by assumption) ?_
          rotate_left 1
          · intro w hSw; (try dsimp only at hSw); go_simp; try with_reducible rfl
          try simp only [Act.put, List.getElem_toArray, List.getElem_cons_succ, List.getElem_cons_zero, List.setIfInBounds_toArray, List.set_cons_zero, List.set_cons_succ]
          refine wpAnyH_take (i := 23) (v := ?_) rfl (by kernel_rfl) (by kernel_rfl) (by kernel_rfl) (fun _ _ _ h => h) (Or.inl ⟨by rfl, ?_⟩) (by assumption) ?_
          rotate_left 1
          · intro w hSw; (try dsimp only at hSw); go_simp; try with_reducible rfl
          try simp only [Act.put, List.getElem_toArray, List.getElem_cons_succ, List.getElem_cons_zero, List.setIfInBounds_toArray, List.set_cons_zero, List.set_cons_succ]
          refine wpAnyH_take (i := 24) (v := ?_) rfl (by kernel_rfl) (by kernel_rfl) (by kernel_rfl) (fun _ _ _ h => h) (Or.inl ⟨by rfl, ?_⟩) (by assumption) ?_
          rotate_left 1
          · intro w hSw; (try dsimp only at hSw); go_simp; try with_reducible rfl
          try simp only [Act.put, List.getElem_toArray, List.getElem_cons_succ, List.getElem_cons_zero, List.setIfInBounds_toArray, List.set_cons_zero, List.set_cons_succ]
          refine wpAnyH_ready (rs := [25]) (by kernel_rfl) (by simp) (AllReadyH.cons rfl (fun K hK => ?_) AllReadyH.nil)
          go_simp
          go_at_call 13
          refine (cM _ (chain hb9 b1)).mono ?_
          rintro e w13 ⟨rfl, b13⟩
          have b2 := chain b1 b13
          try simp only []
          refine hK.out _ _ (hS _ b2) (fun hHeld => ?_)
          clear hK K
          try simp only [Act.put, List.getElem_toArray, List.getElem_cons_succ, List.getElem_cons_zero, List.setIfInBounds_toArray, List.set_cons_zero, List.set_cons_succ]
          refine wpAnyH_take (i := 26) (v := ?_) rfl (by kernel_rfl) (by kernel_rfl) (by kernel_rfl) (fun _ _ _ h => h) (Or.inl ⟨by rfl, ?_⟩) (by assumption) ?_
          rotate_left 1
          · intro w hSw; (try dsimp only at hSw); go_simp; try with_reducible rfl
          try simp only [Act.put, List.getElem_toArray, List.getElem_cons_succ, List.getElem_cons_zero, List.setIfInBounds_toArray, List.set_cons_zero, List.set_cons_succ]
          refine wpAnyH_take (i := 27) (v := ?_) rfl (by kernel_rfl) (by kernel_rfl) (by kernel_rfl) (fun _ _ _ h => h) (Or.inl ⟨by rfl, ?_⟩) (by assumption) ?_
          rotate_left 1
          · intro w hSw; (try dsimp only at hSw); go_simp; try with_reducible rfl
          try simp only [Act.put, List.getElem_toArray, List.getElem_cons_succ, List.getElem_cons_zero, List.setIfInBounds_toArray, List.set_cons_zero, List.set_cons_succ]
          refine wpAnyH_done (by kernel_rfl) ?_ _
          go_wp2
          go_roundg (N - (p + 1))
          case measure => have := HG.out; omega
          case rel => exact ⟨p + 1, by omega, Nat.le_refl _, by go_num, chain hb b2⟩
        · have qz : ((Z : Int) == n) = false := by simpa using hZn
          clear hO hZn cO
          go_upto_region 18 with fail
          refine wp_region_held_drew (S := fun u => (((u.cell? ⟨ge, 0, none⟩ = some (.string os) ∧ u.cell? ⟨ge, 1, none⟩ = some (.int .u64 oh) ∧ u.cell? ⟨ge, 2, none⟩ = some (.int .u64 ol) ∧ u.cell? ⟨ge, 3, none⟩ = some (.int .i64 on)) ∧ ge < u.heap.size) ∧ ((u.cell? ⟨gr, 0, none⟩ = some (.string ts) ∧ u.cell? ⟨gr, 1, none⟩ = some (.int .u64 th) ∧ u.cell? ⟨gr, 2, none⟩ = some (.int .u64 tl) ∧ u.cell? ⟨gr, 3, none⟩ = some (.int .i64 tn)) ∧ gr < u.heap.size)) ∧ (((u.cell? ⟨gm, 0, none⟩ = some (.string ts) ∧ u.cell? ⟨gm, 1, none⟩ = some (.int .u64 th) ∧ u.cell? ⟨gm, 2, none⟩ = some (.int .u64 m2) ∧ u.cell? ⟨gm, 3, none⟩ = some (.int .i64 tn)) ∧ gm < u.heap.size) ∧ ((u.cell? ⟨gx, p * 7, none⟩ = some (.bool yp) ∧ u.cell? ⟨gx, p * 7 + 1, none⟩ = some (.string yi) ∧ u.cell? ⟨gx, p * 7 + 2, none⟩ = some (.string ys) ∧ u.cell? ⟨gx, p * 7 + 3, none⟩ = some (.int .u64 yh) ∧ u.cell? ⟨gx, p * 7 + 4, none⟩ = some (.int .u64 yl) ∧ u.cell? ⟨gx, p * 7 + 5, none⟩ = some (.int .u64 p) ∧ u.cell? ⟨gx, p * 7 + 6, none⟩ = some (.slice A7 k c7)) ∧ gx < u.heap.size))) (by kernel_rfl) (hS _ b0) (fun hHeld => ?_)
          generalize wr.drew = Wd at *
          refine wpAnyH_take (i := 0) (v := ?_) rfl (by kernel_rfl) (by kernel_rfl) (by kernel_rfl) (fun _ _ _ h => h) (Or.inl ⟨by rfl, ?_⟩) (by assumption) ?_
          rotate_left 1
          · intro w hSw; (try dsimp only at hSw); go_simp; try with_reducible rfl
          try simp only [Act.put, List.getElem_toArray, List.getElem_cons_succ, List.getElem_cons_zero, List.setIfInBounds_toArray, List.set_cons_zero, List.set_cons_succ]
          refine wpAnyH_take (i := 1) (v := ?_) rfl (by kernel_rfl) (by kernel_rfl) (by kernel_rfl) (fun _ _ _ h => h) (Or.inl ⟨by rfl, ?_⟩) (by assumption) ?_
          rotate_left 1
          · intro w hSw; (try dsimp only at hSw); go_simp; try with_reducible rfl
          try simp only [Act.put, List.getElem_toArray, List.getElem_cons_succ, List.getElem_cons_zero, List.setIfInBounds_toArray, List.set_cons_zero, List.set_cons_succ]
          refine wpAnyH_take (i := 2) (v := ?_) rfl (by kernel_rfl) (by kernel_rfl) (by kernel_rfl) (fun _ _ _ h => h) (Or.inl ⟨by rfl, ?_⟩) (by assumption) ?_
          rotate_left 1
          · intro w hSw; (try dsimp only at hSw); go_simp; try with_reducible rfl
          try simp only [Act.put, List.getElem_toArray, List.getElem_cons_succ, List.getElem_cons_zero, List.setIfInBounds_toArray, List.set_cons_zero, List.set_cons_succ]
          refine wpAnyH_take (i := 3) (v := ?_) rfl (by kernel_rfl) (by kernel_rfl) (by kernel_rfl) (fun _ _ _ h => h) (Or.inl ⟨by rfl, ?_⟩) (by assumption) ?_
          rotate_left 1
          · intro w hSw; (try dsimp only at hSw); go_simp; try with_reducible rfl
          try simp only [Act.put, List.getElem_toArray, List.getElem_cons_succ, List.getElem_cons_zero, List.setIfInBounds_toArray, List.set_cons_zero, List.set_cons_succ]
          refine wpAnyH_take (i := 4) (v := ?_) rfl (by kernel_rfl) (by kernel_rfl) (by kernel_rfl) (fun _ _ _ h => h) (Or.inl ⟨by rfl, ?_⟩) (by assumption) ?_
          rotate_left 1
          · intro w hSw; (try dsimp only at hSw); go_simp; try with_reducible rfl
          try simp only [Act.put, List.getElem_toArray, List.getElem_cons_succ, List.getElem_cons_zero, List.setIfInBounds_toArray, List.set_cons_zero, List.set_cons_succ]
          refine wpAnyH_take (i := 5) (v := ?_) rfl (by kernel_rfl) (by kernel_rfl) (by kernel_rfl) (fun _ _ _ h => h) (Or.inl ⟨by rfl, ?_⟩) (by assumption) ?_
          rotate_left 1
          · intro w hSw; (try dsimp only at hSw); go_simp; try with_reducible rfl
          try simp only [Act.put, List.getElem_toArray, List.getElem_cons_succ, List.getElem_cons_zero, List.setIfInBounds_toArray, List.set_cons_zero, List.set_cons_succ]
          refine wpAnyH_take (i := 6) (v := ?_) rfl (by kernel_rfl) (by kernel_rfl) (by kernel_rfl) (fun _ _ _ h => h) (Or.inl ⟨by rfl, ?_⟩) (by assumption) ?_
          rotate_left 1
          · intro w hSw; (try dsimp only at hSw); go_simp; try with_reducible rfl
          try simp only [Act.put, List.getElem_toArray, List.getElem_cons_succ, List.getElem_cons_zero, List.setIfInBounds_toArray, List.set_cons_zero, List.set_cons_succ]
          refine wpAnyH_take (i := 7) (v := ?_) rfl (by kernel_rfl) (by kernel_rfl) (by kernel_rfl) (fun _ _ _ h => h) (Or.inl ⟨by rfl, ?_⟩) (by assumption) ?_
          rotate_left 1
          · intro w hSw; (try dsimp only at hSw); go_simp; try with_reducible rfl
          try simp only [Act.put, List.getElem_toArray, List.getElem_cons_succ, List.getElem_cons_zero, List.setIfInBounds_toArray, List.set_cons_zero, List.set_cons_succ]
          refine wpAnyH_take (i := 8) (v := ?_) rfl (by kernel_rfl) (by kernel_rfl) (by kernel_rfl) (fun _ _ _ h => h) (Or.inl ⟨by rfl, ?_⟩) (by assumption) ?_
          rotate_left 1
          · intro w hSw; (try dsimp only at hSw); go_simp; try with_reducible rfl
          try simp only [Act.put, List.getElem_toArray, List.getElem_cons_succ, List.getElem_cons_zero, List.setIfInBounds_toArray, List.set_cons_zero, List.set_cons_succ]
          refine wpAnyH_take (i := 9) (v := ?_) rfl (by kernel_rfl) (by kernel_rfl) (by kernel_rfl) (fun _ _ _ h => h) (Or.inl ⟨by rfl, ?_⟩) (by assumption) ?_
          rotate_left 1
          · intro w hSw; (try dsimp only at hSw); go_simp; try with_reducible rfl
          try simp only [Act.put, List.getElem_toArray, List.getElem_cons_succ, List.getElem_cons_zero, List.setIfInBounds_toArray, List.set_cons_zero, List.set_cons_succ]
          refine wpAnyH_take (i := 10) (v := ?_) rfl (by kernel_rfl) (by kernel_rfl) (by kernel_rfl) (fun _ _ _ h => h) (Or.inl ⟨by rfl, ?_⟩) (by assumption) ?_
          rotate_left 1
          · intro w hSw; (try dsimp only at hSw); go_simp; try with_reducible rfl
          try simp only [Act.put, List.getElem_toArray, List.getElem_cons_succ, List.getElem_cons_zero, List.setIfInBounds_toArray, List.set_cons_zero, List.set_cons_succ]
          refine wpAnyH_take (i := 11) (v := undef) rfl (by kernel_rfl) (by kernel_rfl) (by kernel_rfl) (fun _ _ _ h => h) (Or.inr ⟨by rfl, rfl⟩) (by assumption) ?_
          try simp only [Act.put, List.getElem_toArray, List.getElem_cons_succ, List.getElem_cons_zero, List.setIfInBounds_toArray, List.set_cons_zero, List.set_cons_succ]
          refine wpAnyH_take (i := 12) (v := undef) rfl (by kernel_rfl) (by kernel_rfl) (by kernel_rfl) (fun _ _ _ h => h) (Or.inr ⟨by rfl, rfl⟩) (by assumption) ?_
          try simp only [Act.put, List.getElem_toArray, List.getElem_cons_succ, List.getElem_cons_zero, List.setIfInBounds_toArray, List.set_cons_zero, List.set_cons_succ]
          refine wpAnyH_take (i := 13) (v := undef) rfl (by kernel_rfl) (by kernel_rfl) (by kernel_rfl) (fun _ _ _ h => h) (Or.inr ⟨by rfl, rfl⟩) (by assumption) ?_
          try simp only [Act.put, List.getElem_toArray, List.getElem_cons_succ, List.getElem_cons_zero, List.setIfInBounds_toArray, List.set_cons_zero, List.set_cons_succ]
          refine wpAnyH_take (i := 14) (v := undef) rfl (by kernel_rfl) (by kernel_rfl) (by kernel_rfl) (fun _ _ _ h => h) (Or.inr ⟨by rfl, rfl⟩) (by assumption) ?_
          try simp only [Act.put, List.getElem_toArray, List.getElem_cons_succ, List.getElem_cons_zero, List.setIfInBounds_toArray, List.set_cons_zero, List.set_cons_succ]
          refine wpAnyH_take (i := 15) (v := undef) rfl (by kernel_rfl) (by kernel_rfl) (by kernel_rfl) (fun _ _ _ h => h) (Or.inr ⟨by rfl, rfl⟩) (by assumption) ?_
          try simp only [Act.put, List.getElem_toArray, List.getElem_cons_succ, List.getElem_cons_zero, List.setIfInBounds_toArray, List.set_cons_zero, List.set_cons_succ]
          refine wpAnyH_take (i := 16) (v := undef) rfl (by kernel_rfl) (by kernel_rfl) (by kernel_rfl) (fun _ _ _ h => h) (Or.inr ⟨by rfl, rfl⟩) (by assumption) ?_
          try simp only [Act.put, List.getElem_toArray, List.getElem_cons_succ, List.getElem_cons_zero, List.setIfInBounds_toArray, List.set_cons_zero, List.set_cons_succ]
          refine wpAnyH_take (i := 17) (v := undef) rfl (by kernel_rfl) (by kernel_rfl) (by kernel_rfl) (fun _ _ _ h => h) (Or.inr ⟨by rfl, rfl⟩) (by assumption) ?_
          try simp only [Act.put, List.getElem_toArray, List.getElem_cons_succ, List.getElem_cons_zero, List.setIfInBounds_toArray, List.set_cons_zero, List.set_cons_succ]
          refine wpAnyH_take (i := 18) (v := ?_) rfl (by kernel_rfl) (by kernel_rfl) (by kernel_rfl) (fun _ _ _ h => h) (Or.inl ⟨by rfl, ?_⟩) (by assumption) ?_
          rotate_left 1
          · intro w hSw; (try dsimp only at hSw); go_simp; try with_reducible rfl
          try simp only [Act.put, List.getElem_toArray, List.getElem_cons_succ, List.getElem_cons_zero, List.setIfInBounds_toArray, List.set_cons_zero, List.set_cons_succ]
          refine wpAnyH_take (i := 19) (v := ?_) rfl (by kernel_rfl) (by kernel_rfl) (by kernel_rfl) (fun _ _ _ h => h) (Or.inl ⟨by rfl, ?_⟩) (by assumption) ?_
          rotate_left 1
          · intro w hSw; (try dsimp only at hSw); go_simp; try with_reducible rfl
          try simp only [Act.put, List.getElem_toArray, List.getElem_cons_succ, List.getElem_cons_zero, List.setIfInBounds_toArray, List.set_cons_zero, List.set_cons_succ]
          refine wpAnyH_take (i := 20) (v := ?_) rfl (by kernel_rfl) (by kernel_rfl) (by kernel_rfl) (fun _ _ _ h => h) (Or.inl ⟨by rfl, ?_⟩) (by assumption) ?_
          rotate_left 1
          · intro w hSw; (try dsimp only at hSw); go_simp; try with_reducible rfl
          try simp only [Act.put, List.getElem_toArray, List.getElem_cons_succ, List.getElem_cons_zero, List.setIfInBounds_toArray, List.set_cons_zero, List.set_cons_succ]
          refine wpAnyH_take (i := 21) (v := ?_) rfl (by kernel_rfl) (by kernel_rfl) (by kernel_rfl) (fun _ _ _ h => h) (Or.inl ⟨by rfl, ?_⟩) (by assumption) ?_
          rotate_left 1
          · intro w hSw; (try dsimp only at hSw); go_simp; try with_reducible rfl
          try simp only [Act.put, List.getElem_toArray, List.getElem_cons_succ, List.getElem_cons_zero, List.setIfInBounds_toArray, List.set_cons_zero, List.set_cons_succ]
          refine wpAnyH_take (i := 22) (v := ?_) rfl (by kernel_rfl) (by kernel_rfl) (by kernel_rfl) (fun _ _ _ h => h) (Or.inl ⟨by rfl, ?_⟩) (by assumption) ?_
          rotate_left 1
          · intro w hSw; (try dsimp only at hSw); go_simp; try with_reducible rfl
          try simp only [Act.put, List.getElem_toArray, List.getElem_cons_succ, List.getElem_cons_zero, List.setIfInBounds_toArray, List.set_cons_zero, List.set_cons_succ]
          refine wpAnyH_take (i := 23) (v := ?_) rfl (by kernel_rfl) (by kernel_rfl) (by kernel_rfl) (fun _ _ _ h => h) (Or.inl ⟨by rfl, ?_⟩) (by assumption) ?_
          rotate_left 1
          · intro w hSw; (try dsimp only at hSw); go_simp; try with_reducible rfl
          try simp only [Act.put, List.getElem_toArray, List.getElem_cons_succ, List.getElem_cons_zero, List.setIfInBounds_toArray, List.set_cons_zero, List.set_cons_succ]
          refine wpAnyH_take (i := 24) (v := ?_) rfl (by kernel_rfl) (by kernel_rfl) (by kernel_rfl) (fun _ _ _ h => h) (Or.inl ⟨by rfl, ?_⟩) (by assumption) ?_
          rotate_left 1
          · intro w hSw; (try dsimp only at hSw); go_simp; try with_reducible rfl
          try simp only [Act.put, List.getElem_toArray, List.getElem_cons_succ, List.getElem_cons_zero, List.setIfInBounds_toArray, List.set_cons_zero, List.set_cons_succ]
          refine wpAnyH_ready (rs := [25]) (by kernel_rfl) (by simp) (AllReadyH.cons rfl (fun K hK => ?_) AllReadyH.nil)
          go_simp
          go_at_call 13
          refine (cM _ (chain hb9 b0)).mono ?_
          rintro e w13 ⟨rfl, b13⟩
          have b2 := chain b0 b13
          try simp only []
          refine hK.out _ _ (hS _ b2) (fun hHeld => ?_)
          clear hK K
          try simp only [Act.put, List.getElem_toArray, List.getElem_cons_succ, List.getElem_cons_zero, List.setIfInBounds_toArray, List.set_cons_zero, List.set_cons_succ]
          refine wpAnyH_take (i := 26) (v := ?_) rfl (by kernel_rfl) (by kernel_rfl) (by kernel_rfl) (fun _ _ _ h => h) (Or.inl ⟨by rfl, ?_⟩) (by assumption) ?_
          rotate_left 1
          · intro w hSw; (try dsimp only at hSw); go_simp; try with_reducible rfl
          try simp only [Act.put, List.getElem_toArray, List.getElem_cons_succ, List.getElem_cons_zero, List.setIfInBounds_toArray, List.set_cons_zero, List.set_cons_succ]
          refine wpAnyH_take (i := 27) (v := ?_) rfl (by kernel_rfl) (by kernel_rfl) (by kernel_rfl) (fun _ _ _ h => h) (Or.inl ⟨by rfl, ?_⟩) (by assumption) ?_
          rotate_left 1
          · intro w hSw; (try dsimp only at hSw); go_simp; try with_reducible rfl
          try simp only [Act.put, List.getElem_toArray, List.getElem_cons_succ, List.getElem_cons_zero, List.setIfInBounds_toArray, List.set_cons_zero, List.set_cons_succ]
          refine wpAnyH_done (by kernel_rfl) ?_ _
          go_wp2
          go_roundg (N - (p + 1))
          case measure => have := HG.out; omega
          case rel => exact ⟨p + 1, by omega, Nat.le_refl _, by go_num, chain hb b2⟩
    · have e : p = N := by omega
      subst e
      have hpi : ¬ (p : Int) < (p : Int) := by omega
      go_wp2
      go_ret
      exact ⟨rfl, by first | exact (K2.call hb).below | (rw [← hge]; exact (K2.call hb).below)⟩
end Go.Proofs.YtkecekfapiegjaaDoor
