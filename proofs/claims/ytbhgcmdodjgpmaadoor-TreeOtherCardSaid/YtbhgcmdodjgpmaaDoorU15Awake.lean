/-
  What the laws of stage 15 that ask no document begin with: the chapter's example.
-/
import Derived.Test.YtbhgcmdodjgpmaaDoorM15Law
namespace Go.Proofs.YtbhgcmdodjgpmaaDoor
set_option linter.unusedVariables false
set_option linter.unusedSimpArgs false
set_option maxRecDepth 10000
open Go.RowKit

set_option maxRecDepth 100000 in
set_option maxHeartbeats 2000000 in
theorem account15_any (s : ByteArray) (n : Int) (w : World) : Calls Tryd.prog 35 #[.string s, .int .u64 n] w (Tells (Lf.val ⟨false, s, ⟨#[]⟩, 0, n⟩) w.heap.size w) := by
  have H0 := (Has.start w).add 26 (lfB false ⟨#[]⟩ ⟨#[]⟩ 0 0)
  go_enter Tryd.func35, Tryd.ntmps35
  go_upto_region 1 with fail
  change Code.wp _ _ _ _ (w.alloc (.cells (lfB false ⟨#[]⟩ ⟨#[]⟩ 0 0) 26))
  obtain ⟨g, hg⟩ : ∃ g, w.heap.size = g := ⟨_, rfl⟩
  rw [hg] at H0 ⊢
  generalize w.alloc (.cells (lfB false ⟨#[]⟩ ⟨#[]⟩ 0 0) 26) = W0 at *
  obtain ⟨⟨y0, y1, y2, y3, y4⟩, ⟨yf0, yf1, yf2, yf3, yf4⟩, yin⟩ := (H0.box 0).five0
  go_wp2
  have E2 := told5 H0 (Nat.le_of_eq hg) (fun x hx => by simp at hx) (.bool false) (.string s) (.string ⟨#[]⟩) (.int .u64 0) (.int .u64 n)
  generalize World.setCell (World.setCell (World.setCell (World.setCell (World.setCell W0 _ _) _ _) _ _) _ _) _ _ = W9 at *
  obtain ⟨⟨v0, v1, v2, v3, v4⟩, -, -⟩ := (E2.box 0).five0
  exact bodyPost_ret (v := Lf.val ⟨false, s, ⟨#[]⟩, 0, n⟩) (by simp [results, Tryd.results35, go_sem, Lf.val, v0, v1, v2, v3, v4]) rfl ⟨rfl, by first | exact E2.below | (rw [hg]; exact E2.below) | (rw [← hg]; exact E2.below)⟩
theorem fd_root (s : ByteArray) (h l n : Int) (u : World) : (Instr.field 42 (.agg #[.string s, .int .u64 h, .int .u64 l, .int .i64 n]) 1).run Tryd.prog u = .ok (.agg #[.int .u64 h, .int .u64 l]) u := by kernel_rfl
theorem fd_lo (h l : Int) (u : World) : (Instr.field 24 (.agg #[.int .u64 h, .int .u64 l]) 1).run Tryd.prog u = .ok (.int .u64 l) u := by kernel_rfl
def aA : Lf := ⟨false, ⟨#[97]⟩, ⟨#[]⟩, 0, 1⟩
def aB : Lf := ⟨false, ⟨#[98]⟩, ⟨#[]⟩, 0, 2⟩
def aC : Lf := ⟨false, ⟨#[99]⟩, ⟨#[]⟩, 0, 3⟩
def aD : Lf := ⟨false, ⟨#[100]⟩, ⟨#[]⟩, 0, 4⟩
def aE : Lf := ⟨false, ⟨#[98]⟩, ⟨#[]⟩, 0, 5⟩
theorem a_may : aA.may = true ∧ aB.may = true ∧ aC.may = true ∧ aD.may = true ∧ aE.may = true ∧ (Lf.mk false ⟨#[]⟩ ⟨#[]⟩ 0 1).may = false := by decide +kernel
theorem aw_node (x : Lf) (h : x.may = true) : nodeOf 3 x = ⟨dgB 3 x.text, x.h, x.l⟩ := by rw [nodeOf, if_pos ⟨by decide, h⟩]
theorem join_lo (a b : Nd) (s : Int) (h : a.sum + b.sum = s) (hr : room s = true) : (joinS 3 a b).1 = ⟨dgB 3 (ndText a b), rh s, rl s⟩ := by rw [joinS, h, if_pos hr]
theorem aw_up1 (x : Lf) (hx : x.may = true) (h0 : x.h = 0) (n : Int) (hl : x.l = n) (h1 : 0 ≤ n) (h2 : n < 100) :
    upN 3 1 ([aA, x, aC, aD].map (nodeOf 3)) = [⟨dgB 3 (ndText (nodeOf 3 aA) (nodeOf 3 x)), rh (1 + n), rl (1 + n)⟩, ⟨dgB 3 (ndText (nodeOf 3 aC) (nodeOf 3 aD)), 0, 7⟩] := by
  show [(joinS 3 (nodeOf 3 aA) (nodeOf 3 x)).1, (joinS 3 (nodeOf 3 aC) (nodeOf 3 aD)).1] = _
  have e1 : (nodeOf 3 aA).sum + (nodeOf 3 x).sum = 1 + n := by rw [aw_node aA a_may.1, aw_node x hx, Nd.sum, Nd.sum, nv, nv, h0, hl]; simp [aA]
  have e2 : (nodeOf 3 aC).sum + (nodeOf 3 aD).sum = 7 := by rw [aw_node aC a_may.2.2.1, aw_node aD a_may.2.2.2.1]; decide +kernel
  rw [join_lo _ _ _ e1 (room_iff.2 (by omega)), join_lo _ _ _ e2 (by decide +kernel)]
  have r1 : rh 7 = 0 := by decide +kernel
  have r2 : rl 7 = 7 := by decide +kernel
  rw [r1, r2]
theorem aw_up2 (x : Lf) (hx : x.may = true) (h0 : x.h = 0) (n : Int) (hl : x.l = n) (h1 : 0 ≤ n) (h2 : n < 100) :
    ∃ s : ByteArray, (s.size : Int) = 3 ∧ topN 3 [aA, x, aC, aD] 2 = ⟨s, rh (8 + n), rl (8 + n)⟩ := by
  have hu := aw_up1 x hx h0 n hl h1 h2
  have e : upN 3 2 ([aA, x, aC, aD].map (nodeOf 3)) = pairL 3 (upN 3 1 ([aA, x, aC, aD].map (nodeOf 3))) := rfl
  refine ⟨dgB 3 (ndText ⟨dgB 3 (ndText (nodeOf 3 aA) (nodeOf 3 x)), rh (1 + n), rl (1 + n)⟩ ⟨dgB 3 (ndText (nodeOf 3 aC) (nodeOf 3 aD)), 0, 7⟩), dgB_size (by decide) _, ?_⟩
  rw [topN, e, hu]
  show (joinS 3 _ _).1 = _
  have hn : nv (rh (1 + n)) (rl (1 + n)) = 1 + n := nv_r (room_iff.2 (by omega))
  exact join_lo _ _ (8 + n) (by rw [Nd.sum, Nd.sum, hn]; simp only [nv]; omega) (room_iff.2 (by omega))
theorem aw_fair (x : Lf) (hx : x.may = true) (h0 : x.h = 0) (n : Int) (hl : x.l = n) (h1 : 0 ≤ n) (h2 : n < 100) : FairT 3 [aA, x, aC, aD] 2 := by
  refine ⟨by decide, rfl, by decide, fun y hy => ?_, ?_⟩
  · simp only [List.mem_cons, List.not_mem_nil, or_false] at hy
    rcases hy with rfl | rfl | rfl | rfl
    · exact ⟨a_may.1, ⟨by decide, by decide⟩, ⟨by decide, by decide⟩⟩
    · exact ⟨hx, by rw [h0]; exact ⟨by decide, by decide⟩, by rw [hl]; exact ⟨h1, Int.lt_trans h2 (by decide)⟩⟩
    · exact ⟨a_may.2.2.1, ⟨by decide, by decide⟩, ⟨by decide, by decide⟩⟩
    · exact ⟨a_may.2.2.2.1, ⟨by decide, by decide⟩, ⟨by decide, by decide⟩⟩
  · have e : sumN ([aA, x, aC, aD].map (nodeOf 3)) = 8 + n := by
      simp only [List.map_cons, List.map_nil, sumN]
      rw [aw_node aA a_may.1, aw_node x hx, aw_node aC a_may.2.2.1, aw_node aD a_may.2.2.2.1]
      simp only [Nd.sum, nv, h0, hl, aA, aC, aD]
      omega
    rw [e]
    exact room_iff.2 (by omega)
theorem aw_e2 : newE 3 [aA, aB, aC] = 120 := by
  have : wrongT 3 [aA, aB, aC] = 120 := by decide +kernel
  rw [newE, if_neg (by rw [this]; decide), this]
theorem aw_e3 : newE 3 [⟨false, ⟨#[]⟩, ⟨#[]⟩, 0, 1⟩] = 130 := by
  have : wrongT 3 [⟨false, ⟨#[]⟩, ⟨#[]⟩, 0, 1⟩] = 130 := by decide +kernel
  rw [newE, if_neg (by rw [this]; decide), this]
theorem aw_n0 : ∃ d, ndAt (upN 3 1 ([aA, aB, aC, aD].map (nodeOf 3))) 0 = ⟨d, 0, 3⟩ := by
  rw [aw_up1 aB a_may.2.1 rfl 2 rfl (by decide) (by decide)]
  have r1 : rh (1 + 2) = 0 := by decide +kernel
  have r2 : rl (1 + 2) = 3 := by decide +kernel
  rw [r1, r2]
  exact ⟨_, rfl⟩
theorem aw_n1 : ∃ d, ndAt (upN 3 1 ([aA, aB, aC, aD].map (nodeOf 3))) 1 = ⟨d, 0, 7⟩ := by
  rw [aw_up1 aB a_may.2.1 rfl 2 rfl (by decide) (by decide)]
  exact ⟨_, rfl⟩
theorem aw_t0 : ∃ d : ByteArray, (d.size : Int) = 3 ∧ topN 3 [aA, aB, aC, aD] 2 = ⟨d, 0, 10⟩ := by
  obtain ⟨s, h1, h2⟩ := aw_up2 aB a_may.2.1 rfl 2 rfl (by decide) (by decide)
  have r1 : rh (8 + 2) = 0 := by decide +kernel
  have r2 : rl (8 + 2) = 10 := by decide +kernel
  exact ⟨s, h1, by rw [h2, r1, r2]⟩
theorem aw_t1 : ∃ d : ByteArray, topN 3 [aA, aE, aC, aD] 2 = ⟨d, 0, 13⟩ := by
  obtain ⟨s, h1, h2⟩ := aw_up2 aE a_may.2.2.2.2.1 rfl 5 rfl (by decide) (by decide)
  have r1 : rh (8 + 5) = 0 := by decide +kernel
  have r2 : rl (8 + 5) = 13 := by decide +kernel
  exact ⟨s, by rw [h2, r1, r2]⟩
theorem a_words {x : Lf} {l : List Lf} (h : x ∈ l) (hl : ∀ x ∈ l, x.h = 0 ∧ 0 ≤ x.l ∧ x.l < 10) : Word x.h ∧ Word x.l := by
  obtain ⟨h1, h2, h3⟩ := hl x h
  exact ⟨by rw [h1]; exact ⟨by decide, by decide⟩, h2, Int.lt_trans h3 (by decide)⟩
set_option maxRecDepth 100000 in
set_option maxHeartbeats 8000000 in
theorem awake15_any (w : World) (hK : Tab w) (hU : TabU w) : Calls Tryd.prog 16 #[] w (Tells (.bool true) w.heap.size w) := by
  have hF := aw_fair aB a_may.2.1 rfl 2 rfl (by decide) (by decide)
  have hF2 := aw_fair aE a_may.2.2.2.2.1 rfl 5 rfl (by decide) (by decide)
  have cAc := fun s n u => account15_any s n u
  have c1 := fun A u hR hT hV => new15_fair 3 A 4 [aA, aB, aC, aD] u hF hR hT hV
  have c2 := fun A u hR hT hV => new15_err 3 A 3 [aA, aB, aC] u (by decide) (fun x hx => by
    simp only [List.mem_cons, List.not_mem_nil, or_false] at hx
    rcases hx with rfl | rfl | rfl <;> decide) (fun x hx => a_words hx (fun x hx => by
    simp only [List.mem_cons, List.not_mem_nil, or_false] at hx
    rcases hx with rfl | rfl | rfl <;> decide)) (by rw [aw_e2]; decide) hR hT hV
  have c3 := fun A u hR hT hV => new15_err 3 A 1 [⟨false, ⟨#[]⟩, ⟨#[]⟩, 0, 1⟩] u (by decide) (fun x hx => by
    rw [List.mem_singleton.1 hx]; decide) (fun x hx => a_words hx (fun x hx => by rw [List.mem_singleton.1 hx]; decide)) (by rw [aw_e3]; decide) hR hT hV
  rw [aw_e2] at c2
  rw [aw_e3] at c3
  obtain ⟨d0, n0⟩ := aw_n0
  obtain ⟨d1, n1⟩ := aw_n1
  obtain ⟨dt, hdt, t0⟩ := aw_t0
  obtain ⟨du, t1⟩ := aw_t1
  have cN0 := fun u (q : TrG) (hu : TrAt u q 3 [aA, aB, aC, aD] 2) => (show Calls Tryd.prog 8 #[.pointer (some ⟨q.g, 0, none⟩), .int .i64 1, .int .u64 0] u _ from node15_in hu hF (j := 1) (by decide) 0 (by decide))
  have cN1 := fun u (q : TrG) (hu : TrAt u q 3 [aA, aB, aC, aD] 2) => (show Calls Tryd.prog 8 #[.pointer (some ⟨q.g, 0, none⟩), .int .i64 1, .int .u64 1] u _ from node15_in hu hF (j := 1) (by decide) 1 (by decide))
  have cN2 := fun u (q : TrG) (hu : TrAt u q 3 [aA, aB, aC, aD] 2) => (show Calls Tryd.prog 8 #[.pointer (some ⟨q.g, 0, none⟩), .int .i64 1, .int .u64 2] u _ from node15_in hu hF (j := 1) (by decide) 2 (by decide))
  have cR := fun u (q : TrG) (hu : TrAt u q 3 [aA, aB, aC, aD] 2) => root15_any hu hF
  have cR2 := fun u (q : TrG) (hu : TrAt u q 3 [aA, aE, aC, aD] 2) => root15_any hu hF2
  have cS := fun u (q : TrG) (hu : TrAt u q 3 [aA, aB, aC, aD] 2) hT hV => (show Calls Tryd.prog 11 #[.pointer (some ⟨q.g, 0, none⟩), .int .u64 1, aE.val] u (fun e w' => e = .returned (.int .i64 0) ∧ TrAt w' q 3 [aA, aE, aC, aD] 2 ∧ Off q.turns u w') from set15_yes hu hF 1 (by decide) aE hF2 hT hV)
  rw [n0] at cN0
  rw [n1] at cN1
  rw [t0] at cR
  rw [t1] at cR2
  have e0 : decide (0 < 2 ^ (2 - 1)) = true := by decide
  have e1 : decide (1 < 2 ^ (2 - 1)) = true := by decide
  have e2 : decide (2 < 2 ^ (2 - 1)) = false := by decide
  rw [e0] at cN0
  rw [e1] at cN1
  rw [e2] at cN2
  generalize ndAt (upN 3 1 ([aA, aB, aC, aD].map (nodeOf 3))) 2 = X2 at *
  obtain ⟨xs2, xh2, xl2⟩ := X2
  have Hv := Has.start w
  simp only [Nd.val, Lf.val, rootV, aE, List.length_cons, List.length_nil, Nat.reduceAdd] at cAc c1 c2 c3 cN0 cN1 cN2 cR cR2 cS
  clear e0 e1 e2 n0 n1 t0 t1 hF hF2
  go_enter Tryd.func16, Tryd.ntmps16
  go_upto_region 2 with (first
    | (go_at_call 35; refine (cAc _ _ _).mono ?_; rintro e v ⟨rfl, b⟩; have Hv := Has.call (by assumption) b)
    | (go_at_call 17; refine (c1 _ _ (lf_rowL _ [aA, aB, aC, aD]) (hK.call (Has.past Hv (.cells (lfS.flat [aA, aB, aC, aD]).toArray 26)).below) (hU.call (Has.past Hv (.cells (lfS.flat [aA, aB, aC, aD]).toArray 26)).below)).mono ?_; rintro e w1 ⟨b1, q, rfl, hT1, hq1⟩; have hq2 := hq1.more (Has.past Hv (.cells (lfS.flat [aA, aB, aC, aD]).toArray 26)).size (Nat.le_refl _); have K1 := (Has.past Hv (.cells (lfS.flat [aA, aB, aC, aD]).toArray 26)).call b1)
    | fail)
  have hlo := K1.size
  have hKw := K1.below
  have hK1 := hK.call hKw
  have hU1 := hU.call hKw
  clear K1 c1 b1
  have Hv := Has.start w1
  go_upto_region 3 with (first
    | (go_at_call 35; refine (cAc _ _ _).mono ?_; rintro e v ⟨rfl, b⟩; have Hv : Has w1 [] v := Has.call (by assumption) b)
    | (go_at_call 17; refine (c2 _ _ (lf_rowL _ [aA, aB, aC]) (hK1.call (Has.past Hv (.cells (lfS.flat [aA, aB, aC]).toArray 26)).below) (hU1.call (Has.past Hv (.cells (lfS.flat [aA, aB, aC]).toArray 26)).below)).mono ?_; rintro e w2 ⟨rfl, b2⟩; have Hv : Has w1 [] w2 := (Has.past Hv (.cells (lfS.flat [aA, aB, aC]).toArray 26)).call b2)
    | fail)
  go_upto_region 4 with (first
    | (go_at_call 35; refine (cAc _ _ _).mono ?_; rintro e v ⟨rfl, b⟩; have Hv : Has w1 [] v := Has.call (by assumption) b)
    | (go_at_call 17; refine (c3 _ _ (lf_rowL _ [⟨false, ⟨#[]⟩, ⟨#[]⟩, 0, 1⟩]) (hK1.call (Has.past Hv (.cells (lfS.flat [⟨false, ⟨#[]⟩, ⟨#[]⟩, 0, 1⟩]).toArray 26)).below) (hU1.call (Has.past Hv (.cells (lfS.flat [⟨false, ⟨#[]⟩, ⟨#[]⟩, 0, 1⟩]).toArray 26)).below)).mono ?_; rintro e w3 ⟨rfl, b3⟩; have Hx : Has w1 [] w3 := (Has.past Hv (.cells (lfS.flat [⟨false, ⟨#[]⟩, ⟨#[]⟩, 0, 1⟩]).toArray 26)).call b3)
    | fail)
  have hT3 := hT1.call Hx.below
  have hK3 := hK1.call Hx.below
  have hU3 := hU1.call Hx.below
  have hBw := chain hKw Hx.below
  have hs13 := Hx.size
  have J0 := Has.start w3
  clear Hx c2 c3 hKw hT1
  go_upto_region 7 with (first
    | (go_at_call 8; refine (cN0 _ _ hT3).mono ?_; rintro e w4 ⟨rfl, b4⟩; have J1 := (J0.call b4).add 36 (ndB d0 0 3))
    | fail)
  obtain ⟨g1, hg1⟩ : ∃ g, w4.heap.size = g := ⟨_, rfl⟩
  rw [hg1] at J1 ⊢
  change Code.wp _ _ _ _ (w4.alloc (.cells (ndB d0 0 3) 36))
  generalize w4.alloc (.cells (ndB d0 0 3) 36) = W4 at *
  go_upto_region 8 with (first
    | (go_at_call 8; refine (cN1 _ _ (hT3.call J1.below)).mono ?_; rintro e w5 ⟨rfl, b5⟩; have J2 := (J1.call b5).add 36 (ndB d1 0 7))
    | fail)
  obtain ⟨g2, hg2⟩ : ∃ g, w5.heap.size = g := ⟨_, rfl⟩
  rw [hg2] at J2 ⊢
  change Code.wp _ _ _ _ (w5.alloc (.cells (ndB d1 0 7) 36))
  generalize w5.alloc (.cells (ndB d1 0 7) 36) = W5 at *
  go_upto_region 9 with (first
    | (go_at_call 8; refine (cN2 _ _ (hT3.call J2.below)).mono ?_; rintro e w6 ⟨rfl, b6⟩; have J3 := (J2.call b6).past (.cells (ndB xs2 xh2 xl2) 36))
    | fail)
  change Code.wp _ _ _ _ (w6.alloc (.cells (ndB xs2 xh2 xl2) 36))
  generalize w6.alloc (.cells (ndB xs2 xh2 xl2) 36) = W6 at *
  go_upto_region 10 with (first
    | (go_at_call 10; refine (cR _ _ (hT3.call J3.below)).mono ?_; rintro e w7 ⟨rfl, b7⟩; have J4 := (J3.call b7).add 42 #[.string dt, .int .u64 0, .int .u64 10, .int .i64 2])
    | fail)
  obtain ⟨g4, hg4⟩ : ∃ g, w7.heap.size = g := ⟨_, rfl⟩
  rw [hg4] at J4 ⊢
  change Code.wp _ _ _ _ (w7.alloc (.cells #[.string dt, .int .u64 0, .int .u64 10, .int .i64 2] 42))
  generalize w7.alloc (.cells #[.string dt, .int .u64 0, .int .u64 10, .int .i64 2] 42) = W7 at *
  have hf1 := fun u => fd_root du 0 13 2 u
  have hf2 := fun u => fd_lo 0 13 u
  obtain ⟨⟨r0, r1, r2, r3⟩, -, rin⟩ := (J4.box 0).four4
  obtain ⟨y0, y1, y2, -, -, -, yin⟩ := (J4.box 1).three
  obtain ⟨z0, z1, z2, -, -, -, zin⟩ := (J4.box 2).three
  clear J3 J2 J1 b4 b5 b6 b7 hg1 hg2 hg4 cN0 cN1 cN2 cR
  go_wp2_with (first
    | (go_at_call 35; refine (cAc _ _ _).mono ?_; rintro e w8 ⟨rfl, b8⟩; have J5 := J4.call b8)
    | (go_at_call 11; refine (cS _ _ (hT3.call J5.below) (hK3.call J5.below) (hU3.call J5.below)).mono ?_; rintro e w9 ⟨rfl, hT9, O9⟩)
    | (go_at_call 10; refine (cR2 _ _ hT9).mono ?_; rintro e w10 ⟨rfl, b10⟩)
    | fail)
  go_ret
  have e8 := chain hBw J5.below
  have e9 := e8.trans (hq2.off O9 e8.size)
  exact ⟨rfl, e9.trans (b10.mono e9.size)⟩
end Go.Proofs.YtbhgcmdodjgpmaaDoor
