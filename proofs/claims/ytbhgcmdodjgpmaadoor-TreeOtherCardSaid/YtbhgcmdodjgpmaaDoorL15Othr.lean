/-
  The law TreeOther: the total is the sum of all balances; a tree with one other leaf has another root, or on the way two unlike texts have one digest. Conditions: none.
-/
import Derived.Test.YtbhgcmdodjgpmaaDoorD15Oth
import Derived.Test.YtbhgcmdodjgpmaaDoorM15Law
import Derived.Test.YtbhgcmdodjgpmaaDoorU15Awake
import Derived.Test.YtbhgcmdodjgpmaaDoorL15Back
import Derived.Deep.RegionHeld3
namespace Go.Proofs.YtbhgcmdodjgpmaaDoor
set_option linter.unusedVariables false
set_option linter.unusedSimpArgs false
set_option maxRecDepth 10000
open Go.ChangeShapes Go.WideShapes Go.ChangeAt Go.RowKit

/-- The balances of the first leaves together. -/
def balS (n : Int) (l : List Lf) (m : Nat) : Int := sumN ((l.take m).map (nodeOf n))
section
variable {n : Int} {l : List Lf} {k : Nat}
theorem balS_le (hF : FairT n l k) (m : Nat) : 0 ≤ balS n l m ∧ balS n l m ≤ sumN (l.map (nodeOf n)) := by
  have e : l.map (nodeOf n) = (l.take m).map (nodeOf n) ++ (l.drop m).map (nodeOf n) := by rw [← List.map_append, List.take_append_drop]
  have hh := hF.halved
  have h1 : ∀ x ∈ (l.take m).map (nodeOf n), x.halved := fun x hx => hh x (by rw [e]; exact List.mem_append_left _ hx)
  have h2 : ∀ x ∈ (l.drop m).map (nodeOf n), x.halved := fun x hx => hh x (by rw [e]; exact List.mem_append_right _ hx)
  have a := sumN_pos h1
  have b := sumN_pos h2
  rw [e, sumN_app]
  unfold balS
  omega
theorem balS_room (hF : FairT n l k) (m : Nat) : room (balS n l m) = true := by
  have h := balS_le hF m
  have hr := of_decide_eq_true hF.room
  exact decide_eq_true (by omega)
theorem balS_step (hF : FairT n l k) {m : Nat} {x : Lf} (hx : l[m]? = some x) : balS n l (m + 1) = balS n l m + nv x.h x.l := by
  have hm := (hF.all x (List.mem_of_getElem? hx)).1
  have e : nodeOf n x = ⟨dgB n x.text, x.h, x.l⟩ := by rw [nodeOf, if_pos ⟨hF.may, hm⟩]
  unfold balS
  rw [List.take_add_one, hx, List.map_append, sumN_app]
  show _ + sumN [nodeOf n x] = _
  rw [e]
  simp [sumN, Nd.sum]
theorem top_sum (hF : FairT n l k) : (topN n l k).h = rh (balS n l l.length) ∧ (topN n l k).l = rl (balS n l l.length) := by
  obtain ⟨hh, -, hs⟩ := hF.up (Nat.le_refl k)
  have hl := hF.ulen (Nat.le_refl k)
  rw [Nat.sub_self, Nat.pow_zero] at hl
  have e0 : balS n l l.length = sumN (l.map (nodeOf n)) := by rw [balS, List.take_length]
  have hx := ndAt_get (L := upN n k (l.map (nodeOf n))) (q := 0) (by omega)
  have eT : ndAt (upN n k (l.map (nodeOf n))) 0 = topN n l k := rfl
  rw [eT] at hx
  obtain ⟨y, hy⟩ := List.length_eq_one_iff.1 hl
  rw [hy] at hx hs hh
  have e1 : y = topN n l k := by simpa using hx
  subst e1
  have hT := hh _ (List.mem_singleton.2 rfl)
  have e2 : sumN [topN n l k] = nv (topN n l k).h (topN n l k).l := by simp [sumN, Nd.sum]
  rw [e0, ← hs, e2]
  exact ⟨(rh_nv hT.1 hT.2).symm, (rl_nv hT.1 hT.2).symm⟩
end
theorem nd_cells15 {u : World} {g : Nat} {t : TypeId} {v0 v1 v2 : Value} (h : Box u g t #[v0, v1, v2]) : u.cell? ⟨g, 0, none⟩ = some v0 ∧ u.cell? ⟨g, 1, none⟩ = some v1 ∧ u.cell? ⟨g, 2, none⟩ = some v2 := ⟨h.read 0, h.read 1, h.read 2⟩
theorem and_one (q : Nat) (h : q < 128) : bits .andNot .u64 (q : Int) 1 = ((q / 2 * 2 : Nat) : Int) := by
  have e := Go.u64_andNot_nat q 1 (by omega) (by decide)
  have e2 : ∀ q : Fin 128, q.val &&& (18446744073709551615 - 1) = q.val / 2 * 2 := by decide +kernel
  rw [show ((1 : Nat) : Int) = 1 from rfl] at e
  rw [e, e2 ⟨q, h⟩]
theorem or_one (q : Nat) (h : q < 128) : bits .or .u64 (q : Int) 1 = ((q / 2 * 2 + 1 : Nat) : Int) := by
  have e := Go.u64_or_nat q 1 (by omega) (by decide)
  have e2 : ∀ q : Fin 128, q.val ||| 1 = q.val / 2 * 2 + 1 := by decide +kernel
  rw [show ((1 : Nat) : Int) = 1 from rfl] at e
  rw [e, e2 ⟨q, h⟩]
theorem neq_u128_self (h l : Int) (u : World) : (binOp .neq 24 (.agg #[.int .u64 h, .int .u64 l]) (.agg #[.int .u64 h, .int .u64 l])).run Tryd.prog u = .ok (.bool false) u := by
  have e : (binOp .neq 24 (.agg #[.int .u64 h, .int .u64 l]) (.agg #[.int .u64 h, .int .u64 l])).run Tryd.prog u = .ok (.bool (!(h == h && l == l))) u := by
    rw [run_neq_struct, equal_n7 9998]
    rfl
  rw [e]
  simp
set_option maxRecDepth 100000 in
set_option maxHeartbeats 8000000 in
theorem treeOther_fair (n : Int) (A : Option Addr) (c : Nat) (l : List Lf) (pz : Nat) (hpz : pz < 65536) (x : Lf) (hxf : x.fine15) (hc : l.length ≤ c) (hcm : c ≤ 9223372036854775807) (hg : greatLf l = false) (hg1 : greatLf [x] = false) (k : Nat) (hF : FairT n l k)
    (w : World) (hR : lfS.Row w w.heap.size A l) (hK : Tab w) (hU : TabU w) :
    Calls Tryd.prog 6 #[.int .i64 n, .slice A l.length c, .int .u16 pz, x.val] w (Tells (.bool true) w.heap.size w) := by
  have hTab := hK
  obtain ⟨hl70, hsz⟩ := greatLf_no hg
  have hk := log_few15 hF hl70
  have hx200 := (greatLf_no hg1).2 x (by simp)
  have cW := fun u hu hv => awake15_any u hu hv
  have cG := fun u hu => great15_any A c l (by omega) (fun x hx => ⟨by have := hsz x hx; omega, by have := hsz x hx; omega⟩) u hu
  have cG1 := fun (u : World) hu => great15_any (some ⟨u.heap.size, 0, none⟩) 1 [x] (by simp) (fun y hy => by rw [List.mem_singleton.1 hy]; exact hxf.1) (u.alloc (.cells (lfS.flat [x]).toArray 26)) hu
  have hrow := fun u => lf_rowL u [x]
  rw [hg] at cG
  rw [hg1] at cG1
  have c1 := fun u hR hT hV => new15_fair n A c l u hF hR hT hV
  have hN1 : 1 ≤ l.length := hF.pos
  have cR := fun u q (hu : TrAt u q n l k) => root15_any hu hF
  obtain ⟨ht1, ht2⟩ := top_sum hF
  obtain ⟨N, hN⟩ : ∃ N, l.length = N := ⟨_, rfl⟩
  rw [hN] at cG c1 hl70 hc hN1 ht1 ht2 ⊢
  have HN := hideIt hN
  have HF := hideIt hF
  have HX := hideIt hxf
  have HG1 := hideIt hg1
  have HT1 := hideIt ht1
  have HT2 := hideIt ht2
  obtain ⟨xp, xi, xs, xh, xl⟩ := x
  simp only [Lf.val, List.length_cons, List.length_nil, Nat.zero_add] at cG1
  show Calls _ _ #[_, _, _, .agg (lfB xp xi xs xh xl)] _ _
  have H0 := (Has.start w).add 26 (lfB xp xi xs xh xl)
  clear hN hF hg hg1 hsz hxf ht1 ht2
  go_enter Tryd.func6, Tryd.ntmps6
  go_upto_region 1 with fail
  change Code.wp _ _ _ _ (w.alloc (.cells (lfB xp xi xs xh xl) 26))
  obtain ⟨g7, hg7⟩ : ∃ g, w.heap.size = g := ⟨_, rfl⟩
  have hHG7 := hideIt hg7
  rw [hg7] at H0 ⊢
  generalize w.alloc (.cells (lfB xp xi xs xh xl) 26) = W0 at *
  go_upto_region 3 with (first
    | (go_at_call 16; refine (cW _ (hK.call H0.below) (hU.call H0.below)).mono ?_; rintro e w1 ⟨rfl, b1⟩; have K1 := H0.call b1)
    | fail)
  obtain ⟨⟨x0, x1, x2, x3, x4⟩, -, xin⟩ := (K1.box 0).five0
  have cG2 := cG1 w1 (hrow w1)
  have cG2 : Calls Tryd.prog 7 #[.slice (some ⟨w1.heap.size, 0, none⟩) 1 1] (w1.alloc (.cells (lfB xp xi xs xh xl) 26)) (Plain (.bool false) (w1.alloc (.cells (lfB xp xi xs xh xl) 26))) := cG2
  have K2 := K1.past (.cells (lfB xp xi xs xh xl) 26)
  clear cG1 hrow cW H0 b1
  go_upto_region 8 with (first
    | (go_at_call 7; ((with_reducible refine (cG _ (hR.on K1.below)).mono ?_); rintro e w2 ⟨rfl, rfl⟩))
    | (go_at_call 7; ((with_reducible refine cG2.mono ?_); rintro e w2 ⟨rfl, rfl⟩))
    | (go_at_call 17; refine (c1 _ (hR.on K2.below) (hK.call K2.below) (hU.call K2.below)).mono ?_; rintro e w3 ⟨b3, q, rfl, hT3, hq3⟩; have K3 := K2.call b3)
    | fail)
  have hlo := (K2.box 0).inside
  generalize w1.alloc (.cells (lfB xp xi xs xh xl) 26) = W2 at *
  obtain ⟨lo, hloe⟩ : ∃ lo, W2.heap.size = lo := ⟨_, rfl⟩
  rw [hloe] at hlo hq3
  have HW := hHG7.out
  have hg7w : w.heap.size ≤ g7 := Nat.le_of_eq HW
  have K4 := K3.add 24 #[.int .u64 0, .int .u64 0]
  have hT4 := hT3.past (.cells #[.int .u64 0, .int .u64 0] 24)
  clear K1 K2 K3 hT3 b3 cG cG2 c1 hloe x0 x1 x2 x3 x4 xin
  go_upto_region 9 with fail
  obtain ⟨g11, hg11⟩ : ∃ g, w3.heap.size = g := ⟨_, rfl⟩
  rw [hg11] at K4 hq3 ⊢
  change Code.wp _ _ _ _ (w3.alloc (.cells #[.int .u64 0, .int .u64 0] 24))
  generalize w3.alloc (.cells #[.int .u64 0, .int .u64 0] 24) = W4 at *
  have hg711 : g7 < g11 := by have := hq3.1; omega
  clear hg7 hg11
  go_wp2
  go_loopg [12] N (fun gk i wr => ∃ m : Nat, m ≤ N ∧ N - m ≤ gk ∧ i = .int .i64 m ∧ Has w [(g11, 24, #[.int .u64 (rh (balS n l m)), .int .u64 (rl (balS n l m))]), (g7, 26, lfB xp xi xs xh xl)] wr ∧ TrAt wr q n l k)
  case atStart => exact ⟨0, Nat.zero_le _, by omega, rfl, K4, hT4⟩
  case round =>
    obtain ⟨m, hm, hgk, rfl, K5, hT5⟩ := hrel
    have HG := hideIt hgk
    clear hgk K4 hT4
    by_cases hlt : m < N
    · have hmi : (m : Int) < (N : Int) := by omega
      have hm0 : (0 : Int) ≤ (m : Int) := by omega
      obtain ⟨y, hy⟩ : ∃ y, l[m]? = some y := ⟨_, List.getElem?_eq_getElem (by rw [HN.out]; exact hlt)⟩
      obtain ⟨w1', w2'⟩ := (HF.out.all y (List.mem_of_getElem? hy)).2
      have e1 := balS_step HF.out hy
      have hr1 := balS_room HF.out m
      have hr2 := re_yes (balS_room HF.out (m + 1))
      obtain ⟨ad, rfl, g1, c0, c1, c2, c3, c4⟩ := lf_get (hR.on K5.below) hy
      obtain ⟨yp, yi, ys, yh, yl⟩ := y
      simp only at w1' w2' e1 c0 c1 c2 c3 c4
      have hv := nv_r hr1
      have cA := fun u : World => add_any (rh (balS n l m)) (rl (balS n l m)) yh yl (rh_word _) (rl_word _) w1' w2' u
      rw [hv, ← e1] at cA
      unfold Fit at cA
      rw [hr2] at cA
      have hb1 := K5.box 0
      have hg11i := hb1.inside
      have f110 := hb1.free 0
      have f111 := hb1.free 1
      clear hy e1 hr1 hr2 hv
      go_upto_region 12 with fail
      go_cut [13, 14] from 48 to 66 (fun s13 s14 wx => ∃ g, s13 = .pointer (some ⟨g, 0, none⟩) ∧ s14 = .int .i64 0 ∧ Box wx g 24 #[.int .u64 (rh (balS n l (m + 1))), .int .u64 (rl (balS n l (m + 1)))] ∧ Below wr.heap.size wr wx)
      case first =>
        go_region_held3 (fun w' => Below wr.heap.size wr w' ∧ w'.cell? ⟨g11, 0, none⟩ = some (.int .u64 (rh (balS n l m))) ∧ w'.cell? ⟨g11, 1, none⟩ = some (.int .u64 (rl (balS n l m))) ∧
            w'.cell? ⟨(ad.add (m * 5)).block, (ad.add (m * 5)).off + 3, none⟩ = some (.int .u64 yh) ∧ w'.cell? ⟨(ad.add (m * 5)).block, (ad.add (m * 5)).off + 4, none⟩ = some (.int .u64 yl))
          (exact (fun (hb : Below wr.heap.size wr _) => ⟨hb, (hb1.call hb).read 0, (hb1.call hb).read 1, (hb.cell (p := ⟨(ad.add (m * 5)).block, (ad.add (m * 5)).off + 3, none⟩) g1).trans c3, (hb.cell (p := ⟨(ad.add (m * 5)).block, (ad.add (m * 5)).off + 4, none⟩) g1).trans c4⟩)
            (by repeat (first
              | exact Below.refl _ _
              | exact chain (by repeat (first | exact Below.refl _ _ | apply Below.drew | refine Below.alloc ?_ (by simp) _)) hb3
              | apply Below.drew
              | refine Below.alloc ?_ (by first | exact Nat.le_refl _ | (have := hb3.size; simp at this ⊢; omega)) _
              | refine Below.setCell ?_ (by first | exact Nat.le_refl _ | (have := hb3.size; simp at this ⊢; omega)) _)))
          (first
            | (go_at_call 20; ((with_reducible refine (cA _).mono ?_); rintro e w9 ⟨rfl, hb3⟩)
               first
                 | (have G3 := ((Box.made wr 24 #[.int .u64 0, .int .u64 0]).draw).call hb3
                    obtain ⟨g1', g2', g3'⟩ := G3.num
                    have g4' := G3.free 0
                    have g5' := G3.free 1)
                 | (have G3 := (Box.made wr.drew 24 #[.int .u64 0, .int .u64 0]).call hb3
                    obtain ⟨g1', g2', g3'⟩ := G3.num
                    have g4' := G3.free 0
                    have g5' := G3.free 1)
                 | skip))
        all_goals go_wp2_with fail
        all_goals go_meet
        · exact ⟨_, rfl, rfl, Box.made _ _ _, by
            repeat (first
              | exact Below.refl _ _
              | exact chain (by repeat (first | exact Below.refl _ _ | apply Below.drew | refine Below.alloc ?_ (by simp) _)) hb3
              | apply Below.drew
              | refine Below.alloc ?_ (by first | exact Nat.le_refl _ | (have := hb3.size; simp at this ⊢; omega)) _)⟩
        · exact ⟨_, rfl, rfl, (G3.wrote 0 _).wrote 1 _, by
            repeat (first
              | exact Below.refl _ _
              | exact chain (by repeat (first | exact Below.refl _ _ | apply Below.drew | refine Below.alloc ?_ (by simp) _)) hb3
              | apply Below.drew
              | refine Below.setCell ?_ (by first | exact Nat.le_refl _ | (have := hb3.size; simp at this ⊢; omega)) _)⟩
      case rest =>
        obtain ⟨g, rfl, rfl, hbx, hbl⟩ := hcut
        rename World => wx
        have K6 := K5.call hbl
        have hT6 := hT5.call hbl
        have hg11x := (K6.box 0).inside
        have f110' := (K6.box 0).free 0
        have f111' := (K6.box 0).free 1
        obtain ⟨z0, z1, z2⟩ := hbx.num
        obtain ⟨v0, v1, v2⟩ := (K6.box 0).num
        have hgw : w.heap.size ≤ g11 := by omega
        have hln : ∀ z ∈ [(g7, 26, lfB xp xi xs xh xl)], z.1 ≠ g11 := fun z hz => by
          simp only [List.mem_cons, List.not_mem_nil, or_false] at hz
          subst hz
          simp only
          omega
        clear c0 c1 c2 c3 c4 f110 f111 hb1
        go_wp2
        go_roundg (N - (m + 1))
        case measure => have := HG.out; omega
        case rel => exact ⟨m + 1, by omega, Nat.le_refl _, by go_num, (K6.wrote hgw hln 0 _).wrote hgw hln 1 _, hT6.off hq3 (((Off.refl (One g11) wx).set_ (p := ⟨g11, 0, none⟩) (Or.inl rfl) _).set_ (p := ⟨g11, 1, none⟩) (Or.inl rfl) _) (fun b hb => Or.inr (by have : b = g11 := hb; omega))⟩
    · have e : m = N := by omega
      subst e
      have hmi : ¬ (m : Int) < (m : Int) := by omega
      go_upto_region 16 with fail
      obtain ⟨ts, hts⟩ : ∃ ts, (topN n l k).hash = ts := ⟨_, rfl⟩
      have eT : topN n l k = ⟨ts, rh (balS n l m), rl (balS n l m)⟩ := by rw [← hts, ← HT1.out, ← HT2.out]
      generalize hbt : rh (balS n l m) = th at *
      generalize hbl : rl (balS n l m) = tl at *
      have cR1 := fun u (hu : TrAt u q n l k) => cR u q hu
      rw [eT] at cR1
      simp only [rootV] at cR1
      have fd := fun u => fd_root ts th tl k u
      have eu := fun u => neq_u128_self th tl u
      have HET := hideIt eT
      clear eT hts hbt hbl
      have hSx : ∀ u, Has w [(g11, 24, #[.int .u64 th, .int .u64 tl]), (g7, 26, lfB xp xi xs xh xl)] u → (u.cell? ⟨g11, 0, none⟩ = some (.int .u64 th) ∧ u.cell? ⟨g11, 1, none⟩ = some (.int .u64 tl)) ∧ g11 < u.heap.size := fun u hu => ⟨⟨(hu.box 0).read 0, (hu.box 0).read 1⟩, (hu.box 0).inside⟩
      have Kd := K5.drew
      have hTd := hT5.drew
      refine wp_region_held_drew (S := fun u => (u.cell? ⟨g11, 0, none⟩ = some (.int .u64 th) ∧ u.cell? ⟨g11, 1, none⟩ = some (.int .u64 tl)) ∧ g11 < u.heap.size) (by kernel_rfl) (hSx _ Kd) (fun hHeld => ?_)
      generalize wr.drew = Wd at *
      refine wpAnyH_take (i := 0) (v := ?_) rfl (by kernel_rfl) (by kernel_rfl) (by kernel_rfl) (fun _ _ _ h => h) (Or.inl ⟨by rfl, ?_⟩) (by assumption) ?_
      rotate_left 1
      · intro w hSw; (try dsimp only at hSw); go_simp; try with_reducible rfl
      try simp only [Act.put, List.getElem_toArray, List.getElem_cons_succ, List.getElem_cons_zero, List.setIfInBounds_toArray, List.set_cons_zero, List.set_cons_succ]
      refine wpAnyH_take (i := 3) (v := ?_) rfl (by kernel_rfl) (by kernel_rfl) (by kernel_rfl) (fun _ _ _ h => h) (Or.inl ⟨by rfl, ?_⟩) (by assumption) ?_
      rotate_left 1
      · intro w hSw; (try dsimp only at hSw); go_simp; try with_reducible rfl
      try simp only [Act.put, List.getElem_toArray, List.getElem_cons_succ, List.getElem_cons_zero, List.setIfInBounds_toArray, List.set_cons_zero, List.set_cons_succ]
      refine wpAnyH_ready (rs := [1]) (by kernel_rfl) (by simp) (AllReadyH.cons rfl (fun K hK => ?_) AllReadyH.nil)
      go_simp
      go_at_call 10
      refine (cR1 _ hTd).mono ?_
      rintro e w10 ⟨rfl, b10⟩
      have K10 := Kd.call b10
      have hT10 := hTd.call b10
      try simp only []
      refine hK.out _ _ (hSx _ K10) (fun hHeld => ?_)
      clear hK K
      try simp only [Act.put, List.getElem_toArray, List.getElem_cons_succ, List.getElem_cons_zero, List.setIfInBounds_toArray, List.set_cons_zero, List.set_cons_succ]
      refine wpAnyH_take (i := 2) (v := ?_) rfl (by kernel_rfl) (by kernel_rfl) (by kernel_rfl) (fun _ _ _ h => h) (Or.inl ⟨by rfl, ?_⟩) (by assumption) ?_
      rotate_left 1
      · intro w hSw; (try dsimp only at hSw); go_simp; try with_reducible rfl
      try simp only [Act.put, List.getElem_toArray, List.getElem_cons_succ, List.getElem_cons_zero, List.setIfInBounds_toArray, List.set_cons_zero, List.set_cons_succ]
      refine wpAnyH_take (i := 4) (v := ?_) rfl (by kernel_rfl) (by kernel_rfl) (by kernel_rfl) (fun _ _ _ h => h) (Or.inl ⟨by rfl, ?_⟩) (by assumption) ?_
      rotate_left 1
      · intro w hSw; (try dsimp only at hSw); go_simp; try with_reducible rfl
      try simp only [Act.put, List.getElem_toArray, List.getElem_cons_succ, List.getElem_cons_zero, List.setIfInBounds_toArray, List.set_cons_zero, List.set_cons_succ]
      refine wpAnyH_done (by kernel_rfl) ?_ _
      go_upto_region 18 with fail
      obtain ⟨p, hp⟩ : ∃ p, pz % m = p := ⟨_, rfl⟩
      have hpl : p < m := by rw [← hp]; exact Nat.mod_lt _ (by omega)
      have d1 : Int.tmod (pz : Int) (m : Int) = (p : Int) := by rw [Int.tmod_eq_emod_of_nonneg (by omega), ← hp]; norm_cast
      have d1b : (pz : Int) % (m : Int) = (p : Int) := by rw [← hp]; norm_cast
      have d2 : ¬ (m : Int) = 0 := by omega
      have d3 : IntKind.i64.wrap (pz : Int) = (pz : Int) := by rw [IntKind.wrap_i64]; omega
      have d4 : IntKind.u64.wrap (p : Int) = (p : Int) := by rw [IntKind.wrap_u64]; omega
      have cCp := fun u (hu : TrAt u q n l k) => copy15_any hu HF.out
      have hpk : p < 2 ^ k := by rw [← HF.out.len, HN.out]; exact hpl
      clear hp
      go_upto_region 20 with (first
        | (go_at_call 15; refine (cCp _ hT10).mono ?_; rintro e w11 ⟨b11, q2, rfl, hT11, hq11⟩)
        | fail)
      have hgi := (K10.box 0).inside
      have K11 := K10.call b11
      have hTq := hT10.call b11
      obtain ⟨y, hy⟩ : ∃ y, l[p]? = some y := ⟨_, List.getElem?_eq_getElem (by rw [HN.out]; exact hpl)⟩
      have hset := setTo_any q2 HF.out hk p hpk ⟨xp, xi, xs, xh, xl⟩ HX.out ⟨Nat.le_trans hx200.1 (by decide), Nat.le_trans hx200.2 (by decide)⟩
      have hpi : (p : Int) < (m : Int) := by omega
      have HY := hideIt hy
      clear cCp hT10 K10 b10 b11 hy cR1 fd eu d1 d1b d2 d3 Kd hTd
      obtain ⟨yp, yi, ys, yh, yl⟩ := y
      obtain ⟨ad, rfl, -, -, -, -, -, -⟩ := lf_get (hR.on K11.below) HY.out
      have hSl : ∀ u, Below w.heap.size w u → (u.cell? (ad.add (p * 5)) = some (.bool yp) ∧ u.cell? ⟨(ad.add (p * 5)).block, (ad.add (p * 5)).off + 1, none⟩ = some (.string yi) ∧ u.cell? ⟨(ad.add (p * 5)).block, (ad.add (p * 5)).off + 2, none⟩ = some (.string ys) ∧ u.cell? ⟨(ad.add (p * 5)).block, (ad.add (p * 5)).off + 3, none⟩ = some (.int .u64 yh) ∧ u.cell? ⟨(ad.add (p * 5)).block, (ad.add (p * 5)).off + 4, none⟩ = some (.int .u64 yl)) ∧ (ad.add (p * 5)).block < u.heap.size := fun u hu => by
        obtain ⟨ad', e', g1', q0, q1, q2', q3, q4⟩ := lf_get (hR.on hu) HY.out
        injection e' with e'
        subst e'
        exact ⟨⟨q0, q1, q2', q3, q4⟩, g1'⟩
      have hSxx : ∀ u, Has w [(g11, 24, #[.int .u64 th, .int .u64 tl]), (g7, 26, lfB xp xi xs xh xl)] u → ((u.cell? ⟨g7, 0, none⟩ = some (.bool xp) ∧ u.cell? ⟨g7, 1, none⟩ = some (.string xi) ∧ u.cell? ⟨g7, 2, none⟩ = some (.string xs) ∧ u.cell? ⟨g7, 3, none⟩ = some (.int .u64 xh) ∧ u.cell? ⟨g7, 4, none⟩ = some (.int .u64 xl)) ∧ g7 < u.heap.size) ∧ (u.cell? (ad.add (p * 5)) = some (.bool yp) ∧ u.cell? ⟨(ad.add (p * 5)).block, (ad.add (p * 5)).off + 1, none⟩ = some (.string yi) ∧ u.cell? ⟨(ad.add (p * 5)).block, (ad.add (p * 5)).off + 2, none⟩ = some (.string ys) ∧ u.cell? ⟨(ad.add (p * 5)).block, (ad.add (p * 5)).off + 3, none⟩ = some (.int .u64 yh) ∧ u.cell? ⟨(ad.add (p * 5)).block, (ad.add (p * 5)).off + 4, none⟩ = some (.int .u64 yl)) ∧ (ad.add (p * 5)).block < u.heap.size := fun u hu => ⟨⟨(hu.box 1).five0.1, (hu.box 1).inside⟩, hSl u hu.below⟩
      have hTd := hT11.drew
      have hTqd := hTq.drew
      have Kd := K11.drew
      have hd := (Below.refl w11.heap.size w11).drew
      have hKd := hK.call Kd.below
      have hUd := hU.call Kd.below
      have hnt : ∀ b, q2.turns b → w10.heap.size ≤ b := fun b hb => (hq11.turns hb).1
      have hKoff : ∀ u u', Has w [(g11, 24, #[.int .u64 th, .int .u64 tl]), (g7, 26, lfB xp xi xs xh xl)] u → Off q2.turns u u' → Has w [(g11, 24, #[.int .u64 th, .int .u64 tl]), (g7, 26, lfB xp xi xs xh xl)] u' := fun u u' hu ho =>
        hu.off ho (fun i hi => by have := hnt i hi; omega) (fun z hz hi => by
          have hbb := hnt _ hi
          simp only [List.mem_cons, List.not_mem_nil, or_false] at hz
          rcases hz with rfl | rfl
          · simp only at hbb; omega
          · simp only at hbb; omega)
      unfold SetTo at hset
      simp only [Lf.val] at hset
      refine wp_region_held_drew (S := fun u => ((u.cell? ⟨g7, 0, none⟩ = some (.bool xp) ∧ u.cell? ⟨g7, 1, none⟩ = some (.string xi) ∧ u.cell? ⟨g7, 2, none⟩ = some (.string xs) ∧ u.cell? ⟨g7, 3, none⟩ = some (.int .u64 xh) ∧ u.cell? ⟨g7, 4, none⟩ = some (.int .u64 xl)) ∧ g7 < u.heap.size) ∧ (u.cell? (ad.add (p * 5)) = some (.bool yp) ∧ u.cell? ⟨(ad.add (p * 5)).block, (ad.add (p * 5)).off + 1, none⟩ = some (.string yi) ∧ u.cell? ⟨(ad.add (p * 5)).block, (ad.add (p * 5)).off + 2, none⟩ = some (.string ys) ∧ u.cell? ⟨(ad.add (p * 5)).block, (ad.add (p * 5)).off + 3, none⟩ = some (.int .u64 yh) ∧ u.cell? ⟨(ad.add (p * 5)).block, (ad.add (p * 5)).off + 4, none⟩ = some (.int .u64 yl)) ∧ (ad.add (p * 5)).block < u.heap.size) (by kernel_rfl) (hSxx _ Kd) (fun hHeld => ?_)
      generalize w11.drew = Wd2 at *
      rcases hset with ⟨hE, hF2, cS⟩ | ⟨hE, cS⟩
      · skip
        refine wpAnyH_take (i := 0) (v := ?_) rfl (by kernel_rfl) (by kernel_rfl) (by kernel_rfl) (fun _ _ _ h => h) (Or.inl ⟨by rfl, ?_⟩) (by assumption) ?_
        rotate_left 1
        · intro w hSw; (try dsimp only at hSw); go_simp; try with_reducible rfl
        try simp only [Act.put, List.getElem_toArray, List.getElem_cons_succ, List.getElem_cons_zero, List.setIfInBounds_toArray, List.set_cons_zero, List.set_cons_succ]
        refine wpAnyH_take (i := 1) (v := ?_) rfl (by kernel_rfl) (by kernel_rfl) (by kernel_rfl) (fun _ _ _ h => h) (Or.inl ⟨by rfl, ?_⟩) (by assumption) ?_
        rotate_left 1
        · intro w hSw; (try dsimp only at hSw); go_simp; try with_reducible rfl
        try simp only [Act.put, List.getElem_toArray, List.getElem_cons_succ, List.getElem_cons_zero, List.setIfInBounds_toArray, List.set_cons_zero, List.set_cons_succ]
        refine wpAnyH_take (i := 2) (v := ?_) rfl (by kernel_rfl) (by kernel_rfl) (by kernel_rfl) (fun _ _ _ h => h) (Or.inl ⟨by rfl, ?_⟩) (by assumption) ?_
        rotate_left 1
        · intro w hSw; (try dsimp only at hSw); go_simp; try with_reducible rfl
        try simp only [Act.put, List.getElem_toArray, List.getElem_cons_succ, List.getElem_cons_zero, List.setIfInBounds_toArray, List.set_cons_zero, List.set_cons_succ]
        refine wpAnyH_take (i := 3) (v := ?_) rfl (by kernel_rfl) (by kernel_rfl) (by kernel_rfl) (fun _ _ _ h => h) (Or.inl ⟨by rfl, ?_⟩) (by assumption) ?_
        rotate_left 1
        · intro w hSw; (try dsimp only at hSw); go_simp; try with_reducible rfl
        try simp only [Act.put, List.getElem_toArray, List.getElem_cons_succ, List.getElem_cons_zero, List.setIfInBounds_toArray, List.set_cons_zero, List.set_cons_succ]
        refine wpAnyH_take (i := 4) (v := ?_) rfl (by kernel_rfl) (by kernel_rfl) (by kernel_rfl) (fun _ _ _ h => h) (Or.inl ⟨by rfl, ?_⟩) (by assumption) ?_
        rotate_left 1
        · intro w hSw; (try dsimp only at hSw); go_simp; try with_reducible rfl
        try simp only [Act.put, List.getElem_toArray, List.getElem_cons_succ, List.getElem_cons_zero, List.setIfInBounds_toArray, List.set_cons_zero, List.set_cons_succ]
        refine wpAnyH_take (i := 5) (v := ?_) rfl (by kernel_rfl) (by kernel_rfl) (by kernel_rfl) (fun _ _ _ h => h) (Or.inl ⟨by rfl, ?_⟩) (by assumption) ?_
        rotate_left 1
        · intro w hSw; (try dsimp only at hSw); go_simp; try with_reducible rfl
        try simp only [Act.put, List.getElem_toArray, List.getElem_cons_succ, List.getElem_cons_zero, List.setIfInBounds_toArray, List.set_cons_zero, List.set_cons_succ]
        refine wpAnyH_take (i := 6) (v := ?_) rfl (by kernel_rfl) (by kernel_rfl) (by kernel_rfl) (fun _ _ _ h => h) (Or.inl ⟨by rfl, ?_⟩) (by assumption) ?_
        rotate_left 1
        · intro w hSw; (try dsimp only at hSw); go_simp; try with_reducible rfl
        try simp only [Act.put, List.getElem_toArray, List.getElem_cons_succ, List.getElem_cons_zero, List.setIfInBounds_toArray, List.set_cons_zero, List.set_cons_succ]
        refine wpAnyH_ready (rs := [7]) (by kernel_rfl) (by simp) (AllReadyH.cons rfl (fun K hK => ?_) AllReadyH.nil)
        go_simp
        go_at_call 11
        refine (cS _ hTd hKd hUd).mono ?_
        rintro e w12 ⟨rfl, hT12, O12⟩
        have K12 := hKoff _ _ Kd O12
        have hTq12 := hTqd.off hq3 O12 (fun b hb => Or.inr (by have := hnt b hb; omega))
        have el := fun u => run_eql_lf ⟨xp, xi, xs, xh, xl⟩ ⟨yp, yi, ys, yh, yl⟩ u
        simp only [Lf.val] at el
        obtain ⟨sm, hsm⟩ : ∃ sm, Lf.same ⟨xp, xi, xs, xh, xl⟩ ⟨yp, yi, ys, yh, yl⟩ = sm := ⟨_, rfl⟩
        rw [hsm] at el
        have HSM := hideIt hsm
        clear hsm
        try simp only []
        refine hK.out _ _ (hSxx _ K12) (fun hHeld => ?_)
        clear hK K
        try simp only [Act.put, List.getElem_toArray, List.getElem_cons_succ, List.getElem_cons_zero, List.setIfInBounds_toArray, List.set_cons_zero, List.set_cons_succ]
        refine wpAnyH_take (i := 8) (v := ?_) rfl (by kernel_rfl) (by kernel_rfl) (by kernel_rfl) (fun _ _ _ h => h) (Or.inl ⟨by rfl, ?_⟩) (by assumption) ?_
        rotate_left 1
        · intro w hSw; (try dsimp only at hSw); go_simp; try with_reducible rfl
        try simp only [Act.put, List.getElem_toArray, List.getElem_cons_succ, List.getElem_cons_zero, List.setIfInBounds_toArray, List.set_cons_zero, List.set_cons_succ]
        refine wpAnyH_take (i := 9) (v := ?_) rfl (by kernel_rfl) (by kernel_rfl) (by kernel_rfl) (fun _ _ _ h => h) (Or.inl ⟨by rfl, ?_⟩) (by assumption) ?_
        rotate_left 1
        · intro w hSw; (try dsimp only at hSw); go_simp; try with_reducible rfl
        try simp only [Act.put, List.getElem_toArray, List.getElem_cons_succ, List.getElem_cons_zero, List.setIfInBounds_toArray, List.set_cons_zero, List.set_cons_succ]
        refine wpAnyH_take (i := 10) (v := ?_) rfl (by kernel_rfl) (by kernel_rfl) (by kernel_rfl) (fun _ _ _ h => h) (Or.inl ⟨by rfl, ?_⟩) (by assumption) ?_
        rotate_left 1
        · intro w hSw; (try dsimp only at hSw); go_simp; try with_reducible rfl
        try simp only [Act.put, List.getElem_toArray, List.getElem_cons_succ, List.getElem_cons_zero, List.setIfInBounds_toArray, List.set_cons_zero, List.set_cons_succ]
        refine wpAnyH_take (i := 11) (v := ?_) rfl (by kernel_rfl) (by kernel_rfl) (by kernel_rfl) (fun _ _ _ h => h) (Or.inl ⟨by rfl, ?_⟩) (by assumption) ?_
        rotate_left 1
        · intro w hSw; (try dsimp only at hSw); go_simp; try with_reducible rfl
        try simp only [Act.put, List.getElem_toArray, List.getElem_cons_succ, List.getElem_cons_zero, List.setIfInBounds_toArray, List.set_cons_zero, List.set_cons_succ]
        refine wpAnyH_take (i := 12) (v := ?_) rfl (by kernel_rfl) (by kernel_rfl) (by kernel_rfl) (fun _ _ _ h => h) (Or.inl ⟨by rfl, ?_⟩) (by assumption) ?_
        rotate_left 1
        · intro w hSw; (try dsimp only at hSw); go_simp; try with_reducible rfl
        try simp only [Act.put, List.getElem_toArray, List.getElem_cons_succ, List.getElem_cons_zero, List.setIfInBounds_toArray, List.set_cons_zero, List.set_cons_succ]
        refine wpAnyH_take (i := 13) (v := ?_) rfl (by kernel_rfl) (by kernel_rfl) (by kernel_rfl) (fun _ _ _ h => h) (Or.inl ⟨by rfl, ?_⟩) (by assumption) ?_
        rotate_left 1
        · intro w hSw; (try dsimp only at hSw); go_simp; try with_reducible rfl
        try simp only [Act.put, List.getElem_toArray, List.getElem_cons_succ, List.getElem_cons_zero, List.setIfInBounds_toArray, List.set_cons_zero, List.set_cons_succ]
        refine wpAnyH_take (i := 14) (v := ?_) rfl (by kernel_rfl) (by kernel_rfl) (by kernel_rfl) (fun _ _ _ h => h) (Or.inl ⟨by rfl, ?_⟩) (by assumption) ?_
        rotate_left 1
        · intro w hSw; (try dsimp only at hSw); go_simp; try with_reducible rfl
        try simp only [Act.put, List.getElem_toArray, List.getElem_cons_succ, List.getElem_cons_zero, List.setIfInBounds_toArray, List.set_cons_zero, List.set_cons_succ]
        refine wpAnyH_take (i := 15) (v := ?_) rfl (by kernel_rfl) (by kernel_rfl) (by kernel_rfl) (fun _ _ _ h => h) (Or.inl ⟨by rfl, ?_⟩) (by assumption) ?_
        rotate_left 1
        · intro w hSw; (try dsimp only at hSw); go_simp; try with_reducible rfl
        try simp only [Act.put, List.getElem_toArray, List.getElem_cons_succ, List.getElem_cons_zero, List.setIfInBounds_toArray, List.set_cons_zero, List.set_cons_succ]
        refine wpAnyH_take (i := 16) (v := ?_) rfl (by kernel_rfl) (by kernel_rfl) (by kernel_rfl) (fun _ _ _ h => h) (Or.inl ⟨by rfl, ?_⟩) (by assumption) ?_
        rotate_left 1
        · intro w hSw; (try dsimp only at hSw); go_simp; try with_reducible rfl
        try simp only [Act.put, List.getElem_toArray, List.getElem_cons_succ, List.getElem_cons_zero, List.setIfInBounds_toArray, List.set_cons_zero, List.set_cons_succ]
        refine wpAnyH_take (i := 17) (v := ?_) rfl (by kernel_rfl) (by kernel_rfl) (by kernel_rfl) (fun _ _ _ h => h) (Or.inl ⟨by rfl, ?_⟩) (by assumption) ?_
        rotate_left 1
        · intro w hSw; (try dsimp only at hSw); go_simp; try with_reducible rfl
        try simp only [Act.put, List.getElem_toArray, List.getElem_cons_succ, List.getElem_cons_zero, List.setIfInBounds_toArray, List.set_cons_zero, List.set_cons_succ]
        refine wpAnyH_done (by kernel_rfl) ?_ _
        cases sm with
        | true =>
          go_wp2
          go_ret
          exact ⟨rfl, by have := K12.below; first | exact this | (rw [HW] at this; exact this)⟩
        | false =>
          have hxy : (⟨xp, xi, xs, xh, xl⟩ : Lf) ≠ ⟨yp, yi, ys, yh, yl⟩ := fun e => by
            have := (Lf.same_iff _ _).2 e
            rw [HSM.out] at this
            cases this
          have hym := HF.out.all _ (List.mem_of_getElem? HY.out)
          have hxm := hF2.all ⟨xp, xi, xs, xh, xl⟩ (List.mem_of_getElem? (i := p) (by rw [List.getElem?_set_self (by rw [HN.out]; exact hpl)]))
          have htx : Lf.text ⟨yp, yi, ys, yh, yl⟩ ≠ Lf.text ⟨xp, xi, xs, xh, xl⟩ := fun e => hxy (text_inj _ _ hym.1 hxm.1 hym.2.1 hym.2.2 hxm.2.1 hxm.2.2 e).symm
          have zy := mayT_sizes hym.1
          have zx := mayT_sizes hxm.1
          have cLy := fun u hu => leafText_any ⟨yp, yi, ys, yh, yl⟩ (by omega) (by omega) hym.2.1 hym.2.2 u hu
          have cLx := fun u hu => leafText_any ⟨xp, xi, xs, xh, xl⟩ (by omega) (by omega) hxm.2.1 hxm.2.2 u hu
          have by_ := text_bound ⟨yp, yi, ys, yh, yl⟩ (by omega) (by omega)
          have bx_ := text_bound ⟨xp, xi, xs, xh, xl⟩ (by omega) (by omega)
          have cDy := fun u hu => digestT_any n (Lf.text ⟨yp, yi, ys, yh, yl⟩) (by omega) u hu
          have cDx := fun u hu => digestT_any n (Lf.text ⟨xp, xi, xs, xh, xl⟩) (by omega) u hu
          have ny : nodeOf n ⟨yp, yi, ys, yh, yl⟩ = ⟨dgB n (Lf.text ⟨yp, yi, ys, yh, yl⟩), yh, yl⟩ := by rw [nodeOf, if_pos ⟨HF.out.may, hym.1⟩]
          have nx : nodeOf n ⟨xp, xi, xs, xh, xl⟩ = ⟨dgB n (Lf.text ⟨xp, xi, xs, xh, xl⟩), xh, xl⟩ := by rw [nodeOf, if_pos ⟨HF.out.may, hxm.1⟩]
          have HF2 := hideIt hF2
          have hL2 : (l.set p ⟨xp, xi, xs, xh, xl⟩)[p]? = some ⟨xp, xi, xs, xh, xl⟩ := by rw [List.getElem?_set_self (by rw [HN.out]; exact hpl)]
          have HL2 := hideIt hL2
          have hl2l : (l.set p ⟨xp, xi, xs, xh, xl⟩).length = m := by rw [List.length_set, HN.out]
          have HL2L := hideIt hl2l
          have cRt := fun u (hu : TrAt u q n l k) => root15_any hu HF.out
          have cR2 := fun u (hu : TrAt u q2 n (l.set p ⟨xp, xi, xs, xh, xl⟩) k) => root15_any hu HF2.out
          clear hL2 hl2l zy zx hym hxm hxy hF2 el cS hE cR hx200
          generalize l.set p ⟨xp, xi, xs, xh, xl⟩ = l2 at *
          simp only [Lf.val] at cLy cLx
          generalize Lf.text ⟨yp, yi, ys, yh, yl⟩ = ty at *
          generalize Lf.text ⟨xp, xi, xs, xh, xl⟩ = tx at *
          rw [HET.out] at cRt
          obtain ⟨V, hV⟩ : ∃ V, topN n l2 k = V := ⟨_, rfl⟩
          rw [hV] at cR2
          have HV := hideIt hV
          obtain ⟨vs, vh, vl⟩ := V
          simp only [rootV] at cRt cR2
          have er := fun u => run_neq_rt ⟨ts, th, tl, k⟩ ⟨vs, vh, vl, k⟩ u
          obtain ⟨sr, hsr⟩ : ∃ sr, RtP.same ⟨ts, th, tl, k⟩ ⟨vs, vh, vl, k⟩ = sr := ⟨_, rfl⟩
          rw [hsr] at er
          simp only [RtP.val] at er
          have HSR := hideIt hsr
          clear hsr hV
          cases sr with
          | false =>
            go_wp2_with (first
              | (go_at_call 10; ((with_reducible refine (cRt _ hTq12).mono ?_); rintro e w13 ⟨rfl, b13⟩))
              | (go_at_call 10; ((with_reducible refine (cR2 _ (hT12.call b13)).mono ?_); rintro e w14 ⟨rfl, b14⟩))
              | fail)
            go_ret
            exact ⟨rfl, by have := ((K12.call b13).call b14).below; first | exact this | (rw [HW] at this; exact this)⟩
          | true =>
            go_upto_region 24 with (first
              | (go_at_call 10; ((with_reducible refine (cRt _ hTq12).mono ?_); rintro e w13 ⟨rfl, b13⟩))
              | (go_at_call 10; ((with_reducible refine (cR2 _ (hT12.call b13)).mono ?_); rintro e w14 ⟨rfl, b14⟩))
              | fail)
            have b1314 := chain b13 b14
            have hT14 := (hT12.call b1314).drew
            have hTq14 := (hTq12.call b1314).drew
            have K14 := (K12.call b1314).drew
            refine wp_region_held_drew (S := fun u => ((u.cell? ⟨g7, 0, none⟩ = some (.bool xp) ∧ u.cell? ⟨g7, 1, none⟩ = some (.string xi) ∧ u.cell? ⟨g7, 2, none⟩ = some (.string xs) ∧ u.cell? ⟨g7, 3, none⟩ = some (.int .u64 xh) ∧ u.cell? ⟨g7, 4, none⟩ = some (.int .u64 xl)) ∧ g7 < u.heap.size) ∧ (u.cell? (ad.add (p * 5)) = some (.bool yp) ∧ u.cell? ⟨(ad.add (p * 5)).block, (ad.add (p * 5)).off + 1, none⟩ = some (.string yi) ∧ u.cell? ⟨(ad.add (p * 5)).block, (ad.add (p * 5)).off + 2, none⟩ = some (.string ys) ∧ u.cell? ⟨(ad.add (p * 5)).block, (ad.add (p * 5)).off + 3, none⟩ = some (.int .u64 yh) ∧ u.cell? ⟨(ad.add (p * 5)).block, (ad.add (p * 5)).off + 4, none⟩ = some (.int .u64 yl)) ∧ (ad.add (p * 5)).block < u.heap.size) (by kernel_rfl) (hSxx _ K14) (fun hHeld => ?_)
            generalize w14.drew = Wd3 at *
            clear b13 b14 b1314 K12 hT12 hTq12 cRt cR2 er
            obtain ⟨dy, hdy⟩ : ∃ d, dgB n ty = d := ⟨_, rfl⟩
            obtain ⟨dx, hdx⟩ : ∃ d, dgB n tx = d := ⟨_, rfl⟩
            rw [hdy] at cDy ny
            rw [hdx] at cDx nx
            have HNY := hideIt ny
            have HNX := hideIt nx
            have tne : (ty.toList == tx.toList) = false := by rw [same_str7]; exact decide_eq_false htx
            obtain ⟨sd, hsd⟩ : ∃ sd, (dy.toList == dx.toList) = sd := ⟨_, rfl⟩
            have HSD := hideIt hsd
            clear hdy hdx ny nx
            refine wpAnyH_take (i := 0) (v := ?_) rfl (by kernel_rfl) (by kernel_rfl) (by kernel_rfl) (fun _ _ _ h => h) (Or.inl ⟨by rfl, ?_⟩) (by assumption) ?_
            rotate_left 1
            · intro w hSw; (try dsimp only at hSw); go_simp; try with_reducible rfl
            try simp only [Act.put, List.getElem_toArray, List.getElem_cons_succ, List.getElem_cons_zero, List.setIfInBounds_toArray, List.set_cons_zero, List.set_cons_succ]
            refine wpAnyH_take (i := 1) (v := ?_) rfl (by kernel_rfl) (by kernel_rfl) (by kernel_rfl) (fun _ _ _ h => h) (Or.inl ⟨by rfl, ?_⟩) (by assumption) ?_
            rotate_left 1
            · intro w hSw; (try dsimp only at hSw); go_simp; try with_reducible rfl
            try simp only [Act.put, List.getElem_toArray, List.getElem_cons_succ, List.getElem_cons_zero, List.setIfInBounds_toArray, List.set_cons_zero, List.set_cons_succ]
            refine wpAnyH_take (i := 2) (v := ?_) rfl (by kernel_rfl) (by kernel_rfl) (by kernel_rfl) (fun _ _ _ h => h) (Or.inl ⟨by rfl, ?_⟩) (by assumption) ?_
            rotate_left 1
            · intro w hSw; (try dsimp only at hSw); go_simp; try with_reducible rfl
            try simp only [Act.put, List.getElem_toArray, List.getElem_cons_succ, List.getElem_cons_zero, List.setIfInBounds_toArray, List.set_cons_zero, List.set_cons_succ]
            refine wpAnyH_take (i := 3) (v := ?_) rfl (by kernel_rfl) (by kernel_rfl) (by kernel_rfl) (fun _ _ _ h => h) (Or.inl ⟨by rfl, ?_⟩) (by assumption) ?_
            rotate_left 1
            · intro w hSw; (try dsimp only at hSw); go_simp; try with_reducible rfl
            try simp only [Act.put, List.getElem_toArray, List.getElem_cons_succ, List.getElem_cons_zero, List.setIfInBounds_toArray, List.set_cons_zero, List.set_cons_succ]
            refine wpAnyH_take (i := 5) (v := ?_) rfl (by kernel_rfl) (by kernel_rfl) (by kernel_rfl) (fun _ _ _ h => h) (Or.inl ⟨by rfl, ?_⟩) (by assumption) ?_
            rotate_left 1
            · intro w hSw; (try dsimp only at hSw); go_simp; try with_reducible rfl
            try simp only [Act.put, List.getElem_toArray, List.getElem_cons_succ, List.getElem_cons_zero, List.setIfInBounds_toArray, List.set_cons_zero, List.set_cons_succ]
            refine wpAnyH_ready (rs := [4]) (by kernel_rfl) (by simp) (AllReadyH.cons rfl (fun K hK => ?_) AllReadyH.nil)
            go_simp
            go_at_call 21
            refine (cLy _ (hU.call K14.below)).mono ?_
            rintro e w15 ⟨rfl, b15⟩
            have K15 := K14.call b15
            try simp only []
            refine hK.out _ _ (hSxx _ K15) (fun hHeld => ?_)
            clear hK K
            try simp only [Act.put, List.getElem_toArray, List.getElem_cons_succ, List.getElem_cons_zero, List.setIfInBounds_toArray, List.set_cons_zero, List.set_cons_succ]
            refine wpAnyH_ready (rs := [6]) (by kernel_rfl) (by simp) (AllReadyH.cons rfl (fun K hK => ?_) AllReadyH.nil)
            go_simp
            go_at_call 21
            refine (cLx _ (hU.call K15.below)).mono ?_
            rintro e w16 ⟨rfl, b16⟩
            have K16 := K15.call b16
            try simp only []
            refine hK.out _ _ (hSxx _ K16) (fun hHeld => ?_)
            clear hK K
            try simp only [Act.put, List.getElem_toArray, List.getElem_cons_succ, List.getElem_cons_zero, List.setIfInBounds_toArray, List.set_cons_zero, List.set_cons_succ]
            refine wpAnyH_take (i := 7) (v := ?_) rfl (by kernel_rfl) (by kernel_rfl) (by kernel_rfl) (fun _ _ _ h => h) (Or.inl ⟨by rfl, ?_⟩) (by assumption) ?_
            rotate_left 1
            · intro w hSw; (try dsimp only at hSw); go_simp; try with_reducible rfl
            try simp only [Act.put, List.getElem_toArray, List.getElem_cons_succ, List.getElem_cons_zero, List.setIfInBounds_toArray, List.set_cons_zero, List.set_cons_succ]
            refine wpAnyH_take (i := 8) (v := ?_) rfl (by kernel_rfl) (by kernel_rfl) (by kernel_rfl) (fun _ _ _ h => h) (Or.inl ⟨by rfl, ?_⟩) (by assumption) ?_
            rotate_left 1
            · intro w hSw; (try dsimp only at hSw); go_simp; try with_reducible rfl
            try simp only [Act.put, List.getElem_toArray, List.getElem_cons_succ, List.getElem_cons_zero, List.setIfInBounds_toArray, List.set_cons_zero, List.set_cons_succ]
            refine wpAnyH_take (i := 9) (v := ?_) rfl (by kernel_rfl) (by kernel_rfl) (by kernel_rfl) (fun _ _ _ h => h) (Or.inl ⟨by rfl, ?_⟩) (by assumption) ?_
            rotate_left 1
            · intro w hSw; (try dsimp only at hSw); go_simp; try with_reducible rfl
            try simp only [Act.put, List.getElem_toArray, List.getElem_cons_succ, List.getElem_cons_zero, List.setIfInBounds_toArray, List.set_cons_zero, List.set_cons_succ]
            refine wpAnyH_take (i := 10) (v := ?_) rfl (by kernel_rfl) (by kernel_rfl) (by kernel_rfl) (fun _ _ _ h => h) (Or.inl ⟨by rfl, ?_⟩) (by assumption) ?_
            rotate_left 1
            · intro w hSw; (try dsimp only at hSw); go_simp; try with_reducible rfl
            try simp only [Act.put, List.getElem_toArray, List.getElem_cons_succ, List.getElem_cons_zero, List.setIfInBounds_toArray, List.set_cons_zero, List.set_cons_succ]
            refine wpAnyH_take (i := 11) (v := ?_) rfl (by kernel_rfl) (by kernel_rfl) (by kernel_rfl) (fun _ _ _ h => h) (Or.inl ⟨by rfl, ?_⟩) (by assumption) ?_
            rotate_left 1
            · intro w hSw; (try dsimp only at hSw); go_simp; try with_reducible rfl
            try simp only [Act.put, List.getElem_toArray, List.getElem_cons_succ, List.getElem_cons_zero, List.setIfInBounds_toArray, List.set_cons_zero, List.set_cons_succ]
            refine wpAnyH_take (i := 12) (v := ?_) rfl (by kernel_rfl) (by kernel_rfl) (by kernel_rfl) (fun _ _ _ h => h) (Or.inl ⟨by rfl, ?_⟩) (by assumption) ?_
            rotate_left 1
            · intro w hSw; (try dsimp only at hSw); go_simp; try with_reducible rfl
            try simp only [Act.put, List.getElem_toArray, List.getElem_cons_succ, List.getElem_cons_zero, List.setIfInBounds_toArray, List.set_cons_zero, List.set_cons_succ]
            refine wpAnyH_take (i := 13) (v := ?_) rfl (by kernel_rfl) (by kernel_rfl) (by kernel_rfl) (fun _ _ _ h => h) (Or.inl ⟨by rfl, ?_⟩) (by assumption) ?_
            rotate_left 1
            · intro w hSw; (try dsimp only at hSw); go_simp; try with_reducible rfl
            try simp only [Act.put, List.getElem_toArray, List.getElem_cons_succ, List.getElem_cons_zero, List.setIfInBounds_toArray, List.set_cons_zero, List.set_cons_succ]
            refine wpAnyH_take (i := 16) (v := ?_) rfl (by kernel_rfl) (by kernel_rfl) (by kernel_rfl) (fun _ _ _ h => h) (Or.inl ⟨by rfl, ?_⟩) (by assumption) ?_
            rotate_left 1
            · intro w hSw; (try dsimp only at hSw); go_simp; try with_reducible rfl
            try simp only [Act.put, List.getElem_toArray, List.getElem_cons_succ, List.getElem_cons_zero, List.setIfInBounds_toArray, List.set_cons_zero, List.set_cons_succ]
            refine wpAnyH_take (i := 17) (v := ?_) rfl (by kernel_rfl) (by kernel_rfl) (by kernel_rfl) (fun _ _ _ h => h) (Or.inl ⟨by rfl, ?_⟩) (by assumption) ?_
            rotate_left 1
            · intro w hSw; (try dsimp only at hSw); go_simp; try with_reducible rfl
            try simp only [Act.put, List.getElem_toArray, List.getElem_cons_succ, List.getElem_cons_zero, List.setIfInBounds_toArray, List.set_cons_zero, List.set_cons_succ]
            refine wpAnyH_ready (rs := [14]) (by kernel_rfl) (by simp) (AllReadyH.cons rfl (fun K hK => ?_) AllReadyH.nil)
            go_simp
            go_at_call 21
            refine (cLy _ (hU.call K16.below)).mono ?_
            rintro e w17 ⟨rfl, b17⟩
            have K17 := K16.call b17
            try simp only []
            refine hK.out _ _ (hSxx _ K17) (fun hHeld => ?_)
            clear hK K
            try simp only [Act.put, List.getElem_toArray, List.getElem_cons_succ, List.getElem_cons_zero, List.setIfInBounds_toArray, List.set_cons_zero, List.set_cons_succ]
            refine wpAnyH_ready (rs := [15]) (by kernel_rfl) (by simp) (AllReadyH.cons rfl (fun K hK => ?_) AllReadyH.nil)
            go_simp
            go_at_call 22
            refine (cDy _ (hTab.call K17.below)).mono ?_
            rintro e w18 ⟨rfl, b18⟩
            have K18 := K17.call b18
            try simp only []
            refine hK.out _ _ (hSxx _ K18) (fun hHeld => ?_)
            clear hK K
            try simp only [Act.put, List.getElem_toArray, List.getElem_cons_succ, List.getElem_cons_zero, List.setIfInBounds_toArray, List.set_cons_zero, List.set_cons_succ]
            refine wpAnyH_ready (rs := [18]) (by kernel_rfl) (by simp) (AllReadyH.cons rfl (fun K hK => ?_) AllReadyH.nil)
            go_simp
            go_at_call 21
            refine (cLx _ (hU.call K18.below)).mono ?_
            rintro e w19 ⟨rfl, b19⟩
            have K19 := K18.call b19
            try simp only []
            refine hK.out _ _ (hSxx _ K19) (fun hHeld => ?_)
            clear hK K
            try simp only [Act.put, List.getElem_toArray, List.getElem_cons_succ, List.getElem_cons_zero, List.setIfInBounds_toArray, List.set_cons_zero, List.set_cons_succ]
            refine wpAnyH_ready (rs := [19]) (by kernel_rfl) (by simp) (AllReadyH.cons rfl (fun K hK => ?_) AllReadyH.nil)
            go_simp
            go_at_call 22
            refine (cDx _ (hTab.call K19.below)).mono ?_
            rintro e w20 ⟨rfl, b20⟩
            have K20 := K19.call b20
            try simp only []
            refine hK.out _ _ (hSxx _ K20) (fun hHeld => ?_)
            clear hK K
            try simp only [Act.put, List.getElem_toArray, List.getElem_cons_succ, List.getElem_cons_zero, List.setIfInBounds_toArray, List.set_cons_zero, List.set_cons_succ]
            refine wpAnyH_take (i := 20) (v := ?_) rfl (by kernel_rfl) (by kernel_rfl) (by kernel_rfl) (fun _ _ _ h => h) (Or.inl ⟨by rfl, ?_⟩) (by assumption) ?_
            rotate_left 1
            · intro w hSw; (try dsimp only at hSw); go_simp; try with_reducible rfl
            try simp only [Act.put, List.getElem_toArray, List.getElem_cons_succ, List.getElem_cons_zero, List.setIfInBounds_toArray, List.set_cons_zero, List.set_cons_succ]
            refine wpAnyH_take (i := 21) (v := ?_) rfl (by kernel_rfl) (by kernel_rfl) (by kernel_rfl) (fun _ _ _ h => h) (Or.inl ⟨by rfl, ?_⟩) (by assumption) ?_
            rotate_left 1
            · intro w hSw; (try dsimp only at hSw); go_simp; try with_reducible rfl
            try simp only [Act.put, List.getElem_toArray, List.getElem_cons_succ, List.getElem_cons_zero, List.setIfInBounds_toArray, List.set_cons_zero, List.set_cons_succ]
            refine wpAnyH_done (by kernel_rfl) ?_ _
            have bb := chain (chain (chain (chain (chain b15 b16) b17) b18) b19) b20
            have hT20 := hT14.call bb
            have hTq20 := hTq14.call bb
            clear hsd b15 b16 b17 b18 b19 b20 bb K14 K15 K16 K17 K18 K19 hT14 hTq14 cLy cLx cDy cDx
            cases sd with
            | true =>
              go_wp2
              go_ret
              exact ⟨rfl, by have := K20.below; first | exact this | (rw [HW] at this; exact this)⟩
            | false =>
              have hne0 : ndAt (upN n 0 (l.map (nodeOf n))) (p / 2 ^ 0) ≠ ndAt (upN n 0 (l2.map (nodeOf n))) (p / 2 ^ 0) := by
                rw [Nat.pow_zero, Nat.div_one]
                have e1 : ndAt (upN n 0 (l.map (nodeOf n))) p = ⟨dy, yh, yl⟩ := by rw [← HNY.out, ndAt, List.getD_eq_getElem?_getD, upN, List.getElem?_map, HY.out]; rfl
                have e2 : ndAt (upN n 0 (l2.map (nodeOf n))) p = ⟨dx, xh, xl⟩ := by rw [← HNX.out, ndAt, List.getD_eq_getElem?_getD, upN, List.getElem?_map, HL2.out]; rfl
                rw [e1, e2]
                intro e
                injection e with e
                have h := HSD.out
                rw [same_str7, e, decide_eq_true rfl] at h
                cases h
              have cHt := fun u (hu : TrAt u q n l k) => height15_any hu (by omega)
              have HEND := hideIt (show ndAt (upN n k (l.map (nodeOf n))) (p / 2 ^ k) = ndAt (upN n k (l2.map (nodeOf n))) (p / 2 ^ k) from by
                rw [Nat.div_eq_of_lt hpk]
                have h1 : topN n l k = topN n l2 k := by
                  rw [HET.out, HV.out]
                  have h := (RtP.same_iff _ _).1 HSR.out
                  injection h with h1 h2 h3
                  rw [h1, h2, h3]
                exact h1)
              go_upto_region 27 with fail
              go_wp2
              go_loopg [17, 18] k (fun gk at_ i wr => ∃ j : Nat, j ≤ k ∧ k - j ≤ gk ∧ at_ = .int .u64 ((p / 2 ^ j : Nat) : Int) ∧ i = .int .i64 j ∧ ndAt (upN n j (l.map (nodeOf n))) (p / 2 ^ j) ≠ ndAt (upN n j (l2.map (nodeOf n))) (p / 2 ^ j) ∧ Has w [(g11, 24, #[.int .u64 th, .int .u64 tl]), (g7, 26, lfB xp xi xs xh xl)] wr ∧ TrAt wr q n l k ∧ TrAt wr q2 n l2 k)
              case atStart => exact ⟨0, Nat.zero_le _, by omega, by rw [Nat.pow_zero, Nat.div_one], rfl, hne0, K20, hTq20, hT20⟩
              case round =>
                rename World => wz
                obtain ⟨j, hj, hgk, rfl, rfl, hne, Kz, hTz, hT2z⟩ := hrel
                have HGZ := hideIt hgk
                have HNE := hideIt hne
                clear hgk hne hne0 K20 hTq20 hT20
                by_cases hlt : j < k
                · have hji : (j : Int) < (k : Int) := by omega
                  obtain ⟨qj, hqj⟩ : ∃ qj, p / 2 ^ j = qj := ⟨_, rfl⟩
                  rw [hqj] at HNE ⊢
                  have HQJ := hideIt hqj
                  have hqk : qj < 2 ^ (k - j) := by rw [← hqj]; exact place_fit hpk hj
                  have hq70 : qj < 128 := by have : qj ≤ p := by rw [← hqj]; exact Nat.div_le_self _ _
                                             omega
                  clear hqj
                  have hev : qj / 2 * 2 < 2 ^ (k - j) ∧ qj / 2 * 2 + 1 < 2 ^ (k - j) := by
                    have : 2 ^ (k - j) = 2 ^ (k - (j + 1)) + 2 ^ (k - (j + 1)) := by rw [show k - j = k - (j + 1) + 1 by omega, pow_two]
                    omega
                  have hdf := texts_differ HF.out HF2.out hlt hqk HNE.out
                  have hu1 := up_hash HF.out hlt hqk
                  have hu2 := up_hash HF2.out hlt hqk
                  have hand : bits .andNot .u64 (qj : Int) 1 = ((qj / 2 * 2 : Nat) : Int) := and_one qj hq70
                  have hor : bits .or .u64 (qj : Int) 1 = ((qj / 2 * 2 + 1 : Nat) : Int) := or_one qj hq70
                  have hj' : j ≤ k := hj
                  obtain ⟨h1h, h1o, -⟩ := HF.out.up hj'
                  obtain ⟨h2h, h2o, -⟩ := HF2.out.up hj'
                  have n1 := HF.out.ulen hj'
                  have n2 := HF2.out.ulen hj'
                  have cA := fun u (hu : TrAt u q n l k) => node15_in hu HF.out hj' (qj / 2 * 2) (by omega)
                  have cB := fun u (hu : TrAt u q n l k) => node15_in hu HF.out hj' (qj / 2 * 2 + 1) (by omega)
                  have cC := fun u (hu : TrAt u q2 n l2 k) => node15_in hu HF2.out hj' (qj / 2 * 2) (by omega)
                  have cD := fun u (hu : TrAt u q2 n l2 k) => node15_in hu HF2.out hj' (qj / 2 * 2 + 1) (by omega)
                  have wA := h1h _ (List.mem_of_getElem? (ndAt_get (L := upN n j (l.map (nodeOf n))) (q := qj / 2 * 2) (by omega)))
                  have wB := h1h _ (List.mem_of_getElem? (ndAt_get (L := upN n j (l.map (nodeOf n))) (q := qj / 2 * 2 + 1) (by omega)))
                  have wC := h2h _ (List.mem_of_getElem? (ndAt_get (L := upN n j (l2.map (nodeOf n))) (q := qj / 2 * 2) (by omega)))
                  have wD := h2h _ (List.mem_of_getElem? (ndAt_get (L := upN n j (l2.map (nodeOf n))) (q := qj / 2 * 2 + 1) (by omega)))
                  have sA := ndAt_fine h1o (qj / 2 * 2)
                  have sB := ndAt_fine h1o (qj / 2 * 2 + 1)
                  have sC := ndAt_fine h2o (qj / 2 * 2)
                  have sD := ndAt_fine h2o (qj / 2 * 2 + 1)
                  clear h1h h1o h2h h2o n1 n2
                  generalize ndAt (upN n j (l.map (nodeOf n))) (qj / 2 * 2) = A1 at *
                  generalize ndAt (upN n j (l.map (nodeOf n))) (qj / 2 * 2 + 1) = B1 at *
                  generalize ndAt (upN n j (l2.map (nodeOf n))) (qj / 2 * 2) = C1 at *
                  generalize ndAt (upN n j (l2.map (nodeOf n))) (qj / 2 * 2 + 1) = D1 at *
                  obtain ⟨qa, hqa⟩ : ∃ qa, qj / 2 * 2 = qa := ⟨_, rfl⟩
                  rw [hqa] at cA cB cC cD hand hor
                  obtain ⟨qb, hqb⟩ : ∃ qb, qa + 1 = qb := ⟨_, rfl⟩
                  rw [hqb] at cB cD hor
                  have cT1 := fun u => nodeText_any A1 B1 (by omega) (by omega) wA.1 wA.2 wB.1 wB.2 u
                  have cT2 := fun u => nodeText_any C1 D1 (by omega) (by omega) wC.1 wC.2 wD.1 wD.2 u
                  have z1 := ndText_size A1 B1
                  have z2 := ndText_size C1 D1
                  have cG1 := fun u hu => digestT_any n (ndText A1 B1) (by omega) u hu
                  have cG2 := fun u hu => digestT_any n (ndText C1 D1) (by omega) u hu
                  generalize ndText A1 B1 = t1 at *
                  generalize ndText C1 D1 = t2 at *
                  generalize dgB n t1 = e1 at *
                  generalize dgB n t2 = e2 at *
                  have HU1 := hideIt hu1
                  have HU2 := hideIt hu2
                  have tne2 : (t1.toList == t2.toList) = false := by rw [same_str7]; exact decide_eq_false hdf
                  clear hu1 hu2 hdf wA wB wC wD sA sB sC sD z1 z2 hqa hqb hev tne htx
                  obtain ⟨aas, ah, al⟩ := A1
                  obtain ⟨bs, bh, bl⟩ := B1
                  obtain ⟨cs, ch, cl⟩ := C1
                  obtain ⟨ds, dh, dl⟩ := D1
                  simp only [Nd.val] at cA cB cC cD cT1 cT2
                  have J0 := Has.start wz
                  go_upto_region 32 with (first
                    | (go_at_call 13; refine (cHt _ hTz).mono ?_; rintro e w21 ⟨rfl, rfl⟩)
                    | (go_at_call 8; refine (cA _ hTz).mono ?_; rintro e w21 ⟨rfl, b21⟩; have J1 := (J0.call b21).add 36 (ndB aas ah al))
                    | fail)
                  obtain ⟨g21, hg21⟩ : ∃ g, w21.heap.size = g := ⟨_, rfl⟩
                  rw [hg21] at J1 ⊢
                  change Code.wp _ _ _ _ (w21.alloc (.cells (ndB aas ah al) 36))
                  generalize w21.alloc (.cells (ndB aas ah al) 36) = W21 at *
                  go_upto_region 33 with (first
                    | (go_at_call 8; refine (cB _ (hTz.call J1.below)).mono ?_; rintro e w23 ⟨rfl, b23⟩; have J2 := (J1.call b23).add 36 (ndB bs bh bl))
                    | fail)
                  obtain ⟨g23, hg23⟩ : ∃ g, w23.heap.size = g := ⟨_, rfl⟩
                  rw [hg23] at J2 ⊢
                  change Code.wp _ _ _ _ (w23.alloc (.cells (ndB bs bh bl) 36))
                  generalize w23.alloc (.cells (ndB bs bh bl) 36) = W23 at *
                  go_upto_region 34 with (first
                    | (go_at_call 8; refine (cC _ (hT2z.call J2.below)).mono ?_; rintro e w25 ⟨rfl, b25⟩; have J3 := (J2.call b25).add 36 (ndB cs ch cl))
                    | fail)
                  obtain ⟨g25, hg25⟩ : ∃ g, w25.heap.size = g := ⟨_, rfl⟩
                  rw [hg25] at J3 ⊢
                  change Code.wp _ _ _ _ (w25.alloc (.cells (ndB cs ch cl) 36))
                  generalize w25.alloc (.cells (ndB cs ch cl) 36) = W25 at *
                  go_upto_region 35 with (first
                    | (go_at_call 8; refine (cD _ (hT2z.call J3.below)).mono ?_; rintro e w27 ⟨rfl, b27⟩; have J4 := (J3.call b27).add 36 (ndB ds dh dl))
                    | fail)
                  obtain ⟨g27, hg27⟩ : ∃ g, w27.heap.size = g := ⟨_, rfl⟩
                  rw [hg27] at J4 ⊢
                  change Code.wp _ _ _ _ (w27.alloc (.cells (ndB ds dh dl) 36))
                  generalize w27.alloc (.cells (ndB ds dh dl) 36) = W27 at *
                  have hSn : ∀ u, Has wz [(g27, 36, ndB ds dh dl), (g25, 36, ndB cs ch cl), (g23, 36, ndB bs bh bl), (g21, 36, ndB aas ah al)] u → ((u.cell? ⟨g21, 0, none⟩ = some (.string aas) ∧ u.cell? ⟨g21, 1, none⟩ = some (.int .u64 ah) ∧ u.cell? ⟨g21, 2, none⟩ = some (.int .u64 al)) ∧ g21 < u.heap.size) ∧ ((u.cell? ⟨g23, 0, none⟩ = some (.string bs) ∧ u.cell? ⟨g23, 1, none⟩ = some (.int .u64 bh) ∧ u.cell? ⟨g23, 2, none⟩ = some (.int .u64 bl)) ∧ g23 < u.heap.size) ∧ ((u.cell? ⟨g25, 0, none⟩ = some (.string cs) ∧ u.cell? ⟨g25, 1, none⟩ = some (.int .u64 ch) ∧ u.cell? ⟨g25, 2, none⟩ = some (.int .u64 cl)) ∧ g25 < u.heap.size) ∧ ((u.cell? ⟨g27, 0, none⟩ = some (.string ds) ∧ u.cell? ⟨g27, 1, none⟩ = some (.int .u64 dh) ∧ u.cell? ⟨g27, 2, none⟩ = some (.int .u64 dl)) ∧ g27 < u.heap.size) := fun u hu => ⟨⟨nd_cells15 (hu.box 3), (hu.box 3).inside⟩, ⟨nd_cells15 (hu.box 2), (hu.box 2).inside⟩, ⟨nd_cells15 (hu.box 1), (hu.box 1).inside⟩, ⟨nd_cells15 (hu.box 0), (hu.box 0).inside⟩⟩
                  have Jd := J4.drew
                  refine wp_region_held_drew (S := fun u => ((u.cell? ⟨g21, 0, none⟩ = some (.string aas) ∧ u.cell? ⟨g21, 1, none⟩ = some (.int .u64 ah) ∧ u.cell? ⟨g21, 2, none⟩ = some (.int .u64 al)) ∧ g21 < u.heap.size) ∧ ((u.cell? ⟨g23, 0, none⟩ = some (.string bs) ∧ u.cell? ⟨g23, 1, none⟩ = some (.int .u64 bh) ∧ u.cell? ⟨g23, 2, none⟩ = some (.int .u64 bl)) ∧ g23 < u.heap.size) ∧ ((u.cell? ⟨g25, 0, none⟩ = some (.string cs) ∧ u.cell? ⟨g25, 1, none⟩ = some (.int .u64 ch) ∧ u.cell? ⟨g25, 2, none⟩ = some (.int .u64 cl)) ∧ g25 < u.heap.size) ∧ ((u.cell? ⟨g27, 0, none⟩ = some (.string ds) ∧ u.cell? ⟨g27, 1, none⟩ = some (.int .u64 dh) ∧ u.cell? ⟨g27, 2, none⟩ = some (.int .u64 dl)) ∧ g27 < u.heap.size)) (by kernel_rfl) (hSn _ Jd) (fun hHeld => ?_)
                  generalize W27.drew = Wd4 at *
                  refine wpAnyH_take (i := 0) (v := ?_) rfl (by kernel_rfl) (by kernel_rfl) (by kernel_rfl) (fun _ _ _ h => h) (Or.inl ⟨by rfl, ?_⟩) (by assumption) ?_
                  rotate_left 1
                  · intro w hSw; (try dsimp only at hSw); go_simp; try with_reducible rfl
                  try simp only [Act.put, List.getElem_toArray, List.getElem_cons_succ, List.getElem_cons_zero, List.setIfInBounds_toArray, List.set_cons_zero, List.set_cons_succ]
                  refine wpAnyH_take (i := 1) (v := ?_) rfl (by kernel_rfl) (by kernel_rfl) (by kernel_rfl) (fun _ _ _ h => h) (Or.inl ⟨by rfl, ?_⟩) (by assumption) ?_
                  rotate_left 1
                  · intro w hSw; (try dsimp only at hSw); go_simp; try with_reducible rfl
                  try simp only [Act.put, List.getElem_toArray, List.getElem_cons_succ, List.getElem_cons_zero, List.setIfInBounds_toArray, List.set_cons_zero, List.set_cons_succ]
                  refine wpAnyH_take (i := 3) (v := ?_) rfl (by kernel_rfl) (by kernel_rfl) (by kernel_rfl) (fun _ _ _ h => h) (Or.inl ⟨by rfl, ?_⟩) (by assumption) ?_
                  rotate_left 1
                  · intro w hSw; (try dsimp only at hSw); go_simp; try with_reducible rfl
                  try simp only [Act.put, List.getElem_toArray, List.getElem_cons_succ, List.getElem_cons_zero, List.setIfInBounds_toArray, List.set_cons_zero, List.set_cons_succ]
                  refine wpAnyH_take (i := 4) (v := ?_) rfl (by kernel_rfl) (by kernel_rfl) (by kernel_rfl) (fun _ _ _ h => h) (Or.inl ⟨by rfl, ?_⟩) (by assumption) ?_
                  rotate_left 1
                  · intro w hSw; (try dsimp only at hSw); go_simp; try with_reducible rfl
                  try simp only [Act.put, List.getElem_toArray, List.getElem_cons_succ, List.getElem_cons_zero, List.setIfInBounds_toArray, List.set_cons_zero, List.set_cons_succ]
                  refine wpAnyH_ready (rs := [2]) (by kernel_rfl) (by simp) (AllReadyH.cons rfl (fun K hK => ?_) AllReadyH.nil)
                  go_simp
                  go_at_call 23
                  refine (cT1 _).mono ?_
                  rintro e w28 ⟨rfl, b28⟩
                  have J5 := Jd.call b28
                  try simp only []
                  refine hK.out _ _ (hSn _ J5) (fun hHeld => ?_)
                  clear hK K
                  try simp only [Act.put, List.getElem_toArray, List.getElem_cons_succ, List.getElem_cons_zero, List.setIfInBounds_toArray, List.set_cons_zero, List.set_cons_succ]
                  refine wpAnyH_ready (rs := [5]) (by kernel_rfl) (by simp) (AllReadyH.cons rfl (fun K hK => ?_) AllReadyH.nil)
                  go_simp
                  go_at_call 23
                  refine (cT2 _).mono ?_
                  rintro e w29 ⟨rfl, b29⟩
                  have J6 := J5.call b29
                  try simp only []
                  refine hK.out _ _ (hSn _ J6) (fun hHeld => ?_)
                  clear hK K
                  try simp only [Act.put, List.getElem_toArray, List.getElem_cons_succ, List.getElem_cons_zero, List.setIfInBounds_toArray, List.set_cons_zero, List.set_cons_succ]
                  refine wpAnyH_take (i := 6) (v := ?_) rfl (by kernel_rfl) (by kernel_rfl) (by kernel_rfl) (fun _ _ _ h => h) (Or.inl ⟨by rfl, ?_⟩) (by assumption) ?_
                  rotate_left 1
                  · intro w hSw; (try dsimp only at hSw); go_simp; try with_reducible rfl
                  try simp only [Act.put, List.getElem_toArray, List.getElem_cons_succ, List.getElem_cons_zero, List.setIfInBounds_toArray, List.set_cons_zero, List.set_cons_succ]
                  refine wpAnyH_take (i := 7) (v := ?_) rfl (by kernel_rfl) (by kernel_rfl) (by kernel_rfl) (fun _ _ _ h => h) (Or.inl ⟨by rfl, ?_⟩) (by assumption) ?_
                  rotate_left 1
                  · intro w hSw; (try dsimp only at hSw); go_simp; try with_reducible rfl
                  try simp only [Act.put, List.getElem_toArray, List.getElem_cons_succ, List.getElem_cons_zero, List.setIfInBounds_toArray, List.set_cons_zero, List.set_cons_succ]
                  refine wpAnyH_done (by kernel_rfl) ?_ _
                  obtain ⟨sd2, hsd2⟩ : ∃ sd, (e1.toList == e2.toList) = sd := ⟨_, rfl⟩
                  have HSD2 := hideIt hsd2
                  have hKz := hTab.call Kz.below
                  have h2q : (qj : Int) / 2 = ((qj / 2 : Nat) : Int) := by norm_cast
                  cases sd2 with
                  | true =>
                    go_wp2_with (first
                      | (go_at_call 22; ((with_reducible refine (cG1 _ (hKz.call J6.below)).mono ?_); rintro e w30 ⟨rfl, b30⟩))
                      | (go_at_call 22; ((with_reducible refine (cG2 _ (hKz.call (chain J6.below b30))).mono ?_); rintro e w31 ⟨rfl, b31⟩))
                      | fail)
                    go_ret
                    exact ⟨rfl, by have := (Kz.call ((J6.call b30).call b31).below).below; first | exact this | (rw [HW] at this; exact this)⟩
                  | false =>
                    obtain ⟨qh, hqh⟩ : ∃ qh, qj / 2 = qh := ⟨_, rfl⟩
                    have t5 : IntKind.u64.wrap ((qj : Int).tdiv 2) = (qh : Int) := by rw [Int.tdiv_eq_ediv_of_nonneg (by omega), IntKind.wrap_u64]; omega
                    have t6 : (qj : Int).tdiv 2 = (qh : Int) := by rw [Int.tdiv_eq_ediv_of_nonneg (by omega)]; omega
                    have t7 : IntKind.u64.wrap (qh : Int) = (qh : Int) := by rw [IntKind.wrap_u64]; omega
                    have t8 : (qj : Int) / 2 = (qh : Int) := by omega
                    have t9 : ¬ (2 : Int) = 0 := by decide
                    have HQH := hideIt hqh
                    clear hqh h2q
                    go_wp2_with (first
                      | (go_at_call 22; ((with_reducible refine (cG1 _ (hKz.call J6.below)).mono ?_); rintro e w30 ⟨rfl, b30⟩))
                      | (go_at_call 22; ((with_reducible refine (cG2 _ (hKz.call (chain J6.below b30))).mono ?_); rintro e w31 ⟨rfl, b31⟩))
                      | fail)
                    have bz := ((J6.call b30).call b31).below
                    have hpq : p / 2 ^ (j + 1) = qj / 2 := by rw [← HQJ.out, Nat.div_div_eq_div_mul, ← Nat.pow_succ]
                    rw [HQH.out] at hpq
                    have hne2 : ndAt (upN n (j + 1) (l.map (nodeOf n))) qh ≠ ndAt (upN n (j + 1) (l2.map (nodeOf n))) qh := by
                      intro e
                      have h := HSD2.out
                      rw [same_str7, ← HU1.out, ← HU2.out, HQH.out, e, decide_eq_true rfl] at h
                      cases h
                    go_roundg (k - (j + 1))
                    case measure => have := HGZ.out; omega
                    case rel => exact ⟨j + 1, by omega, Nat.le_refl _, by rw [hpq], by go_num, by rw [hpq]; exact hne2, Kz.call bz, hTz.call bz, hT2z.call bz⟩
                · have e : j = k := by omega
                  subst e
                  exact absurd HEND.out HNE.out
      · obtain ⟨E, hEE⟩ : ∃ E, newE n (l.set p ⟨xp, xi, xs, xh, xl⟩) = E := ⟨_, rfl⟩
        rw [hEE] at hE cS
        have q0 : (E != 0) = true := bne_iff_ne.2 hE
        clear hEE
        refine wpAnyH_take (i := 0) (v := ?_) rfl (by kernel_rfl) (by kernel_rfl) (by kernel_rfl) (fun _ _ _ h => h) (Or.inl ⟨by rfl, ?_⟩) (by assumption) ?_
        rotate_left 1
        · intro w hSw; (try dsimp only at hSw); go_simp; try with_reducible rfl
        try simp only [Act.put, List.getElem_toArray, List.getElem_cons_succ, List.getElem_cons_zero, List.setIfInBounds_toArray, List.set_cons_zero, List.set_cons_succ]
        refine wpAnyH_take (i := 1) (v := ?_) rfl (by kernel_rfl) (by kernel_rfl) (by kernel_rfl) (fun _ _ _ h => h) (Or.inl ⟨by rfl, ?_⟩) (by assumption) ?_
        rotate_left 1
        · intro w hSw; (try dsimp only at hSw); go_simp; try with_reducible rfl
        try simp only [Act.put, List.getElem_toArray, List.getElem_cons_succ, List.getElem_cons_zero, List.setIfInBounds_toArray, List.set_cons_zero, List.set_cons_succ]
        refine wpAnyH_take (i := 2) (v := ?_) rfl (by kernel_rfl) (by kernel_rfl) (by kernel_rfl) (fun _ _ _ h => h) (Or.inl ⟨by rfl, ?_⟩) (by assumption) ?_
        rotate_left 1
        · intro w hSw; (try dsimp only at hSw); go_simp; try with_reducible rfl
        try simp only [Act.put, List.getElem_toArray, List.getElem_cons_succ, List.getElem_cons_zero, List.setIfInBounds_toArray, List.set_cons_zero, List.set_cons_succ]
        refine wpAnyH_take (i := 3) (v := ?_) rfl (by kernel_rfl) (by kernel_rfl) (by kernel_rfl) (fun _ _ _ h => h) (Or.inl ⟨by rfl, ?_⟩) (by assumption) ?_
        rotate_left 1
        · intro w hSw; (try dsimp only at hSw); go_simp; try with_reducible rfl
        try simp only [Act.put, List.getElem_toArray, List.getElem_cons_succ, List.getElem_cons_zero, List.setIfInBounds_toArray, List.set_cons_zero, List.set_cons_succ]
        refine wpAnyH_take (i := 4) (v := ?_) rfl (by kernel_rfl) (by kernel_rfl) (by kernel_rfl) (fun _ _ _ h => h) (Or.inl ⟨by rfl, ?_⟩) (by assumption) ?_
        rotate_left 1
        · intro w hSw; (try dsimp only at hSw); go_simp; try with_reducible rfl
        try simp only [Act.put, List.getElem_toArray, List.getElem_cons_succ, List.getElem_cons_zero, List.setIfInBounds_toArray, List.set_cons_zero, List.set_cons_succ]
        refine wpAnyH_take (i := 5) (v := ?_) rfl (by kernel_rfl) (by kernel_rfl) (by kernel_rfl) (fun _ _ _ h => h) (Or.inl ⟨by rfl, ?_⟩) (by assumption) ?_
        rotate_left 1
        · intro w hSw; (try dsimp only at hSw); go_simp; try with_reducible rfl
        try simp only [Act.put, List.getElem_toArray, List.getElem_cons_succ, List.getElem_cons_zero, List.setIfInBounds_toArray, List.set_cons_zero, List.set_cons_succ]
        refine wpAnyH_take (i := 6) (v := ?_) rfl (by kernel_rfl) (by kernel_rfl) (by kernel_rfl) (fun _ _ _ h => h) (Or.inl ⟨by rfl, ?_⟩) (by assumption) ?_
        rotate_left 1
        · intro w hSw; (try dsimp only at hSw); go_simp; try with_reducible rfl
        try simp only [Act.put, List.getElem_toArray, List.getElem_cons_succ, List.getElem_cons_zero, List.setIfInBounds_toArray, List.set_cons_zero, List.set_cons_succ]
        refine wpAnyH_ready (rs := [7]) (by kernel_rfl) (by simp) (AllReadyH.cons rfl (fun K hK => ?_) AllReadyH.nil)
        go_simp
        go_at_call 11
        refine (cS _ hTd hKd hUd).mono ?_
        rintro e w12 ⟨rfl, hT12, O12⟩
        have K12 := hKoff _ _ Kd O12
        try simp only []
        refine hK.out _ _ (hSxx _ K12) (fun hHeld => ?_)
        clear hK K
        try simp only [Act.put, List.getElem_toArray, List.getElem_cons_succ, List.getElem_cons_zero, List.setIfInBounds_toArray, List.set_cons_zero, List.set_cons_succ]
        refine wpAnyH_take (i := 8) (v := ?_) rfl (by kernel_rfl) (by kernel_rfl) (by kernel_rfl) (fun _ _ _ h => h) (Or.inl ⟨by rfl, ?_⟩) (by assumption) ?_
        rotate_left 1
        · intro w hSw; (try dsimp only at hSw); go_simp; try with_reducible rfl
        try simp only [Act.put, List.getElem_toArray, List.getElem_cons_succ, List.getElem_cons_zero, List.setIfInBounds_toArray, List.set_cons_zero, List.set_cons_succ]
        refine wpAnyH_take (i := 9) (v := ?_) rfl (by kernel_rfl) (by kernel_rfl) (by kernel_rfl) (fun _ _ _ h => h) (Or.inl ⟨by rfl, ?_⟩) (by assumption) ?_
        rotate_left 1
        · intro w hSw; (try dsimp only at hSw); go_simp; try with_reducible rfl
        try simp only [Act.put, List.getElem_toArray, List.getElem_cons_succ, List.getElem_cons_zero, List.setIfInBounds_toArray, List.set_cons_zero, List.set_cons_succ]
        refine wpAnyH_take (i := 10) (v := ?_) rfl (by kernel_rfl) (by kernel_rfl) (by kernel_rfl) (fun _ _ _ h => h) (Or.inl ⟨by rfl, ?_⟩) (by assumption) ?_
        rotate_left 1
        · intro w hSw; (try dsimp only at hSw); go_simp; try with_reducible rfl
        try simp only [Act.put, List.getElem_toArray, List.getElem_cons_succ, List.getElem_cons_zero, List.setIfInBounds_toArray, List.set_cons_zero, List.set_cons_succ]
        refine wpAnyH_take (i := 11) (v := undef) rfl (by kernel_rfl) (by kernel_rfl) (by kernel_rfl) (fun _ _ _ h => h) (Or.inr ⟨by rfl, rfl⟩) (by assumption) ?_
        try simp only [Act.put, List.getElem_toArray, List.getElem_cons_succ, List.getElem_cons_zero, List.setIfInBounds_toArray, List.set_cons_zero, List.set_cons_succ]
        refine wpAnyH_take (i := 12) (v := undef) rfl (by kernel_rfl) (by kernel_rfl) (by kernel_rfl) (fun _ _ _ h => h) (Or.inr ⟨by rfl, rfl⟩) (by assumption) ?_
        try simp only [Act.put, List.getElem_toArray, List.getElem_cons_succ, List.getElem_cons_zero, List.setIfInBounds_toArray, List.set_cons_zero, List.set_cons_succ]
        refine wpAnyH_take (i := 13) (v := undef) rfl (by kernel_rfl) (by kernel_rfl) (by kernel_rfl) (fun _ _ _ h => h) (Or.inr ⟨by rfl, rfl⟩) (by assumption) ?_
        try simp only [Act.put, List.getElem_toArray, List.getElem_cons_succ, List.getElem_cons_zero, List.setIfInBounds_toArray, List.set_cons_zero, List.set_cons_succ]
        refine wpAnyH_take (i := 14) (v := undef) rfl (by kernel_rfl) (by kernel_rfl) (by kernel_rfl) (fun _ _ _ h => h) (Or.inr ⟨by rfl, rfl⟩) (by assumption) ?_
        try simp only [Act.put, List.getElem_toArray, List.getElem_cons_succ, List.getElem_cons_zero, List.setIfInBounds_toArray, List.set_cons_zero, List.set_cons_succ]
        refine wpAnyH_take (i := 15) (v := undef) rfl (by kernel_rfl) (by kernel_rfl) (by kernel_rfl) (fun _ _ _ h => h) (Or.inr ⟨by rfl, rfl⟩) (by assumption) ?_
        try simp only [Act.put, List.getElem_toArray, List.getElem_cons_succ, List.getElem_cons_zero, List.setIfInBounds_toArray, List.set_cons_zero, List.set_cons_succ]
        refine wpAnyH_take (i := 16) (v := undef) rfl (by kernel_rfl) (by kernel_rfl) (by kernel_rfl) (fun _ _ _ h => h) (Or.inr ⟨by rfl, rfl⟩) (by assumption) ?_
        try simp only [Act.put, List.getElem_toArray, List.getElem_cons_succ, List.getElem_cons_zero, List.setIfInBounds_toArray, List.set_cons_zero, List.set_cons_succ]
        refine wpAnyH_take (i := 17) (v := ?_) rfl (by kernel_rfl) (by kernel_rfl) (by kernel_rfl) (fun _ _ _ h => h) (Or.inl ⟨by rfl, ?_⟩) (by assumption) ?_
        rotate_left 1
        · intro w hSw; (try dsimp only at hSw); go_simp; try with_reducible rfl
        try simp only [Act.put, List.getElem_toArray, List.getElem_cons_succ, List.getElem_cons_zero, List.setIfInBounds_toArray, List.set_cons_zero, List.set_cons_succ]
        refine wpAnyH_done (by kernel_rfl) ?_ _
        go_wp2
        go_ret
        exact ⟨rfl, by have := K12.below; first | exact this | (rw [HW] at this; exact this)⟩
end Go.Proofs.YtbhgcmdodjgpmaaDoor
