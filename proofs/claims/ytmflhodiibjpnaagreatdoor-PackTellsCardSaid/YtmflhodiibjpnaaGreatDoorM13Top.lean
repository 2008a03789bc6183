/- Several of my texts, laid as one. -/
import Derived.Test.YtmflhodiibjpnaaGreatDoorM13Eq
import Derived.Test.YtmflhodiibjpnaaGreatDoorM13Read
import Derived.Test.YtmflhodiibjpnaaGreatDoorM1Num
import Derived.Test.YtmflhodiibjpnaaGreatDoorM13Who
/-
  pack, walked: PutRoot, GetRoot, Root, Leaf, ReadRoot, ReadLeaf.
-/
namespace Go.Proofs.YtmflhodiibjpnaaGreatDoor
set_option linter.unusedVariables false
set_option linter.unusedSimpArgs false
set_option maxRecDepth 10000
open Go.RowKit

set_option maxHeartbeats 2000000 in
theorem putroot_any (g : Nat) (o : Option ByteArray) (x : RtP) (hs : x.hash.size ≤ 4611686018427387903) (hw : Word x.h ∧ Word x.l) (w : World) (h : OutS w g o) : Puts 11 #[.pointer (some ⟨g, 0, none⟩), x.val] w g o (rtY x) := by
  have c1 := fun u => roots_any u
  have c2 := fun u hu => putR_any g o x hs hw u hu
  obtain ⟨xs, xh, xl, xn⟩ := x
  simp only [RtP.val] at c2 ⊢
  generalize rtY ⟨xs, xh, xl, xn⟩ = Y at *
  have W0 := (Wp.start h).add 26 (rtB xs xh xl xn)
  go_enter Tryz.func11, Tryz.ntmps11
  go_upto_region 1 with fail
  change Code.wp _ _ _ _ (w.alloc (.cells (rtB xs xh xl xn) 26))
  have hbg : w.heap.size ≠ g := Nat.ne_of_gt h.inside
  generalize w.alloc (.cells (rtB xs xh xl xn) 26) = V0 at *
  have hb0 := W0.box 0
  have fact : ∀ u, Off (One g) V0 u → u.cell? ⟨w.heap.size, 0, none⟩ = some (.string xs) ∧ u.cell? ⟨w.heap.size, 1, none⟩ = some (.int .u64 xh) ∧ u.cell? ⟨w.heap.size, 2, none⟩ = some (.int .u64 xl) ∧ u.cell? ⟨w.heap.size, 3, none⟩ = some (.int .i64 xn) := fun u hu => by
    obtain ⟨⟨q0, q1, q2, q3⟩, -, -⟩ := (hu.box hb0 (fun e => hbg e)).four
    exact ⟨q0, q1, q2, q3⟩
  have G0 : Off (One g) V0 V0.drew := (Off.refl _ _).drew
  have F0 := fact _ G0
  have I0 : OutS V0.drew g o := W0.drew.outS
  have hfl : ∀ u : World, (Instr.field 109 (.agg rtF) 1).run Tryz.prog u = .ok (fn0 86) u := fun u => by kernel_rfl
  go_region_held3 (fun u => Off (One g) V0 u ∧ (u.cell? ⟨w.heap.size, 0, none⟩ = some (.string xs) ∧ u.cell? ⟨w.heap.size, 1, none⟩ = some (.int .u64 xh) ∧ u.cell? ⟨w.heap.size, 2, none⟩ = some (.int .u64 xl) ∧ u.cell? ⟨w.heap.size, 3, none⟩ = some (.int .i64 xn)))
    (first | (with_reducible exact ⟨G0, F0⟩) | exact off_call fact (by assumption) (by assumption) | exact off_same fact (by assumption) (by assumption) | with_reducible assumption | fail)
    (first
      | (go_at_call 52; refine (c1 _).mono ?_; rintro e w1 ⟨rfl, j1⟩)
      | (go_at_call 86; refine (c2 _ (I0.call j1)).mono ?_; rintro e w2 ⟨rfl, s2, k2⟩)
      | fail)
  all_goals go_wp2
  all_goals go_end0
  all_goals exact ⟨rfl, s2, (W0.drew.off.call j1).trans k2⟩
set_option maxHeartbeats 2000000 in
theorem getroot_any (w : World) (g : Nat) (st : StR) (h : InS w g st) : Calls Tryz.prog 31 #[.pointer (some ⟨g, 0, none⟩)] w fun e w' =>
    e = .returned (rtG st).1.val ∧ InS w' g (rtG st).2 ∧ Off (One g) w w' := by
  have c1 := fun u => roots_any u
  have c2 := fun u hu => takeR_any u g st hu
  rw [take_rt] at c2
  have D0 := (Rp.start h).add 26 (rtB ⟨#[]⟩ 0 0 0)
  generalize rtG st = V at *
  obtain ⟨⟨xs, xh, xl, xn⟩, s1⟩ := V
  simp only [RtP.val] at c2 ⊢
  go_enter Tryz.func31, Tryz.ntmps31
  go_upto_region 1 with fail
  change Code.wp _ _ _ _ (w.alloc (.cells (rtB ⟨#[]⟩ 0 0 0) 26))
  generalize w.alloc (.cells (rtB ⟨#[]⟩ 0 0 0) 26) = V0 at *
  go_wp2_with (first
    | (go_at_call 52; refine (c1 _).mono ?_; rintro e w1 ⟨rfl, j1⟩; have D1 := D0.call j1)
    | (go_at_call 71; refine (c2 _ D1.inS).mono ?_; rintro e w2 ⟨rfl, t2, k2⟩; have D2 := D1.read t2 k2; obtain ⟨⟨y0, y1, y2, y3⟩, ⟨e0, e1, e2, e3⟩, hin2⟩ := (D2.box 0).four)
    | fail)
  have D3 := (((D2.wrote (by decide) (fun x hx => by simp at hx) 0 (.string xs)).wrote (by decide) (fun x hx => by simp at hx) 1 (.int .u64 xh)).wrote (by decide) (fun x hx => by simp at hx) 2 (.int .u64 xl)).wrote (by decide) (fun x hx => by simp at hx) 3 (.int .i64 xn)
  change Rp w g s1 [(w.heap.size, 26, rtB xs xh xl xn)] _ at D3
  generalize World.setCell (World.setCell (World.setCell (World.setCell w2 _ _) _ _) _ _) _ _ = Z at *
  obtain ⟨⟨v0, v1, v2, v3⟩, -, -⟩ := (D3.box 0).four
  exact bodyPost_ret (v := .agg (rtB xs xh xl xn)) (by simp [results, Tryz.results31, go_sem, v0, v1, v2, v3]) rfl ⟨rfl, D3.inS, D3.off⟩
set_option maxHeartbeats 2000000 in
theorem root_any (x : RtP) (hs : x.hash.size ≤ 4611686018427387903) (hw : Word x.h ∧ Word x.l) (w : World) : Calls Tryz.prog 13 #[x.val] w (Tells (.tuple #[.string (rtO x).1, .int .i64 (rtO x).2]) w.heap.size w) := by
  have c1 := fun u => roots_any u
  have c2 := fun u => wholeR_any x hs hw u
  rw [tell_rt] at c2
  generalize rtO x = V at *
  obtain ⟨xs, xh, xl, xn⟩ := x
  simp only [RtP.val] at c2 ⊢
  obtain ⟨s, n⟩ := V
  simp only at c2 ⊢
  have H0 := (Has.start w).add 26 (rtB xs xh xl xn)
  go_enter Tryz.func13, Tryz.ntmps13
  go_upto_region 1 with fail
  change Code.wp _ _ _ _ (w.alloc (.cells (rtB xs xh xl xn) 26))
  generalize w.alloc (.cells (rtB xs xh xl xn) 26) = V0 at *
  have fact : ∀ u, Below V0.heap.size V0 u → u.cell? ⟨w.heap.size, 0, none⟩ = some (.string xs) ∧ u.cell? ⟨w.heap.size, 1, none⟩ = some (.int .u64 xh) ∧ u.cell? ⟨w.heap.size, 2, none⟩ = some (.int .u64 xl) ∧ u.cell? ⟨w.heap.size, 3, none⟩ = some (.int .i64 xn) := fun u hu => ((H0.call hu).box 0).four.1
  go_region_held3 (fun u => Below V0.heap.size V0 u ∧ (u.cell? ⟨w.heap.size, 0, none⟩ = some (.string xs) ∧ u.cell? ⟨w.heap.size, 1, none⟩ = some (.int .u64 xh) ∧ u.cell? ⟨w.heap.size, 2, none⟩ = some (.int .u64 xl) ∧ u.cell? ⟨w.heap.size, 3, none⟩ = some (.int .i64 xn)))
    (first | exact on_start fact | exact on_call fact (by assumption) (by assumption) | with_reducible assumption | fail)
    (first
      | (go_at_call 52; refine (c1 _).mono ?_; rintro e w1 ⟨rfl, j1⟩)
      | (go_at_call 53; refine (c2 _).mono ?_; rintro e w2 ⟨rfl, j2⟩)
      | fail)
  all_goals go_wp2
  all_goals refine bodyPost_ret (results_tmp2 rfl _ _ _) rfl ?_
  all_goals exact ⟨rfl, (H0.call (on_low (by assumption))).below⟩
set_option maxHeartbeats 2000000 in
theorem leaf_any (x : Lf) (h1 : x.id.size ≤ 4611686018427387903) (h2 : x.salt.size ≤ 4611686018427387903) (hw : x.words) (w : World) (hT : TabU w) : Calls Tryz.prog 15 #[x.val] w (Tells (.tuple #[.string (lfO x).1, .int .i64 (lfO x).2]) w.heap.size w) := by
  have c1 := fun u => leaves_any u
  have c2 := fun u hu => wholeL_any x h1 h2 hw u hu
  rw [tell_lf] at c2
  generalize lfO x = V at *
  obtain ⟨xp, xi, xs, xh, xl⟩ := x
  simp only [Lf.val] at c2 ⊢
  obtain ⟨s, n⟩ := V
  simp only at c2 ⊢
  have H0 := (Has.start w).add 28 (lfB xp xi xs xh xl)
  go_enter Tryz.func15, Tryz.ntmps15
  go_upto_region 1 with fail
  change Code.wp _ _ _ _ (w.alloc (.cells (lfB xp xi xs xh xl) 28))
  generalize w.alloc (.cells (lfB xp xi xs xh xl) 28) = V0 at *
  have fact : ∀ u, Below V0.heap.size V0 u → u.cell? ⟨w.heap.size, 0, none⟩ = some (.bool xp) ∧ u.cell? ⟨w.heap.size, 1, none⟩ = some (.string xi) ∧ u.cell? ⟨w.heap.size, 2, none⟩ = some (.string xs) ∧ u.cell? ⟨w.heap.size, 3, none⟩ = some (.int .u64 xh) ∧ u.cell? ⟨w.heap.size, 4, none⟩ = some (.int .u64 xl) := fun u hu => ((H0.call hu).box 0).five0.1
  go_region_held3 (fun u => Below V0.heap.size V0 u ∧ (u.cell? ⟨w.heap.size, 0, none⟩ = some (.bool xp) ∧ u.cell? ⟨w.heap.size, 1, none⟩ = some (.string xi) ∧ u.cell? ⟨w.heap.size, 2, none⟩ = some (.string xs) ∧ u.cell? ⟨w.heap.size, 3, none⟩ = some (.int .u64 xh) ∧ u.cell? ⟨w.heap.size, 4, none⟩ = some (.int .u64 xl)))
    (first | exact on_start fact | exact on_call fact (by assumption) (by assumption) | with_reducible assumption | fail)
    (first
      | (go_at_call 55; refine (c1 _).mono ?_; rintro e w1 ⟨rfl, j1⟩)
      | (go_at_call 56; refine (c2 _ (hT.call (H0.call (on_low (by assumption))).below)).mono ?_; rintro e w2 ⟨rfl, j2⟩)
      | fail)
  all_goals go_wp2
  all_goals refine bodyPost_ret (results_tmp2 rfl _ _ _) rfl ?_
  all_goals exact ⟨rfl, (H0.call (on_low (by assumption))).below⟩
set_option maxHeartbeats 2000000 in
theorem readroot_any (s : ByteArray) (hs : s.size ≤ 4611686018427387903) (w : World) : Calls Tryz.prog 35 #[.string s] w (Tells (.tuple #[(readO rtG rtO RtP.zero s).1.val, .int .i64 (readO rtG rtO RtP.zero s).2]) w.heap.size w) := by
  have c1 := fun u => roots_any u
  have c2 := fun u => readR_any s hs u
  rw [← read_rt] at c2
  generalize readO rtG rtO RtP.zero s = V at *
  obtain ⟨⟨xs, xh, xl, xn⟩, n⟩ := V
  simp only [RtP.val] at c2 ⊢
  have H0 := (Has.start w).add 26 (rtB ⟨#[]⟩ 0 0 0)
  go_enter Tryz.func35, Tryz.ntmps35
  go_upto_region 1 with fail
  change Code.wp _ _ _ _ (w.alloc (.cells (rtB ⟨#[]⟩ 0 0 0) 26))
  generalize w.alloc (.cells (rtB ⟨#[]⟩ 0 0 0) 26) = V0 at *
  go_wp2_with (first
    | (go_at_call 52; refine (c1 _).mono ?_; rintro e w1 ⟨rfl, j1⟩; have H1 := H0.call j1)
    | (go_at_call 75; refine (c2 _).mono ?_; rintro e w2 ⟨rfl, j2⟩; have H2 := H1.call j2; obtain ⟨⟨y0, y1, y2, y3⟩, ⟨e0, e1, e2, e3⟩, hin2⟩ := (H2.box 0).four)
    | fail)
  have H3 := H2.filled4 (Nat.le_refl _) (fun x hx => by simp at hx) (.string xs) (.int .u64 xh) (.int .u64 xl) (.int .i64 xn)
  generalize World.setCell (World.setCell (World.setCell (World.setCell w2 _ _) _ _) _ _) _ _ = Z at *
  obtain ⟨⟨v0, v1, v2, v3⟩, -, -⟩ := (H3.box 0).four
  exact bodyPost_ret (v := .tuple #[.agg (rtB xs xh xl xn), .int .i64 n]) (by simp [results, Tryz.results35, go_sem, v0, v1, v2, v3]) rfl ⟨rfl, H3.below⟩
set_option maxHeartbeats 2000000 in
theorem readleaf_any (s : ByteArray) (hs : s.size ≤ 4611686018427387903) (w : World) (hT : TabU w) : Calls Tryz.prog 37 #[.string s] w (Tells (.tuple #[(readO lfG lfO Lf.zero s).1.val, .int .i64 (readO lfG lfO Lf.zero s).2]) w.heap.size w) := by
  have c1 := fun u => leaves_any u
  have c2 := fun u hu => readL_any s hs u hu
  rw [← read_lf] at c2
  generalize readO lfG lfO Lf.zero s = V at *
  obtain ⟨⟨xp, xi, xs, xh, xl⟩, n⟩ := V
  simp only [Lf.val] at c2 ⊢
  have H0 := (Has.start w).add 28 (lfB false ⟨#[]⟩ ⟨#[]⟩ 0 0)
  go_enter Tryz.func37, Tryz.ntmps37
  go_upto_region 1 with fail
  change Code.wp _ _ _ _ (w.alloc (.cells (lfB false ⟨#[]⟩ ⟨#[]⟩ 0 0) 28))
  generalize w.alloc (.cells (lfB false ⟨#[]⟩ ⟨#[]⟩ 0 0) 28) = V0 at *
  go_wp2_with (first
    | (go_at_call 55; refine (c1 _).mono ?_; rintro e w1 ⟨rfl, j1⟩; have H1 := H0.call j1)
    | (go_at_call 78; refine (c2 _ (hT.call H1.below)).mono ?_; rintro e w2 ⟨rfl, j2⟩; have H2 := H1.call j2; obtain ⟨⟨y0, y1, y2, y3, y4⟩, ⟨e0, e1, e2, e3, e4⟩, hin2⟩ := (H2.box 0).five0)
    | fail)
  have H3 := ((((H2.wrote (Nat.le_refl _) (fun x hx => by simp at hx) 0 (.bool xp)).wrote (Nat.le_refl _) (fun x hx => by simp at hx) 1 (.string xi)).wrote (Nat.le_refl _) (fun x hx => by simp at hx) 2 (.string xs)).wrote (Nat.le_refl _) (fun x hx => by simp at hx) 3 (.int .u64 xh)).wrote (Nat.le_refl _) (fun x hx => by simp at hx) 4 (.int .u64 xl)
  change Has w [(w.heap.size, 28, lfB xp xi xs xh xl)] _ at H3
  generalize World.setCell (World.setCell (World.setCell (World.setCell (World.setCell w2 _ _) _ _) _ _) _ _) _ _ = Z at *
  obtain ⟨⟨v0, v1, v2, v3, v4⟩, -, -⟩ := (H3.box 0).five0
  exact bodyPost_ret (v := .tuple #[.agg (lfB xp xi xs xh xl), .int .i64 n]) (by simp [results, Tryz.results37, go_sem, v0, v1, v2, v3, v4]) rfl ⟨rfl, H3.below⟩
end Go.Proofs.YtmflhodiibjpnaaGreatDoor
/-
  paymasterlaw13.awake, walked: the chapter's examples.
-/
namespace Go.Proofs.YtmflhodiibjpnaaGreatDoor
set_option linter.unusedVariables false
set_option linter.unusedSimpArgs false
set_option maxRecDepth 10000
open Go.RowKit

theorem a13_root : rtO ⟨⟨#[97, 98]⟩, 0, 5, 1⟩ = (⟨#[82, 1, 2, 97, 98, 1, 5, 1, 1]⟩, 0) := by
  have e : rtY ⟨⟨#[97, 98]⟩, 0, 5, 1⟩ = [1, 2, 97, 98, 1, 5, 1, 1] := by decide +kernel
  have hl : RtP.long ⟨⟨#[97, 98]⟩, 0, 5, 1⟩ = false := by decide +kernel
  unfold rtO
  rw [hl, e]
  exact whole_fit (l := [82, 1, 2, 97, 98, 1, 5, 1, 1]) (by decide)
theorem a13_leaf : lfO ⟨true, ⟨#[]⟩, ⟨#[]⟩, 0, 0⟩ = (⟨#[76, 1, 0, 0, 0]⟩, 0) := by
  have e : lfY ⟨true, ⟨#[]⟩, ⟨#[]⟩, 0, 0⟩ = [1, 0, 0, 0] := by decide +kernel
  have hl : Lf.may ⟨true, ⟨#[]⟩, ⟨#[]⟩, 0, 0⟩ = true := by decide +kernel
  unfold lfO
  rw [hl, e]
  exact whole_fit (l := [76, 1, 0, 0, 0]) (by decide)
theorem a13_none : lfO ⟨false, ⟨#[]⟩, ⟨#[]⟩, 0, 0⟩ = (⟨#[]⟩, 130) := by
  have hl : Lf.may ⟨false, ⟨#[]⟩, ⟨#[]⟩, 0, 0⟩ = false := by decide +kernel
  unfold lfO
  rw [hl]
  rfl
theorem a13_read : readO lfG lfO Lf.zero ⟨#[76, 1, 0, 0, 0]⟩ = (⟨true, ⟨#[]⟩, ⟨#[]⟩, 0, 0⟩, 0) :=
  read_told lfC lf_tells (show Lf.words ⟨true, ⟨#[]⟩, ⟨#[]⟩, 0, 0⟩ from ⟨word0, word0⟩) a13_leaf
theorem a13_other : readO rtG rtO RtP.zero ⟨#[76, 1, 0, 0, 0]⟩ = (RtP.zero, 80) := by
  rw [read_rt]
  unfold readT
  have h : (takeG rtP wrR RtP.zero none).2 = none := by rw [take_rt]; exact rtC.none_
  have hb : ¬ bV (opB (some (⟨#[76, 1, 0, 0, 0]⟩ : ByteArray).data.toList)) = ((82 : UInt8).toNat : Int) := by decide
  rw [if_neg hb, h]
  rfl
set_option maxRecDepth 100000 in
set_option maxHeartbeats 8000000 in
theorem awake13_any (w : World) (hT : TabU w) : Calls Tryz.prog 45 #[] w (Tells (.bool true) w.heap.size w) := by
  have c0 := fun u => of_any 5 u
  have c1 : ∀ u, Calls Tryz.prog 13 #[.agg (rtB ⟨#[97, 98]⟩ 0 5 1)] u (Tells (.tuple #[.string ⟨#[82, 1, 2, 97, 98, 1, 5, 1, 1]⟩, .int .i64 0]) u.heap.size u) := fun u => by
    have h := root_any ⟨⟨#[97, 98]⟩, 0, 5, 1⟩ (by decide) ⟨word0, by decide, by decide⟩ u
    rw [a13_root] at h
    exact h
  have c2 : ∀ u, TabU u → Calls Tryz.prog 15 #[.agg (lfB true ⟨#[]⟩ ⟨#[]⟩ 0 0)] u (Tells (.tuple #[.string ⟨#[76, 1, 0, 0, 0]⟩, .int .i64 0]) u.heap.size u) := fun u hu => by
    have h := leaf_any ⟨true, ⟨#[]⟩, ⟨#[]⟩, 0, 0⟩ (by decide) (by decide) ⟨word0, word0⟩ u hu
    rw [a13_leaf] at h
    exact h
  have c3 : ∀ u, TabU u → Calls Tryz.prog 15 #[.agg (lfB false ⟨#[]⟩ ⟨#[]⟩ 0 0)] u (Tells (.tuple #[.string ⟨#[]⟩, .int .i64 130]) u.heap.size u) := fun u hu => by
    have h := leaf_any ⟨false, ⟨#[]⟩, ⟨#[]⟩, 0, 0⟩ (by decide) (by decide) ⟨word0, word0⟩ u hu
    rw [a13_none] at h
    exact h
  have c4 : ∀ u, TabU u → Calls Tryz.prog 37 #[.string ⟨#[76, 1, 0, 0, 0]⟩] u (Tells (.tuple #[.agg (lfB true ⟨#[]⟩ ⟨#[]⟩ 0 0), .int .i64 0]) u.heap.size u) := fun u hu => by
    have h := readleaf_any ⟨#[76, 1, 0, 0, 0]⟩ (by decide) u hu
    rw [a13_read] at h
    exact h
  have c5 : ∀ u, Calls Tryz.prog 35 #[.string ⟨#[76, 1, 0, 0, 0]⟩] u (Tells (.tuple #[.agg (rtB ⟨#[]⟩ 0 0 0), .int .i64 80]) u.heap.size u) := fun u => by
    have h := readroot_any ⟨#[76, 1, 0, 0, 0]⟩ (by decide) u
    rw [a13_other] at h
    exact h
  have hq := fun u : World => run_eql_lf ⟨true, ⟨#[]⟩, ⟨#[]⟩, 0, 0⟩ ⟨true, ⟨#[]⟩, ⟨#[]⟩, 0, 0⟩ u
  rw [show Lf.same ⟨true, ⟨#[]⟩, ⟨#[]⟩, 0, 0⟩ ⟨true, ⟨#[]⟩, ⟨#[]⟩, 0, 0⟩ = true by decide +kernel] at hq
  simp only [Lf.val] at hq
  go_enter Tryz.func45, Tryz.ntmps45
  go_upto_region 6 with (first
    | (go_at_call 84; refine (c0 _).mono ?_; rintro e w1 ⟨rfl, j1⟩)
    | (go_at_call 13; refine (c1 _).mono ?_; rintro e w2 ⟨rfl, j2⟩; have k2 := chain j1 j2)
    | (go_at_call 15; (with_reducible refine (c2 _ (hT.call k2)).mono ?_); rintro e w3 ⟨rfl, j3⟩; have k3 := chain k2 j3)
    | (go_at_call 37; refine (c4 _ (hT.call k3)).mono ?_; rintro e w4 ⟨rfl, j4⟩; have k4 := chain k3 j4; have H4 := ((Has.start w4).add 28 (lfB true ⟨#[]⟩ ⟨#[]⟩ 0 0)))
    | (go_at_call 35; refine (c5 _).mono ?_; rintro e w5 ⟨rfl, j5⟩; have H5 := (H4.call j5).past (.cells (rtB ⟨#[]⟩ 0 0 0) 26))
    | (go_at_call 15; (with_reducible refine (c3 _ (hT.call (chain k4 H5.below))).mono ?_); rintro e w6 ⟨rfl, j6⟩; have H6 := H5.call j6; obtain ⟨⟨q0, q1, q2, q3, q4⟩, -, hin⟩ := (H6.box 0).five0)
    | fail)
  go_wp2
  go_ret
  exact ⟨rfl, chain k4 H6.below⟩
end Go.Proofs.YtmflhodiibjpnaaGreatDoor
/-
  pack, walked: Entry, Range, Diff.
-/
namespace Go.Proofs.YtmflhodiibjpnaaGreatDoor
set_option linter.unusedVariables false
set_option linter.unusedSimpArgs false
set_option maxRecDepth 10000
open Go.RowKit

set_option maxRecDepth 20000 in
set_option maxHeartbeats 4000000 in
theorem entry_any (x : EnP) (hx : LfOk x.leaf) (hp : Word x.pos) (A : Option Addr) (c : Nat) (hl : AllNd x.sides) (w : World) (hT : TabU w) (hR : ndS.Row w w.heap.size A x.sides) : Calls Tryz.prog 17 #[.agg (enB x.leaf.pad x.leaf.id x.leaf.salt x.leaf.h x.leaf.l x.pos A x.sides.length c)] w (Tells (.tuple #[.string (enO x).1, .int .i64 (enO x).2]) w.heap.size w) := by
  have c1 := fun u => entries_any u
  have c2 := fun a p s k u h1 h2 h3 h4 => wholeE_any x hx hp A c a p s k hl u h1 h2 h3 h4
  rw [tell_en] at c2
  generalize enO x = V at *
  obtain ⟨⟨xp, xi, xs, xh, xl⟩, q, L⟩ := x
  simp only at hx hp hl hR
  obtain ⟨ts, tn⟩ := V
  simp only at c2 ⊢
  show Calls _ _ #[.agg (enB xp xi xs xh xl q A L.length c)] _ _
  have H0 := (Has.start w).add 33 (enB xp xi xs xh xl q A L.length c)
  go_enter Tryz.func17, Tryz.ntmps17
  go_upto_region 1 with fail
  change Code.wp _ _ _ _ (w.alloc (.cells (enB xp xi xs xh xl q A L.length c) 33))
  generalize w.alloc (.cells (enB xp xi xs xh xl q A L.length c) 33) = V0 at *
  have fact : ∀ u, Below V0.heap.size V0 u → (u.cell? ⟨w.heap.size, 0, none⟩ = some (.bool xp) ∧ u.cell? ⟨w.heap.size, 1, none⟩ = some (.string xi) ∧ u.cell? ⟨w.heap.size, 2, none⟩ = some (.string xs) ∧ u.cell? ⟨w.heap.size, 3, none⟩ = some (.int .u64 xh) ∧ u.cell? ⟨w.heap.size, 4, none⟩ = some (.int .u64 xl) ∧ u.cell? ⟨w.heap.size, 5, none⟩ = some (.int .u64 q) ∧ u.cell? ⟨w.heap.size, 6, none⟩ = some (.slice A L.length c)) := fun u hu => by
    have hb := (H0.call hu).box 0
    exact ⟨hb.read 0, hb.read 1, hb.read 2, hb.read 3, hb.read 4, hb.read 5, hb.read 6⟩
  go_region_held3 (fun u => Below V0.heap.size V0 u ∧ (u.cell? ⟨w.heap.size, 0, none⟩ = some (.bool xp) ∧ u.cell? ⟨w.heap.size, 1, none⟩ = some (.string xi) ∧ u.cell? ⟨w.heap.size, 2, none⟩ = some (.string xs) ∧ u.cell? ⟨w.heap.size, 3, none⟩ = some (.int .u64 xh) ∧ u.cell? ⟨w.heap.size, 4, none⟩ = some (.int .u64 xl) ∧ u.cell? ⟨w.heap.size, 5, none⟩ = some (.int .u64 q) ∧ u.cell? ⟨w.heap.size, 6, none⟩ = some (.slice A L.length c)))
    (first | exact on_start fact | exact on_call fact (by assumption) (by assumption) | with_reducible assumption | fail)
    (first
      | (go_at_call 59; refine (c1 _).mono ?_; rintro e w1 ⟨a, p, s, k, rfl, A1, K1, -, -, j1⟩)
      | (go_at_call 60; refine (c2 _ _ _ _ _ (hT.call (H0.call (on_low (by assumption))).below) (hR.on (H0.call (on_low (by assumption))).below) A1 K1).mono ?_; rintro e w2 ⟨rfl, j2⟩)
      | fail)
  all_goals go_wp2
  all_goals refine bodyPost_ret (results_tmp2 rfl _ _ _) rfl ?_
  all_goals exact ⟨rfl, (H0.call (on_low (by assumption))).below⟩
set_option maxRecDepth 20000 in
set_option maxHeartbeats 4000000 in
theorem range_any (x : RgP) (hp : Word x.a ∧ Word x.b) (A B : Option Addr) (c d : Nat) (hl : AllNd x.ins) (hm : AllNd x.outs) (w : World) (hR : ndS.Row w w.heap.size A x.ins) (hS : ndS.Row w w.heap.size B x.outs) : Calls Tryz.prog 19 #[.agg (rgB x.a x.b A x.ins.length c B x.outs.length d)] w (Tells (.tuple #[.string (rgO x).1, .int .i64 (rgO x).2]) w.heap.size w) := by
  have c1 := fun u => ranges_any u
  have c2 := fun s k u h1 h2 h3 => wholeG_any x hp A B c d s k hl hm u h1 h2 h3
  rw [tell_rg] at c2
  generalize rgO x = V at *
  obtain ⟨xa, xb, L, M⟩ := x
  simp only at hp hl hm hR hS
  obtain ⟨ts, tn⟩ := V
  simp only at c2 ⊢
  show Calls _ _ #[.agg (rgB xa xb A L.length c B M.length d)] _ _
  have H0 := (Has.start w).add 35 (rgB xa xb A L.length c B M.length d)
  go_enter Tryz.func19, Tryz.ntmps19
  go_upto_region 1 with fail
  change Code.wp _ _ _ _ (w.alloc (.cells (rgB xa xb A L.length c B M.length d) 35))
  generalize w.alloc (.cells (rgB xa xb A L.length c B M.length d) 35) = V0 at *
  have fact : ∀ u, Below V0.heap.size V0 u → (u.cell? ⟨w.heap.size, 0, none⟩ = some (.int .u64 xa) ∧ u.cell? ⟨w.heap.size, 1, none⟩ = some (.int .u64 xb) ∧ u.cell? ⟨w.heap.size, 2, none⟩ = some (.slice A L.length c) ∧ u.cell? ⟨w.heap.size, 3, none⟩ = some (.slice B M.length d)) := fun u hu => by
    have hb := (H0.call hu).box 0
    exact ⟨hb.read 0, hb.read 1, hb.read 2, hb.read 3⟩
  go_region_held3 (fun u => Below V0.heap.size V0 u ∧ (u.cell? ⟨w.heap.size, 0, none⟩ = some (.int .u64 xa) ∧ u.cell? ⟨w.heap.size, 1, none⟩ = some (.int .u64 xb) ∧ u.cell? ⟨w.heap.size, 2, none⟩ = some (.slice A L.length c) ∧ u.cell? ⟨w.heap.size, 3, none⟩ = some (.slice B M.length d)))
    (first | exact on_start fact | exact on_call fact (by assumption) (by assumption) | with_reducible assumption | fail)
    (first
      | (go_at_call 64; refine (c1 _).mono ?_; rintro e w1 ⟨s, k, rfl, -, K1, j1⟩)
      | (go_at_call 65; refine (c2 _ _ _ (hR.on (H0.call (on_low (by assumption))).below) (hS.on (H0.call (on_low (by assumption))).below) K1).mono ?_; rintro e w2 ⟨rfl, j2⟩)
      | fail)
  all_goals go_wp2
  all_goals refine bodyPost_ret (results_tmp2 rfl _ _ _) rfl ?_
  all_goals exact ⟨rfl, (H0.call (on_low (by assumption))).below⟩
set_option maxRecDepth 20000 in
set_option maxHeartbeats 4000000 in
theorem diff_any (x : DfP) (A B : Option Addr) (c d : Nat) (hl : AllCh x.chs) (hm : AllNd x.fr) (w : World) (hT : TabU w) (hR : chS.Row w w.heap.size A x.chs) (hS : ndS.Row w w.heap.size B x.fr) : Calls Tryz.prog 21 #[.agg (dfB A x.chs.length c B x.fr.length d)] w (Tells (.tuple #[.string (dfO x).1, .int .i64 (dfO x).2]) w.heap.size w) := by
  have c1 := fun u => diffs_any u
  have c2 := fun q m i a k u h1 h2 h3 h4 h5 => wholeD_any x A B c d q m i a k hl hm u h1 h2 h3 h4 h5
  rw [tell_df] at c2
  generalize dfO x = V at *
  obtain ⟨L, M⟩ := x
  simp only at hl hm hR hS
  obtain ⟨ts, tn⟩ := V
  simp only at c2 ⊢
  show Calls _ _ #[.agg (dfB A L.length c B M.length d)] _ _
  have H0 := (Has.start w).add 38 (dfB A L.length c B M.length d)
  go_enter Tryz.func21, Tryz.ntmps21
  go_upto_region 1 with fail
  change Code.wp _ _ _ _ (w.alloc (.cells (dfB A L.length c B M.length d) 38))
  generalize w.alloc (.cells (dfB A L.length c B M.length d) 38) = V0 at *
  have fact : ∀ u, Below V0.heap.size V0 u → (u.cell? ⟨w.heap.size, 0, none⟩ = some (.slice A L.length c) ∧ u.cell? ⟨w.heap.size, 1, none⟩ = some (.slice B M.length d)) := fun u hu => by
    have hb := (H0.call hu).box 0
    exact ⟨hb.read 0, hb.read 1⟩
  go_region_held3 (fun u => Below V0.heap.size V0 u ∧ (u.cell? ⟨w.heap.size, 0, none⟩ = some (.slice A L.length c) ∧ u.cell? ⟨w.heap.size, 1, none⟩ = some (.slice B M.length d)))
    (first | exact on_start fact | exact on_call fact (by assumption) (by assumption) | with_reducible assumption | fail)
    (first
      | (go_at_call 66; refine (c1 _).mono ?_; rintro e w1 ⟨q, m, i, a, k, rfl, C1, K1, -, -, j1⟩)
      | (go_at_call 67; refine (c2 _ _ _ _ _ _ (hT.call (H0.call (on_low (by assumption))).below) (hR.on (H0.call (on_low (by assumption))).below) (hS.on (H0.call (on_low (by assumption))).below) C1 K1).mono ?_; rintro e w2 ⟨rfl, j2⟩)
      | fail)
  all_goals go_wp2
  all_goals refine bodyPost_ret (results_tmp2 rfl _ _ _) rfl ?_
  all_goals exact ⟨rfl, (H0.call (on_low (by assumption))).below⟩
end Go.Proofs.YtmflhodiibjpnaaGreatDoor
/-
  pack, walked: ReadEntry, ReadRange, ReadDiff.
-/
namespace Go.Proofs.YtmflhodiibjpnaaGreatDoor
set_option linter.unusedVariables false
set_option linter.unusedSimpArgs false
set_option maxRecDepth 10000
open Go.RowKit

set_option maxRecDepth 20000 in
set_option maxHeartbeats 4000000 in
theorem readentry_any (s : ByteArray) (hs : s.size ≤ 4611686018427387903) (w : World) (hT : TabU w) : Calls Tryz.prog 39 #[.string s] w (EnTells (readO enG enO EnP.zero s).1 (readO enG enO EnP.zero s).2 w) := by
  have c1 := fun u => entries_any u
  have c2 := fun a p i k u h1 h2 h3 => readE_any s hs u h1 a p i k h2 h3
  rw [← read_en] at c2
  generalize readO enG enO EnP.zero s = V at *
  obtain ⟨⟨⟨xp, xi, xs, xh, xl⟩, q, L⟩, n⟩ := V
  unfold EnTells at c2
  simp only at c2 ⊢
  have H0 := (Has.start w).add 33 (enB false ⟨#[]⟩ ⟨#[]⟩ 0 0 0 none 0 0)
  go_enter Tryz.func39, Tryz.ntmps39
  go_upto_region 1 with fail
  change Code.wp _ _ _ _ (w.alloc (.cells (enB false ⟨#[]⟩ ⟨#[]⟩ 0 0 0 none 0 0) 33))
  generalize w.alloc (.cells (enB false ⟨#[]⟩ ⟨#[]⟩ 0 0 0 none 0 0) 33) = V0 at *
  go_wp2_with (first
    | (go_at_call 59; refine (c1 _).mono ?_; rintro e w1 ⟨a, p, i, k, rfl, A1, K1, -, -, j1⟩; have H1 := H0.call j1)
    | (go_at_call 80; refine (c2 _ _ _ _ _ (hT.call H1.below) A1 K1).mono ?_; rintro e w2 ⟨A, c, rfl, hc, R2, j2⟩
       have H2 := H1.call j2
       have hb2 := H2.box 0
       have hin2 := hb2.inside
       have y0 := hb2.read 0
       have e0 := hb2.free 0
       have y1 := hb2.read 1
       have e1 := hb2.free 1
       have y2 := hb2.read 2
       have e2 := hb2.free 2
       have y3 := hb2.read 3
       have e3 := hb2.free 3
       have y4 := hb2.read 4
       have e4 := hb2.free 4
       have y5 := hb2.read 5
       have e5 := hb2.free 5
       have y6 := hb2.read 6
       have e6 := hb2.free 6
      )
    | fail)
  have hr1 : w.heap.size < w1.heap.size := (H1.box 0).inside
  have H3 := (((((((H2.wrote (Nat.le_refl _) (fun x hx => by simp at hx) 0 (.bool xp)).wrote (Nat.le_refl _) (fun x hx => by simp at hx) 1 (.string xi)).wrote (Nat.le_refl _) (fun x hx => by simp at hx) 2 (.string xs)).wrote (Nat.le_refl _) (fun x hx => by simp at hx) 3 (.int .u64 xh)).wrote (Nat.le_refl _) (fun x hx => by simp at hx) 4 (.int .u64 xl)).wrote (Nat.le_refl _) (fun x hx => by simp at hx) 5 (.int .u64 q)).wrote (Nat.le_refl _) (fun x hx => by simp at hx) 6 (.slice A L.length c))
  simp only [enB, rgB, dfB, List.setIfInBounds_toArray, List.set_cons_zero, List.set_cons_succ] at H3
  have R3 := (R2.off ((((((((Off.refl (One w.heap.size) w2).set_ (p := ⟨w.heap.size, 0, none⟩) (Or.inl rfl) (.bool xp)).set_ (p := ⟨w.heap.size, 1, none⟩) (Or.inl rfl) (.string xi)).set_ (p := ⟨w.heap.size, 2, none⟩) (Or.inl rfl) (.string xs)).set_ (p := ⟨w.heap.size, 3, none⟩) (Or.inl rfl) (.int .u64 xh)).set_ (p := ⟨w.heap.size, 4, none⟩) (Or.inl rfl) (.int .u64 xl)).set_ (p := ⟨w.heap.size, 5, none⟩) (Or.inl rfl) (.int .u64 q)).set_ (p := ⟨w.heap.size, 6, none⟩) (Or.inl rfl) (.slice A L.length c)) hr1).less (Nat.le_of_lt hr1)
  generalize World.setCell (World.setCell (World.setCell (World.setCell (World.setCell (World.setCell (World.setCell w2 _ _) _ _) _ _) _ _) _ _) _ _) _ _ = Z at *
  have hb3 := H3.box 0
  have z0 : Z.cell? ⟨w.heap.size, 0, none⟩ = some (.bool xp) := hb3.read 0
  have z1 : Z.cell? ⟨w.heap.size, 1, none⟩ = some (.string xi) := hb3.read 1
  have z2 : Z.cell? ⟨w.heap.size, 2, none⟩ = some (.string xs) := hb3.read 2
  have z3 : Z.cell? ⟨w.heap.size, 3, none⟩ = some (.int .u64 xh) := hb3.read 3
  have z4 : Z.cell? ⟨w.heap.size, 4, none⟩ = some (.int .u64 xl) := hb3.read 4
  have z5 : Z.cell? ⟨w.heap.size, 5, none⟩ = some (.int .u64 q) := hb3.read 5
  have z6 : Z.cell? ⟨w.heap.size, 6, none⟩ = some (.slice A L.length c) := hb3.read 6
  exact bodyPost_ret (v := .tuple #[.agg (enB xp xi xs xh xl q A L.length c), .int .i64 n]) (by simp [results, Tryz.results39, go_sem, z0, z1, z2, z3, z4, z5, z6]) rfl ⟨A, c, rfl, hc, R3, H3.below⟩
set_option maxRecDepth 20000 in
set_option maxHeartbeats 4000000 in
theorem readrange_any (s : ByteArray) (hs : s.size ≤ 4611686018427387903) (w : World)  : Calls Tryz.prog 41 #[.string s] w (RgTells (readO rgG rgO RgP.zero s).1 (readO rgG rgO RgP.zero s).2 w) := by
  have c1 := fun u => ranges_any u
  have c2 := fun i k u h2 => readG_any s hs u i k h2
  rw [← read_rg] at c2
  generalize readO rgG rgO RgP.zero s = V at *
  obtain ⟨⟨xa, xb, L, M⟩, n⟩ := V
  unfold RgTells at c2
  simp only at c2 ⊢
  have H0 := (Has.start w).add 35 (rgB 0 0 none 0 0 none 0 0)
  go_enter Tryz.func41, Tryz.ntmps41
  go_upto_region 1 with fail
  change Code.wp _ _ _ _ (w.alloc (.cells (rgB 0 0 none 0 0 none 0 0) 35))
  generalize w.alloc (.cells (rgB 0 0 none 0 0 none 0 0) 35) = V0 at *
  go_wp2_with (first
    | (go_at_call 64; refine (c1 _).mono ?_; rintro e w1 ⟨i, k, rfl, -, K1, j1⟩; have H1 := H0.call j1)
    | (go_at_call 82; refine (c2 _ _ _ K1).mono ?_; rintro e w2 ⟨A, c, B, d, rfl, hc, hc2, R2, S2, j2⟩
       have H2 := H1.call j2
       have hb2 := H2.box 0
       have hin2 := hb2.inside
       have y0 := hb2.read 0
       have e0 := hb2.free 0
       have y1 := hb2.read 1
       have e1 := hb2.free 1
       have y2 := hb2.read 2
       have e2 := hb2.free 2
       have y3 := hb2.read 3
       have e3 := hb2.free 3
      )
    | fail)
  have hr1 : w.heap.size < w1.heap.size := (H1.box 0).inside
  have H3 := ((((H2.wrote (Nat.le_refl _) (fun x hx => by simp at hx) 0 (.int .u64 xa)).wrote (Nat.le_refl _) (fun x hx => by simp at hx) 1 (.int .u64 xb)).wrote (Nat.le_refl _) (fun x hx => by simp at hx) 2 (.slice A L.length c)).wrote (Nat.le_refl _) (fun x hx => by simp at hx) 3 (.slice B M.length d))
  simp only [enB, rgB, dfB, List.setIfInBounds_toArray, List.set_cons_zero, List.set_cons_succ] at H3
  have R3 := (R2.off (((((Off.refl (One w.heap.size) w2).set_ (p := ⟨w.heap.size, 0, none⟩) (Or.inl rfl) (.int .u64 xa)).set_ (p := ⟨w.heap.size, 1, none⟩) (Or.inl rfl) (.int .u64 xb)).set_ (p := ⟨w.heap.size, 2, none⟩) (Or.inl rfl) (.slice A L.length c)).set_ (p := ⟨w.heap.size, 3, none⟩) (Or.inl rfl) (.slice B M.length d)) hr1).less (Nat.le_of_lt hr1)
  have S3 := (S2.off (((((Off.refl (One w.heap.size) w2).set_ (p := ⟨w.heap.size, 0, none⟩) (Or.inl rfl) (.int .u64 xa)).set_ (p := ⟨w.heap.size, 1, none⟩) (Or.inl rfl) (.int .u64 xb)).set_ (p := ⟨w.heap.size, 2, none⟩) (Or.inl rfl) (.slice A L.length c)).set_ (p := ⟨w.heap.size, 3, none⟩) (Or.inl rfl) (.slice B M.length d)) hr1).less (Nat.le_of_lt hr1)
  generalize World.setCell (World.setCell (World.setCell (World.setCell w2 _ _) _ _) _ _) _ _ = Z at *
  have hb3 := H3.box 0
  have z0 : Z.cell? ⟨w.heap.size, 0, none⟩ = some (.int .u64 xa) := hb3.read 0
  have z1 : Z.cell? ⟨w.heap.size, 1, none⟩ = some (.int .u64 xb) := hb3.read 1
  have z2 : Z.cell? ⟨w.heap.size, 2, none⟩ = some (.slice A L.length c) := hb3.read 2
  have z3 : Z.cell? ⟨w.heap.size, 3, none⟩ = some (.slice B M.length d) := hb3.read 3
  exact bodyPost_ret (v := .tuple #[.agg (rgB xa xb A L.length c B M.length d), .int .i64 n]) (by simp [results, Tryz.results41, go_sem, z0, z1, z2, z3]) rfl ⟨A, c, B, d, rfl, hc, hc2, R3, S3, H3.below⟩
set_option maxRecDepth 20000 in
set_option maxHeartbeats 4000000 in
theorem readdiff_any (s : ByteArray) (hs : s.size ≤ 4611686018427387903) (w : World) (hT : TabU w) : Calls Tryz.prog 43 #[.string s] w (DfTells (readO dfG dfO DfP.zero s).1 (readO dfG dfO DfP.zero s).2 w) := by
  have c1 := fun u => diffs_any u
  have c2 := fun q m i a k u h1 h2 h3 => readD_any s hs u h1 q m i a k h2 h3
  rw [← read_df] at c2
  generalize readO dfG dfO DfP.zero s = V at *
  obtain ⟨⟨L, M⟩, n⟩ := V
  unfold DfTells at c2
  simp only at c2 ⊢
  have H0 := (Has.start w).add 38 (dfB none 0 0 none 0 0)
  go_enter Tryz.func43, Tryz.ntmps43
  go_upto_region 1 with fail
  change Code.wp _ _ _ _ (w.alloc (.cells (dfB none 0 0 none 0 0) 38))
  generalize w.alloc (.cells (dfB none 0 0 none 0 0) 38) = V0 at *
  go_wp2_with (first
    | (go_at_call 66; refine (c1 _).mono ?_; rintro e w1 ⟨q, m, i, a, k, rfl, C1, K1, -, -, j1⟩; have H1 := H0.call j1)
    | (go_at_call 83; refine (c2 _ _ _ _ _ _ (hT.call H1.below) C1 K1).mono ?_; rintro e w2 ⟨A, c, B, d, rfl, hc, hc2, R2, S2, j2⟩
       have H2 := H1.call j2
       have hb2 := H2.box 0
       have hin2 := hb2.inside
       have y0 := hb2.read 0
       have e0 := hb2.free 0
       have y1 := hb2.read 1
       have e1 := hb2.free 1
      )
    | fail)
  have hr1 : w.heap.size < w1.heap.size := (H1.box 0).inside
  have H3 := ((H2.wrote (Nat.le_refl _) (fun x hx => by simp at hx) 0 (.slice A L.length c)).wrote (Nat.le_refl _) (fun x hx => by simp at hx) 1 (.slice B M.length d))
  simp only [enB, rgB, dfB, List.setIfInBounds_toArray, List.set_cons_zero, List.set_cons_succ] at H3
  have R3 := (R2.off (((Off.refl (One w.heap.size) w2).set_ (p := ⟨w.heap.size, 0, none⟩) (Or.inl rfl) (.slice A L.length c)).set_ (p := ⟨w.heap.size, 1, none⟩) (Or.inl rfl) (.slice B M.length d)) hr1).less (Nat.le_of_lt hr1)
  have S3 := (S2.off (((Off.refl (One w.heap.size) w2).set_ (p := ⟨w.heap.size, 0, none⟩) (Or.inl rfl) (.slice A L.length c)).set_ (p := ⟨w.heap.size, 1, none⟩) (Or.inl rfl) (.slice B M.length d)) hr1).less (Nat.le_of_lt hr1)
  generalize World.setCell (World.setCell w2 _ _) _ _ = Z at *
  have hb3 := H3.box 0
  have z0 : Z.cell? ⟨w.heap.size, 0, none⟩ = some (.slice A L.length c) := hb3.read 0
  have z1 : Z.cell? ⟨w.heap.size, 1, none⟩ = some (.slice B M.length d) := hb3.read 1
  exact bodyPost_ret (v := .tuple #[.agg (dfB A L.length c B M.length d), .int .i64 n]) (by simp [results, Tryz.results43, go_sem, z0, z1]) rfl ⟨A, c, B, d, rfl, hc, hc2, R3, S3, H3.below⟩
end Go.Proofs.YtmflhodiibjpnaaGreatDoor
