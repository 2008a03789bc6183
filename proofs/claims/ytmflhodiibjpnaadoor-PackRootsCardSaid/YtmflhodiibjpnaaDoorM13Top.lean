/- Several of my texts, laid as one. -/
import Derived.Test.YtmflhodiibjpnaaDoorM13Eq
import Derived.Test.YtmflhodiibjpnaaDoorM13Read
import Derived.Test.YtmflhodiibjpnaaDoorM1Num
/-
  pack, walked: PutRoot, GetRoot, Root, Leaf, ReadRoot, ReadLeaf.
-/
namespace Go.Proofs.YtmflhodiibjpnaaDoor
set_option linter.unusedVariables false
set_option linter.unusedSimpArgs false
set_option maxRecDepth 10000
open Go.RowKit

set_option maxHeartbeats 2000000 in
theorem putroot_any (g : Nat) (o : Option ByteArray) (x : RtP) (hs : x.hash.size ≤ 4611686018427387903) (hw : Word x.h ∧ Word x.l) (w : World) (h : OutS w g o) : Puts 5 #[.pointer (some ⟨g, 0, none⟩), x.val] w g o (rtY x) := by
  have c1 := fun u => roots_any u
  have c2 := fun u hu => putR_any g o x hs hw u hu
  obtain ⟨xs, xh, xl, xn⟩ := x
  simp only [RtP.val] at c2 ⊢
  generalize rtY ⟨xs, xh, xl, xn⟩ = Y at *
  have W0 := (Wp.start h).add 32 (rtB xs xh xl xn)
  go_enter Tryd.func5, Tryd.ntmps5
  go_upto_region 1 with fail
  change Code.wp _ _ _ _ (w.alloc (.cells (rtB xs xh xl xn) 32))
  have hbg : w.heap.size ≠ g := Nat.ne_of_gt h.inside
  generalize w.alloc (.cells (rtB xs xh xl xn) 32) = V0 at *
  have hb0 := W0.box 0
  have fact : ∀ u, Off (One g) V0 u → u.cell? ⟨w.heap.size, 0, none⟩ = some (.string xs) ∧ u.cell? ⟨w.heap.size, 1, none⟩ = some (.int .u64 xh) ∧ u.cell? ⟨w.heap.size, 2, none⟩ = some (.int .u64 xl) ∧ u.cell? ⟨w.heap.size, 3, none⟩ = some (.int .i64 xn) := fun u hu => by
    obtain ⟨⟨q0, q1, q2, q3⟩, -, -⟩ := (hu.box hb0 (fun e => hbg e)).four
    exact ⟨q0, q1, q2, q3⟩
  have G0 : Off (One g) V0 V0.drew := (Off.refl _ _).drew
  have F0 := fact _ G0
  have I0 : OutS V0.drew g o := W0.drew.outS
  have hfl : ∀ u : World, (Instr.field 53 (.agg rtF) 1).run Tryd.prog u = .ok (fn0 23) u := fun u => by kernel_rfl
  go_region_held3 (fun u => Off (One g) V0 u ∧ (u.cell? ⟨w.heap.size, 0, none⟩ = some (.string xs) ∧ u.cell? ⟨w.heap.size, 1, none⟩ = some (.int .u64 xh) ∧ u.cell? ⟨w.heap.size, 2, none⟩ = some (.int .u64 xl) ∧ u.cell? ⟨w.heap.size, 3, none⟩ = some (.int .i64 xn)))
    (first | (with_reducible exact ⟨G0, F0⟩) | exact off_call fact (by assumption) (by assumption) | exact off_same fact (by assumption) (by assumption) | with_reducible assumption | fail)
    (first
      | (go_at_call 16; refine (c1 _).mono ?_; rintro e w1 ⟨rfl, j1⟩)
      | (go_at_call 23; refine (c2 _ (I0.call j1)).mono ?_; rintro e w2 ⟨rfl, s2, k2⟩)
      | fail)
  all_goals go_wp2
  all_goals go_end0
  all_goals exact ⟨rfl, s2, (W0.drew.off.call j1).trans k2⟩
set_option maxHeartbeats 2000000 in
theorem getroot_any (w : World) (g : Nat) (st : StR) (h : InS w g st) : Calls Tryd.prog 9 #[.pointer (some ⟨g, 0, none⟩)] w fun e w' =>
    e = .returned (rtG st).1.val ∧ InS w' g (rtG st).2 ∧ Off (One g) w w' := by
  have c1 := fun u => roots_any u
  have c2 := fun u hu => takeR_any u g st hu
  rw [take_rt] at c2
  have D0 := (Rp.start h).add 32 (rtB ⟨#[]⟩ 0 0 0)
  generalize rtG st = V at *
  obtain ⟨⟨xs, xh, xl, xn⟩, s1⟩ := V
  simp only [RtP.val] at c2 ⊢
  go_enter Tryd.func9, Tryd.ntmps9
  go_upto_region 1 with fail
  change Code.wp _ _ _ _ (w.alloc (.cells (rtB ⟨#[]⟩ 0 0 0) 32))
  generalize w.alloc (.cells (rtB ⟨#[]⟩ 0 0 0) 32) = V0 at *
  go_wp2_with (first
    | (go_at_call 16; refine (c1 _).mono ?_; rintro e w1 ⟨rfl, j1⟩; have D1 := D0.call j1)
    | (go_at_call 18; refine (c2 _ D1.inS).mono ?_; rintro e w2 ⟨rfl, t2, k2⟩; have D2 := D1.read t2 k2; obtain ⟨⟨y0, y1, y2, y3⟩, ⟨e0, e1, e2, e3⟩, hin2⟩ := (D2.box 0).four)
    | fail)
  have D3 := (((D2.wrote (by decide) (fun x hx => by simp at hx) 0 (.string xs)).wrote (by decide) (fun x hx => by simp at hx) 1 (.int .u64 xh)).wrote (by decide) (fun x hx => by simp at hx) 2 (.int .u64 xl)).wrote (by decide) (fun x hx => by simp at hx) 3 (.int .i64 xn)
  change Rp w g s1 [(w.heap.size, 32, rtB xs xh xl xn)] _ at D3
  generalize World.setCell (World.setCell (World.setCell (World.setCell w2 _ _) _ _) _ _) _ _ = Z at *
  obtain ⟨⟨v0, v1, v2, v3⟩, -, -⟩ := (D3.box 0).four
  exact bodyPost_ret (v := .agg (rtB xs xh xl xn)) (by simp [results, Tryd.results9, go_sem, v0, v1, v2, v3]) rfl ⟨rfl, D3.inS, D3.off⟩
set_option maxHeartbeats 2000000 in
theorem root_any (x : RtP) (hs : x.hash.size ≤ 4611686018427387903) (hw : Word x.h ∧ Word x.l) (w : World) : Calls Tryd.prog 8 #[x.val] w (Tells (.tuple #[.string (rtO x).1, .int .i64 (rtO x).2]) w.heap.size w) := by
  have c1 := fun u => roots_any u
  have c2 := fun u => wholeR_any x hs hw u
  rw [tell_rt] at c2
  generalize rtO x = V at *
  obtain ⟨xs, xh, xl, xn⟩ := x
  simp only [RtP.val] at c2 ⊢
  obtain ⟨s, n⟩ := V
  simp only at c2 ⊢
  have H0 := (Has.start w).add 32 (rtB xs xh xl xn)
  go_enter Tryd.func8, Tryd.ntmps8
  go_upto_region 1 with fail
  change Code.wp _ _ _ _ (w.alloc (.cells (rtB xs xh xl xn) 32))
  generalize w.alloc (.cells (rtB xs xh xl xn) 32) = V0 at *
  have fact : ∀ u, Below V0.heap.size V0 u → u.cell? ⟨w.heap.size, 0, none⟩ = some (.string xs) ∧ u.cell? ⟨w.heap.size, 1, none⟩ = some (.int .u64 xh) ∧ u.cell? ⟨w.heap.size, 2, none⟩ = some (.int .u64 xl) ∧ u.cell? ⟨w.heap.size, 3, none⟩ = some (.int .i64 xn) := fun u hu => ((H0.call hu).box 0).four.1
  go_region_held3 (fun u => Below V0.heap.size V0 u ∧ (u.cell? ⟨w.heap.size, 0, none⟩ = some (.string xs) ∧ u.cell? ⟨w.heap.size, 1, none⟩ = some (.int .u64 xh) ∧ u.cell? ⟨w.heap.size, 2, none⟩ = some (.int .u64 xl) ∧ u.cell? ⟨w.heap.size, 3, none⟩ = some (.int .i64 xn)))
    (first | exact on_start fact | exact on_call fact (by assumption) (by assumption) | with_reducible assumption | fail)
    (first
      | (go_at_call 16; refine (c1 _).mono ?_; rintro e w1 ⟨rfl, j1⟩)
      | (go_at_call 17; refine (c2 _).mono ?_; rintro e w2 ⟨rfl, j2⟩)
      | fail)
  all_goals go_wp2
  all_goals refine bodyPost_ret (results_tmp2 rfl _ _ _) rfl ?_
  all_goals exact ⟨rfl, (H0.call (on_low (by assumption))).below⟩
set_option maxHeartbeats 2000000 in
theorem leaf_any (x : Lf) (h1 : x.id.size ≤ 4611686018427387903) (h2 : x.salt.size ≤ 4611686018427387903) (hw : x.words) (w : World) (hT : TabU w) : Calls Tryd.prog 13 #[x.val] w (Tells (.tuple #[.string (lfO x).1, .int .i64 (lfO x).2]) w.heap.size w) := by
  have c1 := fun u => leaves_any u
  have c2 := fun u hu => wholeL_any x h1 h2 hw u hu
  rw [tell_lf] at c2
  generalize lfO x = V at *
  obtain ⟨xp, xi, xs, xh, xl⟩ := x
  simp only [Lf.val] at c2 ⊢
  obtain ⟨s, n⟩ := V
  simp only at c2 ⊢
  have H0 := (Has.start w).add 46 (lfB xp xi xs xh xl)
  go_enter Tryd.func13, Tryd.ntmps13
  go_upto_region 1 with fail
  change Code.wp _ _ _ _ (w.alloc (.cells (lfB xp xi xs xh xl) 46))
  generalize w.alloc (.cells (lfB xp xi xs xh xl) 46) = V0 at *
  have fact : ∀ u, Below V0.heap.size V0 u → u.cell? ⟨w.heap.size, 0, none⟩ = some (.bool xp) ∧ u.cell? ⟨w.heap.size, 1, none⟩ = some (.string xi) ∧ u.cell? ⟨w.heap.size, 2, none⟩ = some (.string xs) ∧ u.cell? ⟨w.heap.size, 3, none⟩ = some (.int .u64 xh) ∧ u.cell? ⟨w.heap.size, 4, none⟩ = some (.int .u64 xl) := fun u hu => ((H0.call hu).box 0).five0.1
  go_region_held3 (fun u => Below V0.heap.size V0 u ∧ (u.cell? ⟨w.heap.size, 0, none⟩ = some (.bool xp) ∧ u.cell? ⟨w.heap.size, 1, none⟩ = some (.string xi) ∧ u.cell? ⟨w.heap.size, 2, none⟩ = some (.string xs) ∧ u.cell? ⟨w.heap.size, 3, none⟩ = some (.int .u64 xh) ∧ u.cell? ⟨w.heap.size, 4, none⟩ = some (.int .u64 xl)))
    (first | exact on_start fact | exact on_call fact (by assumption) (by assumption) | with_reducible assumption | fail)
    (first
      | (go_at_call 19; refine (c1 _).mono ?_; rintro e w1 ⟨rfl, j1⟩)
      | (go_at_call 20; refine (c2 _ (hT.call (H0.call (on_low (by assumption))).below)).mono ?_; rintro e w2 ⟨rfl, j2⟩)
      | fail)
  all_goals go_wp2
  all_goals refine bodyPost_ret (results_tmp2 rfl _ _ _) rfl ?_
  all_goals exact ⟨rfl, (H0.call (on_low (by assumption))).below⟩
set_option maxHeartbeats 2000000 in
theorem readroot_any (s : ByteArray) (hs : s.size ≤ 4611686018427387903) (w : World) : Calls Tryd.prog 15 #[.string s] w (Tells (.tuple #[(readO rtG rtO RtP.zero s).1.val, .int .i64 (readO rtG rtO RtP.zero s).2]) w.heap.size w) := by
  have c1 := fun u => roots_any u
  have c2 := fun u => readR_any s hs u
  rw [← read_rt] at c2
  generalize readO rtG rtO RtP.zero s = V at *
  obtain ⟨⟨xs, xh, xl, xn⟩, n⟩ := V
  simp only [RtP.val] at c2 ⊢
  have H0 := (Has.start w).add 32 (rtB ⟨#[]⟩ 0 0 0)
  go_enter Tryd.func15, Tryd.ntmps15
  go_upto_region 1 with fail
  change Code.wp _ _ _ _ (w.alloc (.cells (rtB ⟨#[]⟩ 0 0 0) 32))
  generalize w.alloc (.cells (rtB ⟨#[]⟩ 0 0 0) 32) = V0 at *
  go_wp2_with (first
    | (go_at_call 16; refine (c1 _).mono ?_; rintro e w1 ⟨rfl, j1⟩; have H1 := H0.call j1)
    | (go_at_call 22; refine (c2 _).mono ?_; rintro e w2 ⟨rfl, j2⟩; have H2 := H1.call j2; obtain ⟨⟨y0, y1, y2, y3⟩, ⟨e0, e1, e2, e3⟩, hin2⟩ := (H2.box 0).four)
    | fail)
  have H3 := H2.filled4 (Nat.le_refl _) (fun x hx => by simp at hx) (.string xs) (.int .u64 xh) (.int .u64 xl) (.int .i64 xn)
  generalize World.setCell (World.setCell (World.setCell (World.setCell w2 _ _) _ _) _ _) _ _ = Z at *
  obtain ⟨⟨v0, v1, v2, v3⟩, -, -⟩ := (H3.box 0).four
  exact bodyPost_ret (v := .tuple #[.agg (rtB xs xh xl xn), .int .i64 n]) (by simp [results, Tryd.results15, go_sem, v0, v1, v2, v3]) rfl ⟨rfl, H3.below⟩
set_option maxHeartbeats 2000000 in
theorem readleaf_any (s : ByteArray) (hs : s.size ≤ 4611686018427387903) (w : World) (hT : TabU w) : Calls Tryd.prog 14 #[.string s] w (Tells (.tuple #[(readO lfG lfO Lf.zero s).1.val, .int .i64 (readO lfG lfO Lf.zero s).2]) w.heap.size w) := by
  have c1 := fun u => leaves_any u
  have c2 := fun u hu => readL_any s hs u hu
  rw [← read_lf] at c2
  generalize readO lfG lfO Lf.zero s = V at *
  obtain ⟨⟨xp, xi, xs, xh, xl⟩, n⟩ := V
  simp only [Lf.val] at c2 ⊢
  have H0 := (Has.start w).add 46 (lfB false ⟨#[]⟩ ⟨#[]⟩ 0 0)
  go_enter Tryd.func14, Tryd.ntmps14
  go_upto_region 1 with fail
  change Code.wp _ _ _ _ (w.alloc (.cells (lfB false ⟨#[]⟩ ⟨#[]⟩ 0 0) 46))
  generalize w.alloc (.cells (lfB false ⟨#[]⟩ ⟨#[]⟩ 0 0) 46) = V0 at *
  go_wp2_with (first
    | (go_at_call 19; refine (c1 _).mono ?_; rintro e w1 ⟨rfl, j1⟩; have H1 := H0.call j1)
    | (go_at_call 21; refine (c2 _ (hT.call H1.below)).mono ?_; rintro e w2 ⟨rfl, j2⟩; have H2 := H1.call j2; obtain ⟨⟨y0, y1, y2, y3, y4⟩, ⟨e0, e1, e2, e3, e4⟩, hin2⟩ := (H2.box 0).five0)
    | fail)
  have H3 := ((((H2.wrote (Nat.le_refl _) (fun x hx => by simp at hx) 0 (.bool xp)).wrote (Nat.le_refl _) (fun x hx => by simp at hx) 1 (.string xi)).wrote (Nat.le_refl _) (fun x hx => by simp at hx) 2 (.string xs)).wrote (Nat.le_refl _) (fun x hx => by simp at hx) 3 (.int .u64 xh)).wrote (Nat.le_refl _) (fun x hx => by simp at hx) 4 (.int .u64 xl)
  change Has w [(w.heap.size, 46, lfB xp xi xs xh xl)] _ at H3
  generalize World.setCell (World.setCell (World.setCell (World.setCell (World.setCell w2 _ _) _ _) _ _) _ _) _ _ = Z at *
  obtain ⟨⟨v0, v1, v2, v3, v4⟩, -, -⟩ := (H3.box 0).five0
  exact bodyPost_ret (v := .tuple #[.agg (lfB xp xi xs xh xl), .int .i64 n]) (by simp [results, Tryd.results14, go_sem, v0, v1, v2, v3, v4]) rfl ⟨rfl, H3.below⟩
end Go.Proofs.YtmflhodiibjpnaaDoor
/-
  paymasterlaw13.awake, walked: the chapter's examples.
-/
namespace Go.Proofs.YtmflhodiibjpnaaDoor
set_option linter.unusedVariables false
set_option linter.unusedSimpArgs false
set_option maxRecDepth 10000
open Go.RowKit

theorem a13_root : rtO ⟨⟨#[97, 98]⟩, 0, 5, 1⟩ = (⟨#[82, 1, 2, 97, 98, 1, 5, 1, 1]⟩, 0) := by
  have e : rtY ⟨⟨#[97, 98]⟩, 0, 5, 1⟩ = [1, 2, 97, 98, 1, 5, 1, 1] := by decide +kernel
  have hl : RtP.long ⟨⟨#[97, 98]⟩, 0, 5, 1⟩ = false := by decide +kernel
  unfold rtO
  rw [hl, e]
  exact whole_fit (l := [82, 1, 2, 97, 98, 1, 5, 1, 1]) (by decide)
theorem a13_leaf : lfO ⟨true, ⟨#[]⟩, ⟨#[]⟩, 0, 0⟩ = (⟨#[76, 1, 0, 0, 0]⟩, 0) := by
  have e : lfY ⟨true, ⟨#[]⟩, ⟨#[]⟩, 0, 0⟩ = [1, 0, 0, 0] := by decide +kernel
  have hl : Lf.may ⟨true, ⟨#[]⟩, ⟨#[]⟩, 0, 0⟩ = true := by decide +kernel
  unfold lfO
  rw [hl, e]
  exact whole_fit (l := [76, 1, 0, 0, 0]) (by decide)
theorem a13_none : lfO ⟨false, ⟨#[]⟩, ⟨#[]⟩, 0, 0⟩ = (⟨#[]⟩, 130) := by
  have hl : Lf.may ⟨false, ⟨#[]⟩, ⟨#[]⟩, 0, 0⟩ = false := by decide +kernel
  unfold lfO
  rw [hl]
  rfl
theorem a13_read : readO lfG lfO Lf.zero ⟨#[76, 1, 0, 0, 0]⟩ = (⟨true, ⟨#[]⟩, ⟨#[]⟩, 0, 0⟩, 0) :=
  read_told lfC lf_tells (show Lf.words ⟨true, ⟨#[]⟩, ⟨#[]⟩, 0, 0⟩ from ⟨word0, word0⟩) a13_leaf
theorem a13_other : readO rtG rtO RtP.zero ⟨#[76, 1, 0, 0, 0]⟩ = (RtP.zero, 80) := by
  rw [read_rt]
  unfold readT
  have h : (takeG rtP wrR RtP.zero none).2 = none := by rw [take_rt]; exact rtC.none_
  have hb : ¬ bV (opB (some (⟨#[76, 1, 0, 0, 0]⟩ : ByteArray).data.toList)) = ((82 : UInt8).toNat : Int) := by decide
  rw [if_neg hb, h]
  rfl
set_option maxRecDepth 100000 in
set_option maxHeartbeats 8000000 in
theorem awake13_any (w : World) (hT : TabU w) : Calls Tryd.prog 4 #[] w (Tells (.bool true) w.heap.size w) := by
  have c0 := fun u => of_any 5 u
  have c1 : ∀ u, Calls Tryd.prog 8 #[.agg (rtB ⟨#[97, 98]⟩ 0 5 1)] u (Tells (.tuple #[.string ⟨#[82, 1, 2, 97, 98, 1, 5, 1, 1]⟩, .int .i64 0]) u.heap.size u) := fun u => by
    have h := root_any ⟨⟨#[97, 98]⟩, 0, 5, 1⟩ (by decide) ⟨word0, by decide, by decide⟩ u
    rw [a13_root] at h
    exact h
  have c2 : ∀ u, TabU u → Calls Tryd.prog 13 #[.agg (lfB true ⟨#[]⟩ ⟨#[]⟩ 0 0)] u (Tells (.tuple #[.string ⟨#[76, 1, 0, 0, 0]⟩, .int .i64 0]) u.heap.size u) := fun u hu => by
    have h := leaf_any ⟨true, ⟨#[]⟩, ⟨#[]⟩, 0, 0⟩ (by decide) (by decide) ⟨word0, word0⟩ u hu
    rw [a13_leaf] at h
    exact h
  have c3 : ∀ u, TabU u → Calls Tryd.prog 13 #[.agg (lfB false ⟨#[]⟩ ⟨#[]⟩ 0 0)] u (Tells (.tuple #[.string ⟨#[]⟩, .int .i64 130]) u.heap.size u) := fun u hu => by
    have h := leaf_any ⟨false, ⟨#[]⟩, ⟨#[]⟩, 0, 0⟩ (by decide) (by decide) ⟨word0, word0⟩ u hu
    rw [a13_none] at h
    exact h
  have c4 : ∀ u, TabU u → Calls Tryd.prog 14 #[.string ⟨#[76, 1, 0, 0, 0]⟩] u (Tells (.tuple #[.agg (lfB true ⟨#[]⟩ ⟨#[]⟩ 0 0), .int .i64 0]) u.heap.size u) := fun u hu => by
    have h := readleaf_any ⟨#[76, 1, 0, 0, 0]⟩ (by decide) u hu
    rw [a13_read] at h
    exact h
  have c5 : ∀ u, Calls Tryd.prog 15 #[.string ⟨#[76, 1, 0, 0, 0]⟩] u (Tells (.tuple #[.agg (rtB ⟨#[]⟩ 0 0 0), .int .i64 80]) u.heap.size u) := fun u => by
    have h := readroot_any ⟨#[76, 1, 0, 0, 0]⟩ (by decide) u
    rw [a13_other] at h
    exact h
  have hq := fun u : World => run_eql_lf ⟨true, ⟨#[]⟩, ⟨#[]⟩, 0, 0⟩ ⟨true, ⟨#[]⟩, ⟨#[]⟩, 0, 0⟩ u
  rw [show Lf.same ⟨true, ⟨#[]⟩, ⟨#[]⟩, 0, 0⟩ ⟨true, ⟨#[]⟩, ⟨#[]⟩, 0, 0⟩ = true by decide +kernel] at hq
  simp only [Lf.val] at hq
  go_enter Tryd.func4, Tryd.ntmps4
  go_upto_region 6 with (first
    | (go_at_call 12; refine (c0 _).mono ?_; rintro e w1 ⟨rfl, j1⟩)
    | (go_at_call 8; refine (c1 _).mono ?_; rintro e w2 ⟨rfl, j2⟩; have k2 := chain j1 j2)
    | (go_at_call 13; (with_reducible refine (c2 _ (hT.call k2)).mono ?_); rintro e w3 ⟨rfl, j3⟩; have k3 := chain k2 j3)
    | (go_at_call 14; refine (c4 _ (hT.call k3)).mono ?_; rintro e w4 ⟨rfl, j4⟩; have k4 := chain k3 j4; have H4 := ((Has.start w4).add 46 (lfB true ⟨#[]⟩ ⟨#[]⟩ 0 0)))
    | (go_at_call 15; refine (c5 _).mono ?_; rintro e w5 ⟨rfl, j5⟩; have H5 := (H4.call j5).past (.cells (rtB ⟨#[]⟩ 0 0 0) 32))
    | (go_at_call 13; (with_reducible refine (c3 _ (hT.call (chain k4 H5.below))).mono ?_); rintro e w6 ⟨rfl, j6⟩; have H6 := H5.call j6; obtain ⟨⟨q0, q1, q2, q3, q4⟩, -, hin⟩ := (H6.box 0).five0)
    | fail)
  go_wp2
  go_ret
  exact ⟨rfl, chain k4 H6.below⟩
end Go.Proofs.YtmflhodiibjpnaaDoor
