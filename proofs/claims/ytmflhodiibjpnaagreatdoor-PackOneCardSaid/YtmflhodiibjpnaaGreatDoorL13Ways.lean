/-
  The law PackOne's own part: which sorts bytes are of, walked.
-/
import Derived.Test.YtmflhodiibjpnaaGreatDoorM13Law
namespace Go.Proofs.YtmflhodiibjpnaaGreatDoor
set_option linter.unusedVariables false
set_option linter.unusedSimpArgs false
set_option maxRecDepth 10000
open Go.ChangeShapes Go.WideShapes Go.ChangeAt Go.RowKit

theorem wy_len (st : StR) : (enG st).1.sides.length ≤ 2048 := (row_ok (p := fun y : Nd => y.hash.size ≤ 32 ∧ y.words) ndG_ok _).1
theorem wy_rt (s : ByteArray) (h : (readO rtG rtO RtP.zero s).2 = 0) : ∀ u, Calls Tryz.prog 13 #[(readO rtG rtO RtP.zero s).1.val] u (Tells (.tuple #[.string s, .int .i64 0]) u.heap.size u) := by
  obtain ⟨h1, h2⟩ := isR_told (d := rtG) (told := rtO) (z := RtP.zero) (s := s) (decide_eq_true h)
  exact fun u => by
    have h3 := root_any ((readO rtG rtO RtP.zero s).1) (by rw [h2]; have := (rtG_ok (nxt (opB (some s.data.toList)))).1; omega) (by rw [h2]; exact (rtG_ok (nxt (opB (some s.data.toList)))).2) u
    rw [h1] at h3
    exact h3
theorem wy_lf (s : ByteArray) (h : (readO lfG lfO Lf.zero s).2 = 0) : ∀ u, TabU u → Calls Tryz.prog 15 #[(readO lfG lfO Lf.zero s).1.val] u (Tells (.tuple #[.string s, .int .i64 0]) u.heap.size u) := by
  obtain ⟨h1, h2⟩ := isR_told (d := lfG) (told := lfO) (z := Lf.zero) (s := s) (decide_eq_true h)
  exact fun u hu => by
    have h3 := leaf_any ((readO lfG lfO Lf.zero s).1) (by rw [h2]; have := (lfG_ok (nxt (opB (some s.data.toList)))).1; omega) (by rw [h2]; have := (lfG_ok (nxt (opB (some s.data.toList)))).2.1; omega) (by rw [h2]; exact (lfG_ok (nxt (opB (some s.data.toList)))).2.2) u hu
    rw [h1] at h3
    exact h3
theorem wy_en (s : ByteArray) (h : (readO enG enO EnP.zero s).2 = 0) : ∀ (A : Option Addr) (c : Nat) (u : World), TabU u → ndS.Row u u.heap.size A (readO enG enO EnP.zero s).1.sides → Calls Tryz.prog 17 #[.agg (enB (readO enG enO EnP.zero s).1.leaf.pad (readO enG enO EnP.zero s).1.leaf.id (readO enG enO EnP.zero s).1.leaf.salt (readO enG enO EnP.zero s).1.leaf.h (readO enG enO EnP.zero s).1.leaf.l (readO enG enO EnP.zero s).1.pos A (readO enG enO EnP.zero s).1.sides.length c)] u (Tells (.tuple #[.string s, .int .i64 0]) u.heap.size u) := by
  obtain ⟨h1, h2⟩ := isR_told (d := enG) (told := enO) (z := EnP.zero) (s := s) (decide_eq_true h)
  exact fun A c u hu hr => by
    have g1 : (readO enG enO EnP.zero s).1.sides.length ≤ 2048 := by rw [h2]; exact wy_len _
    have g2 : LfOk (readO enG enO EnP.zero s).1.leaf := by rw [h2]; exact ⟨⟨by have := (lfG_ok (nxt (opB (some s.data.toList)))).1; show (lfG (nxt (opB (some s.data.toList)))).1.id.size ≤ _; omega, by have := (lfG_ok (nxt (opB (some s.data.toList)))).2.1; show (lfG (nxt (opB (some s.data.toList)))).1.salt.size ≤ _; omega⟩, (lfG_ok (nxt (opB (some s.data.toList)))).2.2⟩
    have g3 : AllNd (readO enG enO EnP.zero s).1.sides := by
      rw [h2]
      have h9 := row_ok (p := fun y : Nd => y.hash.size ≤ 32 ∧ y.words) ndG_ok (numG (lfG (nxt (opB (some s.data.toList)))).2).2
      exact ⟨by have := h9.1; show (rowG ndG (numG (lfG (nxt (opB (some s.data.toList)))).2).2).1.length ≤ _; omega, fun y hy => ⟨by have := (h9.2 y hy).1; omega, (h9.2 y hy).2⟩⟩
    have h3 := entry_any ((readO enG enO EnP.zero s).1) g2 (by rw [h2]; exact (enG_fit (nxt (opB (some s.data.toList)))).2.1) A c g3 u hu hr
    rw [h1] at h3
    exact h3
theorem wy_rg (s : ByteArray) (h : (readO rgG rgO RgP.zero s).2 = 0) : ∀ (A B : Option Addr) (c d : Nat) (u : World), ndS.Row u u.heap.size A (readO rgG rgO RgP.zero s).1.ins → ndS.Row u u.heap.size B (readO rgG rgO RgP.zero s).1.outs → Calls Tryz.prog 19 #[.agg (rgB (readO rgG rgO RgP.zero s).1.a (readO rgG rgO RgP.zero s).1.b A (readO rgG rgO RgP.zero s).1.ins.length c B (readO rgG rgO RgP.zero s).1.outs.length d)] u (Tells (.tuple #[.string s, .int .i64 0]) u.heap.size u) := by
  obtain ⟨h1, h2⟩ := isR_told (d := rgG) (told := rgO) (z := RgP.zero) (s := s) (decide_eq_true h)
  exact fun A B c d u hr hv => by
    have g1 : AllNd (readO rgG rgO RgP.zero s).1.ins := by
      rw [h2]
      have h9 := row_ok (p := fun y : Nd => y.hash.size ≤ 32 ∧ y.words) ndG_ok (numG (numG (nxt (opB (some s.data.toList)))).2).2
      exact ⟨by have := h9.1; show (rowG ndG (numG (numG (nxt (opB (some s.data.toList)))).2).2).1.length ≤ _; omega, fun y hy => ⟨by have := (h9.2 y hy).1; omega, (h9.2 y hy).2⟩⟩
    have g2 : AllNd (readO rgG rgO RgP.zero s).1.outs := by
      rw [h2]
      have h9 := row_ok (p := fun y : Nd => y.hash.size ≤ 32 ∧ y.words) ndG_ok (rowG ndG (numG (numG (nxt (opB (some s.data.toList)))).2).2).2
      exact ⟨by have := h9.1; show (rowG ndG (rowG ndG (numG (numG (nxt (opB (some s.data.toList)))).2).2).2).1.length ≤ _; omega, fun y hy => ⟨by have := (h9.2 y hy).1; omega, (h9.2 y hy).2⟩⟩
    have h3 := range_any ((readO rgG rgO RgP.zero s).1) (by rw [h2]; exact ⟨(rgG_fit (nxt (opB (some s.data.toList)))).1, (rgG_fit (nxt (opB (some s.data.toList)))).2.1⟩) A B c d g1 g2 u hr hv
    rw [h1] at h3
    exact h3
theorem wy_df (s : ByteArray) (h : (readO dfG dfO DfP.zero s).2 = 0) : ∀ (A B : Option Addr) (c d : Nat) (u : World), TabU u → chS.Row u u.heap.size A (readO dfG dfO DfP.zero s).1.chs → ndS.Row u u.heap.size B (readO dfG dfO DfP.zero s).1.fr → Calls Tryz.prog 21 #[.agg (dfB A (readO dfG dfO DfP.zero s).1.chs.length c B (readO dfG dfO DfP.zero s).1.fr.length d)] u (Tells (.tuple #[.string s, .int .i64 0]) u.heap.size u) := by
  obtain ⟨h1, h2⟩ := isR_told (d := dfG) (told := dfO) (z := DfP.zero) (s := s) (decide_eq_true h)
  exact fun A B c d u hu hr hv => by
    have g1 : AllCh (readO dfG dfO DfP.zero s).1.chs := by
      rw [h2]
      have h9 := row_ok (p := fun y : ChP => Word y.pos ∧ (y.old.id.size ≤ 255 ∧ y.old.salt.size ≤ 255 ∧ y.old.words) ∧ y.new.id.size ≤ 255 ∧ y.new.salt.size ≤ 255 ∧ y.new.words) chG_ok (nxt (opB (some s.data.toList)))
      exact ⟨by have := h9.1; show (rowG chG (nxt (opB (some s.data.toList)))).1.length ≤ _; omega, fun y hy => by
        obtain ⟨b1, ⟨b2, b3, b4⟩, b5, b6, b7⟩ := h9.2 y hy
        exact ⟨b1, ⟨⟨by omega, by omega⟩, b4⟩, ⟨by omega, by omega⟩, b7⟩⟩
    have g2 : AllNd (readO dfG dfO DfP.zero s).1.fr := by
      rw [h2]
      have h9 := row_ok (p := fun y : Nd => y.hash.size ≤ 32 ∧ y.words) ndG_ok (rowG chG (nxt (opB (some s.data.toList)))).2
      exact ⟨by have := h9.1; show (rowG ndG (rowG chG (nxt (opB (some s.data.toList)))).2).1.length ≤ _; omega, fun y hy => ⟨by have := (h9.2 y hy).1; omega, (h9.2 y hy).2⟩⟩
    have h3 := diff_any ((readO dfG dfO DfP.zero s).1) A B c d g1 g2 u hu hr hv
    rw [h1] at h3
    exact h3
theorem wy_bit {k : Int} {z : Bool} (h : (k == 0) = z) : (decide (k = 0)) = z := by rw [← h]; by_cases e : k = 0 <;> simp [e]
set_option maxRecDepth 100000 in
set_option maxHeartbeats 16000000 in
theorem ways_any (s : ByteArray) (hs : s.size ≤ 1000000) (w : World) (hT : TabU w) : Calls Tryz.prog 48 #[.string s] w (Tells (.int .i64 (waysN s)) w.heap.size w) := by
  have d1 := fun u => readroot_any s (by omega) u
  have t1 := fun h => wy_rt s h
  have b1 : isRt s = decide ((readO rtG rtO RtP.zero s).2 = 0) := rfl
  generalize readO rtG rtO RtP.zero s = V1 at *
  obtain ⟨⟨rs, rh, rl, rn⟩, k1⟩ := V1
  have d2 := fun u hu => readleaf_any s (by omega) u hu
  have t2 := fun h => wy_lf s h
  have b2 : isLf s = decide ((readO lfG lfO Lf.zero s).2 = 0) := rfl
  generalize readO lfG lfO Lf.zero s = V2 at *
  obtain ⟨⟨lp, li, ls, lh, ll⟩, k2⟩ := V2
  have d3 := fun u hu => readentry_any s (by omega) u hu
  have t3 := fun h => wy_en s h
  have b3 : isEn s = decide ((readO enG enO EnP.zero s).2 = 0) := rfl
  generalize readO enG enO EnP.zero s = V3 at *
  obtain ⟨⟨⟨xp, xi, xs, xh, xl⟩, eq, eL⟩, k3⟩ := V3
  have d4 := fun u => readrange_any s (by omega) u
  have t4 := fun h => wy_rg s h
  have b4 : isRg s = decide ((readO rgG rgO RgP.zero s).2 = 0) := rfl
  generalize readO rgG rgO RgP.zero s = V4 at *
  obtain ⟨⟨ga, gb, gL, gK⟩, k4⟩ := V4
  have d5 := fun u hu => readdiff_any s (by omega) u hu
  have t5 := fun h => wy_df s h
  have b5 : isDf s = decide ((readO dfG dfO DfP.zero s).2 = 0) := rfl
  generalize readO dfG dfO DfP.zero s = V5 at *
  obtain ⟨⟨cL, cK⟩, k5⟩ := V5
  simp only [RtP.val, Lf.val] at d1 d2 t1 t2
  unfold EnTells at d3
  unfold RgTells at d4
  unfold DfTells at d5
  simp only at d1 d2 d3 d4 d5 t1 t2 t3 t4 t5 b1 b2 b3 b4 b5
  obtain ⟨z1, hz1⟩ : ∃ z, (k1 == 0) = z := ⟨_, rfl⟩
  rw [wy_bit hz1] at b1
  have Q1 := hideIt (fun h : z1 = true => (by rw [h] at hz1; simpa using hz1 : k1 = 0))
  have T1 := hideIt t1
  have B1 := hideIt b1
  clear t1 b1
  obtain ⟨z2, hz2⟩ : ∃ z, (k2 == 0) = z := ⟨_, rfl⟩
  rw [wy_bit hz2] at b2
  have Q2 := hideIt (fun h : z2 = true => (by rw [h] at hz2; simpa using hz2 : k2 = 0))
  have T2 := hideIt t2
  have B2 := hideIt b2
  clear t2 b2
  obtain ⟨z3, hz3⟩ : ∃ z, (k3 == 0) = z := ⟨_, rfl⟩
  rw [wy_bit hz3] at b3
  have Q3 := hideIt (fun h : z3 = true => (by rw [h] at hz3; simpa using hz3 : k3 = 0))
  have T3 := hideIt t3
  have B3 := hideIt b3
  clear t3 b3
  obtain ⟨z4, hz4⟩ : ∃ z, (k4 == 0) = z := ⟨_, rfl⟩
  rw [wy_bit hz4] at b4
  have Q4 := hideIt (fun h : z4 = true => (by rw [h] at hz4; simpa using hz4 : k4 = 0))
  have T4 := hideIt t4
  have B4 := hideIt b4
  clear t4 b4
  obtain ⟨z5, hz5⟩ : ∃ z, (k5 == 0) = z := ⟨_, rfl⟩
  rw [wy_bit hz5] at b5
  have Q5 := hideIt (fun h : z5 = true => (by rw [h] at hz5; simpa using hz5 : k5 = 0))
  have T5 := hideIt t5
  have B5 := hideIt b5
  clear t5 b5
  have hss : (s.toList != s.toList) = false := by simp
  have HT := hideIt hT
  clear hT
  go_enter Tryz.func48, Tryz.ntmps48
  have L0 := Below.refl w.heap.size w
  go_upto_if 26 with (first
    | (go_at_call 35; refine (d1 _).mono ?_; rintro e v1 ⟨rfl, j1⟩)
    | fail)
  change Code.wp _ _ _ _ (v1.alloc (.cells (rtB rs rh rl rn) 26))
  have M1 := chainA (chain L0 j1) (.cells (rtB rs rh rl rn) 26)
  have X1 := Box.made v1 26 (rtB rs rh rl rn)
  clear L0 j1 d1
  generalize v1.alloc (.cells (rtB rs rh rl rn) 26) = W1 at M1 X1 ⊢
  generalize v1.heap.size = x1 at X1 ⊢
  go_cut [3] (fun s3 wx => ∃ m : Nat, s3 = .int .i64 (m : Int) ∧ m ≤ 1 ∧ Hid (m = (if z1 then 1 else 0)) ∧ Below w.heap.size w wx)
  case first =>
    cases z1 with
    | false =>
      go_wp2
      go_meet
      exact ⟨0, rfl, by omega, hideIt (by simp), M1⟩
    | true =>
      have t1 := T1.out (Q1.out rfl)
      have p0 := X1.read 0
      have p1 := X1.read 1
      have p2 := X1.read 2
      have p3 := X1.read 3
      have pi := X1.inside
      go_wp2_with (first
        | (go_at_call 13; (with_reducible refine (t1 _).mono ?_); rintro e y1 ⟨rfl, l1⟩)
        | fail)
      go_meet
      exact ⟨1, by go_num, by omega, hideIt (by simp), chain M1 l1⟩
  case rest =>
    obtain ⟨m1, rfl, hm1, N1, L1⟩ := hcut
    clear M1 X1
    go_upto_if 47 with (first
      | (go_at_call 37; refine (d2 _ (HT.out.call L1)).mono ?_; rintro e v2 ⟨rfl, j2⟩)
      | fail)
    change Code.wp _ _ _ _ (v2.alloc (.cells (lfB lp li ls lh ll) 28))
    have M2 := chainA (chain L1 j2) (.cells (lfB lp li ls lh ll) 28)
    have X2 := Box.made v2 28 (lfB lp li ls lh ll)
    clear L1 j2 d2
    generalize v2.alloc (.cells (lfB lp li ls lh ll) 28) = W2 at M2 X2 ⊢
    generalize v2.heap.size = x2 at X2 ⊢
    go_cut [3] (fun s3 wx => ∃ m : Nat, s3 = .int .i64 (m : Int) ∧ m ≤ 3 ∧ Hid (m = m1 + (if z2 then 2 else 0)) ∧ Below w.heap.size w wx)
    case first =>
      cases z2 with
      | false =>
        go_wp2
        go_meet
        exact ⟨m1, rfl, by omega, hideIt (by simp), M2⟩
      | true =>
        have t2 := T2.out (Q2.out rfl)
        have p0 := X2.read 0
        have p1 := X2.read 1
        have p2 := X2.read 2
        have p3 := X2.read 3
        have p4 := X2.read 4
        have pi := X2.inside
        go_wp2_with (first
          | (go_at_call 15; (with_reducible refine (t2 _ (HT.out.call M2)).mono ?_); rintro e y2 ⟨rfl, l2⟩)
          | fail)
        go_meet
        exact ⟨m1 + 2, by go_num, by omega, hideIt (by simp), chain M2 l2⟩
    case rest =>
      obtain ⟨m2, rfl, hm2, N2, L2⟩ := hcut
      clear M2 X2
      go_upto_if 68 with (first
        | (go_at_call 39; refine (d3 _ (HT.out.call L2)).mono ?_; rintro e v3 ⟨A, ac, rfl, -, FA, j3⟩)
        | fail)
      change Code.wp _ _ _ _ (v3.alloc (.cells (enB xp xi xs xh xl eq A eL.length ac) 33))
      have M3 := chainA (chain L2 j3) (.cells (enB xp xi xs xh xl eq A eL.length ac) 33)
      have X3 := Box.made v3 33 (enB xp xi xs xh xl eq A eL.length ac)
      have RA := FA.1.on (chainA (Below.refl v3.heap.size v3) (.cells (enB xp xi xs xh xl eq A eL.length ac) 33))
      clear L2 j3 d3 FA
      generalize v3.alloc (.cells (enB xp xi xs xh xl eq A eL.length ac) 33) = W3 at M3 X3 RA ⊢
      generalize v3.heap.size = x3 at X3 ⊢
      go_cut [3] (fun s3 wx => ∃ m : Nat, s3 = .int .i64 (m : Int) ∧ m ≤ 7 ∧ Hid (m = m2 + (if z3 then 4 else 0)) ∧ Below w.heap.size w wx)
      case first =>
        cases z3 with
        | false =>
          go_wp2
          go_meet
          exact ⟨m2, rfl, by omega, hideIt (by simp), M3⟩
        | true =>
          have t3 := T3.out (Q3.out rfl)
          have p0 := X3.read 0
          have p1 := X3.read 1
          have p2 := X3.read 2
          have p3 := X3.read 3
          have p4 := X3.read 4
          have p5 := X3.read 5
          have p6 := X3.read 6
          have pi := X3.inside
          go_wp2_with (first
            | (go_at_call 17; (with_reducible refine (t3 _ _ _ (HT.out.call M3) RA).mono ?_); rintro e y3 ⟨rfl, l3⟩)
            | fail)
          go_meet
          exact ⟨m2 + 4, by go_num, by omega, hideIt (by simp), chain M3 l3⟩
      case rest =>
        obtain ⟨m3, rfl, hm3, N3, L3⟩ := hcut
        clear M3 X3 RA
        go_upto_if 89 with (first
          | (go_at_call 41; refine (d4 _).mono ?_; rintro e v4 ⟨A, ac, B, bc, rfl, -, -, FA, FB, j4⟩)
          | fail)
        change Code.wp _ _ _ _ (v4.alloc (.cells (rgB ga gb A gL.length ac B gK.length bc) 35))
        have M4 := chainA (chain L3 j4) (.cells (rgB ga gb A gL.length ac B gK.length bc) 35)
        have X4 := Box.made v4 35 (rgB ga gb A gL.length ac B gK.length bc)
        have RA := FA.1.on (chainA (Below.refl v4.heap.size v4) (.cells (rgB ga gb A gL.length ac B gK.length bc) 35))
        have RB := FB.1.on (chainA (Below.refl v4.heap.size v4) (.cells (rgB ga gb A gL.length ac B gK.length bc) 35))
        clear L3 j4 d4 FA FB
        generalize v4.alloc (.cells (rgB ga gb A gL.length ac B gK.length bc) 35) = W4 at M4 X4 RA RB ⊢
        generalize v4.heap.size = x4 at X4 ⊢
        go_cut [3] (fun s3 wx => ∃ m : Nat, s3 = .int .i64 (m : Int) ∧ m ≤ 15 ∧ Hid (m = m3 + (if z4 then 8 else 0)) ∧ Below w.heap.size w wx)
        case first =>
          cases z4 with
          | false =>
            go_wp2
            go_meet
            exact ⟨m3, rfl, by omega, hideIt (by simp), M4⟩
          | true =>
            have t4 := T4.out (Q4.out rfl)
            have p0 := X4.read 0
            have p1 := X4.read 1
            have p2 := X4.read 2
            have p3 := X4.read 3
            have pi := X4.inside
            go_wp2_with (first
              | (go_at_call 19; (with_reducible refine (t4 _ _ _ _ _ RA RB).mono ?_); rintro e y4 ⟨rfl, l4⟩)
              | fail)
            go_meet
            exact ⟨m3 + 8, by go_num, by omega, hideIt (by simp), chain M4 l4⟩
        case rest =>
          obtain ⟨m4, rfl, hm4, N4, L4⟩ := hcut
          clear M4 X4 RA RB
          go_upto_if 110 with (first
            | (go_at_call 43; refine (d5 _ (HT.out.call L4)).mono ?_; rintro e v5 ⟨A, ac, B, bc, rfl, -, -, FA, FB, j5⟩)
            | fail)
          change Code.wp _ _ _ _ (v5.alloc (.cells (dfB A cL.length ac B cK.length bc) 38))
          have M5 := chainA (chain L4 j5) (.cells (dfB A cL.length ac B cK.length bc) 38)
          have X5 := Box.made v5 38 (dfB A cL.length ac B cK.length bc)
          have RA := FA.1.on (chainA (Below.refl v5.heap.size v5) (.cells (dfB A cL.length ac B cK.length bc) 38))
          have RB := FB.1.on (chainA (Below.refl v5.heap.size v5) (.cells (dfB A cL.length ac B cK.length bc) 38))
          clear L4 j5 d5 FA FB
          generalize v5.alloc (.cells (dfB A cL.length ac B cK.length bc) 38) = W5 at M5 X5 RA RB ⊢
          generalize v5.heap.size = x5 at X5 ⊢
          go_cut [3] (fun s3 wx => ∃ m : Nat, s3 = .int .i64 (m : Int) ∧ m ≤ 31 ∧ Hid (m = m4 + (if z5 then 16 else 0)) ∧ Below w.heap.size w wx)
          case first =>
            cases z5 with
            | false =>
              go_wp2
              go_meet
              exact ⟨m4, rfl, by omega, hideIt (by simp), M5⟩
            | true =>
              have t5 := T5.out (Q5.out rfl)
              have p0 := X5.read 0
              have p1 := X5.read 1
              have pi := X5.inside
              go_wp2_with (first
                | (go_at_call 21; (with_reducible refine (t5 _ _ _ _ _ (HT.out.call M5) RA RB).mono ?_); rintro e y5 ⟨rfl, l5⟩)
                | fail)
              go_meet
              exact ⟨m4 + 16, by go_num, by omega, hideIt (by simp), chain M5 l5⟩
          case rest =>
            obtain ⟨m5, rfl, hm5, N5, L5⟩ := hcut
            clear M5 X5 RA RB
            go_wp2
            go_ret
            exact ⟨by rw [show waysN s = m5 by unfold waysN; rw [B1.out, B2.out, B3.out, B4.out, B5.out, N5.out, N4.out, N3.out, N2.out, N1.out]]; rfl, L5⟩
end Go.Proofs.YtmflhodiibjpnaaGreatDoor
