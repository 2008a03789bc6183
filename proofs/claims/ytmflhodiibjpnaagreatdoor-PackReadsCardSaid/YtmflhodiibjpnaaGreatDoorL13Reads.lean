/-
  The law PackReads: any bytes are of the root, leaf, entry, range, diff that the chapter says, or of none. Conditions: none.
-/
import Derived.Test.YtmflhodiibjpnaaGreatDoorM13Top
import Derived.Test.YtmflhodiibjpnaaGreatDoorM13Nod
import Derived.Test.YtmflhodiibjpnaaGreatDoorM13Rd
import Derived.Test.YtmflhodiibjpnaaGreatDoorM13Rr
import Derived.Test.YtmflhodiibjpnaaGreatDoorM13Rs
import Derived.Test.YtmflhodiibjpnaaGreatDoorW10Laid
import Derived.ChangeMaps
namespace Go.Proofs.YtmflhodiibjpnaaGreatDoor
set_option linter.unusedVariables false
set_option linter.unusedSimpArgs false
set_option maxRecDepth 10000
open Go.ChangeShapes Go.WideShapes Go.ChangeAt Go.RowKit

theorem readO_fit {α : Type} {told : α → ByteArray × Int} {d : StR → α × StR} {z : α} {s : ByteArray} {p : α → Prop} (hz : p z) (hd : ∀ st, p (d st).1) : p (readO d told z s).1 := by
  unfold readO
  split
  · exact hd _
  · exact hz
theorem en_len (st : StR) : (enG st).1.sides.length ≤ 2048 := (row_ok (p := fun y : Nd => y.hash.size ≤ 32 ∧ y.words) ndG_ok _).1
theorem rg_len (st : StR) : (rgG st).1.ins.length ≤ 2048 ∧ (rgG st).1.outs.length ≤ 2048 := ⟨(row_ok (p := fun y : Nd => y.hash.size ≤ 32 ∧ y.words) ndG_ok _).1, (row_ok (p := fun y : Nd => y.hash.size ≤ 32 ∧ y.words) ndG_ok _).1⟩
theorem df_len (st : StR) : (dfG st).1.chs.length ≤ 2048 ∧ (dfG st).1.fr.length ≤ 2048 := ⟨(row_ok (p := fun _ : ChP => True) (fun _ => trivial) _).1, (row_ok (p := fun y : Nd => y.hash.size ≤ 32 ∧ y.words) ndG_ok _).1⟩
set_option maxHeartbeats 2000000 in
theorem l13reads_long (s : ByteArray) (hs : s.size ≤ 9223372036854775807) (h : 4000 < s.size) (w : World) : Calls Tryz.prog 4 #[.string s] w (Tells (.bool true) w.heap.size w) := by
  have hi : (4000 : Int) < (s.size : Int) := by omega
  go_enter Tryz.func4, Tryz.ntmps4
  go_wp2
  go_ret
  exact ⟨rfl, Below.refl _ _⟩
set_option maxRecDepth 100000 in
set_option maxHeartbeats 8000000 in
theorem l13reads_ok (s : ByteArray) (h : s.size ≤ 4000) (w : World) (hT : TabU w) : Calls Tryz.prog 4 #[.string s] w (Tells (.bool true) w.heap.size w) := by
  have hi : ¬ ((4000 : Int) < (s.size : Int)) := by omega
  have cO := fun u => in_open s (by omega) u
  have hzs : restN (some s.data.toList) ≤ 4611686018427387903 := by show s.data.toList.length ≤ _; rw [osize]; omega
  have cG := fun g u hu => getroot_any u g (some s.data.toList) hu
  have cR := fun g u hu => rgetRoot_any u g (some s.data.toList) hzs hu
  have hrest : restN (rtG (some s.data.toList)).2 = (rS (rtG (some s.data.toList)).2).size := by
    generalize (rtG (some s.data.toList)).2 = st
    cases st with
    | none => rfl
    | some l => show l.length = (ofL l).size; rw [ofL_size]
  obtain ⟨⟨x, st⟩, hd⟩ : ∃ V, rtG (some s.data.toList) = V := ⟨_, rfl⟩
  rw [hd] at cG cR hrest
  simp only at cG cR hrest
  have hq := fun u : World => run_neq_rt x x u
  rw [RtP.same_self] at hq
  have cS := fun g u hu => in_spoilt u g st hu
  have cRe := fun g u hu => in_rest u g st hu
  obtain ⟨b1, hb1⟩ : ∃ b, st.isNone = b := ⟨_, rfl⟩
  have hbb : (b1 != b1) = false := by simp
  obtain ⟨n1, hn1⟩ : ∃ n, restN st = n := ⟨_, rfl⟩
  have hnn : (((n1 : Nat) : Int) != (n1 : Int)) = false := by simp
  rw [hb1] at cS
  rw [hn1] at cRe hrest
  obtain ⟨xs, xh, xl, xn⟩ := x
  simp only [RtP.val] at cG cR hq
  clear hd
  have d1 := fun u => readroot_any s (by omega) u
  have e1 := fun u => rreadRoot_any s (by omega) u
  have d2 := fun u hu => readleaf_any s (by omega) u hu
  have e2 := fun u => rreadLeaf_any s (by omega) u
  have d3 := fun u hu => readentry_any s (by omega) u hu
  have e3 := fun u => rreadEntry_any s (by omega) u
  have d4 := fun u => readrange_any s (by omega) u
  have e4 := fun u => rreadRange_any s (by omega) u
  have d5 := fun u hu => readdiff_any s (by omega) u hu
  have e5 := fun u => rreadDiff_any s (by omega) u
  have f3 := readO_fit (told := enO) (z := EnP.zero) (s := s) (p := fun x : EnP => x.sides.length ≤ 2048) (Nat.zero_le _) en_len
  have f4 := readO_fit (told := rgO) (z := RgP.zero) (s := s) (p := fun x : RgP => x.ins.length ≤ 2048 ∧ x.outs.length ≤ 2048) ⟨Nat.zero_le _, Nat.zero_le _⟩ rg_len
  have f5 := readO_fit (told := dfO) (z := DfP.zero) (s := s) (p := fun x : DfP => x.chs.length ≤ 2048 ∧ x.fr.length ≤ 2048) ⟨Nat.zero_le _, Nat.zero_le _⟩ df_len
  obtain ⟨⟨⟨rs, rh, rl, rn⟩, k1⟩, hV1⟩ : ∃ V, readO rtG rtO RtP.zero s = V := ⟨_, rfl⟩
  obtain ⟨⟨⟨lp, li, ls, lh, ll⟩, k2⟩, hV2⟩ : ∃ V, readO lfG lfO Lf.zero s = V := ⟨_, rfl⟩
  obtain ⟨⟨x3, k3⟩, hV3⟩ : ∃ V, readO enG enO EnP.zero s = V := ⟨_, rfl⟩
  obtain ⟨⟨x4, k4⟩, hV4⟩ : ∃ V, readO rgG rgO RgP.zero s = V := ⟨_, rfl⟩
  obtain ⟨⟨x5, k5⟩, hV5⟩ : ∃ V, readO dfG dfO DfP.zero s = V := ⟨_, rfl⟩
  rw [hV1] at d1 e1
  rw [hV2] at d2 e2
  rw [hV3] at d3 e3 f3
  rw [hV4] at d4 e4 f4
  rw [hV5] at d5 e5 f5
  simp only at f3 f4 f5
  have s3 := fun A B c d u h1 h2 => rsameEntry_any x3 x3 A B c d (by omega) (by omega) u h1 h2
  have s4 := fun A B A' B' c d c' d' u h1 h2 h3 h4 => rsameRange_any x4 x4 A B A' B' c d c' d' (by omega) (by omega) (by omega) (by omega) u h1 h2 h3 h4
  have s5 := fun A B A' B' c d c' d' u h1 h2 h3 h4 => rsameDiff_any x5 x5 A B A' B' c d c' d' (by omega) (by omega) (by omega) (by omega) u h1 h2 h3 h4
  rw [(EnP.same_iff x3 x3).2 rfl] at s3
  rw [(RgP.same_iff x4 x4).2 rfl] at s4
  rw [(DfP.same_iff x5 x5).2 rfl] at s5
  have q1 := fun u : World => run_eql_rt ⟨rs, rh, rl, rn⟩ ⟨rs, rh, rl, rn⟩ u
  rw [RtP.same_self] at q1
  have q2 := fun u : World => run_eql_lf ⟨lp, li, ls, lh, ll⟩ ⟨lp, li, ls, lh, ll⟩ u
  rw [(Lf.same_iff _ _).2 rfl] at q2
  have n1' : (k1 != k1) = false := by simp
  have n2' : (k2 != k2) = false := by simp
  have n3' : (k3 != k3) = false := by simp
  have n4' : (k4 != k4) = false := by simp
  have n5' : (k5 != k5) = false := by simp
  clear hV1 hV2 hV3 hV4 hV5 f3 f4 f5
  obtain ⟨⟨xp, xi, xs', xh', xl'⟩, eq, eL⟩ := x3
  obtain ⟨ga, gb, gL, gK⟩ := x4
  obtain ⟨cL, cK⟩ := x5
  simp only [RtP.val, Lf.val] at d1 e1 d2 e2 q1 q2
  unfold EnTells at d3
  unfold EnTold at e3
  unfold RgTells at d4
  unfold RgTold at e4
  unfold DfTells at d5
  unfold DfTold at e5
  simp only at d3 e3 d4 e4 d5 e5 s3 s4 s5
  have HC := hideIt (And.intro d1 (And.intro e1 (And.intro d2 (And.intro e2 (And.intro d3 (And.intro e3 (And.intro d4 (And.intro e4 (And.intro d5 (And.intro e5 (And.intro s3 (And.intro s4 s5))))))))))))
  have HQ := hideIt (And.intro q1 (And.intro q2 (And.intro n1' (And.intro n2' (And.intro n3' (And.intro n4' n5'))))))
  clear d1 e1 d2 e2 d3 e3 d4 e4 d5 e5 s3 s4 s5 q1 q2 n1' n2' n3' n4' n5'
  go_enter Tryz.func4, Tryz.ntmps4
  go_upto_region 4 with (first
    | (go_at_call 30; refine (cO _).mono ?_; rintro e w1 ⟨g, rfl, hg, I1, j1⟩)
    | fail)
  change Code.wp _ _ _ _ (w1.alloc (.cells #[.string s, .bool false] 70))
  have R2 : RInS (w1.alloc (.cells #[.string s, .bool false] 70)) w1.heap.size (some s.data.toList) := by
    show Box _ _ _ #[.string (ofL s.data.toList), .bool false]
    rw [ofL_data]
    exact Box.made _ _ _
  have I2 := I1.call (chainA (Below.refl w1.heap.size w1) (.cells #[.string s, .bool false] 70))
  have L2 := chainA j1 (.cells #[.string s, .bool false] 70)
  have hgj : g < w1.heap.size := I1.inside
  generalize w1.heap.size = j at *
  generalize w1.alloc (.cells #[.string s, .bool false] 70) = W2 at *
  have I3 : InS W2.drew g (some s.data.toList) := I2.call (Below.refl _ _).drew
  have R3 : RInS W2.drew j (some s.data.toList) := R2.call (Below.refl _ _).drew
  have hRr : rS st = rS st := rfl
  have hzz : ((rS st).size : Int) = (n1 : Int) := by omega
  obtain ⟨zs, hzs2⟩ : ∃ z, rS st = z := ⟨_, rfl⟩
  rw [hzs2] at hzz
  have hnz : (((n1 : Nat) : Int) != (zs.size : Int)) = false := by rw [hzz]; simp
  have K2 : Off (fun i => i = g ∨ i = j) W2 W2.drew := (Off.refl _ W2).drew
  have cC := fun w3 (I4 : InS w3 g st) (k3 : Off (One g) W2.drew w3) => R3.off k3 (by show ¬ (j = g); omega)
  have hgw0 := hideIt (And.intro hg (Nat.le_trans hg (Nat.le_of_lt hgj)))
  clear cO I1 hg j1 hrest hn1 hnn hi h I2 R2 hRr hzz
  have HT := hideIt hT
  have HL := hideIt L2
  clear hT L2
  go_cut [60] (fun s60 wx => s60 = .bool false ∧ Off (fun i => i = g ∨ i = j) W2 wx)
  case first =>
    go_region_with
      (first
        | (go_at_call 31; refine (cG _ _ I3).mono ?_; rintro e w3 ⟨rfl, I4, k3⟩; have R4 := R3.off k3 (by show ¬ (j = g); omega))
        | (go_at_call 32; refine (cR _ _ R4).mono ?_; rintro e w4 ⟨rfl, R5, k4⟩; have I5 := I4.off k4 R4 (by omega) (by decide); obtain ⟨q0, q1, hin⟩ := R5.parts; rw [hb1] at q1; rw [hzs2] at q0)
        | (go_at_call 33; refine (cS _ _ I5).mono ?_; rintro e w5 ⟨rfl, rfl⟩)
        | (go_at_call 34; refine (cRe _ _ I5).mono ?_; rintro e w6 ⟨rfl, rfl⟩)
        | fail)
    all_goals go_wp2_with fail
    all_goals go_meet
    all_goals exact ⟨rfl, (K2.trans (k3.mono fun i hi => Or.inl hi)).trans (k4.mono fun i hi => Or.inr hi)⟩
  case rest =>
    obtain ⟨rfl, K9⟩ := hcut
    obtain ⟨d1, e1, d2, e2, d3, e3, d4, e4, d5, e5, s3, s4, s5⟩ := HC.out
    obtain ⟨q1, q2, n1, n2, n3, n4, n5⟩ := HQ.out
    clear HC HQ cG cR cS cRe I3 R3 cC hq hbb hnz
    obtain ⟨hgw1, hgw2⟩ := hgw0.out
    have L9 : Below w.heap.size w wc := ⟨K9.os.trans HL.out.os, K9.tape.trans HL.out.tape, K9.output.trans HL.out.output, Nat.le_trans HL.out.size K9.size, fun i hi => (K9.block i (Nat.lt_of_lt_of_le hi HL.out.size) (fun e => by rcases e with e | e <;> omega)).trans (HL.out.block i hi)⟩
    have tb : ∀ u, Below wc.heap.size wc u → TabU u := fun u hu => (HT.out.call L9).call hu
    have H0 := Has.start wc
    go_upto_region 16 with (first
      | (go_at_call 35; (with_reducible refine (d1 _).mono ?_); rintro e v1 ⟨rfl, j1⟩; have H1 := (H0.call j1).add 26 (rtB rs rh rl rn))
      | (go_at_call 36; (with_reducible refine (e1 _).mono ?_); rintro e v2 ⟨rfl, j2⟩; have H2 := (H1.call j2).add 26 (rtB rs rh rl rn))
      | (go_at_call 37; (with_reducible refine (d2 _ (tb _ H2.below)).mono ?_); rintro e v3 ⟨rfl, j3⟩; have H3 := (H2.call j3).add 28 (lfB lp li ls lh ll))
      | (go_at_call 38; (with_reducible refine (e2 _).mono ?_); rintro e v4 ⟨rfl, j4⟩; have H4 := (H3.call j4).add 28 (lfB lp li ls lh ll))
      | (go_at_call 39; (with_reducible refine (d3 _ (tb _ H4.below)).mono ?_); rintro e v5 ⟨A, ac, rfl, -, FA, j5⟩; have H5 := (H4.call j5).add 33 (enB xp xi xs' xh' xl' eq A eL.length ac); have RA := FA.1)
      | (go_at_call 40; (with_reducible refine (e3 _).mono ?_); rintro e v6 ⟨B, bc, rfl, -, RB, j6⟩; have H6 := (H5.call j6).add 33 (enB xp xi xs' xh' xl' eq B eL.length bc); have RA := (RA.on (chainA (Below.refl _ _) _)).on j6)
      | (go_at_call 41; (with_reducible refine (d4 _).mono ?_); rintro e v7 ⟨C, cc, D, dc, rfl, -, -, FC, FD, j7⟩; have H7 := (H6.call j7).add 35 (rgB ga gb C gL.length cc D gK.length dc); have RA := (RA.on (chainA (Below.refl _ _) _)).on j7; have RB := (RB.on (chainA (Below.refl _ _) _)).on j7; have RC := FC.1; have RD := FD.1)
      | (go_at_call 42; (with_reducible refine (e4 _).mono ?_); rintro e v8 ⟨E, ec, F, fc, rfl, -, -, RE, RF, j8⟩; have H8 := (H7.call j8).add 35 (rgB ga gb E gL.length ec F gK.length fc); have RA := (RA.on (chainA (Below.refl _ _) _)).on j8; have RB := (RB.on (chainA (Below.refl _ _) _)).on j8; have RC := (RC.on (chainA (Below.refl _ _) _)).on j8; have RD := (RD.on (chainA (Below.refl _ _) _)).on j8)
      | (go_at_call 43; (with_reducible refine (d5 _ (tb _ H8.below)).mono ?_); rintro e v9 ⟨G, gc, I, ic, rfl, -, -, FG, FI, j9⟩; have H9 := (H8.call j9).add 38 (dfB G cL.length gc I cK.length ic); have RA := (RA.on (chainA (Below.refl _ _) _)).on j9; have RB := (RB.on (chainA (Below.refl _ _) _)).on j9; have RC := (RC.on (chainA (Below.refl _ _) _)).on j9; have RD := (RD.on (chainA (Below.refl _ _) _)).on j9; have RE := (RE.on (chainA (Below.refl _ _) _)).on j9; have RF := (RF.on (chainA (Below.refl _ _) _)).on j9; have RG := FG.1; have RI := FI.1)
      | (go_at_call 44; (with_reducible refine (e5 _).mono ?_); rintro e v10 ⟨J, jc, K, kc, rfl, -, -, RJ, RK, j10⟩; have H10 := (H9.call j10).add 38 (dfB J cL.length jc K cK.length kc); have RA := (RA.on (chainA (Below.refl _ _) _)).on j10; have RB := (RB.on (chainA (Below.refl _ _) _)).on j10; have RC := (RC.on (chainA (Below.refl _ _) _)).on j10; have RD := (RD.on (chainA (Below.refl _ _) _)).on j10; have RE := (RE.on (chainA (Below.refl _ _) _)).on j10; have RF := (RF.on (chainA (Below.refl _ _) _)).on j10; have RG := (RG.on (chainA (Below.refl _ _) _)).on j10; have RI := (RI.on (chainA (Below.refl _ _) _)).on j10)
      | fail)
    go_upto_region 18 with fail
    have RA' := RA.on (chainA (Below.refl v10.heap.size v10) (.cells (dfB J cL.length jc K cK.length kc) 38))
    have RB' := RB.on (chainA (Below.refl v10.heap.size v10) (.cells (dfB J cL.length jc K cK.length kc) 38))
    have RC' := RC.on (chainA (Below.refl v10.heap.size v10) (.cells (dfB J cL.length jc K cK.length kc) 38))
    have RD' := RD.on (chainA (Below.refl v10.heap.size v10) (.cells (dfB J cL.length jc K cK.length kc) 38))
    have RE' := RE.on (chainA (Below.refl v10.heap.size v10) (.cells (dfB J cL.length jc K cK.length kc) 38))
    have RF' := RF.on (chainA (Below.refl v10.heap.size v10) (.cells (dfB J cL.length jc K cK.length kc) 38))
    have RG' := RG.on (chainA (Below.refl v10.heap.size v10) (.cells (dfB J cL.length jc K cK.length kc) 38))
    have RI' := RI.on (chainA (Below.refl v10.heap.size v10) (.cells (dfB J cL.length jc K cK.length kc) 38))
    have RJ' := RJ.on (chainA (Below.refl v10.heap.size v10) (.cells (dfB J cL.length jc K cK.length kc) 38))
    have RK' := RK.on (chainA (Below.refl v10.heap.size v10) (.cells (dfB J cL.length jc K cK.length kc) 38))
    change Code.wp _ _ _ _ (v10.alloc (.cells (dfB J cL.length jc K cK.length kc) 38))
    clear RA RB RC RD RE RF RG RI RJ RK
    generalize v10.alloc (.cells (dfB J cL.length jc K cK.length kc) 38) = V10 at H10 RA' RB' RC' RD' RE' RF' RG' RI' RJ' RK' ⊢
    have qa0 := (H10.box 9).read 0
    have qa1 := (H10.box 9).read 1
    have qa2 := (H10.box 9).read 2
    have qa3 := (H10.box 9).read 3
    have qai := (H10.box 9).inside
    have qb0 := (H10.box 8).read 0
    have qb1 := (H10.box 8).read 1
    have qb2 := (H10.box 8).read 2
    have qb3 := (H10.box 8).read 3
    have qbi := (H10.box 8).inside
    have qc0 := (H10.box 7).read 0
    have qc1 := (H10.box 7).read 1
    have qc2 := (H10.box 7).read 2
    have qc3 := (H10.box 7).read 3
    have qc4 := (H10.box 7).read 4
    have qci := (H10.box 7).inside
    have qd0 := (H10.box 6).read 0
    have qd1 := (H10.box 6).read 1
    have qd2 := (H10.box 6).read 2
    have qd3 := (H10.box 6).read 3
    have qd4 := (H10.box 6).read 4
    have qdi := (H10.box 6).inside
    have qp0 := (H10.box 5).read 0
    have qp1 := (H10.box 5).read 1
    have qp2 := (H10.box 5).read 2
    have qp3 := (H10.box 5).read 3
    have qp4 := (H10.box 5).read 4
    have qp5 := (H10.box 5).read 5
    have qp6 := (H10.box 5).read 6
    have qpi := (H10.box 5).inside
    have qq0 := (H10.box 4).read 0
    have qq1 := (H10.box 4).read 1
    have qq2 := (H10.box 4).read 2
    have qq3 := (H10.box 4).read 3
    have qq4 := (H10.box 4).read 4
    have qq5 := (H10.box 4).read 5
    have qq6 := (H10.box 4).read 6
    have qqi := (H10.box 4).inside
    go_wp2_with (first
      | (go_at_call 25; (with_reducible refine (s3 _ _ _ _ _ RA' RB').mono ?_); rintro e y11 ⟨rfl, m11⟩
         have H11 := H10.call m11
         have RC' := RC'.on m11
         have RD' := RD'.on m11
         have RE' := RE'.on m11
         have RF' := RF'.on m11
         have RG' := RG'.on m11
         have RI' := RI'.on m11
         have RJ' := RJ'.on m11
         have RK' := RK'.on m11
         have qg0 := (H11.box 3).read 0
         have qg1 := (H11.box 3).read 1
         have qg2 := (H11.box 3).read 2
         have qg3 := (H11.box 3).read 3
         have qgi := (H11.box 3).inside
         have qh0 := (H11.box 2).read 0
         have qh1 := (H11.box 2).read 1
         have qh2 := (H11.box 2).read 2
         have qh3 := (H11.box 2).read 3
         have qhi := (H11.box 2).inside
         )
      | (go_at_call 27; (with_reducible refine (s4 _ _ _ _ _ _ _ _ _ RC' RE' RD' RF').mono ?_); rintro e y12 ⟨rfl, m12⟩
         have H12 := H11.call m12
         have RC' := RC'.on m12
         have RD' := RD'.on m12
         have RE' := RE'.on m12
         have RF' := RF'.on m12
         have RG' := RG'.on m12
         have RI' := RI'.on m12
         have RJ' := RJ'.on m12
         have RK' := RK'.on m12
         have qx0 := (H12.box 1).read 0
         have qx1 := (H12.box 1).read 1
         have qxi := (H12.box 1).inside
         have qy0 := (H12.box 0).read 0
         have qy1 := (H12.box 0).read 1
         have qyi := (H12.box 0).inside
         )
      | (go_at_call 29; (with_reducible refine (s5 _ _ _ _ _ _ _ _ _ RG' RJ' RI' RK').mono ?_); rintro e y13 ⟨rfl, m13⟩
         have H13 := H12.call m13
         have RC' := RC'.on m13
         have RD' := RD'.on m13
         have RE' := RE'.on m13
         have RF' := RF'.on m13
         have RG' := RG'.on m13
         have RI' := RI'.on m13
         have RJ' := RJ'.on m13
         have RK' := RK'.on m13
         )
      | fail)
    go_ret
    exact ⟨rfl, chain L9 H13.below⟩
end Go.Proofs.YtmflhodiibjpnaaGreatDoor
