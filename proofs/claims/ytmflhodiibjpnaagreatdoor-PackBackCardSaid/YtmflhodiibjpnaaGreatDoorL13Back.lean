/-
  The law PackBack: what has bytes is read from them. Conditions: none.
-/
import Derived.Test.YtmflhodiibjpnaaGreatDoorM13Law
import Derived.Test.YtmflhodiibjpnaaGreatDoorW10Laid
import Derived.ChangeMaps
namespace Go.Proofs.YtmflhodiibjpnaaGreatDoor
set_option linter.unusedVariables false
set_option linter.unusedSimpArgs false
set_option maxRecDepth 10000
open Go.ChangeShapes Go.WideShapes Go.ChangeAt Go.RowKit

theorem whole_size (l : List UInt8) : (wholeO l).1.size ≤ 1048576 := by
  unfold wholeO
  split
  · exact Nat.zero_le _
  · next h => show (ofL l).size ≤ _; rw [ofL_size]; omega
theorem rtO_size (x : RtP) : (rtO x).1.size ≤ 1048576 := by
  unfold rtO
  split
  · exact Nat.zero_le _
  · exact whole_size _
theorem enO_size (x : EnP) : (enO x).1.size ≤ 1048576 := by
  unfold enO
  split
  · split
    · exact Nat.zero_le _
    · exact whole_size _
  · exact Nat.zero_le _
theorem rgO_size (x : RgP) : (rgO x).1.size ≤ 1048576 := by
  unfold rgO
  split
  · exact Nat.zero_le _
  · exact whole_size _
theorem dfO_size (x : DfP) : (dfO x).1.size ≤ 1048576 := by
  unfold dfO
  split
  · exact Nat.zero_le _
  · split
    · exact Nat.zero_le _
    · exact whole_size _
set_option maxRecDepth 100000 in
set_option maxHeartbeats 8000000 in
theorem l13back_any (r : RtP) (e : EnP) (g : RgP) (d : DfP) (A C D P Q : Option Addr) (ac cc dc pc qc : Nat)
    (yr : r.hash.size ≤ 9223372036854775807 ∧ (Word r.h ∧ Word r.l)) (ye : e.leaf.fine ∧ Word e.pos ∧ e.sides.length ≤ 9223372036854775807 ∧ ∀ y ∈ e.sides, y.fine)
    (yg : (Word g.a ∧ Word g.b) ∧ (g.ins.length ≤ 9223372036854775807 ∧ ∀ y ∈ g.ins, y.fine) ∧ g.outs.length ≤ 9223372036854775807 ∧ ∀ y ∈ g.outs, y.fine)
    (yd : (d.chs.length ≤ 9223372036854775807 ∧ ∀ y ∈ d.chs, y.fine) ∧ d.fr.length ≤ 9223372036854775807 ∧ ∀ y ∈ d.fr, y.fine)
    (w : World) (hT : TabU w) (rA : ndS.Row w w.heap.size A e.sides) (rC : ndS.Row w w.heap.size C g.ins) (rD : ndS.Row w w.heap.size D g.outs) (rP : chS.Row w w.heap.size P d.chs) (rQ : ndS.Row w w.heap.size Q d.fr) :
    Calls Tryz.prog 5 #[r.val, .agg (enB e.leaf.pad e.leaf.id e.leaf.salt e.leaf.h e.leaf.l e.pos A e.sides.length ac), .agg (rgB g.a g.b C g.ins.length cc D g.outs.length dc), .agg (dfB P d.chs.length pc Q d.fr.length qc)] w (Tells (.bool true) w.heap.size w) := by
  have cA := fun u hu => awake13_any u hu
  have cL1 := fun u hu => lngE_any e A ac ye.1.1.1 ye.1.1.2 ye.2.2.1 u hu
  have cL2 := fun u h1 h2 => lngR_any g C D cc dc yg.2.1.1 yg.2.2.1 u h1 h2
  have cL3 := fun u h1 h2 => lngD_any d P Q pc qc yd.1.1 (fun y hy => ⟨(yd.1.2 y hy).2.1.1, (yd.1.2 y hy).2.2.1⟩) yd.2.1 u h1 h2
  have hri : decide ((300 : Int) < (r.hash.size : Int)) = decide (300 < r.hash.size) := decide_eq_decide.2 (by omega)
  obtain ⟨b0, hb0⟩ : ∃ b, decide (300 < r.hash.size) = b := ⟨_, rfl⟩
  by_cases hlong : (b0 || (lngE e || (lngR g || lngD d))) = true
  · obtain ⟨b1, hb1⟩ : ∃ b, lngE e = b := ⟨_, rfl⟩
    obtain ⟨b2, hb2⟩ : ∃ b, lngR g = b := ⟨_, rfl⟩
    obtain ⟨b3, hb3⟩ : ∃ b, lngD d = b := ⟨_, rfl⟩
    rw [hb1, hb2, hb3] at hlong
    rw [hb1] at cL1
    rw [hb2] at cL2
    rw [hb3] at cL3
    rw [hb0] at hri
    clear hb0 hb1 hb2 hb3 yr ye yg yd
    obtain ⟨xs, xh, xl, xn⟩ := r
    obtain ⟨⟨ep, ei, es, eh, el⟩, eq, eL⟩ := e
    obtain ⟨ga, gb, gL, gK⟩ := g
    obtain ⟨dL, dK⟩ := d
    simp only [RtP.val] at *
    generalize eL.length = eN at *
    generalize gL.length = gN at *
    generalize gK.length = gM at *
    generalize dL.length = lN at *
    generalize dK.length = mN at *
    have H0 : Has w [(w.heap.size + 1 + 1 + 1, 38, dfB P lN pc Q mN qc), (w.heap.size + 1 + 1, 35, rgB ga gb C gN cc D gM dc), (w.heap.size + 1, 33, enB ep ei es eh el eq A eN ac), (w.heap.size, 26, rtB xs xh xl xn)] ((((w.alloc (.cells (rtB xs xh xl xn) 26)).alloc (.cells (enB ep ei es eh el eq A eN ac) 33)).alloc (.cells (rgB ga gb C gN cc D gM dc) 35)).alloc (.cells (dfB P lN pc Q mN qc) 38)) :=
      ((((Has.start w).add 26 (rtB xs xh xl xn)).addAt 33 (enB ep ei es eh el eq A eN ac) (by simp)).addAt 35 (rgB ga gb C gN cc D gM dc) (by simp)).addAt 38 (dfB P lN pc Q mN qc) (by simp)
    go_enter Tryz.func5, Tryz.ntmps5
    go_upto_region 1 with fail
    change Code.wp _ _ _ _ ((((w.alloc (.cells (rtB xs xh xl xn) 26)).alloc (.cells (enB ep ei es eh el eq A eN ac) 33)).alloc (.cells (rgB ga gb C gN cc D gM dc) 35)).alloc (.cells (dfB P lN pc Q mN qc) 38))
    generalize ((((w.alloc (.cells (rtB xs xh xl xn) 26)).alloc (.cells (enB ep ei es eh el eq A eN ac) 33)).alloc (.cells (rgB ga gb C gN cc D gM dc) 35)).alloc (.cells (dfB P lN pc Q mN qc) 38)) = V0 at *
    go_upto_region 3 with (first | (go_at_call 45; refine (cA _ (hT.call H0.below)).mono ?_; rintro e w1 ⟨rfl, j1⟩) | fail)
    have H := H0.call j1
    clear H0 j1 cA
    have qr0 := (H.box 3).read 0
    have qr1 := (H.box 3).read 1
    have qr2 := (H.box 3).read 2
    have qr3 := (H.box 3).read 3
    have qri := (H.box 3).inside
    have qe0 := (H.box 2).read 0
    have qe1 := (H.box 2).read 1
    have qe2 := (H.box 2).read 2
    have qe3 := (H.box 2).read 3
    have qe4 := (H.box 2).read 4
    have qe5 := (H.box 2).read 5
    have qe6 := (H.box 2).read 6
    have qei := (H.box 2).inside
    have qg0 := (H.box 1).read 0
    have qg1 := (H.box 1).read 1
    have qg2 := (H.box 1).read 2
    have qg3 := (H.box 1).read 3
    have qgi := (H.box 1).inside
    have qd0 := (H.box 0).read 0
    have qd1 := (H.box 0).read 1
    have qdi := (H.box 0).inside
    cases b0 with
    | true =>
      go_wp2
      go_ret
      exact ⟨rfl, H.below⟩
    | false =>
      cases b1 with
      | true =>
        go_wp2_with (first
          | (go_at_call 8; (with_reducible refine (cL1 _ (rA.on H.below)).mono ?_); rintro e w2 ⟨rfl, j2⟩
             have H2 := H.call j2
             have qr0 := (H2.box 3).read 0
             have qr1 := (H2.box 3).read 1
             have qr2 := (H2.box 3).read 2
             have qr3 := (H2.box 3).read 3
             have qri := (H2.box 3).inside
             have qe0 := (H2.box 2).read 0
             have qe1 := (H2.box 2).read 1
             have qe2 := (H2.box 2).read 2
             have qe3 := (H2.box 2).read 3
             have qe4 := (H2.box 2).read 4
             have qe5 := (H2.box 2).read 5
             have qe6 := (H2.box 2).read 6
             have qei := (H2.box 2).inside
             have qg0 := (H2.box 1).read 0
             have qg1 := (H2.box 1).read 1
             have qg2 := (H2.box 1).read 2
             have qg3 := (H2.box 1).read 3
             have qgi := (H2.box 1).inside
             have qd0 := (H2.box 0).read 0
             have qd1 := (H2.box 0).read 1
             have qdi := (H2.box 0).inside
            )
          | fail)
        go_ret
        exact ⟨rfl, H2.below⟩
      | false =>
        cases b2 with
        | true =>
          go_wp2_with (first
            | (go_at_call 8; (with_reducible refine (cL1 _ (rA.on H.below)).mono ?_); rintro e w2 ⟨rfl, j2⟩
               have H2 := H.call j2
               have qr0 := (H2.box 3).read 0
               have qr1 := (H2.box 3).read 1
               have qr2 := (H2.box 3).read 2
               have qr3 := (H2.box 3).read 3
               have qri := (H2.box 3).inside
               have qe0 := (H2.box 2).read 0
               have qe1 := (H2.box 2).read 1
               have qe2 := (H2.box 2).read 2
               have qe3 := (H2.box 2).read 3
               have qe4 := (H2.box 2).read 4
               have qe5 := (H2.box 2).read 5
               have qe6 := (H2.box 2).read 6
               have qei := (H2.box 2).inside
               have qg0 := (H2.box 1).read 0
               have qg1 := (H2.box 1).read 1
               have qg2 := (H2.box 1).read 2
               have qg3 := (H2.box 1).read 3
               have qgi := (H2.box 1).inside
               have qd0 := (H2.box 0).read 0
               have qd1 := (H2.box 0).read 1
               have qdi := (H2.box 0).inside
              )
            | (go_at_call 9; (with_reducible refine (cL2 _ (rC.on H2.below) (rD.on H2.below)).mono ?_); rintro e w3 ⟨rfl, j3⟩
               have H3 := H2.call j3
               have qr0 := (H3.box 3).read 0
               have qr1 := (H3.box 3).read 1
               have qr2 := (H3.box 3).read 2
               have qr3 := (H3.box 3).read 3
               have qri := (H3.box 3).inside
               have qe0 := (H3.box 2).read 0
               have qe1 := (H3.box 2).read 1
               have qe2 := (H3.box 2).read 2
               have qe3 := (H3.box 2).read 3
               have qe4 := (H3.box 2).read 4
               have qe5 := (H3.box 2).read 5
               have qe6 := (H3.box 2).read 6
               have qei := (H3.box 2).inside
               have qg0 := (H3.box 1).read 0
               have qg1 := (H3.box 1).read 1
               have qg2 := (H3.box 1).read 2
               have qg3 := (H3.box 1).read 3
               have qgi := (H3.box 1).inside
               have qd0 := (H3.box 0).read 0
               have qd1 := (H3.box 0).read 1
               have qdi := (H3.box 0).inside
              )
            | fail)
          go_ret
          exact ⟨rfl, H3.below⟩
        | false =>
          cases b3 with
          | true =>
            go_wp2_with (first
              | (go_at_call 8; (with_reducible refine (cL1 _ (rA.on H.below)).mono ?_); rintro e w2 ⟨rfl, j2⟩
                 have H2 := H.call j2
                 have qr0 := (H2.box 3).read 0
                 have qr1 := (H2.box 3).read 1
                 have qr2 := (H2.box 3).read 2
                 have qr3 := (H2.box 3).read 3
                 have qri := (H2.box 3).inside
                 have qe0 := (H2.box 2).read 0
                 have qe1 := (H2.box 2).read 1
                 have qe2 := (H2.box 2).read 2
                 have qe3 := (H2.box 2).read 3
                 have qe4 := (H2.box 2).read 4
                 have qe5 := (H2.box 2).read 5
                 have qe6 := (H2.box 2).read 6
                 have qei := (H2.box 2).inside
                 have qg0 := (H2.box 1).read 0
                 have qg1 := (H2.box 1).read 1
                 have qg2 := (H2.box 1).read 2
                 have qg3 := (H2.box 1).read 3
                 have qgi := (H2.box 1).inside
                 have qd0 := (H2.box 0).read 0
                 have qd1 := (H2.box 0).read 1
                 have qdi := (H2.box 0).inside
                )
              | (go_at_call 9; (with_reducible refine (cL2 _ (rC.on H2.below) (rD.on H2.below)).mono ?_); rintro e w3 ⟨rfl, j3⟩
                 have H3 := H2.call j3
                 have qr0 := (H3.box 3).read 0
                 have qr1 := (H3.box 3).read 1
                 have qr2 := (H3.box 3).read 2
                 have qr3 := (H3.box 3).read 3
                 have qri := (H3.box 3).inside
                 have qe0 := (H3.box 2).read 0
                 have qe1 := (H3.box 2).read 1
                 have qe2 := (H3.box 2).read 2
                 have qe3 := (H3.box 2).read 3
                 have qe4 := (H3.box 2).read 4
                 have qe5 := (H3.box 2).read 5
                 have qe6 := (H3.box 2).read 6
                 have qei := (H3.box 2).inside
                 have qg0 := (H3.box 1).read 0
                 have qg1 := (H3.box 1).read 1
                 have qg2 := (H3.box 1).read 2
                 have qg3 := (H3.box 1).read 3
                 have qgi := (H3.box 1).inside
                 have qd0 := (H3.box 0).read 0
                 have qd1 := (H3.box 0).read 1
                 have qdi := (H3.box 0).inside
                )
              | (go_at_call 10; (with_reducible refine (cL3 _ (rP.on H3.below) (rQ.on H3.below)).mono ?_); rintro e w4 ⟨rfl, j4⟩
                 have H4 := H3.call j4
                 have qr0 := (H4.box 3).read 0
                 have qr1 := (H4.box 3).read 1
                 have qr2 := (H4.box 3).read 2
                 have qr3 := (H4.box 3).read 3
                 have qri := (H4.box 3).inside
                 have qe0 := (H4.box 2).read 0
                 have qe1 := (H4.box 2).read 1
                 have qe2 := (H4.box 2).read 2
                 have qe3 := (H4.box 2).read 3
                 have qe4 := (H4.box 2).read 4
                 have qe5 := (H4.box 2).read 5
                 have qe6 := (H4.box 2).read 6
                 have qei := (H4.box 2).inside
                 have qg0 := (H4.box 1).read 0
                 have qg1 := (H4.box 1).read 1
                 have qg2 := (H4.box 1).read 2
                 have qg3 := (H4.box 1).read 3
                 have qgi := (H4.box 1).inside
                 have qd0 := (H4.box 0).read 0
                 have qd1 := (H4.box 0).read 1
                 have qdi := (H4.box 0).inside
                )
              | fail)
            go_ret
            exact ⟨rfl, H4.below⟩
          | false => exact absurd hlong (by decide)
  · rw [Bool.not_eq_true, Bool.or_eq_false_iff, Bool.or_eq_false_iff, Bool.or_eq_false_iff] at hlong
    obtain ⟨m1, m2, m3, m4⟩ := hlong
    rw [m2] at cL1
    rw [m3] at cL2
    rw [m4] at cL3
    rw [hb0, m1] at hri
    have n1 : r.hash.size ≤ 300 := by rw [m1] at hb0; have := of_decide_eq_false hb0; omega
    have n2 := lngE_no m2
    have n3 := lngR_no m3
    have n4 := lngD_no m4
    have c1 := fun u => root_any r (by omega) yr.2 u
    have c2 := fun u h1 h2 => entry_any e (lf_ok n2.1 ye.1) ye.2.1 A ac (nds_ok n2.2 ye.2.2.2) u h1 h2
    have c3 := fun u h1 h2 => range_any g yg.1 C D cc dc (nds_ok n3.1 yg.2.1.2) (nds_ok n3.2 yg.2.2.2) u h1 h2
    have c4 := fun u h1 h2 h3 => diff_any d P Q pc qc (chs_ok n4.1 yd.1.2) (nds_ok n4.2 yd.2.2) u h1 h2 h3
    have d1 := fun u => readroot_any (rtO r).1 (by have := rtO_size r; omega) u
    have d2 := fun u hu => readentry_any (enO e).1 (by have := enO_size e; omega) u hu
    have d3 := fun u => readrange_any (rgO g).1 (by have := rgO_size g; omega) u
    have d4 := fun u hu => readdiff_any (dfO d).1 (by have := dfO_size d; omega) u hu
    have t1 := fun u => told_any (rtO r) (by have := rtO_size r; omega) (rt_fair r).1 u
    have t2 := fun u => told_any (enO e) (by have := enO_size e; omega) (en_fair e).1 u
    have t3 := fun u => told_any (rgO g) (by have := rgO_size g; omega) (rg_fair g).1 u
    have t4 := fun u => told_any (dfO d) (by have := dfO_size d; omega) (df_fair d) u
    have cM := fun u hu => mayLeaf_any e.leaf ye.1.1.1 ye.1.1.2 u hu
    have s2 := fun (U : Option Addr) (uc : Nat) u h1 h2 => rsameEntry_any e e U A uc ac (by have := n2.2.1; omega) (by have := n2.2.1; omega) u h1 h2
    have s3 := fun (U V : Option Addr) (uc vc : Nat) u h1 h2 h3 h4 => rsameRange_any g g U V C D uc vc cc dc (by have := n3.1.1; omega) (by have := n3.1.1; omega) (by have := n3.2.1; omega) (by have := n3.2.1; omega) u h1 h2 h3 h4
    have s4 := fun (U V : Option Addr) (uc vc : Nat) u h1 h2 h3 h4 => rsameDiff_any d d U V P Q uc vc pc qc (by have := n4.1.1; omega) (by have := n4.1.1; omega) (by have := n4.2.1; omega) (by have := n4.2.1; omega) u h1 h2 h3 h4
    rw [(EnP.same_iff e e).2 rfl] at s2
    rw [(RgP.same_iff g g).2 rfl] at s3
    rw [(DfP.same_iff d d).2 rfl] at s4
    have hq := fun u : World => run_neq_rt r r u
    rw [RtP.same_self] at hq
    have we : e.w := ⟨ye.1.2, ye.2.1, fun y hy => (ye.2.2.2 y hy).2⟩
    have wg : g.w := ⟨yg.1.1, yg.1.2, fun y hy => (yg.2.1.2 y hy).2, fun y hy => (yg.2.2.2 y hy).2⟩
    have wd : d.w := ⟨fun y hy => ⟨(yd.1.2 y hy).1, (yd.1.2 y hy).2.1.2, (yd.1.2 y hy).2.2.2⟩, fun y hy => (yd.2.2 y hy).2⟩
    have hx1 : (rtO r).2 = 0 → readO rtG rtO RtP.zero (rtO r).1 = (r, 0) := fun h => read_told rtC rt_tells yr.2 (Prod.ext rfl h)
    have hx2 : (enO e).2 = 0 → readO enG enO EnP.zero (enO e).1 = (e, 0) ∧ e.leaf.may = true := fun h => ⟨read_told enC en_tells we (Prod.ext rfl h), by
      cases hm : e.leaf.may with
      | true => rfl
      | false => have := (en_fair e).2.2 hm; rw [h] at this; cases this⟩
    have hx3 : (rgO g).2 = 0 → readO rgG rgO RgP.zero (rgO g).1 = (g, 0) := fun h => read_told rgC rg_tells wg (Prod.ext rfl h)
    have hx4 : (dfO d).2 = 0 → readO dfG dfO DfP.zero (dfO d).1 = (d, 0) := fun h => read_told dfC df_tells wd (Prod.ext rfl h)
    have g1 : ((rtO r).2 != 130) = true := by have := (rt_fair r).2; simpa using this
    have g3 : ((rgO g).2 != 130) = true := by have := (rg_fair g).2; simpa using this
    have g2 : ((enO e).2 == 130) = !e.leaf.may := by
      have := (en_fair e).2
      cases hm : e.leaf.may with
      | true => have h2 : (enO e).2 ≠ 130 := fun h => by rw [this.1 h] at hm; cases hm
                simpa using h2
      | false => rw [this.2 hm]; rfl
    generalize hPP : rtO r = P1 at *
    generalize enO e = P2 at *
    generalize rgO g = P3 at *
    generalize dfO d = P4 at *
    obtain ⟨p1, k1⟩ := P1
    obtain ⟨p2, k2⟩ := P2
    obtain ⟨p3, k3⟩ := P3
    obtain ⟨p4, k4⟩ := P4
    simp only at hx1 hx2 hx3 hx4 g1 g2 g3 t1 t2 t3 t4 c1 c2 c3 c4 d1 d2 d3 d4
    clear hPP
    generalize hmb : e.leaf.may = mb at *
    clear hmb
    obtain ⟨z1, hz1⟩ : ∃ z, (k1 == 0) = z := ⟨_, rfl⟩
    obtain ⟨z2, hz2⟩ : ∃ z, (k2 == 0) = z := ⟨_, rfl⟩
    obtain ⟨z3, hz3⟩ : ∃ z, (k3 == 0) = z := ⟨_, rfl⟩
    obtain ⟨z4, hz4⟩ : ∃ z, (k4 == 0) = z := ⟨_, rfl⟩
    have X1 : Hid (z1 = true → readO rtG rtO RtP.zero p1 = (r, 0)) := hideIt fun a => hx1 (by rw [a] at hz1; simpa using hz1)
    have X2 : Hid (z2 = true → readO enG enO EnP.zero p2 = (e, 0) ∧ mb = true) := hideIt fun a => hx2 (by rw [a] at hz2; simpa using hz2)
    have X3 : Hid (z3 = true → readO rgG rgO RgP.zero p3 = (g, 0)) := hideIt fun a => hx3 (by rw [a] at hz3; simpa using hz3)
    have X4 : Hid (z4 = true → readO dfG dfO DfP.zero p4 = (d, 0)) := hideIt fun a => hx4 (by rw [a] at hz4; simpa using hz4)
    clear hx1 hx2 hx3 hx4 we wg wd n1 n2 n3 n4 m1 m2 m3 m4 yr ye yg yd hb0
    obtain ⟨xs, xh, xl, xn⟩ := r
    obtain ⟨⟨ep, ei, es, eh, el⟩, eq, eL⟩ := e
    obtain ⟨ga, gb, gL, gK⟩ := g
    obtain ⟨dL, dK⟩ := d
    simp only [RtP.val, Lf.val] at *
    obtain ⟨eN, hN1⟩ : ∃ n, eL.length = n := ⟨_, rfl⟩
    obtain ⟨gN, hN2⟩ : ∃ n, gL.length = n := ⟨_, rfl⟩
    obtain ⟨gM, hN3⟩ : ∃ n, gK.length = n := ⟨_, rfl⟩
    obtain ⟨lN, hN4⟩ : ∃ n, dL.length = n := ⟨_, rfl⟩
    obtain ⟨mN, hN5⟩ : ∃ n, dK.length = n := ⟨_, rfl⟩
    rw [hN1] at cL1 c2 s2
    rw [hN2, hN3] at cL2 c3 s3
    rw [hN4, hN5] at cL3 c4 s4
    rw [hN1, hN2, hN3, hN4, hN5]
    have H0 : Has w [(w.heap.size + 1 + 1 + 1, 38, dfB P lN pc Q mN qc), (w.heap.size + 1 + 1, 35, rgB ga gb C gN cc D gM dc), (w.heap.size + 1, 33, enB ep ei es eh el eq A eN ac), (w.heap.size, 26, rtB xs xh xl xn)] ((((w.alloc (.cells (rtB xs xh xl xn) 26)).alloc (.cells (enB ep ei es eh el eq A eN ac) 33)).alloc (.cells (rgB ga gb C gN cc D gM dc) 35)).alloc (.cells (dfB P lN pc Q mN qc) 38)) :=
      ((((Has.start w).add 26 (rtB xs xh xl xn)).addAt 33 (enB ep ei es eh el eq A eN ac) (by simp)).addAt 35 (rgB ga gb C gN cc D gM dc) (by simp)).addAt 38 (dfB P lN pc Q mN qc) (by simp)
    go_enter Tryz.func5, Tryz.ntmps5
    go_upto_region 1 with fail
    change Code.wp _ _ _ _ ((((w.alloc (.cells (rtB xs xh xl xn) 26)).alloc (.cells (enB ep ei es eh el eq A eN ac) 33)).alloc (.cells (rgB ga gb C gN cc D gM dc) 35)).alloc (.cells (dfB P lN pc Q mN qc) 38))
    generalize ((((w.alloc (.cells (rtB xs xh xl xn) 26)).alloc (.cells (enB ep ei es eh el eq A eN ac) 33)).alloc (.cells (rgB ga gb C gN cc D gM dc) 35)).alloc (.cells (dfB P lN pc Q mN qc) 38)) = V0 at *
    go_upto_region 3 with (first | (go_at_call 45; refine (cA _ (hT.call H0.below)).mono ?_; rintro e w1 ⟨rfl, j1⟩) | fail)
    have H := H0.call j1
    clear H0 j1 cA
    have qr0 := (H.box 3).read 0
    have qr1 := (H.box 3).read 1
    have qr2 := (H.box 3).read 2
    have qr3 := (H.box 3).read 3
    have qri := (H.box 3).inside
    have qe0 := (H.box 2).read 0
    have qe1 := (H.box 2).read 1
    have qe2 := (H.box 2).read 2
    have qe3 := (H.box 2).read 3
    have qe4 := (H.box 2).read 4
    have qe5 := (H.box 2).read 5
    have qe6 := (H.box 2).read 6
    have qei := (H.box 2).inside
    have qg0 := (H.box 1).read 0
    have qg1 := (H.box 1).read 1
    have qg2 := (H.box 1).read 2
    have qg3 := (H.box 1).read 3
    have qgi := (H.box 1).inside
    have qd0 := (H.box 0).read 0
    have qd1 := (H.box 0).read 1
    have qdi := (H.box 0).inside
    go_upto_region 5 with (first
      | (go_at_call 8; (with_reducible refine (cL1 _ (rA.on H.below)).mono ?_); rintro e w2 ⟨rfl, j2⟩
         have H2 := H.call j2
         have qr0 := (H2.box 3).read 0
         have qr1 := (H2.box 3).read 1
         have qr2 := (H2.box 3).read 2
         have qr3 := (H2.box 3).read 3
         have qri := (H2.box 3).inside
         have qe0 := (H2.box 2).read 0
         have qe1 := (H2.box 2).read 1
         have qe2 := (H2.box 2).read 2
         have qe3 := (H2.box 2).read 3
         have qe4 := (H2.box 2).read 4
         have qe5 := (H2.box 2).read 5
         have qe6 := (H2.box 2).read 6
         have qei := (H2.box 2).inside
         have qg0 := (H2.box 1).read 0
         have qg1 := (H2.box 1).read 1
         have qg2 := (H2.box 1).read 2
         have qg3 := (H2.box 1).read 3
         have qgi := (H2.box 1).inside
         have qd0 := (H2.box 0).read 0
         have qd1 := (H2.box 0).read 1
         have qdi := (H2.box 0).inside
        )
      | (go_at_call 9; (with_reducible refine (cL2 _ (rC.on H2.below) (rD.on H2.below)).mono ?_); rintro e w3 ⟨rfl, j3⟩
         have H3 := H2.call j3
         have qr0 := (H3.box 3).read 0
         have qr1 := (H3.box 3).read 1
         have qr2 := (H3.box 3).read 2
         have qr3 := (H3.box 3).read 3
         have qri := (H3.box 3).inside
         have qe0 := (H3.box 2).read 0
         have qe1 := (H3.box 2).read 1
         have qe2 := (H3.box 2).read 2
         have qe3 := (H3.box 2).read 3
         have qe4 := (H3.box 2).read 4
         have qe5 := (H3.box 2).read 5
         have qe6 := (H3.box 2).read 6
         have qei := (H3.box 2).inside
         have qg0 := (H3.box 1).read 0
         have qg1 := (H3.box 1).read 1
         have qg2 := (H3.box 1).read 2
         have qg3 := (H3.box 1).read 3
         have qgi := (H3.box 1).inside
         have qd0 := (H3.box 0).read 0
         have qd1 := (H3.box 0).read 1
         have qdi := (H3.box 0).inside
        )
      | (go_at_call 10; (with_reducible refine (cL3 _ (rP.on H3.below) (rQ.on H3.below)).mono ?_); rintro e w4 ⟨rfl, j4⟩
         have H4 := H3.call j4
         have qr0 := (H4.box 3).read 0
         have qr1 := (H4.box 3).read 1
         have qr2 := (H4.box 3).read 2
         have qr3 := (H4.box 3).read 3
         have qri := (H4.box 3).inside
         have qe0 := (H4.box 2).read 0
         have qe1 := (H4.box 2).read 1
         have qe2 := (H4.box 2).read 2
         have qe3 := (H4.box 2).read 3
         have qe4 := (H4.box 2).read 4
         have qe5 := (H4.box 2).read 5
         have qe6 := (H4.box 2).read 6
         have qei := (H4.box 2).inside
         have qg0 := (H4.box 1).read 0
         have qg1 := (H4.box 1).read 1
         have qg2 := (H4.box 1).read 2
         have qg3 := (H4.box 1).read 3
         have qgi := (H4.box 1).inside
         have qd0 := (H4.box 0).read 0
         have qd1 := (H4.box 0).read 1
         have qdi := (H4.box 0).inside
        )
      | fail)
    go_upto_region 9 with (first
      | (go_at_call 13; (with_reducible refine (c1 _).mono ?_); rintro e w5 ⟨rfl, j5⟩
         have H5 := H4.call j5
         have qr0 := (H5.box 3).read 0
         have qr1 := (H5.box 3).read 1
         have qr2 := (H5.box 3).read 2
         have qr3 := (H5.box 3).read 3
         have qri := (H5.box 3).inside
         have qe0 := (H5.box 2).read 0
         have qe1 := (H5.box 2).read 1
         have qe2 := (H5.box 2).read 2
         have qe3 := (H5.box 2).read 3
         have qe4 := (H5.box 2).read 4
         have qe5 := (H5.box 2).read 5
         have qe6 := (H5.box 2).read 6
         have qei := (H5.box 2).inside
         have qg0 := (H5.box 1).read 0
         have qg1 := (H5.box 1).read 1
         have qg2 := (H5.box 1).read 2
         have qg3 := (H5.box 1).read 3
         have qgi := (H5.box 1).inside
         have qd0 := (H5.box 0).read 0
         have qd1 := (H5.box 0).read 1
         have qdi := (H5.box 0).inside
        )
      | (go_at_call 17; (with_reducible refine (c2 _ (hT.call H5.below) (rA.on H5.below)).mono ?_); rintro e w6 ⟨rfl, j6⟩
         have H6 := H5.call j6
         have qr0 := (H6.box 3).read 0
         have qr1 := (H6.box 3).read 1
         have qr2 := (H6.box 3).read 2
         have qr3 := (H6.box 3).read 3
         have qri := (H6.box 3).inside
         have qe0 := (H6.box 2).read 0
         have qe1 := (H6.box 2).read 1
         have qe2 := (H6.box 2).read 2
         have qe3 := (H6.box 2).read 3
         have qe4 := (H6.box 2).read 4
         have qe5 := (H6.box 2).read 5
         have qe6 := (H6.box 2).read 6
         have qei := (H6.box 2).inside
         have qg0 := (H6.box 1).read 0
         have qg1 := (H6.box 1).read 1
         have qg2 := (H6.box 1).read 2
         have qg3 := (H6.box 1).read 3
         have qgi := (H6.box 1).inside
         have qd0 := (H6.box 0).read 0
         have qd1 := (H6.box 0).read 1
         have qdi := (H6.box 0).inside
        )
      | (go_at_call 19; (with_reducible refine (c3 _ (rC.on H6.below) (rD.on H6.below)).mono ?_); rintro e w7 ⟨rfl, j7⟩
         have H7 := H6.call j7
         have qr0 := (H7.box 3).read 0
         have qr1 := (H7.box 3).read 1
         have qr2 := (H7.box 3).read 2
         have qr3 := (H7.box 3).read 3
         have qri := (H7.box 3).inside
         have qe0 := (H7.box 2).read 0
         have qe1 := (H7.box 2).read 1
         have qe2 := (H7.box 2).read 2
         have qe3 := (H7.box 2).read 3
         have qe4 := (H7.box 2).read 4
         have qe5 := (H7.box 2).read 5
         have qe6 := (H7.box 2).read 6
         have qei := (H7.box 2).inside
         have qg0 := (H7.box 1).read 0
         have qg1 := (H7.box 1).read 1
         have qg2 := (H7.box 1).read 2
         have qg3 := (H7.box 1).read 3
         have qgi := (H7.box 1).inside
         have qd0 := (H7.box 0).read 0
         have qd1 := (H7.box 0).read 1
         have qdi := (H7.box 0).inside
        )
      | (go_at_call 21; (with_reducible refine (c4 _ (hT.call H7.below) (rP.on H7.below) (rQ.on H7.below)).mono ?_); rintro e w8 ⟨rfl, j8⟩
         have H8 := H7.call j8
         have qr0 := (H8.box 3).read 0
         have qr1 := (H8.box 3).read 1
         have qr2 := (H8.box 3).read 2
         have qr3 := (H8.box 3).read 3
         have qri := (H8.box 3).inside
         have qe0 := (H8.box 2).read 0
         have qe1 := (H8.box 2).read 1
         have qe2 := (H8.box 2).read 2
         have qe3 := (H8.box 2).read 3
         have qe4 := (H8.box 2).read 4
         have qe5 := (H8.box 2).read 5
         have qe6 := (H8.box 2).read 6
         have qei := (H8.box 2).inside
         have qg0 := (H8.box 1).read 0
         have qg1 := (H8.box 1).read 1
         have qg2 := (H8.box 1).read 2
         have qg3 := (H8.box 1).read 3
         have qgi := (H8.box 1).inside
         have qd0 := (H8.box 0).read 0
         have qd1 := (H8.box 0).read 1
         have qdi := (H8.box 0).inside
        )
      | fail)
    have HZ := H8
    clear H H2 H3 H4 H5 H6 H7 H8 c1 c2 c3 c4 cL1 cL2 cL3
    go_upto_if 64 with fail
    go_cut [] (fun wx => Has w [(w.heap.size + 1 + 1 + 1, 38, dfB P lN pc Q mN qc), (w.heap.size + 1 + 1, 35, rgB ga gb C gN cc D gM dc), (w.heap.size + 1, 33, enB ep ei es eh el eq A eN ac), (w.heap.size, 26, rtB xs xh xl xn)] wx)
    case first =>
      cases z1 with
      | false =>
        go_wp2
        go_meet
        exact HZ
      | true =>
        have x1 := X1.out rfl
        rw [x1] at d1
        go_wp2_with (first
          | (go_at_call 35; (with_reducible refine (d1 _).mono ?_); rintro e va ⟨rfl, ja⟩
             have HY := (HZ.call ja).add 26 (rtB xs xh xl xn)
             have qr0 := (HY.box 4).read 0
             have qr1 := (HY.box 4).read 1
             have qr2 := (HY.box 4).read 2
             have qr3 := (HY.box 4).read 3
             have qri := (HY.box 4).inside
             have qe0 := (HY.box 3).read 0
             have qe1 := (HY.box 3).read 1
             have qe2 := (HY.box 3).read 2
             have qe3 := (HY.box 3).read 3
             have qe4 := (HY.box 3).read 4
             have qe5 := (HY.box 3).read 5
             have qe6 := (HY.box 3).read 6
             have qei := (HY.box 3).inside
             have qg0 := (HY.box 2).read 0
             have qg1 := (HY.box 2).read 1
             have qg2 := (HY.box 2).read 2
             have qg3 := (HY.box 2).read 3
             have qgi := (HY.box 2).inside
             have qd0 := (HY.box 1).read 0
             have qd1 := (HY.box 1).read 1
             have qdi := (HY.box 1).inside
             have qy0 := (HY.box 0).read 0
             have qy1 := (HY.box 0).read 1
             have qy2 := (HY.box 0).read 2
             have qy3 := (HY.box 0).read 3
             have qyi := (HY.box 0).inside
            )
          | fail)
        go_meet
        exact HY.tail
    case rest =>
      clear HZ
      have HZ := hcut
      clear hcut qr0 qr1 qr2 qr3 qe0 qe1 qe2 qe3 qe4 qe5 qe6 qg0 qg1 qg2 qg3 qd0 qd1 qri qei qgi qdi
      have qr0 := (HZ.box 3).read 0
      have qr1 := (HZ.box 3).read 1
      have qr2 := (HZ.box 3).read 2
      have qr3 := (HZ.box 3).read 3
      have qri := (HZ.box 3).inside
      have qe0 := (HZ.box 2).read 0
      have qe1 := (HZ.box 2).read 1
      have qe2 := (HZ.box 2).read 2
      have qe3 := (HZ.box 2).read 3
      have qe4 := (HZ.box 2).read 4
      have qe5 := (HZ.box 2).read 5
      have qe6 := (HZ.box 2).read 6
      have qei := (HZ.box 2).inside
      have qg0 := (HZ.box 1).read 0
      have qg1 := (HZ.box 1).read 1
      have qg2 := (HZ.box 1).read 2
      have qg3 := (HZ.box 1).read 3
      have qgi := (HZ.box 1).inside
      have qd0 := (HZ.box 0).read 0
      have qd1 := (HZ.box 0).read 1
      have qdi := (HZ.box 0).inside
      go_upto_if 78 with fail
      go_cut [] (fun wx => Has w [(w.heap.size + 1 + 1 + 1, 38, dfB P lN pc Q mN qc), (w.heap.size + 1 + 1, 35, rgB ga gb C gN cc D gM dc), (w.heap.size + 1, 33, enB ep ei es eh el eq A eN ac), (w.heap.size, 26, rtB xs xh xl xn)] wx)
      case first =>
        cases z2 with
        | false =>
          go_wp2
          go_meet
          exact HZ
        | true =>
          obtain ⟨x2, m2⟩ := X2.out rfl
          rw [x2] at d2
          rw [m2] at cM
          unfold EnTells at d2
          simp only [hN1] at d2
          go_wp2_with (first
            | (go_at_call 39; (with_reducible refine (d2 _ (hT.call HZ.below)).mono ?_); rintro e va ⟨U, uc, rfl, -, FU, ja⟩
               have HY := (HZ.call ja).add 33 (enB ep ei es eh el eq U eN uc)
               have RU := FU.1.on (chainA (Below.refl _ _) (.cells (enB ep ei es eh el eq U eN uc) 33))
               have qr0 := (HY.box 4).read 0
               have qr1 := (HY.box 4).read 1
               have qr2 := (HY.box 4).read 2
               have qr3 := (HY.box 4).read 3
               have qri := (HY.box 4).inside
               have qe0 := (HY.box 3).read 0
               have qe1 := (HY.box 3).read 1
               have qe2 := (HY.box 3).read 2
               have qe3 := (HY.box 3).read 3
               have qe4 := (HY.box 3).read 4
               have qe5 := (HY.box 3).read 5
               have qe6 := (HY.box 3).read 6
               have qei := (HY.box 3).inside
               have qg0 := (HY.box 2).read 0
               have qg1 := (HY.box 2).read 1
               have qg2 := (HY.box 2).read 2
               have qg3 := (HY.box 2).read 3
               have qgi := (HY.box 2).inside
               have qd0 := (HY.box 1).read 0
               have qd1 := (HY.box 1).read 1
               have qdi := (HY.box 1).inside
               have qy0 := (HY.box 0).read 0
               have qy1 := (HY.box 0).read 1
               have qy2 := (HY.box 0).read 2
               have qy3 := (HY.box 0).read 3
               have qy4 := (HY.box 0).read 4
               have qy5 := (HY.box 0).read 5
               have qy6 := (HY.box 0).read 6
               have qyi := (HY.box 0).inside
              )
            | (go_at_call 25; (with_reducible refine (s2 _ _ _ RU (rA.on HY.below)).mono ?_); rintro e vb ⟨rfl, jb⟩
               have HW := HY.call jb
               have qr0 := (HW.box 4).read 0
               have qr1 := (HW.box 4).read 1
               have qr2 := (HW.box 4).read 2
               have qr3 := (HW.box 4).read 3
               have qri := (HW.box 4).inside
               have qe0 := (HW.box 3).read 0
               have qe1 := (HW.box 3).read 1
               have qe2 := (HW.box 3).read 2
               have qe3 := (HW.box 3).read 3
               have qe4 := (HW.box 3).read 4
               have qe5 := (HW.box 3).read 5
               have qe6 := (HW.box 3).read 6
               have qei := (HW.box 3).inside
               have qg0 := (HW.box 2).read 0
               have qg1 := (HW.box 2).read 1
               have qg2 := (HW.box 2).read 2
               have qg3 := (HW.box 2).read 3
               have qgi := (HW.box 2).inside
               have qd0 := (HW.box 1).read 0
               have qd1 := (HW.box 1).read 1
               have qdi := (HW.box 1).inside
              )
            | (go_at_call 46; (with_reducible refine (cM _ (hT.call HW.below)).mono ?_); rintro e vd ⟨rfl, jd⟩)
            | fail)
          go_meet
          exact (HW.call jd).tail
      case rest =>
        clear HZ
        have HZ := hcut
        clear hcut qr0 qr1 qr2 qr3 qe0 qe1 qe2 qe3 qe4 qe5 qe6 qg0 qg1 qg2 qg3 qd0 qd1 qri qei qgi qdi
        have qr0 := (HZ.box 3).read 0
        have qr1 := (HZ.box 3).read 1
        have qr2 := (HZ.box 3).read 2
        have qr3 := (HZ.box 3).read 3
        have qri := (HZ.box 3).inside
        have qe0 := (HZ.box 2).read 0
        have qe1 := (HZ.box 2).read 1
        have qe2 := (HZ.box 2).read 2
        have qe3 := (HZ.box 2).read 3
        have qe4 := (HZ.box 2).read 4
        have qe5 := (HZ.box 2).read 5
        have qe6 := (HZ.box 2).read 6
        have qei := (HZ.box 2).inside
        have qg0 := (HZ.box 1).read 0
        have qg1 := (HZ.box 1).read 1
        have qg2 := (HZ.box 1).read 2
        have qg3 := (HZ.box 1).read 3
        have qgi := (HZ.box 1).inside
        have qd0 := (HZ.box 0).read 0
        have qd1 := (HZ.box 0).read 1
        have qdi := (HZ.box 0).inside
        go_upto_if 99 with fail
        go_cut [] (fun wx => Has w [(w.heap.size + 1 + 1 + 1, 38, dfB P lN pc Q mN qc), (w.heap.size + 1 + 1, 35, rgB ga gb C gN cc D gM dc), (w.heap.size + 1, 33, enB ep ei es eh el eq A eN ac), (w.heap.size, 26, rtB xs xh xl xn)] wx)
        case first =>
          cases z3 with
          | false =>
            go_wp2
            go_meet
            exact HZ
          | true =>
            have x3 := X3.out rfl
            rw [x3] at d3
            unfold RgTells at d3
            simp only [hN2, hN3] at d3
            go_wp2_with (first
              | (go_at_call 41; (with_reducible refine (d3 _).mono ?_); rintro e va ⟨U, uc, V, vc, rfl, -, -, FU, FV, ja⟩
                 have HY := (HZ.call ja).add 35 (rgB ga gb U gN uc V gM vc)
                 have RU := FU.1.on (chainA (Below.refl _ _) (.cells (rgB ga gb U gN uc V gM vc) 35))
                 have RV := FV.1.on (chainA (Below.refl _ _) (.cells (rgB ga gb U gN uc V gM vc) 35))
                 have qr0 := (HY.box 4).read 0
                 have qr1 := (HY.box 4).read 1
                 have qr2 := (HY.box 4).read 2
                 have qr3 := (HY.box 4).read 3
                 have qri := (HY.box 4).inside
                 have qe0 := (HY.box 3).read 0
                 have qe1 := (HY.box 3).read 1
                 have qe2 := (HY.box 3).read 2
                 have qe3 := (HY.box 3).read 3
                 have qe4 := (HY.box 3).read 4
                 have qe5 := (HY.box 3).read 5
                 have qe6 := (HY.box 3).read 6
                 have qei := (HY.box 3).inside
                 have qg0 := (HY.box 2).read 0
                 have qg1 := (HY.box 2).read 1
                 have qg2 := (HY.box 2).read 2
                 have qg3 := (HY.box 2).read 3
                 have qgi := (HY.box 2).inside
                 have qd0 := (HY.box 1).read 0
                 have qd1 := (HY.box 1).read 1
                 have qdi := (HY.box 1).inside
                 have qy0 := (HY.box 0).read 0
                 have qy1 := (HY.box 0).read 1
                 have qy2 := (HY.box 0).read 2
                 have qy3 := (HY.box 0).read 3
                 have qyi := (HY.box 0).inside
                )
              | (go_at_call 27; (with_reducible refine (s3 _ _ _ _ _ RU (rC.on HY.below) RV (rD.on HY.below)).mono ?_); rintro e vb ⟨rfl, jb⟩)
              | fail)
            go_meet
            exact (HY.call jb).tail
        case rest =>
          clear HZ
          have HZ := hcut
          clear hcut qr0 qr1 qr2 qr3 qe0 qe1 qe2 qe3 qe4 qe5 qe6 qg0 qg1 qg2 qg3 qd0 qd1 qri qei qgi qdi
          have qr0 := (HZ.box 3).read 0
          have qr1 := (HZ.box 3).read 1
          have qr2 := (HZ.box 3).read 2
          have qr3 := (HZ.box 3).read 3
          have qri := (HZ.box 3).inside
          have qe0 := (HZ.box 2).read 0
          have qe1 := (HZ.box 2).read 1
          have qe2 := (HZ.box 2).read 2
          have qe3 := (HZ.box 2).read 3
          have qe4 := (HZ.box 2).read 4
          have qe5 := (HZ.box 2).read 5
          have qe6 := (HZ.box 2).read 6
          have qei := (HZ.box 2).inside
          have qg0 := (HZ.box 1).read 0
          have qg1 := (HZ.box 1).read 1
          have qg2 := (HZ.box 1).read 2
          have qg3 := (HZ.box 1).read 3
          have qgi := (HZ.box 1).inside
          have qd0 := (HZ.box 0).read 0
          have qd1 := (HZ.box 0).read 1
          have qdi := (HZ.box 0).inside
          go_upto_if 114 with fail
          go_cut [] (fun wx => Has w [(w.heap.size + 1 + 1 + 1, 38, dfB P lN pc Q mN qc), (w.heap.size + 1 + 1, 35, rgB ga gb C gN cc D gM dc), (w.heap.size + 1, 33, enB ep ei es eh el eq A eN ac), (w.heap.size, 26, rtB xs xh xl xn)] wx)
          case first =>
            cases z4 with
            | false =>
              go_wp2
              go_meet
              exact HZ
            | true =>
              have x4 := X4.out rfl
              rw [x4] at d4
              unfold DfTells at d4
              simp only [hN4, hN5] at d4
              go_wp2_with (first
                | (go_at_call 43; (with_reducible refine (d4 _ (hT.call HZ.below)).mono ?_); rintro e va ⟨U, uc, V, vc, rfl, -, -, FU, FV, ja⟩
                   have HY := (HZ.call ja).add 38 (dfB U lN uc V mN vc)
                   have RU := FU.1.on (chainA (Below.refl _ _) (.cells (dfB U lN uc V mN vc) 38))
                   have RV := FV.1.on (chainA (Below.refl _ _) (.cells (dfB U lN uc V mN vc) 38))
                   have qr0 := (HY.box 4).read 0
                   have qr1 := (HY.box 4).read 1
                   have qr2 := (HY.box 4).read 2
                   have qr3 := (HY.box 4).read 3
                   have qri := (HY.box 4).inside
                   have qe0 := (HY.box 3).read 0
                   have qe1 := (HY.box 3).read 1
                   have qe2 := (HY.box 3).read 2
                   have qe3 := (HY.box 3).read 3
                   have qe4 := (HY.box 3).read 4
                   have qe5 := (HY.box 3).read 5
                   have qe6 := (HY.box 3).read 6
                   have qei := (HY.box 3).inside
                   have qg0 := (HY.box 2).read 0
                   have qg1 := (HY.box 2).read 1
                   have qg2 := (HY.box 2).read 2
                   have qg3 := (HY.box 2).read 3
                   have qgi := (HY.box 2).inside
                   have qd0 := (HY.box 1).read 0
                   have qd1 := (HY.box 1).read 1
                   have qdi := (HY.box 1).inside
                   have qy0 := (HY.box 0).read 0
                   have qy1 := (HY.box 0).read 1
                   have qyi := (HY.box 0).inside
                  )
                | (go_at_call 29; (with_reducible refine (s4 _ _ _ _ _ RU (rP.on HY.below) RV (rQ.on HY.below)).mono ?_); rintro e vb ⟨rfl, jb⟩)
                | fail)
              go_meet
              exact (HY.call jb).tail
          case rest =>
            clear HZ
            have HZ := hcut
            clear hcut qr0 qr1 qr2 qr3 qe0 qe1 qe2 qe3 qe4 qe5 qe6 qg0 qg1 qg2 qg3 qd0 qd1 qri qei qgi qdi
            have qr0 := (HZ.box 3).read 0
            have qr1 := (HZ.box 3).read 1
            have qr2 := (HZ.box 3).read 2
            have qr3 := (HZ.box 3).read 3
            have qri := (HZ.box 3).inside
            have qe0 := (HZ.box 2).read 0
            have qe1 := (HZ.box 2).read 1
            have qe2 := (HZ.box 2).read 2
            have qe3 := (HZ.box 2).read 3
            have qe4 := (HZ.box 2).read 4
            have qe5 := (HZ.box 2).read 5
            have qe6 := (HZ.box 2).read 6
            have qei := (HZ.box 2).inside
            have qg0 := (HZ.box 1).read 0
            have qg1 := (HZ.box 1).read 1
            have qg2 := (HZ.box 1).read 2
            have qg3 := (HZ.box 1).read 3
            have qgi := (HZ.box 1).inside
            have qd0 := (HZ.box 0).read 0
            have qd1 := (HZ.box 0).read 1
            have qdi := (HZ.box 0).inside
            cases mb with
            | true =>
              go_wp2_with (first
                | (go_at_call 47; (with_reducible refine (t1 _).mono ?_); rintro e va ⟨rfl, rfl⟩)
                | (go_at_call 47; (with_reducible refine (t2 _).mono ?_); rintro e va ⟨rfl, rfl⟩)
                | (go_at_call 47; (with_reducible refine (t3 _).mono ?_); rintro e va ⟨rfl, rfl⟩)
                | (go_at_call 47; (with_reducible refine (t4 _).mono ?_); rintro e va ⟨rfl, rfl⟩)
                | (go_at_call 46; (with_reducible refine (cM _ (hT.call HZ.below)).mono ?_); rintro e vd ⟨rfl, jd⟩)
                | fail)
              go_ret
              exact ⟨rfl, (HZ.call jd).below⟩
            | false =>
              go_wp2_with (first
                | (go_at_call 47; (with_reducible refine (t1 _).mono ?_); rintro e va ⟨rfl, rfl⟩)
                | (go_at_call 47; (with_reducible refine (t2 _).mono ?_); rintro e va ⟨rfl, rfl⟩)
                | (go_at_call 47; (with_reducible refine (t3 _).mono ?_); rintro e va ⟨rfl, rfl⟩)
                | (go_at_call 47; (with_reducible refine (t4 _).mono ?_); rintro e va ⟨rfl, rfl⟩)
                | (go_at_call 46; (with_reducible refine (cM _ (hT.call HZ.below)).mono ?_); rintro e vd ⟨rfl, jd⟩)
                | fail)
              go_ret
              exact ⟨rfl, (HZ.call jd).below⟩
end Go.Proofs.YtmflhodiibjpnaaGreatDoor
