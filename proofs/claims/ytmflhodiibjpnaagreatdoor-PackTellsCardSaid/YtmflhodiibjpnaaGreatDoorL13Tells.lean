/-
  The law PackTells: any root, entry, range and diff have the bytes that the chapter says, or none; whether two are the same is what it says. Conditions: none.
-/
import Derived.Test.YtmflhodiibjpnaaGreatDoorM13Law
import Derived.Test.YtmflhodiibjpnaaGreatDoorM13Rf
import Derived.Test.YtmflhodiibjpnaaGreatDoorM13Rs
import Derived.Test.YtmflhodiibjpnaaGreatDoorW10Laid
import Derived.ChangeMaps
namespace Go.Proofs.YtmflhodiibjpnaaGreatDoor
set_option linter.unusedVariables false
set_option linter.unusedSimpArgs false
set_option maxRecDepth 10000
open Go.ChangeShapes Go.WideShapes Go.ChangeAt Go.RowKit

set_option maxRecDepth 100000 in
set_option maxHeartbeats 16000000 in
theorem l13tells_long (r : RtP) (e f : EnP) (g h : RgP) (c d : DfP) (A B C D E F P Q U V : Option Addr) (ac bc cc dc xc fc pc qc uc vc : Nat)
    (yr : r.hash.size ≤ 9223372036854775807 ∧ (Word r.h ∧ Word r.l)) (ye : e.leaf.fine ∧ Word e.pos ∧ e.sides.length ≤ 9223372036854775807 ∧ ∀ y ∈ e.sides, y.fine) (yf : f.leaf.fine ∧ Word f.pos ∧ f.sides.length ≤ 9223372036854775807 ∧ ∀ y ∈ f.sides, y.fine)
    (yg : (Word g.a ∧ Word g.b) ∧ (g.ins.length ≤ 9223372036854775807 ∧ ∀ y ∈ g.ins, y.fine) ∧ g.outs.length ≤ 9223372036854775807 ∧ ∀ y ∈ g.outs, y.fine) (yh : (Word h.a ∧ Word h.b) ∧ (h.ins.length ≤ 9223372036854775807 ∧ ∀ y ∈ h.ins, y.fine) ∧ h.outs.length ≤ 9223372036854775807 ∧ ∀ y ∈ h.outs, y.fine)
    (yc : (c.chs.length ≤ 9223372036854775807 ∧ ∀ y ∈ c.chs, y.fine) ∧ c.fr.length ≤ 9223372036854775807 ∧ ∀ y ∈ c.fr, y.fine) (yd : (d.chs.length ≤ 9223372036854775807 ∧ ∀ y ∈ d.chs, y.fine) ∧ d.fr.length ≤ 9223372036854775807 ∧ ∀ y ∈ d.fr, y.fine)
    (w : World) (hT : TabU w) (rA : ndS.Row w w.heap.size A e.sides) (rB : ndS.Row w w.heap.size B f.sides) (rC : ndS.Row w w.heap.size C g.ins) (rD : ndS.Row w w.heap.size D g.outs) (rE : ndS.Row w w.heap.size E h.ins) (rF : ndS.Row w w.heap.size F h.outs)
    (rP : chS.Row w w.heap.size P c.chs) (rQ : ndS.Row w w.heap.size Q c.fr) (rU : chS.Row w w.heap.size U d.chs) (rV : ndS.Row w w.heap.size V d.fr) (hlong : (decide (300 < r.hash.size) || (lngE e || (lngE f || (lngR g || (lngR h || (lngD c || lngD d)))))) = true) :
    Calls Tryz.prog 3 #[r.val, .agg (enB e.leaf.pad e.leaf.id e.leaf.salt e.leaf.h e.leaf.l e.pos A e.sides.length ac), .agg (enB f.leaf.pad f.leaf.id f.leaf.salt f.leaf.h f.leaf.l f.pos B f.sides.length bc), .agg (rgB g.a g.b C g.ins.length cc D g.outs.length dc), .agg (rgB h.a h.b E h.ins.length xc F h.outs.length fc), .agg (dfB P c.chs.length pc Q c.fr.length qc), .agg (dfB U d.chs.length uc V d.fr.length vc)] w (Tells (.bool true) w.heap.size w) := by
  have cL1 := fun u hu => lngE_any e A ac ye.1.1.1 ye.1.1.2 ye.2.2.1 u hu
  have cL2 := fun u hu => lngE_any f B bc yf.1.1.1 yf.1.1.2 yf.2.2.1 u hu
  have cL3 := fun u h1 h2 => lngR_any g C D cc dc yg.2.1.1 yg.2.2.1 u h1 h2
  have cL4 := fun u h1 h2 => lngR_any h E F xc fc yh.2.1.1 yh.2.2.1 u h1 h2
  have cL5 := fun u h1 h2 => lngD_any c P Q pc qc yc.1.1 (fun y hy => ⟨(yc.1.2 y hy).2.1.1, (yc.1.2 y hy).2.2.1⟩) yc.2.1 u h1 h2
  have cL6 := fun u h1 h2 => lngD_any d U V uc vc yd.1.1 (fun y hy => ⟨(yd.1.2 y hy).2.1.1, (yd.1.2 y hy).2.2.1⟩) yd.2.1 u h1 h2
  have hri : decide ((300 : Int) < (r.hash.size : Int)) = decide (300 < r.hash.size) := decide_eq_decide.2 (by omega)
  generalize decide (300 < r.hash.size) = b0 at *
  generalize lngE e = b1 at *
  generalize lngE f = b2 at *
  generalize lngR g = b3 at *
  generalize lngR h = b4 at *
  generalize lngD c = b5 at *
  generalize lngD d = b6 at *
  clear yr ye yf yg yh yc yd
  obtain ⟨xs, xh, xl, xn⟩ := r
  obtain ⟨⟨ep, ei, es, eh, el⟩, eq, eL⟩ := e
  obtain ⟨⟨fp, fi, fs, fh, fl⟩, fq, fL⟩ := f
  obtain ⟨ga, gb, gL, gK⟩ := g
  obtain ⟨ha, hb, hL, hK⟩ := h
  obtain ⟨dL, dK⟩ := c
  obtain ⟨tL, tK⟩ := d
  simp only [RtP.val, Lf.val] at *
  generalize eL.length = eN at *
  generalize fL.length = fN at *
  generalize gL.length = gN at *
  generalize gK.length = gM at *
  generalize hL.length = hN at *
  generalize hK.length = hM at *
  generalize dL.length = lN at *
  generalize dK.length = mN at *
  generalize tL.length = oN at *
  generalize tK.length = pN at *
  have H1 : Has w [(w.heap.size + 1 + 1 + 1 + 1 + 1 + 1, 38, dfB U oN uc V pN vc), (w.heap.size + 1 + 1 + 1 + 1 + 1, 38, dfB P lN pc Q mN qc), (w.heap.size + 1 + 1 + 1 + 1, 35, rgB ha hb E hN xc F hM fc), (w.heap.size + 1 + 1 + 1, 35, rgB ga gb C gN cc D gM dc), (w.heap.size + 1 + 1, 33, enB fp fi fs fh fl fq B fN bc), (w.heap.size + 1, 33, enB ep ei es eh el eq A eN ac), (w.heap.size, 26, rtB xs xh xl xn)] (((((((w.alloc (.cells (rtB xs xh xl xn) 26)).alloc (.cells (enB ep ei es eh el eq A eN ac) 33)).alloc (.cells (enB fp fi fs fh fl fq B fN bc) 33)).alloc (.cells (rgB ga gb C gN cc D gM dc) 35)).alloc (.cells (rgB ha hb E hN xc F hM fc) 35)).alloc (.cells (dfB P lN pc Q mN qc) 38)).alloc (.cells (dfB U oN uc V pN vc) 38)) :=
    (((((((Has.start w).add 26 (rtB xs xh xl xn)).addAt 33 (enB ep ei es eh el eq A eN ac) (by simp)).addAt 33 (enB fp fi fs fh fl fq B fN bc) (by simp)).addAt 35 (rgB ga gb C gN cc D gM dc) (by simp)).addAt 35 (rgB ha hb E hN xc F hM fc) (by simp)).addAt 38 (dfB P lN pc Q mN qc) (by simp)).addAt 38 (dfB U oN uc V pN vc) (by simp)
  go_enter Tryz.func3, Tryz.ntmps3
  go_upto_region 1 with fail
  change Code.wp _ _ _ _ (((((((w.alloc (.cells (rtB xs xh xl xn) 26)).alloc (.cells (enB ep ei es eh el eq A eN ac) 33)).alloc (.cells (enB fp fi fs fh fl fq B fN bc) 33)).alloc (.cells (rgB ga gb C gN cc D gM dc) 35)).alloc (.cells (rgB ha hb E hN xc F hM fc) 35)).alloc (.cells (dfB P lN pc Q mN qc) 38)).alloc (.cells (dfB U oN uc V pN vc) 38))
  generalize (((((((w.alloc (.cells (rtB xs xh xl xn) 26)).alloc (.cells (enB ep ei es eh el eq A eN ac) 33)).alloc (.cells (enB fp fi fs fh fl fq B fN bc) 33)).alloc (.cells (rgB ga gb C gN cc D gM dc) 35)).alloc (.cells (rgB ha hb E hN xc F hM fc) 35)).alloc (.cells (dfB P lN pc Q mN qc) 38)).alloc (.cells (dfB U oN uc V pN vc) 38)) = V0 at *
  have qr0 := (H1.box 6).read 0
  have qr1 := (H1.box 6).read 1
  have qr2 := (H1.box 6).read 2
  have qr3 := (H1.box 6).read 3
  have qri := (H1.box 6).inside
  have qe0 := (H1.box 5).read 0
  have qe1 := (H1.box 5).read 1
  have qe2 := (H1.box 5).read 2
  have qe3 := (H1.box 5).read 3
  have qe4 := (H1.box 5).read 4
  have qe5 := (H1.box 5).read 5
  have qe6 := (H1.box 5).read 6
  have qei := (H1.box 5).inside
  cases b0 with
  | true =>
    go_wp2
    go_ret
    exact ⟨rfl, H1.below⟩
  | false =>
    cases b1 with
    | true =>
      go_wp2_with (first
        | (go_at_call 8; (with_reducible refine (cL1 _ (rA.on H1.below)).mono ?_); rintro e w2 ⟨rfl, j2⟩
           have H2 := H1.call j2
           have qf0 := (H2.box 4).read 0
           have qf1 := (H2.box 4).read 1
           have qf2 := (H2.box 4).read 2
           have qf3 := (H2.box 4).read 3
           have qf4 := (H2.box 4).read 4
           have qf5 := (H2.box 4).read 5
           have qf6 := (H2.box 4).read 6
           have qfi := (H2.box 4).inside
          )
        | fail)
      go_ret
      exact ⟨rfl, H2.below⟩
    | false =>
      cases b2 with
      | true =>
        go_wp2_with (first
          | (go_at_call 8; (with_reducible refine (cL1 _ (rA.on H1.below)).mono ?_); rintro e w2 ⟨rfl, j2⟩
             have H2 := H1.call j2
             have qf0 := (H2.box 4).read 0
             have qf1 := (H2.box 4).read 1
             have qf2 := (H2.box 4).read 2
             have qf3 := (H2.box 4).read 3
             have qf4 := (H2.box 4).read 4
             have qf5 := (H2.box 4).read 5
             have qf6 := (H2.box 4).read 6
             have qfi := (H2.box 4).inside
            )
          | (go_at_call 8; (with_reducible refine (cL2 _ (rB.on H2.below)).mono ?_); rintro e w3 ⟨rfl, j3⟩
             have H3 := H2.call j3
             have qg0 := (H3.box 3).read 0
             have qg1 := (H3.box 3).read 1
             have qg2 := (H3.box 3).read 2
             have qg3 := (H3.box 3).read 3
             have qgi := (H3.box 3).inside
            )
          | fail)
        go_ret
        exact ⟨rfl, H3.below⟩
      | false =>
        cases b3 with
        | true =>
          go_wp2_with (first
            | (go_at_call 8; (with_reducible refine (cL1 _ (rA.on H1.below)).mono ?_); rintro e w2 ⟨rfl, j2⟩
               have H2 := H1.call j2
               have qf0 := (H2.box 4).read 0
               have qf1 := (H2.box 4).read 1
               have qf2 := (H2.box 4).read 2
               have qf3 := (H2.box 4).read 3
               have qf4 := (H2.box 4).read 4
               have qf5 := (H2.box 4).read 5
               have qf6 := (H2.box 4).read 6
               have qfi := (H2.box 4).inside
              )
            | (go_at_call 8; (with_reducible refine (cL2 _ (rB.on H2.below)).mono ?_); rintro e w3 ⟨rfl, j3⟩
               have H3 := H2.call j3
               have qg0 := (H3.box 3).read 0
               have qg1 := (H3.box 3).read 1
               have qg2 := (H3.box 3).read 2
               have qg3 := (H3.box 3).read 3
               have qgi := (H3.box 3).inside
              )
            | (go_at_call 9; (with_reducible refine (cL3 _ (rC.on H3.below) (rD.on H3.below)).mono ?_); rintro e w4 ⟨rfl, j4⟩
               have H4 := H3.call j4
               have qh0 := (H4.box 2).read 0
               have qh1 := (H4.box 2).read 1
               have qh2 := (H4.box 2).read 2
               have qh3 := (H4.box 2).read 3
               have qhi := (H4.box 2).inside
              )
            | fail)
          go_ret
          exact ⟨rfl, H4.below⟩
        | false =>
          cases b4 with
          | true =>
            go_wp2_with (first
              | (go_at_call 8; (with_reducible refine (cL1 _ (rA.on H1.below)).mono ?_); rintro e w2 ⟨rfl, j2⟩
                 have H2 := H1.call j2
                 have qf0 := (H2.box 4).read 0
                 have qf1 := (H2.box 4).read 1
                 have qf2 := (H2.box 4).read 2
                 have qf3 := (H2.box 4).read 3
                 have qf4 := (H2.box 4).read 4
                 have qf5 := (H2.box 4).read 5
                 have qf6 := (H2.box 4).read 6
                 have qfi := (H2.box 4).inside
                )
              | (go_at_call 8; (with_reducible refine (cL2 _ (rB.on H2.below)).mono ?_); rintro e w3 ⟨rfl, j3⟩
                 have H3 := H2.call j3
                 have qg0 := (H3.box 3).read 0
                 have qg1 := (H3.box 3).read 1
                 have qg2 := (H3.box 3).read 2
                 have qg3 := (H3.box 3).read 3
                 have qgi := (H3.box 3).inside
                )
              | (go_at_call 9; (with_reducible refine (cL3 _ (rC.on H3.below) (rD.on H3.below)).mono ?_); rintro e w4 ⟨rfl, j4⟩
                 have H4 := H3.call j4
                 have qh0 := (H4.box 2).read 0
                 have qh1 := (H4.box 2).read 1
                 have qh2 := (H4.box 2).read 2
                 have qh3 := (H4.box 2).read 3
                 have qhi := (H4.box 2).inside
                )
              | (go_at_call 9; (with_reducible refine (cL4 _ (rE.on H4.below) (rF.on H4.below)).mono ?_); rintro e w5 ⟨rfl, j5⟩
                 have H5 := H4.call j5
                 have qc0 := (H5.box 1).read 0
                 have qc1 := (H5.box 1).read 1
                 have qci := (H5.box 1).inside
                )
              | fail)
            go_ret
            exact ⟨rfl, H5.below⟩
          | false =>
            cases b5 with
            | true =>
              go_wp2_with (first
                | (go_at_call 8; (with_reducible refine (cL1 _ (rA.on H1.below)).mono ?_); rintro e w2 ⟨rfl, j2⟩
                   have H2 := H1.call j2
                   have qf0 := (H2.box 4).read 0
                   have qf1 := (H2.box 4).read 1
                   have qf2 := (H2.box 4).read 2
                   have qf3 := (H2.box 4).read 3
                   have qf4 := (H2.box 4).read 4
                   have qf5 := (H2.box 4).read 5
                   have qf6 := (H2.box 4).read 6
                   have qfi := (H2.box 4).inside
                  )
                | (go_at_call 8; (with_reducible refine (cL2 _ (rB.on H2.below)).mono ?_); rintro e w3 ⟨rfl, j3⟩
                   have H3 := H2.call j3
                   have qg0 := (H3.box 3).read 0
                   have qg1 := (H3.box 3).read 1
                   have qg2 := (H3.box 3).read 2
                   have qg3 := (H3.box 3).read 3
                   have qgi := (H3.box 3).inside
                  )
                | (go_at_call 9; (with_reducible refine (cL3 _ (rC.on H3.below) (rD.on H3.below)).mono ?_); rintro e w4 ⟨rfl, j4⟩
                   have H4 := H3.call j4
                   have qh0 := (H4.box 2).read 0
                   have qh1 := (H4.box 2).read 1
                   have qh2 := (H4.box 2).read 2
                   have qh3 := (H4.box 2).read 3
                   have qhi := (H4.box 2).inside
                  )
                | (go_at_call 9; (with_reducible refine (cL4 _ (rE.on H4.below) (rF.on H4.below)).mono ?_); rintro e w5 ⟨rfl, j5⟩
                   have H5 := H4.call j5
                   have qc0 := (H5.box 1).read 0
                   have qc1 := (H5.box 1).read 1
                   have qci := (H5.box 1).inside
                  )
                | (go_at_call 10; (with_reducible refine (cL5 _ (rP.on H5.below) (rQ.on H5.below)).mono ?_); rintro e w6 ⟨rfl, j6⟩
                   have H6 := H5.call j6
                   have qd0 := (H6.box 0).read 0
                   have qd1 := (H6.box 0).read 1
                   have qdi := (H6.box 0).inside
                  )
                | fail)
              go_ret
              exact ⟨rfl, H6.below⟩
            | false =>
              cases b6 with
              | true =>
                go_wp2_with (first
                  | (go_at_call 8; (with_reducible refine (cL1 _ (rA.on H1.below)).mono ?_); rintro e w2 ⟨rfl, j2⟩
                     have H2 := H1.call j2
                     have qf0 := (H2.box 4).read 0
                     have qf1 := (H2.box 4).read 1
                     have qf2 := (H2.box 4).read 2
                     have qf3 := (H2.box 4).read 3
                     have qf4 := (H2.box 4).read 4
                     have qf5 := (H2.box 4).read 5
                     have qf6 := (H2.box 4).read 6
                     have qfi := (H2.box 4).inside
                    )
                  | (go_at_call 8; (with_reducible refine (cL2 _ (rB.on H2.below)).mono ?_); rintro e w3 ⟨rfl, j3⟩
                     have H3 := H2.call j3
                     have qg0 := (H3.box 3).read 0
                     have qg1 := (H3.box 3).read 1
                     have qg2 := (H3.box 3).read 2
                     have qg3 := (H3.box 3).read 3
                     have qgi := (H3.box 3).inside
                    )
                  | (go_at_call 9; (with_reducible refine (cL3 _ (rC.on H3.below) (rD.on H3.below)).mono ?_); rintro e w4 ⟨rfl, j4⟩
                     have H4 := H3.call j4
                     have qh0 := (H4.box 2).read 0
                     have qh1 := (H4.box 2).read 1
                     have qh2 := (H4.box 2).read 2
                     have qh3 := (H4.box 2).read 3
                     have qhi := (H4.box 2).inside
                    )
                  | (go_at_call 9; (with_reducible refine (cL4 _ (rE.on H4.below) (rF.on H4.below)).mono ?_); rintro e w5 ⟨rfl, j5⟩
                     have H5 := H4.call j5
                     have qc0 := (H5.box 1).read 0
                     have qc1 := (H5.box 1).read 1
                     have qci := (H5.box 1).inside
                    )
                  | (go_at_call 10; (with_reducible refine (cL5 _ (rP.on H5.below) (rQ.on H5.below)).mono ?_); rintro e w6 ⟨rfl, j6⟩
                     have H6 := H5.call j6
                     have qd0 := (H6.box 0).read 0
                     have qd1 := (H6.box 0).read 1
                     have qdi := (H6.box 0).inside
                    )
                  | (go_at_call 10; (with_reducible refine (cL6 _ (rU.on H6.below) (rV.on H6.below)).mono ?_); rintro e w7 ⟨rfl, j7⟩
                     have H7 := H6.call j7
                    )
                  | fail)
                go_ret
                exact ⟨rfl, H7.below⟩
              | false => exact absurd hlong (by decide)
set_option maxRecDepth 100000 in
set_option maxHeartbeats 16000000 in
theorem l13tells_any (r : RtP) (e f : EnP) (g h : RgP) (c d : DfP) (A B C D E F P Q U V : Option Addr) (ac bc cc dc xc fc pc qc uc vc : Nat)
    (yr : r.hash.size ≤ 9223372036854775807 ∧ (Word r.h ∧ Word r.l)) (ye : e.leaf.fine ∧ Word e.pos ∧ e.sides.length ≤ 9223372036854775807 ∧ ∀ y ∈ e.sides, y.fine) (yf : f.leaf.fine ∧ Word f.pos ∧ f.sides.length ≤ 9223372036854775807 ∧ ∀ y ∈ f.sides, y.fine)
    (yg : (Word g.a ∧ Word g.b) ∧ (g.ins.length ≤ 9223372036854775807 ∧ ∀ y ∈ g.ins, y.fine) ∧ g.outs.length ≤ 9223372036854775807 ∧ ∀ y ∈ g.outs, y.fine) (yh : (Word h.a ∧ Word h.b) ∧ (h.ins.length ≤ 9223372036854775807 ∧ ∀ y ∈ h.ins, y.fine) ∧ h.outs.length ≤ 9223372036854775807 ∧ ∀ y ∈ h.outs, y.fine)
    (yc : (c.chs.length ≤ 9223372036854775807 ∧ ∀ y ∈ c.chs, y.fine) ∧ c.fr.length ≤ 9223372036854775807 ∧ ∀ y ∈ c.fr, y.fine) (yd : (d.chs.length ≤ 9223372036854775807 ∧ ∀ y ∈ d.chs, y.fine) ∧ d.fr.length ≤ 9223372036854775807 ∧ ∀ y ∈ d.fr, y.fine)
    (w : World) (hT : TabU w) (rA : ndS.Row w w.heap.size A e.sides) (rB : ndS.Row w w.heap.size B f.sides) (rC : ndS.Row w w.heap.size C g.ins) (rD : ndS.Row w w.heap.size D g.outs) (rE : ndS.Row w w.heap.size E h.ins) (rF : ndS.Row w w.heap.size F h.outs)
    (rP : chS.Row w w.heap.size P c.chs) (rQ : ndS.Row w w.heap.size Q c.fr) (rU : chS.Row w w.heap.size U d.chs) (rV : ndS.Row w w.heap.size V d.fr) (hlong : (decide (300 < r.hash.size) || (lngE e || (lngE f || (lngR g || (lngR h || (lngD c || lngD d)))))) = false) :
    Calls Tryz.prog 3 #[r.val, .agg (enB e.leaf.pad e.leaf.id e.leaf.salt e.leaf.h e.leaf.l e.pos A e.sides.length ac), .agg (enB f.leaf.pad f.leaf.id f.leaf.salt f.leaf.h f.leaf.l f.pos B f.sides.length bc), .agg (rgB g.a g.b C g.ins.length cc D g.outs.length dc), .agg (rgB h.a h.b E h.ins.length xc F h.outs.length fc), .agg (dfB P c.chs.length pc Q c.fr.length qc), .agg (dfB U d.chs.length uc V d.fr.length vc)] w (Tells (.bool true) w.heap.size w) := by
  have cL1 := fun u hu => lngE_any e A ac ye.1.1.1 ye.1.1.2 ye.2.2.1 u hu
  have cL2 := fun u hu => lngE_any f B bc yf.1.1.1 yf.1.1.2 yf.2.2.1 u hu
  have cL3 := fun u h1 h2 => lngR_any g C D cc dc yg.2.1.1 yg.2.2.1 u h1 h2
  have cL4 := fun u h1 h2 => lngR_any h E F xc fc yh.2.1.1 yh.2.2.1 u h1 h2
  have cL5 := fun u h1 h2 => lngD_any c P Q pc qc yc.1.1 (fun y hy => ⟨(yc.1.2 y hy).2.1.1, (yc.1.2 y hy).2.2.1⟩) yc.2.1 u h1 h2
  have cL6 := fun u h1 h2 => lngD_any d U V uc vc yd.1.1 (fun y hy => ⟨(yd.1.2 y hy).2.1.1, (yd.1.2 y hy).2.2.1⟩) yd.2.1 u h1 h2
  have hri : decide ((300 : Int) < (r.hash.size : Int)) = decide (300 < r.hash.size) := decide_eq_decide.2 (by omega)
  rw [Bool.or_eq_false_iff, Bool.or_eq_false_iff, Bool.or_eq_false_iff, Bool.or_eq_false_iff, Bool.or_eq_false_iff, Bool.or_eq_false_iff] at hlong
  obtain ⟨m0, m1, m2, m3, m4, m5, m6⟩ := hlong
  rw [m1] at cL1
  rw [m2] at cL2
  rw [m3] at cL3
  rw [m4] at cL4
  rw [m5] at cL5
  rw [m6] at cL6
  rw [m0] at hri
  have n0 : r.hash.size ≤ 300 := by have := of_decide_eq_false m0; omega
  have n1 := lngE_no m1
  have n2 := lngE_no m2
  have n3 := lngR_no m3
  have n4 := lngR_no m4
  have n5 := lngD_no m5
  have n6 := lngD_no m6
  have cP : ∀ (v : Nat) (u : World), OutS u v (some ⟨#[]⟩) → Calls Tryz.prog 11 #[.pointer (some ⟨v, 0, none⟩), r.val] u fun e w' => e = .returned (.tuple #[]) ∧ OutS w' v (putB (some ⟨#[]⟩) (ofL (rtY r))) ∧ Off (One v) u w' := fun v u hu => putroot_any v (some ⟨#[]⟩) r (by omega) yr.2 u hu
  have cD := fun (v : Nat) u hu => out_done v (some (ofL (rtY r))) u hu
  have cR := fun u => rputRoot_any r (by omega) yr.2 u
  have c1 := fun u => root_any r (by omega) yr.2 u
  have d1 := fun u => rroot_any r (by omega) yr.2 u
  have c2 := fun u hu => leaf_any e.leaf (by have := n1.1.1; omega) (by have := n1.1.2; omega) ye.1.2 u hu
  have d2 := fun u => rleafT_any e.leaf (by have := n1.1.1; omega) (by have := n1.1.2; omega) ye.1.2 u
  have c3 := fun u h1 h2 => entry_any e (lf_ok n1.1 ye.1) ye.2.1 A ac (nds_ok n1.2 ye.2.2.2) u h1 h2
  have d3 := fun u h1 => rentry_any e A ac (by have := n1.2.1; omega) (fun y hy => by have := n1.2.2 y hy; omega) (fun y hy => (ye.2.2.2 y hy).2) (by have := n1.1.1; omega) (by have := n1.1.2; omega) ye.1.2 ye.2.1 u h1
  have c4 := fun u h1 h2 => range_any g yg.1 C D cc dc (nds_ok n3.1 yg.2.1.2) (nds_ok n3.2 yg.2.2.2) u h1 h2
  have d4 := fun u h1 h2 => rrange_any g C D cc dc (by have := n3.1.1; omega) (fun y hy => by have := n3.1.2 y hy; omega) (fun y hy => (yg.2.1.2 y hy).2) (by have := n3.2.1; omega) (fun y hy => by have := n3.2.2 y hy; omega) (fun y hy => (yg.2.2.2 y hy).2) yg.1.1 yg.1.2 u h1 h2
  have c5 := fun u h1 h2 h3 => diff_any c P Q pc qc (chs_ok n5.1 yc.1.2) (nds_ok n5.2 yc.2.2) u h1 h2 h3
  have d5 := fun u h1 h2 => rdiff_any c P Q pc qc (by have := n5.1.1; omega) (fun y hy => ⟨⟨by have := (n5.1.2 y hy).1.1; omega, by have := (n5.1.2 y hy).1.2; omega, (yc.1.2 y hy).2.1.2⟩, ⟨by have := (n5.1.2 y hy).2.1; omega, by have := (n5.1.2 y hy).2.2; omega, (yc.1.2 y hy).2.2.2⟩, (yc.1.2 y hy).1⟩) (by have := n5.2.1; omega) (fun y hy => by have := n5.2.2 y hy; omega) (fun y hy => (yc.2.2 y hy).2) u h1 h2
  have s1 := fun u h1 h2 => sameentry_any e f A B ac bc (by have := n1.2.1; omega) (by have := n2.2.1; omega) u h1 h2
  have t1 := fun u h1 h2 => rsameEntry_any e f A B ac bc (by have := n1.2.1; omega) (by have := n2.2.1; omega) u h1 h2
  have s2 := fun u h1 h2 h3 h4 => samerange_any g h C D E F cc dc xc fc (by have := n3.1.1; omega) (by have := n4.1.1; omega) (by have := n3.2.1; omega) (by have := n4.2.1; omega) u h1 h2 h3 h4
  have t2 := fun u h1 h2 h3 h4 => rsameRange_any g h C D E F cc dc xc fc (by have := n3.1.1; omega) (by have := n4.1.1; omega) (by have := n3.2.1; omega) (by have := n4.2.1; omega) u h1 h2 h3 h4
  have s3 := fun u h1 h2 h3 h4 => samediff_any c d P Q U V pc qc uc vc (by have := n5.1.1; omega) (by have := n6.1.1; omega) (by have := n5.2.1; omega) (by have := n6.2.1; omega) u h1 h2 h3 h4
  have t3 := fun u h1 h2 h3 h4 => rsameDiff_any c d P Q U V pc qc uc vc (by have := n5.1.1; omega) (by have := n6.1.1; omega) (by have := n5.2.1; omega) (by have := n6.2.1; omega) u h1 h2 h3 h4
  have hY : putB (some ⟨#[]⟩) (ofL (rtY r)) = some (ofL (rtY r)) := by
    have hz : (ofL (rtY r)).size ≤ 1048576 := by
      rw [ofL_size]
      unfold rtY
      rw [List.length_append]
      have h1 := ndY_len ⟨r.hash, r.h, r.l⟩
      simp only at h1
      have h2 := wideL_len 0 (r.n % 18446744073709551616)
      omega
    rw [putB_yes _ _ (by show 0 + _ ≤ _; omega), nil_app]
  simp only [toldV, doneV] at cD d1 d2 d3 d4 d5
  rw [hY] at cP
  clear hY
  generalize ofL (rtY r) = Y at *
  generalize rtO r = P1 at *
  generalize lfO e.leaf = P2 at *
  generalize enO e = P3 at *
  generalize rgO g = P4 at *
  generalize dfO c = P5 at *
  obtain ⟨p1, k1⟩ := P1
  obtain ⟨p2, k2⟩ := P2
  obtain ⟨p3, k3⟩ := P3
  obtain ⟨p4, k4⟩ := P4
  obtain ⟨p5, k5⟩ := P5
  generalize e.same f = z1 at *
  generalize g.same h = z2 at *
  generalize c.same d = z3 at *
  have x0 : (Y.toList != Y.toList) = false := by simp
  have x1 : (p1.toList != p1.toList) = false := by simp
  have x2 : (p2.toList != p2.toList) = false := by simp
  have x3 : (p3.toList != p3.toList) = false := by simp
  have x4 : (p4.toList != p4.toList) = false := by simp
  have x5 : (p5.toList != p5.toList) = false := by simp
  have y1 : (k1 != k1) = false := by simp
  have y2 : (k2 != k2) = false := by simp
  have y3 : (k3 != k3) = false := by simp
  have y4 : (k4 != k4) = false := by simp
  have y5 : (k5 != k5) = false := by simp
  have v1 : (z1 == z1) = true := by simp
  have v2 : (z2 == z2) = true := by simp
  have v3 : (z3 == z3) = true := by simp
  clear n0 n1 n2 n3 n4 n5 n6 m0 m1 m2 m3 m4 m5 m6 yr ye yf yg yh yc yd
  obtain ⟨xs, xh, xl, xn⟩ := r
  obtain ⟨⟨ep, ei, es, eh, el⟩, eq, eL⟩ := e
  obtain ⟨⟨fp, fi, fs, fh, fl⟩, fq, fL⟩ := f
  obtain ⟨ga, gb, gL, gK⟩ := g
  obtain ⟨ha, hb, hL, hK⟩ := h
  obtain ⟨dL, dK⟩ := c
  obtain ⟨tL, tK⟩ := d
  simp only [RtP.val, Lf.val] at *
  generalize eL.length = eN at *
  generalize fL.length = fN at *
  generalize gL.length = gN at *
  generalize gK.length = gM at *
  generalize hL.length = hN at *
  generalize hK.length = hM at *
  generalize dL.length = lN at *
  generalize dK.length = mN at *
  generalize tL.length = oN at *
  generalize tK.length = pN at *
  have HT := hideIt hT
  clear hT
  have H1 : Has w [(w.heap.size + 1 + 1 + 1 + 1 + 1 + 1, 38, dfB U oN uc V pN vc), (w.heap.size + 1 + 1 + 1 + 1 + 1, 38, dfB P lN pc Q mN qc), (w.heap.size + 1 + 1 + 1 + 1, 35, rgB ha hb E hN xc F hM fc), (w.heap.size + 1 + 1 + 1, 35, rgB ga gb C gN cc D gM dc), (w.heap.size + 1 + 1, 33, enB fp fi fs fh fl fq B fN bc), (w.heap.size + 1, 33, enB ep ei es eh el eq A eN ac), (w.heap.size, 26, rtB xs xh xl xn)] (((((((w.alloc (.cells (rtB xs xh xl xn) 26)).alloc (.cells (enB ep ei es eh el eq A eN ac) 33)).alloc (.cells (enB fp fi fs fh fl fq B fN bc) 33)).alloc (.cells (rgB ga gb C gN cc D gM dc) 35)).alloc (.cells (rgB ha hb E hN xc F hM fc) 35)).alloc (.cells (dfB P lN pc Q mN qc) 38)).alloc (.cells (dfB U oN uc V pN vc) 38)) :=
    (((((((Has.start w).add 26 (rtB xs xh xl xn)).addAt 33 (enB ep ei es eh el eq A eN ac) (by simp)).addAt 33 (enB fp fi fs fh fl fq B fN bc) (by simp)).addAt 35 (rgB ga gb C gN cc D gM dc) (by simp)).addAt 35 (rgB ha hb E hN xc F hM fc) (by simp)).addAt 38 (dfB P lN pc Q mN qc) (by simp)).addAt 38 (dfB U oN uc V pN vc) (by simp)
  go_enter Tryz.func3, Tryz.ntmps3
  go_upto_region 1 with fail
  change Code.wp _ _ _ _ (((((((w.alloc (.cells (rtB xs xh xl xn) 26)).alloc (.cells (enB ep ei es eh el eq A eN ac) 33)).alloc (.cells (enB fp fi fs fh fl fq B fN bc) 33)).alloc (.cells (rgB ga gb C gN cc D gM dc) 35)).alloc (.cells (rgB ha hb E hN xc F hM fc) 35)).alloc (.cells (dfB P lN pc Q mN qc) 38)).alloc (.cells (dfB U oN uc V pN vc) 38))
  generalize (((((((w.alloc (.cells (rtB xs xh xl xn) 26)).alloc (.cells (enB ep ei es eh el eq A eN ac) 33)).alloc (.cells (enB fp fi fs fh fl fq B fN bc) 33)).alloc (.cells (rgB ga gb C gN cc D gM dc) 35)).alloc (.cells (rgB ha hb E hN xc F hM fc) 35)).alloc (.cells (dfB P lN pc Q mN qc) 38)).alloc (.cells (dfB U oN uc V pN vc) 38)) = V0 at *
  have qr0 := (H1.box 6).read 0
  have qr1 := (H1.box 6).read 1
  have qr2 := (H1.box 6).read 2
  have qr3 := (H1.box 6).read 3
  have qri := (H1.box 6).inside
  have qe0 := (H1.box 5).read 0
  have qe1 := (H1.box 5).read 1
  have qe2 := (H1.box 5).read 2
  have qe3 := (H1.box 5).read 3
  have qe4 := (H1.box 5).read 4
  have qe5 := (H1.box 5).read 5
  have qe6 := (H1.box 5).read 6
  have qei := (H1.box 5).inside
  go_upto_region 3 with (first
    | (go_at_call 8; (with_reducible refine (cL1 _ (rA.on H1.below)).mono ?_); rintro e w2 ⟨rfl, j2⟩
       have H2 := H1.call j2
       have qf0 := (H2.box 4).read 0
       have qf1 := (H2.box 4).read 1
       have qf2 := (H2.box 4).read 2
       have qf3 := (H2.box 4).read 3
       have qf4 := (H2.box 4).read 4
       have qf5 := (H2.box 4).read 5
       have qf6 := (H2.box 4).read 6
       have qfi := (H2.box 4).inside
      )
    | (go_at_call 8; (with_reducible refine (cL2 _ (rB.on H2.below)).mono ?_); rintro e w3 ⟨rfl, j3⟩
       have H3 := H2.call j3
       have qg0 := (H3.box 3).read 0
       have qg1 := (H3.box 3).read 1
       have qg2 := (H3.box 3).read 2
       have qg3 := (H3.box 3).read 3
       have qgi := (H3.box 3).inside
      )
    | (go_at_call 9; (with_reducible refine (cL3 _ (rC.on H3.below) (rD.on H3.below)).mono ?_); rintro e w4 ⟨rfl, j4⟩
       have H4 := H3.call j4
       have qh0 := (H4.box 2).read 0
       have qh1 := (H4.box 2).read 1
       have qh2 := (H4.box 2).read 2
       have qh3 := (H4.box 2).read 3
       have qhi := (H4.box 2).inside
      )
    | (go_at_call 9; (with_reducible refine (cL4 _ (rE.on H4.below) (rF.on H4.below)).mono ?_); rintro e w5 ⟨rfl, j5⟩
       have H5 := H4.call j5
       have qc0 := (H5.box 1).read 0
       have qc1 := (H5.box 1).read 1
       have qci := (H5.box 1).inside
      )
    | (go_at_call 10; (with_reducible refine (cL5 _ (rP.on H5.below) (rQ.on H5.below)).mono ?_); rintro e w6 ⟨rfl, j6⟩
       have H6 := H5.call j6
       have qd0 := (H6.box 0).read 0
       have qd1 := (H6.box 0).read 1
       have qdi := (H6.box 0).inside
      )
    | (go_at_call 10; (with_reducible refine (cL6 _ (rU.on H6.below) (rV.on H6.below)).mono ?_); rintro e w7 ⟨rfl, j7⟩
       have H7 := H6.call j7
      )
    | fail)
  clear H1 H2 H3 H4 H5 H6 cL1 cL2 cL3 cL4 cL5 cL6 j2 j3 j4 j5 j6 j7 qr0 qr1 qr2 qr3 qri qe0 qe1 qe2 qe3 qe4 qe5 qe6 qei qf0 qf1 qf2 qf3 qf4 qf5 qf6 qfi qg0 qg1 qg2 qg3 qgi qh0 qh1 qh2 qh3 qhi qc0 qc1 qci qd0 qd1 qdi
  go_upto_region 4 with fail
  change Code.wp _ _ _ _ (w7.alloc (.cells #[.pointer none, .int .i64 0, .bool false] 45))
  have O1 : OutS (w7.alloc (.cells #[.pointer none, .int .i64 0, .bool false] 45)) w7.heap.size (some ⟨#[]⟩) := out_new (Box.made _ _ _)
  have H8 := H7.call (chainA (Below.refl w7.heap.size w7) (.cells #[.pointer none, .int .i64 0, .bool false] 45))
  have go0 := H7.size
  have gne := hideIt (fun x (hx : x ∈ ([(w.heap.size + 1 + 1 + 1 + 1 + 1 + 1, 38, dfB U oN uc V pN vc), (w.heap.size + 1 + 1 + 1 + 1 + 1, 38, dfB P lN pc Q mN qc), (w.heap.size + 1 + 1 + 1 + 1, 35, rgB ha hb E hN xc F hM fc), (w.heap.size + 1 + 1 + 1, 35, rgB ga gb C gN cc D gM dc), (w.heap.size + 1 + 1, 33, enB fp fi fs fh fl fq B fN bc), (w.heap.size + 1, 33, enB ep ei es eh el eq A eN ac), (w.heap.size, 26, rtB xs xh xl xn)] : List Blk)) => Nat.ne_of_lt (H7.1 x hx).inside)
  generalize w7.alloc (.cells #[.pointer none, .int .i64 0, .bool false] 45) = W8 at *
  generalize w7.heap.size = go at *
  clear H7
  have qr0 := (H8.box 6).read 0
  have qr1 := (H8.box 6).read 1
  have qr2 := (H8.box 6).read 2
  have qr3 := (H8.box 6).read 3
  have qri := (H8.box 6).inside
  go_upto_region 5 with (first
    | (go_at_call 11; refine (cP _ _ O1).mono ?_; rintro e w9 ⟨rfl, O2, k9⟩)
    | fail)
  have H9 := H8.off k9 (fun i hi => by have : i = go := hi; omega) (fun x hx hs => gne.out x hx hs)
  clear qr0 qr1 qr2 qr3 qri H8 O1 k9 cP
  go_upto_region 6 with (first
    | (go_at_call 12; refine (cD _ _ O2).mono ?_; rintro e w10 ⟨rfl, rfl⟩)
    | fail)
  clear O2 cD
  have qr0 := (H9.box 6).read 0
  have qr1 := (H9.box 6).read 1
  have qr2 := (H9.box 6).read 2
  have qr3 := (H9.box 6).read 3
  have qri := (H9.box 6).inside
  go_upto_region 7 with (first
    | (go_at_call 13; (with_reducible refine (c1 _).mono ?_); rintro e w11 ⟨rfl, j11⟩)
    | fail)
  have H11 := H9.call j11
  clear qr0 qr1 qr2 qr3 qri H9 j11 c1
  have qr0 := (H11.box 6).read 0
  have qr1 := (H11.box 6).read 1
  have qr2 := (H11.box 6).read 2
  have qr3 := (H11.box 6).read 3
  have qri := (H11.box 6).inside
  go_upto_region 8 with (first
    | (go_at_call 14; (with_reducible refine (d1 _).mono ?_); rintro e w12 ⟨rfl, j12⟩)
    | fail)
  have H12 := H11.call j12
  clear qr0 qr1 qr2 qr3 qri H11 j12 d1
  have qe0 := (H12.box 5).read 0
  have qe1 := (H12.box 5).read 1
  have qe2 := (H12.box 5).read 2
  have qe3 := (H12.box 5).read 3
  have qe4 := (H12.box 5).read 4
  have qe5 := (H12.box 5).read 5
  have qe6 := (H12.box 5).read 6
  have qei := (H12.box 5).inside
  go_upto_region 9 with (first
    | (go_at_call 15; (with_reducible refine (c2 _ (HT.out.call H12.below)).mono ?_); rintro e w13 ⟨rfl, j13⟩)
    | fail)
  have H13 := H12.call j13
  clear qe0 qe1 qe2 qe3 qe4 qe5 qe6 qei H12 j13 c2
  have qe0 := (H13.box 5).read 0
  have qe1 := (H13.box 5).read 1
  have qe2 := (H13.box 5).read 2
  have qe3 := (H13.box 5).read 3
  have qe4 := (H13.box 5).read 4
  have qe5 := (H13.box 5).read 5
  have qe6 := (H13.box 5).read 6
  have qei := (H13.box 5).inside
  go_upto_region 10 with (first
    | (go_at_call 16; (with_reducible refine (d2 _).mono ?_); rintro e w14 ⟨rfl, j14⟩)
    | fail)
  have H14 := H13.call j14
  clear qe0 qe1 qe2 qe3 qe4 qe5 qe6 qei H13 j14 d2
  have qe0 := (H14.box 5).read 0
  have qe1 := (H14.box 5).read 1
  have qe2 := (H14.box 5).read 2
  have qe3 := (H14.box 5).read 3
  have qe4 := (H14.box 5).read 4
  have qe5 := (H14.box 5).read 5
  have qe6 := (H14.box 5).read 6
  have qei := (H14.box 5).inside
  go_upto_region 11 with (first
    | (go_at_call 17; (with_reducible refine (c3 _ (HT.out.call H14.below) (rA.on H14.below)).mono ?_); rintro e w15 ⟨rfl, j15⟩)
    | fail)
  have H15 := H14.call j15
  clear qe0 qe1 qe2 qe3 qe4 qe5 qe6 qei H14 j15 c3
  have qe0 := (H15.box 5).read 0
  have qe1 := (H15.box 5).read 1
  have qe2 := (H15.box 5).read 2
  have qe3 := (H15.box 5).read 3
  have qe4 := (H15.box 5).read 4
  have qe5 := (H15.box 5).read 5
  have qe6 := (H15.box 5).read 6
  have qei := (H15.box 5).inside
  go_upto_region 12 with (first
    | (go_at_call 18; (with_reducible refine (d3 _ (rA.on H15.below)).mono ?_); rintro e w16 ⟨rfl, j16⟩)
    | fail)
  have H16 := H15.call j16
  clear qe0 qe1 qe2 qe3 qe4 qe5 qe6 qei H15 j16 d3
  have qg0 := (H16.box 3).read 0
  have qg1 := (H16.box 3).read 1
  have qg2 := (H16.box 3).read 2
  have qg3 := (H16.box 3).read 3
  have qgi := (H16.box 3).inside
  go_upto_region 13 with (first
    | (go_at_call 19; (with_reducible refine (c4 _ (rC.on H16.below) (rD.on H16.below)).mono ?_); rintro e w17 ⟨rfl, j17⟩)
    | fail)
  have H17 := H16.call j17
  clear qg0 qg1 qg2 qg3 qgi H16 j17 c4
  have qg0 := (H17.box 3).read 0
  have qg1 := (H17.box 3).read 1
  have qg2 := (H17.box 3).read 2
  have qg3 := (H17.box 3).read 3
  have qgi := (H17.box 3).inside
  go_upto_region 14 with (first
    | (go_at_call 20; (with_reducible refine (d4 _ (rC.on H17.below) (rD.on H17.below)).mono ?_); rintro e w18 ⟨rfl, j18⟩)
    | fail)
  have H18 := H17.call j18
  clear qg0 qg1 qg2 qg3 qgi H17 j18 d4
  have qc0 := (H18.box 1).read 0
  have qc1 := (H18.box 1).read 1
  have qci := (H18.box 1).inside
  go_upto_region 15 with (first
    | (go_at_call 21; (with_reducible refine (c5 _ (HT.out.call H18.below) (rP.on H18.below) (rQ.on H18.below)).mono ?_); rintro e w19 ⟨rfl, j19⟩)
    | fail)
  have H19 := H18.call j19
  clear qc0 qc1 qci H18 j19 c5
  have qc0 := (H19.box 1).read 0
  have qc1 := (H19.box 1).read 1
  have qci := (H19.box 1).inside
  go_upto_region 16 with (first
    | (go_at_call 22; (with_reducible refine (d5 _ (rP.on H19.below) (rQ.on H19.below)).mono ?_); rintro e w20 ⟨rfl, j20⟩)
    | fail)
  have H20 := H19.call j20
  clear qc0 qc1 qci H19 j20 d5
  have qr0 := (H20.box 6).read 0
  have qr1 := (H20.box 6).read 1
  have qr2 := (H20.box 6).read 2
  have qr3 := (H20.box 6).read 3
  have qri := (H20.box 6).inside
  go_upto_region 18 with (first
    | (go_at_call 23; (with_reducible refine (cR _).mono ?_); rintro e w21 ⟨rfl, j21⟩)
    | fail)
  have H21 := H20.call j21
  clear qr0 qr1 qr2 qr3 qri H20 j21 cR
  have fact : ∀ u, Below w21.heap.size w21 u → ((u.cell? ⟨w.heap.size + 1, 0, none⟩ = some (Value.bool ep) ∧ u.cell? ⟨w.heap.size + 1, 1, none⟩ = some (Value.string ei) ∧ u.cell? ⟨w.heap.size + 1, 2, none⟩ = some (Value.string es) ∧ u.cell? ⟨w.heap.size + 1, 3, none⟩ = some (Value.int .u64 eh) ∧ u.cell? ⟨w.heap.size + 1, 4, none⟩ = some (Value.int .u64 el) ∧ u.cell? ⟨w.heap.size + 1, 5, none⟩ = some (Value.int .u64 eq) ∧ u.cell? ⟨w.heap.size + 1, 6, none⟩ = some (Value.slice A eN ac)) ∧ (u.cell? ⟨w.heap.size + 1 + 1, 0, none⟩ = some (Value.bool fp) ∧ u.cell? ⟨w.heap.size + 1 + 1, 1, none⟩ = some (Value.string fi) ∧ u.cell? ⟨w.heap.size + 1 + 1, 2, none⟩ = some (Value.string fs) ∧ u.cell? ⟨w.heap.size + 1 + 1, 3, none⟩ = some (Value.int .u64 fh) ∧ u.cell? ⟨w.heap.size + 1 + 1, 4, none⟩ = some (Value.int .u64 fl) ∧ u.cell? ⟨w.heap.size + 1 + 1, 5, none⟩ = some (Value.int .u64 fq) ∧ u.cell? ⟨w.heap.size + 1 + 1, 6, none⟩ = some (Value.slice B fN bc)) ∧ (u.cell? ⟨w.heap.size + 1 + 1 + 1, 0, none⟩ = some (Value.int .u64 ga) ∧ u.cell? ⟨w.heap.size + 1 + 1 + 1, 1, none⟩ = some (Value.int .u64 gb) ∧ u.cell? ⟨w.heap.size + 1 + 1 + 1, 2, none⟩ = some (Value.slice C gN cc) ∧ u.cell? ⟨w.heap.size + 1 + 1 + 1, 3, none⟩ = some (Value.slice D gM dc)) ∧ (u.cell? ⟨w.heap.size + 1 + 1 + 1 + 1, 0, none⟩ = some (Value.int .u64 ha) ∧ u.cell? ⟨w.heap.size + 1 + 1 + 1 + 1, 1, none⟩ = some (Value.int .u64 hb) ∧ u.cell? ⟨w.heap.size + 1 + 1 + 1 + 1, 2, none⟩ = some (Value.slice E hN xc) ∧ u.cell? ⟨w.heap.size + 1 + 1 + 1 + 1, 3, none⟩ = some (Value.slice F hM fc)) ∧ (u.cell? ⟨w.heap.size + 1 + 1 + 1 + 1 + 1, 0, none⟩ = some (Value.slice P lN pc) ∧ u.cell? ⟨w.heap.size + 1 + 1 + 1 + 1 + 1, 1, none⟩ = some (Value.slice Q mN qc)) ∧ (u.cell? ⟨w.heap.size + 1 + 1 + 1 + 1 + 1 + 1, 0, none⟩ = some (Value.slice U oN uc) ∧ u.cell? ⟨w.heap.size + 1 + 1 + 1 + 1 + 1 + 1, 1, none⟩ = some (Value.slice V pN vc)) ∧ w.heap.size + 1 < u.heap.size ∧ w.heap.size + 1 + 1 < u.heap.size ∧ w.heap.size + 1 + 1 + 1 < u.heap.size ∧ w.heap.size + 1 + 1 + 1 + 1 < u.heap.size ∧ w.heap.size + 1 + 1 + 1 + 1 + 1 < u.heap.size ∧ w.heap.size + 1 + 1 + 1 + 1 + 1 + 1 < u.heap.size) := fun u hu => by
    have K := H21.call hu
    exact ⟨⟨(K.box 5).read 0, (K.box 5).read 1, (K.box 5).read 2, (K.box 5).read 3, (K.box 5).read 4, (K.box 5).read 5, (K.box 5).read 6⟩, ⟨(K.box 4).read 0, (K.box 4).read 1, (K.box 4).read 2, (K.box 4).read 3, (K.box 4).read 4, (K.box 4).read 5, (K.box 4).read 6⟩, ⟨(K.box 3).read 0, (K.box 3).read 1, (K.box 3).read 2, (K.box 3).read 3⟩, ⟨(K.box 2).read 0, (K.box 2).read 1, (K.box 2).read 2, (K.box 2).read 3⟩, ⟨(K.box 1).read 0, (K.box 1).read 1⟩, ⟨(K.box 0).read 0, (K.box 0).read 1⟩, (K.box 5).inside, (K.box 4).inside, (K.box 3).inside, (K.box 2).inside, (K.box 1).inside, (K.box 0).inside⟩
  go_region_held3 (fun u => Below w21.heap.size w21 u ∧ ((u.cell? ⟨w.heap.size + 1, 0, none⟩ = some (Value.bool ep) ∧ u.cell? ⟨w.heap.size + 1, 1, none⟩ = some (Value.string ei) ∧ u.cell? ⟨w.heap.size + 1, 2, none⟩ = some (Value.string es) ∧ u.cell? ⟨w.heap.size + 1, 3, none⟩ = some (Value.int .u64 eh) ∧ u.cell? ⟨w.heap.size + 1, 4, none⟩ = some (Value.int .u64 el) ∧ u.cell? ⟨w.heap.size + 1, 5, none⟩ = some (Value.int .u64 eq) ∧ u.cell? ⟨w.heap.size + 1, 6, none⟩ = some (Value.slice A eN ac)) ∧ (u.cell? ⟨w.heap.size + 1 + 1, 0, none⟩ = some (Value.bool fp) ∧ u.cell? ⟨w.heap.size + 1 + 1, 1, none⟩ = some (Value.string fi) ∧ u.cell? ⟨w.heap.size + 1 + 1, 2, none⟩ = some (Value.string fs) ∧ u.cell? ⟨w.heap.size + 1 + 1, 3, none⟩ = some (Value.int .u64 fh) ∧ u.cell? ⟨w.heap.size + 1 + 1, 4, none⟩ = some (Value.int .u64 fl) ∧ u.cell? ⟨w.heap.size + 1 + 1, 5, none⟩ = some (Value.int .u64 fq) ∧ u.cell? ⟨w.heap.size + 1 + 1, 6, none⟩ = some (Value.slice B fN bc)) ∧ (u.cell? ⟨w.heap.size + 1 + 1 + 1, 0, none⟩ = some (Value.int .u64 ga) ∧ u.cell? ⟨w.heap.size + 1 + 1 + 1, 1, none⟩ = some (Value.int .u64 gb) ∧ u.cell? ⟨w.heap.size + 1 + 1 + 1, 2, none⟩ = some (Value.slice C gN cc) ∧ u.cell? ⟨w.heap.size + 1 + 1 + 1, 3, none⟩ = some (Value.slice D gM dc)) ∧ (u.cell? ⟨w.heap.size + 1 + 1 + 1 + 1, 0, none⟩ = some (Value.int .u64 ha) ∧ u.cell? ⟨w.heap.size + 1 + 1 + 1 + 1, 1, none⟩ = some (Value.int .u64 hb) ∧ u.cell? ⟨w.heap.size + 1 + 1 + 1 + 1, 2, none⟩ = some (Value.slice E hN xc) ∧ u.cell? ⟨w.heap.size + 1 + 1 + 1 + 1, 3, none⟩ = some (Value.slice F hM fc)) ∧ (u.cell? ⟨w.heap.size + 1 + 1 + 1 + 1 + 1, 0, none⟩ = some (Value.slice P lN pc) ∧ u.cell? ⟨w.heap.size + 1 + 1 + 1 + 1 + 1, 1, none⟩ = some (Value.slice Q mN qc)) ∧ (u.cell? ⟨w.heap.size + 1 + 1 + 1 + 1 + 1 + 1, 0, none⟩ = some (Value.slice U oN uc) ∧ u.cell? ⟨w.heap.size + 1 + 1 + 1 + 1 + 1 + 1, 1, none⟩ = some (Value.slice V pN vc)) ∧ w.heap.size + 1 < u.heap.size ∧ w.heap.size + 1 + 1 < u.heap.size ∧ w.heap.size + 1 + 1 + 1 < u.heap.size ∧ w.heap.size + 1 + 1 + 1 + 1 < u.heap.size ∧ w.heap.size + 1 + 1 + 1 + 1 + 1 < u.heap.size ∧ w.heap.size + 1 + 1 + 1 + 1 + 1 + 1 < u.heap.size))
    (first | exact on_start fact | exact on_call fact (by assumption) (by assumption) | with_reducible assumption | fail)
    (first
      | (go_at_call 24; (with_reducible refine (s1 _ (rA.on (H21.call (on_low (by assumption))).below) (rB.on (H21.call (on_low (by assumption))).below)).mono ?_); rintro e x1 ⟨rfl, i1⟩)
      | (go_at_call 25; (with_reducible refine (t1 _ (rA.on (H21.call (on_low (by assumption))).below) (rB.on (H21.call (on_low (by assumption))).below)).mono ?_); rintro e x2 ⟨rfl, i2⟩)
      | (go_at_call 26; (with_reducible refine (s2 _ (rC.on (H21.call (on_low (by assumption))).below) (rE.on (H21.call (on_low (by assumption))).below) (rD.on (H21.call (on_low (by assumption))).below) (rF.on (H21.call (on_low (by assumption))).below)).mono ?_); rintro e x3 ⟨rfl, i3⟩)
      | (go_at_call 27; (with_reducible refine (t2 _ (rC.on (H21.call (on_low (by assumption))).below) (rE.on (H21.call (on_low (by assumption))).below) (rD.on (H21.call (on_low (by assumption))).below) (rF.on (H21.call (on_low (by assumption))).below)).mono ?_); rintro e x4 ⟨rfl, i4⟩)
      | (go_at_call 28; (with_reducible refine (s3 _ (rP.on (H21.call (on_low (by assumption))).below) (rU.on (H21.call (on_low (by assumption))).below) (rQ.on (H21.call (on_low (by assumption))).below) (rV.on (H21.call (on_low (by assumption))).below)).mono ?_); rintro e x5 ⟨rfl, i5⟩)
      | (go_at_call 29; (with_reducible refine (t3 _ (rP.on (H21.call (on_low (by assumption))).below) (rU.on (H21.call (on_low (by assumption))).below) (rQ.on (H21.call (on_low (by assumption))).below) (rV.on (H21.call (on_low (by assumption))).below)).mono ?_); rintro e x6 ⟨rfl, i6⟩)
      | fail)
  all_goals go_wp2_with fail
  all_goals go_ret
  all_goals exact ⟨rfl, (H21.call (on_low (by assumption))).below⟩
end Go.Proofs.YtmflhodiibjpnaaGreatDoor
