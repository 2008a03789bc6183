/-
  The law PackSame: two are the same just if their bytes are, as far as they have some; each is the same as itself. Conditions: none.
-/
import Derived.Test.YtmflhodiibjpnaaGreatDoorM13Law
import Derived.Test.YtmflhodiibjpnaaGreatDoorW10Laid
import Derived.ChangeMaps
namespace Go.Proofs.YtmflhodiibjpnaaGreatDoor
set_option linter.unusedVariables false
set_option linter.unusedSimpArgs false
set_option maxRecDepth 10000
open Go.ChangeShapes Go.WideShapes Go.ChangeAt Go.RowKit

set_option maxRecDepth 100000 in
set_option maxHeartbeats 8000000 in
theorem l13same_any (e f : EnP) (g h : RgP) (A B C D E F : Option Addr) (ac bc cc dc xc fc : Nat)
    (ye : e.leaf.fine ∧ Word e.pos ∧ e.sides.length ≤ 9223372036854775807 ∧ ∀ y ∈ e.sides, y.fine) (yf : f.leaf.fine ∧ Word f.pos ∧ f.sides.length ≤ 9223372036854775807 ∧ ∀ y ∈ f.sides, y.fine)
    (yg : (Word g.a ∧ Word g.b) ∧ (g.ins.length ≤ 9223372036854775807 ∧ ∀ y ∈ g.ins, y.fine) ∧ g.outs.length ≤ 9223372036854775807 ∧ ∀ y ∈ g.outs, y.fine) (yh : (Word h.a ∧ Word h.b) ∧ (h.ins.length ≤ 9223372036854775807 ∧ ∀ y ∈ h.ins, y.fine) ∧ h.outs.length ≤ 9223372036854775807 ∧ ∀ y ∈ h.outs, y.fine)
    (w : World) (hT : TabU w) (rA : ndS.Row w w.heap.size A e.sides) (rB : ndS.Row w w.heap.size B f.sides) (rC : ndS.Row w w.heap.size C g.ins) (rD : ndS.Row w w.heap.size D g.outs) (rE : ndS.Row w w.heap.size E h.ins) (rF : ndS.Row w w.heap.size F h.outs) :
    Calls Tryz.prog 7 #[.agg (enB e.leaf.pad e.leaf.id e.leaf.salt e.leaf.h e.leaf.l e.pos A e.sides.length ac), .agg (enB f.leaf.pad f.leaf.id f.leaf.salt f.leaf.h f.leaf.l f.pos B f.sides.length bc), .agg (rgB g.a g.b C g.ins.length cc D g.outs.length dc), .agg (rgB h.a h.b E h.ins.length xc F h.outs.length fc)] w (Tells (.bool true) w.heap.size w) := by
  have cA := fun u hu => awake13_any u hu
  have cL1 := fun u hu => lngE_any e A ac ye.1.1.1 ye.1.1.2 ye.2.2.1 u hu
  have cL2 := fun u hu => lngE_any f B bc yf.1.1.1 yf.1.1.2 yf.2.2.1 u hu
  have cL3 := fun u h1 h2 => lngR_any g C D cc dc yg.2.1.1 yg.2.2.1 u h1 h2
  have cL4 := fun u h1 h2 => lngR_any h E F xc fc yh.2.1.1 yh.2.2.1 u h1 h2
  by_cases hlong : (lngE e || (lngE f || (lngR g || lngR h))) = true
  · obtain ⟨b1, hb1⟩ : ∃ b, lngE e = b := ⟨_, rfl⟩
    obtain ⟨b2, hb2⟩ : ∃ b, lngE f = b := ⟨_, rfl⟩
    obtain ⟨b3, hb3⟩ : ∃ b, lngR g = b := ⟨_, rfl⟩
    obtain ⟨b4, hb4⟩ : ∃ b, lngR h = b := ⟨_, rfl⟩
    rw [hb1, hb2, hb3, hb4] at hlong
    rw [hb1] at cL1
    rw [hb2] at cL2
    rw [hb3] at cL3
    rw [hb4] at cL4
    clear hb1 hb2 hb3 hb4 ye yf yg yh
    obtain ⟨⟨ep, ei, es, eh, el⟩, eq, eL⟩ := e
    obtain ⟨⟨fp, fi, fs, fh, fl⟩, fq, fL⟩ := f
    obtain ⟨ga, gb, gL, gK⟩ := g
    obtain ⟨ha, hb, hL, hK⟩ := h
    simp only at *
    generalize eL.length = eN at *
    generalize fL.length = fN at *
    generalize gL.length = gN at *
    generalize gK.length = gM at *
    generalize hL.length = hN at *
    generalize hK.length = hM at *
    have H0 : Has w [(w.heap.size + 1 + 1 + 1, 35, rgB ha hb E hN xc F hM fc), (w.heap.size + 1 + 1, 35, rgB ga gb C gN cc D gM dc), (w.heap.size + 1, 33, enB fp fi fs fh fl fq B fN bc), (w.heap.size, 33, enB ep ei es eh el eq A eN ac)] ((((w.alloc (.cells (enB ep ei es eh el eq A eN ac) 33)).alloc (.cells (enB fp fi fs fh fl fq B fN bc) 33)).alloc (.cells (rgB ga gb C gN cc D gM dc) 35)).alloc (.cells (rgB ha hb E hN xc F hM fc) 35)) :=
      ((((Has.start w).add 33 (enB ep ei es eh el eq A eN ac)).addAt 33 (enB fp fi fs fh fl fq B fN bc) (by simp)).addAt 35 (rgB ga gb C gN cc D gM dc) (by simp)).addAt 35 (rgB ha hb E hN xc F hM fc) (by simp)
    go_enter Tryz.func7, Tryz.ntmps7
    go_upto_region 1 with fail
    change Code.wp _ _ _ _ ((((w.alloc (.cells (enB ep ei es eh el eq A eN ac) 33)).alloc (.cells (enB fp fi fs fh fl fq B fN bc) 33)).alloc (.cells (rgB ga gb C gN cc D gM dc) 35)).alloc (.cells (rgB ha hb E hN xc F hM fc) 35))
    generalize (((w.alloc (.cells (enB ep ei es eh el eq A eN ac) 33)).alloc (.cells (enB fp fi fs fh fl fq B fN bc) 33)).alloc (.cells (rgB ga gb C gN cc D gM dc) 35)).alloc (.cells (rgB ha hb E hN xc F hM fc) 35) = V0 at *
    go_upto_region 3 with (first | (go_at_call 45; refine (cA _ (hT.call H0.below)).mono ?_; rintro e w1 ⟨rfl, j1⟩) | fail)
    have H := H0.call j1
    clear H0 j1 cA
    have qe0 := (H.box 3).read 0
    have qe1 := (H.box 3).read 1
    have qe2 := (H.box 3).read 2
    have qe3 := (H.box 3).read 3
    have qe4 := (H.box 3).read 4
    have qe5 := (H.box 3).read 5
    have qe6 := (H.box 3).read 6
    have qei := (H.box 3).inside
    have qf0 := (H.box 2).read 0
    have qf1 := (H.box 2).read 1
    have qf2 := (H.box 2).read 2
    have qf3 := (H.box 2).read 3
    have qf4 := (H.box 2).read 4
    have qf5 := (H.box 2).read 5
    have qf6 := (H.box 2).read 6
    have qfi := (H.box 2).inside
    have qg0 := (H.box 1).read 0
    have qg1 := (H.box 1).read 1
    have qg2 := (H.box 1).read 2
    have qg3 := (H.box 1).read 3
    have qgi := (H.box 1).inside
    have qh0 := (H.box 0).read 0
    have qh1 := (H.box 0).read 1
    have qh2 := (H.box 0).read 2
    have qh3 := (H.box 0).read 3
    have qhi := (H.box 0).inside
    cases b1 with
    | true =>
      go_wp2_with (first
        | (go_at_call 8; (with_reducible refine (cL1 _ (rA.on H.below)).mono ?_); rintro e w2 ⟨rfl, j2⟩
           have H2 := H.call j2
           have qe0 := (H2.box 3).read 0
           have qe1 := (H2.box 3).read 1
           have qe2 := (H2.box 3).read 2
           have qe3 := (H2.box 3).read 3
           have qe4 := (H2.box 3).read 4
           have qe5 := (H2.box 3).read 5
           have qe6 := (H2.box 3).read 6
           have qei := (H2.box 3).inside
           have qf0 := (H2.box 2).read 0
           have qf1 := (H2.box 2).read 1
           have qf2 := (H2.box 2).read 2
           have qf3 := (H2.box 2).read 3
           have qf4 := (H2.box 2).read 4
           have qf5 := (H2.box 2).read 5
           have qf6 := (H2.box 2).read 6
           have qfi := (H2.box 2).inside
           have qg0 := (H2.box 1).read 0
           have qg1 := (H2.box 1).read 1
           have qg2 := (H2.box 1).read 2
           have qg3 := (H2.box 1).read 3
           have qgi := (H2.box 1).inside
           have qh0 := (H2.box 0).read 0
           have qh1 := (H2.box 0).read 1
           have qh2 := (H2.box 0).read 2
           have qh3 := (H2.box 0).read 3
           have qhi := (H2.box 0).inside
          )
        | fail)
      go_ret
      exact ⟨rfl, H2.below⟩
    | false =>
      cases b2 with
      | true =>
        go_wp2_with (first
          | (go_at_call 8; (with_reducible refine (cL1 _ (rA.on H.below)).mono ?_); rintro e w2 ⟨rfl, j2⟩
             have H2 := H.call j2
             have qe0 := (H2.box 3).read 0
             have qe1 := (H2.box 3).read 1
             have qe2 := (H2.box 3).read 2
             have qe3 := (H2.box 3).read 3
             have qe4 := (H2.box 3).read 4
             have qe5 := (H2.box 3).read 5
             have qe6 := (H2.box 3).read 6
             have qei := (H2.box 3).inside
             have qf0 := (H2.box 2).read 0
             have qf1 := (H2.box 2).read 1
             have qf2 := (H2.box 2).read 2
             have qf3 := (H2.box 2).read 3
             have qf4 := (H2.box 2).read 4
             have qf5 := (H2.box 2).read 5
             have qf6 := (H2.box 2).read 6
             have qfi := (H2.box 2).inside
             have qg0 := (H2.box 1).read 0
             have qg1 := (H2.box 1).read 1
             have qg2 := (H2.box 1).read 2
             have qg3 := (H2.box 1).read 3
             have qgi := (H2.box 1).inside
             have qh0 := (H2.box 0).read 0
             have qh1 := (H2.box 0).read 1
             have qh2 := (H2.box 0).read 2
             have qh3 := (H2.box 0).read 3
             have qhi := (H2.box 0).inside
            )
          | (go_at_call 8; (with_reducible refine (cL2 _ (rB.on H2.below)).mono ?_); rintro e w3 ⟨rfl, j3⟩
             have H3 := H2.call j3
             have qe0 := (H3.box 3).read 0
             have qe1 := (H3.box 3).read 1
             have qe2 := (H3.box 3).read 2
             have qe3 := (H3.box 3).read 3
             have qe4 := (H3.box 3).read 4
             have qe5 := (H3.box 3).read 5
             have qe6 := (H3.box 3).read 6
             have qei := (H3.box 3).inside
             have qf0 := (H3.box 2).read 0
             have qf1 := (H3.box 2).read 1
             have qf2 := (H3.box 2).read 2
             have qf3 := (H3.box 2).read 3
             have qf4 := (H3.box 2).read 4
             have qf5 := (H3.box 2).read 5
             have qf6 := (H3.box 2).read 6
             have qfi := (H3.box 2).inside
             have qg0 := (H3.box 1).read 0
             have qg1 := (H3.box 1).read 1
             have qg2 := (H3.box 1).read 2
             have qg3 := (H3.box 1).read 3
             have qgi := (H3.box 1).inside
             have qh0 := (H3.box 0).read 0
             have qh1 := (H3.box 0).read 1
             have qh2 := (H3.box 0).read 2
             have qh3 := (H3.box 0).read 3
             have qhi := (H3.box 0).inside
            )
          | fail)
        go_ret
        exact ⟨rfl, H3.below⟩
      | false =>
        cases b3 with
        | true =>
          go_wp2_with (first
            | (go_at_call 8; (with_reducible refine (cL1 _ (rA.on H.below)).mono ?_); rintro e w2 ⟨rfl, j2⟩
               have H2 := H.call j2
               have qe0 := (H2.box 3).read 0
               have qe1 := (H2.box 3).read 1
               have qe2 := (H2.box 3).read 2
               have qe3 := (H2.box 3).read 3
               have qe4 := (H2.box 3).read 4
               have qe5 := (H2.box 3).read 5
               have qe6 := (H2.box 3).read 6
               have qei := (H2.box 3).inside
               have qf0 := (H2.box 2).read 0
               have qf1 := (H2.box 2).read 1
               have qf2 := (H2.box 2).read 2
               have qf3 := (H2.box 2).read 3
               have qf4 := (H2.box 2).read 4
               have qf5 := (H2.box 2).read 5
               have qf6 := (H2.box 2).read 6
               have qfi := (H2.box 2).inside
               have qg0 := (H2.box 1).read 0
               have qg1 := (H2.box 1).read 1
               have qg2 := (H2.box 1).read 2
               have qg3 := (H2.box 1).read 3
               have qgi := (H2.box 1).inside
               have qh0 := (H2.box 0).read 0
               have qh1 := (H2.box 0).read 1
               have qh2 := (H2.box 0).read 2
               have qh3 := (H2.box 0).read 3
               have qhi := (H2.box 0).inside
              )
            | (go_at_call 8; (with_reducible refine (cL2 _ (rB.on H2.below)).mono ?_); rintro e w3 ⟨rfl, j3⟩
               have H3 := H2.call j3
               have qe0 := (H3.box 3).read 0
               have qe1 := (H3.box 3).read 1
               have qe2 := (H3.box 3).read 2
               have qe3 := (H3.box 3).read 3
               have qe4 := (H3.box 3).read 4
               have qe5 := (H3.box 3).read 5
               have qe6 := (H3.box 3).read 6
               have qei := (H3.box 3).inside
               have qf0 := (H3.box 2).read 0
               have qf1 := (H3.box 2).read 1
               have qf2 := (H3.box 2).read 2
               have qf3 := (H3.box 2).read 3
               have qf4 := (H3.box 2).read 4
               have qf5 := (H3.box 2).read 5
               have qf6 := (H3.box 2).read 6
               have qfi := (H3.box 2).inside
               have qg0 := (H3.box 1).read 0
               have qg1 := (H3.box 1).read 1
               have qg2 := (H3.box 1).read 2
               have qg3 := (H3.box 1).read 3
               have qgi := (H3.box 1).inside
               have qh0 := (H3.box 0).read 0
               have qh1 := (H3.box 0).read 1
               have qh2 := (H3.box 0).read 2
               have qh3 := (H3.box 0).read 3
               have qhi := (H3.box 0).inside
              )
            | (go_at_call 9; (with_reducible refine (cL3 _ (rC.on H3.below) (rD.on H3.below)).mono ?_); rintro e w4 ⟨rfl, j4⟩
               have H4 := H3.call j4
               have qe0 := (H4.box 3).read 0
               have qe1 := (H4.box 3).read 1
               have qe2 := (H4.box 3).read 2
               have qe3 := (H4.box 3).read 3
               have qe4 := (H4.box 3).read 4
               have qe5 := (H4.box 3).read 5
               have qe6 := (H4.box 3).read 6
               have qei := (H4.box 3).inside
               have qf0 := (H4.box 2).read 0
               have qf1 := (H4.box 2).read 1
               have qf2 := (H4.box 2).read 2
               have qf3 := (H4.box 2).read 3
               have qf4 := (H4.box 2).read 4
               have qf5 := (H4.box 2).read 5
               have qf6 := (H4.box 2).read 6
               have qfi := (H4.box 2).inside
               have qg0 := (H4.box 1).read 0
               have qg1 := (H4.box 1).read 1
               have qg2 := (H4.box 1).read 2
               have qg3 := (H4.box 1).read 3
               have qgi := (H4.box 1).inside
               have qh0 := (H4.box 0).read 0
               have qh1 := (H4.box 0).read 1
               have qh2 := (H4.box 0).read 2
               have qh3 := (H4.box 0).read 3
               have qhi := (H4.box 0).inside
              )
            | fail)
          go_ret
          exact ⟨rfl, H4.below⟩
        | false =>
          cases b4 with
          | true =>
            go_wp2_with (first
              | (go_at_call 8; (with_reducible refine (cL1 _ (rA.on H.below)).mono ?_); rintro e w2 ⟨rfl, j2⟩
                 have H2 := H.call j2
                 have qe0 := (H2.box 3).read 0
                 have qe1 := (H2.box 3).read 1
                 have qe2 := (H2.box 3).read 2
                 have qe3 := (H2.box 3).read 3
                 have qe4 := (H2.box 3).read 4
                 have qe5 := (H2.box 3).read 5
                 have qe6 := (H2.box 3).read 6
                 have qei := (H2.box 3).inside
                 have qf0 := (H2.box 2).read 0
                 have qf1 := (H2.box 2).read 1
                 have qf2 := (H2.box 2).read 2
                 have qf3 := (H2.box 2).read 3
                 have qf4 := (H2.box 2).read 4
                 have qf5 := (H2.box 2).read 5
                 have qf6 := (H2.box 2).read 6
                 have qfi := (H2.box 2).inside
                 have qg0 := (H2.box 1).read 0
                 have qg1 := (H2.box 1).read 1
                 have qg2 := (H2.box 1).read 2
                 have qg3 := (H2.box 1).read 3
                 have qgi := (H2.box 1).inside
                 have qh0 := (H2.box 0).read 0
                 have qh1 := (H2.box 0).read 1
                 have qh2 := (H2.box 0).read 2
                 have qh3 := (H2.box 0).read 3
                 have qhi := (H2.box 0).inside
                )
              | (go_at_call 8; (with_reducible refine (cL2 _ (rB.on H2.below)).mono ?_); rintro e w3 ⟨rfl, j3⟩
                 have H3 := H2.call j3
                 have qe0 := (H3.box 3).read 0
                 have qe1 := (H3.box 3).read 1
                 have qe2 := (H3.box 3).read 2
                 have qe3 := (H3.box 3).read 3
                 have qe4 := (H3.box 3).read 4
                 have qe5 := (H3.box 3).read 5
                 have qe6 := (H3.box 3).read 6
                 have qei := (H3.box 3).inside
                 have qf0 := (H3.box 2).read 0
                 have qf1 := (H3.box 2).read 1
                 have qf2 := (H3.box 2).read 2
                 have qf3 := (H3.box 2).read 3
                 have qf4 := (H3.box 2).read 4
                 have qf5 := (H3.box 2).read 5
                 have qf6 := (H3.box 2).read 6
                 have qfi := (H3.box 2).inside
                 have qg0 := (H3.box 1).read 0
                 have qg1 := (H3.box 1).read 1
                 have qg2 := (H3.box 1).read 2
                 have qg3 := (H3.box 1).read 3
                 have qgi := (H3.box 1).inside
                 have qh0 := (H3.box 0).read 0
                 have qh1 := (H3.box 0).read 1
                 have qh2 := (H3.box 0).read 2
                 have qh3 := (H3.box 0).read 3
                 have qhi := (H3.box 0).inside
                )
              | (go_at_call 9; (with_reducible refine (cL3 _ (rC.on H3.below) (rD.on H3.below)).mono ?_); rintro e w4 ⟨rfl, j4⟩
                 have H4 := H3.call j4
                 have qe0 := (H4.box 3).read 0
                 have qe1 := (H4.box 3).read 1
                 have qe2 := (H4.box 3).read 2
                 have qe3 := (H4.box 3).read 3
                 have qe4 := (H4.box 3).read 4
                 have qe5 := (H4.box 3).read 5
                 have qe6 := (H4.box 3).read 6
                 have qei := (H4.box 3).inside
                 have qf0 := (H4.box 2).read 0
                 have qf1 := (H4.box 2).read 1
                 have qf2 := (H4.box 2).read 2
                 have qf3 := (H4.box 2).read 3
                 have qf4 := (H4.box 2).read 4
                 have qf5 := (H4.box 2).read 5
                 have qf6 := (H4.box 2).read 6
                 have qfi := (H4.box 2).inside
                 have qg0 := (H4.box 1).read 0
                 have qg1 := (H4.box 1).read 1
                 have qg2 := (H4.box 1).read 2
                 have qg3 := (H4.box 1).read 3
                 have qgi := (H4.box 1).inside
                 have qh0 := (H4.box 0).read 0
                 have qh1 := (H4.box 0).read 1
                 have qh2 := (H4.box 0).read 2
                 have qh3 := (H4.box 0).read 3
                 have qhi := (H4.box 0).inside
                )
              | (go_at_call 9; (with_reducible refine (cL4 _ (rE.on H4.below) (rF.on H4.below)).mono ?_); rintro e w5 ⟨rfl, j5⟩)
              | fail)
            go_ret
            exact ⟨rfl, (H4.call j5).below⟩
          | false => exact absurd hlong (by decide)
  · rw [Bool.not_eq_true, Bool.or_eq_false_iff, Bool.or_eq_false_iff, Bool.or_eq_false_iff] at hlong
    obtain ⟨m1, m2, m3, m4⟩ := hlong
    rw [m1] at cL1
    rw [m2] at cL2
    rw [m3] at cL3
    rw [m4] at cL4
    have n1 := lngE_no m1
    have n2 := lngE_no m2
    have n3 := lngR_no m3
    have n4 := lngR_no m4
    have cE1 := fun u h1 h2 => entry_any e (lf_ok n1.1 ye.1) ye.2.1 A ac (nds_ok n1.2 ye.2.2.2) u h1 h2
    have cE2 := fun u h1 h2 => entry_any f (lf_ok n2.1 yf.1) yf.2.1 B bc (nds_ok n2.2 yf.2.2.2) u h1 h2
    have cG1 := fun u h1 h2 => range_any g yg.1 C D cc dc (nds_ok n3.1 yg.2.1.2) (nds_ok n3.2 yg.2.2.2) u h1 h2
    have cG2 := fun u h1 h2 => range_any h yh.1 E F xc fc (nds_ok n4.1 yh.2.1.2) (nds_ok n4.2 yh.2.2.2) u h1 h2
    have cS := fun u h1 h2 => sameentry_any e f A B ac bc (by have := n1.2.1; omega) (by have := n2.2.1; omega) u h1 h2
    have cT := fun u h1 h2 h3 h4 => samerange_any g h C D E F cc dc xc fc (by have := n3.1.1; omega) (by have := n4.1.1; omega) (by have := n3.2.1; omega) (by have := n4.2.1; omega) u h1 h2 h3 h4
    have cS0 := fun u h1 h2 => sameentry_any e e A A ac ac (by have := n1.2.1; omega) (by have := n1.2.1; omega) u h1 h2
    have cT0 := fun u h1 h2 h3 h4 => samerange_any g g C D C D cc dc cc dc (by have := n3.1.1; omega) (by have := n3.1.1; omega) (by have := n3.2.1; omega) (by have := n3.2.1; omega) u h1 h2 h3 h4
    have cN := fun u h1 h2 => rsameNodes_any C E cc xc g.ins h.ins (by have := n3.1.1; omega) (by have := n4.1.1; omega) u h1 h2
    have cD1 := fun (P Q : Option Addr) u h1 h2 h3 h4 => samediff_any ⟨[⟨e.pos, e.leaf, f.leaf⟩], g.ins⟩ ⟨[⟨e.pos, e.leaf, f.leaf⟩], g.ins⟩ P C Q C 1 cc 1 cc (by show 1 ≤ _; omega) (by show 1 ≤ _; omega) (by have := n3.1.1; show g.ins.length ≤ _; omega) (by have := n3.1.1; show g.ins.length ≤ _; omega) u h1 h2 h3 h4
    have cD2 := fun (P Q : Option Addr) u h1 h2 h3 h4 => samediff_any ⟨[⟨e.pos, e.leaf, f.leaf⟩], g.ins⟩ ⟨[⟨f.pos, e.leaf, f.leaf⟩], h.ins⟩ P C Q E 1 cc 1 xc (by show 1 ≤ _; omega) (by show 1 ≤ _; omega) (by have := n3.1.1; show g.ins.length ≤ _; omega) (by have := n4.1.1; show h.ins.length ≤ _; omega) u h1 h2 h3 h4
    rw [(EnP.same_iff e e).2 rfl] at cS0
    rw [(RgP.same_iff g g).2 rfl] at cT0
    rw [(DfP.same_iff _ _).2 rfl] at cD1
    rw [df_pair] at cD2
    have we : e.w := ⟨ye.1.2, ye.2.1, fun y hy => (ye.2.2.2 y hy).2⟩
    have wf : f.w := ⟨yf.1.2, yf.2.1, fun y hy => (yf.2.2.2 y hy).2⟩
    have wg : g.w := ⟨yg.1.1, yg.1.2, fun y hy => (yg.2.1.2 y hy).2, fun y hy => (yg.2.2.2 y hy).2⟩
    have wh : h.w := ⟨yh.1.1, yh.1.2, fun y hy => (yh.2.1.2 y hy).2, fun y hy => (yh.2.2.2 y hy).2⟩
    have hx : ∀ p q, enO e = (p, 0) → enO f = (q, 0) → (p.toList == q.toList) = e.same f := fun p q h1 h2 => en_same we wf h1 h2
    have hy : ∀ p q, rgO g = (p, 0) → rgO h = (q, 0) → (p.toList == q.toList) = g.same h := fun p q h1 h2 => rg_same wg wh h1 h2
    generalize enO e = P1 at *
    generalize enO f = P2 at *
    generalize rgO g = P3 at *
    generalize rgO h = P4 at *
    obtain ⟨p1, k1⟩ := P1
    obtain ⟨p2, k2⟩ := P2
    obtain ⟨p3, k3⟩ := P3
    obtain ⟨p4, k4⟩ := P4
    generalize e.same f = t1 at *
    generalize g.same h = t2 at *
    have HX : Hid (∀ (_ : k1 = 0) (_ : k2 = 0), (p1.toList == p2.toList) = t1) := hideIt fun h1 h2 => hx p1 p2 (by rw [h1]) (by rw [h2])
    have HY : Hid (∀ (_ : k3 = 0) (_ : k4 = 0), (p3.toList == p4.toList) = t2) := hideIt fun h1 h2 => hy p3 p4 (by rw [h1]) (by rw [h2])
    clear hx hy
    obtain ⟨z1, hz1⟩ : ∃ z, (k1 == 0) = z := ⟨_, rfl⟩
    obtain ⟨z2, hz2⟩ : ∃ z, (k2 == 0) = z := ⟨_, rfl⟩
    obtain ⟨z3, hz3⟩ : ∃ z, (k3 == 0) = z := ⟨_, rfl⟩
    obtain ⟨z4, hz4⟩ : ∃ z, (k4 == 0) = z := ⟨_, rfl⟩
    have X1 : Hid (z1 = true → z2 = true → (p1.toList == p2.toList) = t1) := hideIt fun a b => HX.out (by rw [a] at hz1; simpa using hz1) (by rw [b] at hz2; simpa using hz2)
    have Y1 : Hid (z3 = true → z4 = true → (p3.toList == p4.toList) = t2) := hideIt fun a b => HY.out (by rw [a] at hz3; simpa using hz3) (by rw [b] at hz4; simpa using hz4)
    clear HX HY
    clear we wf wg wh n1 n2 n3 n4 m1 m2 m3 m4 ye yf yg yh
    obtain ⟨⟨ep, ei, es, eh, el⟩, eq, eL⟩ := e
    obtain ⟨⟨fp, fi, fs, fh, fl⟩, fq, fL⟩ := f
    obtain ⟨ga, gb, gL, gK⟩ := g
    obtain ⟨ha, hb, hL, hK⟩ := h
    simp only [List.length_cons, List.length_nil] at *
    have hqq : (eq == fq) = decide (eq = fq) := Bool.beq_eq_decide_eq _ _
    generalize decide (gL = hL) = t3 at *
    generalize decide (eq = fq) = t4 at *
    generalize eL.length = eN at *
    generalize fL.length = fN at *
    generalize gL.length = gN at *
    generalize gK.length = gM at *
    generalize hL.length = hN at *
    generalize hK.length = hM at *
    have H0 : Has w [(w.heap.size + 1 + 1 + 1, 35, rgB ha hb E hN xc F hM fc), (w.heap.size + 1 + 1, 35, rgB ga gb C gN cc D gM dc), (w.heap.size + 1, 33, enB fp fi fs fh fl fq B fN bc), (w.heap.size, 33, enB ep ei es eh el eq A eN ac)] ((((w.alloc (.cells (enB ep ei es eh el eq A eN ac) 33)).alloc (.cells (enB fp fi fs fh fl fq B fN bc) 33)).alloc (.cells (rgB ga gb C gN cc D gM dc) 35)).alloc (.cells (rgB ha hb E hN xc F hM fc) 35)) :=
      ((((Has.start w).add 33 (enB ep ei es eh el eq A eN ac)).addAt 33 (enB fp fi fs fh fl fq B fN bc) (by simp)).addAt 35 (rgB ga gb C gN cc D gM dc) (by simp)).addAt 35 (rgB ha hb E hN xc F hM fc) (by simp)
    go_enter Tryz.func7, Tryz.ntmps7
    go_upto_region 1 with fail
    change Code.wp _ _ _ _ ((((w.alloc (.cells (enB ep ei es eh el eq A eN ac) 33)).alloc (.cells (enB fp fi fs fh fl fq B fN bc) 33)).alloc (.cells (rgB ga gb C gN cc D gM dc) 35)).alloc (.cells (rgB ha hb E hN xc F hM fc) 35))
    generalize (((w.alloc (.cells (enB ep ei es eh el eq A eN ac) 33)).alloc (.cells (enB fp fi fs fh fl fq B fN bc) 33)).alloc (.cells (rgB ga gb C gN cc D gM dc) 35)).alloc (.cells (rgB ha hb E hN xc F hM fc) 35) = V0 at *
    go_upto_region 3 with (first | (go_at_call 45; refine (cA _ (hT.call H0.below)).mono ?_; rintro e w1 ⟨rfl, j1⟩) | fail)
    have H := H0.call j1
    clear H0 j1 cA
    have qe0 := (H.box 3).read 0
    have qe1 := (H.box 3).read 1
    have qe2 := (H.box 3).read 2
    have qe3 := (H.box 3).read 3
    have qe4 := (H.box 3).read 4
    have qe5 := (H.box 3).read 5
    have qe6 := (H.box 3).read 6
    have qei := (H.box 3).inside
    have qf0 := (H.box 2).read 0
    have qf1 := (H.box 2).read 1
    have qf2 := (H.box 2).read 2
    have qf3 := (H.box 2).read 3
    have qf4 := (H.box 2).read 4
    have qf5 := (H.box 2).read 5
    have qf6 := (H.box 2).read 6
    have qfi := (H.box 2).inside
    have qg0 := (H.box 1).read 0
    have qg1 := (H.box 1).read 1
    have qg2 := (H.box 1).read 2
    have qg3 := (H.box 1).read 3
    have qgi := (H.box 1).inside
    have qh0 := (H.box 0).read 0
    have qh1 := (H.box 0).read 1
    have qh2 := (H.box 0).read 2
    have qh3 := (H.box 0).read 3
    have qhi := (H.box 0).inside
    go_upto_region 5 with (first
      | (go_at_call 8; (with_reducible refine (cL1 _ (rA.on H.below)).mono ?_); rintro e w2 ⟨rfl, j2⟩
         have H2 := H.call j2
         have qe0 := (H2.box 3).read 0
         have qe1 := (H2.box 3).read 1
         have qe2 := (H2.box 3).read 2
         have qe3 := (H2.box 3).read 3
         have qe4 := (H2.box 3).read 4
         have qe5 := (H2.box 3).read 5
         have qe6 := (H2.box 3).read 6
         have qei := (H2.box 3).inside
         have qf0 := (H2.box 2).read 0
         have qf1 := (H2.box 2).read 1
         have qf2 := (H2.box 2).read 2
         have qf3 := (H2.box 2).read 3
         have qf4 := (H2.box 2).read 4
         have qf5 := (H2.box 2).read 5
         have qf6 := (H2.box 2).read 6
         have qfi := (H2.box 2).inside
         have qg0 := (H2.box 1).read 0
         have qg1 := (H2.box 1).read 1
         have qg2 := (H2.box 1).read 2
         have qg3 := (H2.box 1).read 3
         have qgi := (H2.box 1).inside
         have qh0 := (H2.box 0).read 0
         have qh1 := (H2.box 0).read 1
         have qh2 := (H2.box 0).read 2
         have qh3 := (H2.box 0).read 3
         have qhi := (H2.box 0).inside
        )
      | (go_at_call 8; (with_reducible refine (cL2 _ (rB.on H2.below)).mono ?_); rintro e w3 ⟨rfl, j3⟩
         have H3 := H2.call j3
         have qe0 := (H3.box 3).read 0
         have qe1 := (H3.box 3).read 1
         have qe2 := (H3.box 3).read 2
         have qe3 := (H3.box 3).read 3
         have qe4 := (H3.box 3).read 4
         have qe5 := (H3.box 3).read 5
         have qe6 := (H3.box 3).read 6
         have qei := (H3.box 3).inside
         have qf0 := (H3.box 2).read 0
         have qf1 := (H3.box 2).read 1
         have qf2 := (H3.box 2).read 2
         have qf3 := (H3.box 2).read 3
         have qf4 := (H3.box 2).read 4
         have qf5 := (H3.box 2).read 5
         have qf6 := (H3.box 2).read 6
         have qfi := (H3.box 2).inside
         have qg0 := (H3.box 1).read 0
         have qg1 := (H3.box 1).read 1
         have qg2 := (H3.box 1).read 2
         have qg3 := (H3.box 1).read 3
         have qgi := (H3.box 1).inside
         have qh0 := (H3.box 0).read 0
         have qh1 := (H3.box 0).read 1
         have qh2 := (H3.box 0).read 2
         have qh3 := (H3.box 0).read 3
         have qhi := (H3.box 0).inside
        )
      | (go_at_call 9; (with_reducible refine (cL3 _ (rC.on H3.below) (rD.on H3.below)).mono ?_); rintro e w4 ⟨rfl, j4⟩
         have H4 := H3.call j4
         have qe0 := (H4.box 3).read 0
         have qe1 := (H4.box 3).read 1
         have qe2 := (H4.box 3).read 2
         have qe3 := (H4.box 3).read 3
         have qe4 := (H4.box 3).read 4
         have qe5 := (H4.box 3).read 5
         have qe6 := (H4.box 3).read 6
         have qei := (H4.box 3).inside
         have qf0 := (H4.box 2).read 0
         have qf1 := (H4.box 2).read 1
         have qf2 := (H4.box 2).read 2
         have qf3 := (H4.box 2).read 3
         have qf4 := (H4.box 2).read 4
         have qf5 := (H4.box 2).read 5
         have qf6 := (H4.box 2).read 6
         have qfi := (H4.box 2).inside
         have qg0 := (H4.box 1).read 0
         have qg1 := (H4.box 1).read 1
         have qg2 := (H4.box 1).read 2
         have qg3 := (H4.box 1).read 3
         have qgi := (H4.box 1).inside
         have qh0 := (H4.box 0).read 0
         have qh1 := (H4.box 0).read 1
         have qh2 := (H4.box 0).read 2
         have qh3 := (H4.box 0).read 3
         have qhi := (H4.box 0).inside
        )
      | (go_at_call 9; (with_reducible refine (cL4 _ (rE.on H4.below) (rF.on H4.below)).mono ?_); rintro e w5 ⟨rfl, j5⟩)
      | fail)
    have H5 := H4.call j5
    have qe0 := (H5.box 3).read 0
    have qe1 := (H5.box 3).read 1
    have qe2 := (H5.box 3).read 2
    have qe3 := (H5.box 3).read 3
    have qe4 := (H5.box 3).read 4
    have qe5 := (H5.box 3).read 5
    have qe6 := (H5.box 3).read 6
    have qei := (H5.box 3).inside
    have qf0 := (H5.box 2).read 0
    have qf1 := (H5.box 2).read 1
    have qf2 := (H5.box 2).read 2
    have qf3 := (H5.box 2).read 3
    have qf4 := (H5.box 2).read 4
    have qf5 := (H5.box 2).read 5
    have qf6 := (H5.box 2).read 6
    have qfi := (H5.box 2).inside
    have qg0 := (H5.box 1).read 0
    have qg1 := (H5.box 1).read 1
    have qg2 := (H5.box 1).read 2
    have qg3 := (H5.box 1).read 3
    have qgi := (H5.box 1).inside
    have qh0 := (H5.box 0).read 0
    have qh1 := (H5.box 0).read 1
    have qh2 := (H5.box 0).read 2
    have qh3 := (H5.box 0).read 3
    have qhi := (H5.box 0).inside
    have hk1 : (k1 == 0) = z1 := hz1
    go_upto_region 9 with (first
      | (go_at_call 17; (with_reducible refine (cE1 _ (hT.call H5.below) (rA.on H5.below)).mono ?_); rintro e w6 ⟨rfl, j6⟩
         have H6 := H5.call j6
         have qe0 := (H6.box 3).read 0
         have qe1 := (H6.box 3).read 1
         have qe2 := (H6.box 3).read 2
         have qe3 := (H6.box 3).read 3
         have qe4 := (H6.box 3).read 4
         have qe5 := (H6.box 3).read 5
         have qe6 := (H6.box 3).read 6
         have qei := (H6.box 3).inside
         have qf0 := (H6.box 2).read 0
         have qf1 := (H6.box 2).read 1
         have qf2 := (H6.box 2).read 2
         have qf3 := (H6.box 2).read 3
         have qf4 := (H6.box 2).read 4
         have qf5 := (H6.box 2).read 5
         have qf6 := (H6.box 2).read 6
         have qfi := (H6.box 2).inside
         have qg0 := (H6.box 1).read 0
         have qg1 := (H6.box 1).read 1
         have qg2 := (H6.box 1).read 2
         have qg3 := (H6.box 1).read 3
         have qgi := (H6.box 1).inside
         have qh0 := (H6.box 0).read 0
         have qh1 := (H6.box 0).read 1
         have qh2 := (H6.box 0).read 2
         have qh3 := (H6.box 0).read 3
         have qhi := (H6.box 0).inside
        )
      | (go_at_call 17; (with_reducible refine (cE2 _ (hT.call H6.below) (rB.on H6.below)).mono ?_); rintro e w7 ⟨rfl, j7⟩
         have H7 := H6.call j7
         have qe0 := (H7.box 3).read 0
         have qe1 := (H7.box 3).read 1
         have qe2 := (H7.box 3).read 2
         have qe3 := (H7.box 3).read 3
         have qe4 := (H7.box 3).read 4
         have qe5 := (H7.box 3).read 5
         have qe6 := (H7.box 3).read 6
         have qei := (H7.box 3).inside
         have qf0 := (H7.box 2).read 0
         have qf1 := (H7.box 2).read 1
         have qf2 := (H7.box 2).read 2
         have qf3 := (H7.box 2).read 3
         have qf4 := (H7.box 2).read 4
         have qf5 := (H7.box 2).read 5
         have qf6 := (H7.box 2).read 6
         have qfi := (H7.box 2).inside
         have qg0 := (H7.box 1).read 0
         have qg1 := (H7.box 1).read 1
         have qg2 := (H7.box 1).read 2
         have qg3 := (H7.box 1).read 3
         have qgi := (H7.box 1).inside
         have qh0 := (H7.box 0).read 0
         have qh1 := (H7.box 0).read 1
         have qh2 := (H7.box 0).read 2
         have qh3 := (H7.box 0).read 3
         have qhi := (H7.box 0).inside
        )
      | (go_at_call 19; (with_reducible refine (cG1 _ (rC.on H7.below) (rD.on H7.below)).mono ?_); rintro e w8 ⟨rfl, j8⟩
         have H8 := H7.call j8
         have qe0 := (H8.box 3).read 0
         have qe1 := (H8.box 3).read 1
         have qe2 := (H8.box 3).read 2
         have qe3 := (H8.box 3).read 3
         have qe4 := (H8.box 3).read 4
         have qe5 := (H8.box 3).read 5
         have qe6 := (H8.box 3).read 6
         have qei := (H8.box 3).inside
         have qf0 := (H8.box 2).read 0
         have qf1 := (H8.box 2).read 1
         have qf2 := (H8.box 2).read 2
         have qf3 := (H8.box 2).read 3
         have qf4 := (H8.box 2).read 4
         have qf5 := (H8.box 2).read 5
         have qf6 := (H8.box 2).read 6
         have qfi := (H8.box 2).inside
         have qg0 := (H8.box 1).read 0
         have qg1 := (H8.box 1).read 1
         have qg2 := (H8.box 1).read 2
         have qg3 := (H8.box 1).read 3
         have qgi := (H8.box 1).inside
         have qh0 := (H8.box 0).read 0
         have qh1 := (H8.box 0).read 1
         have qh2 := (H8.box 0).read 2
         have qh3 := (H8.box 0).read 3
         have qhi := (H8.box 0).inside
        )
      | (go_at_call 19; (with_reducible refine (cG2 _ (rE.on H8.below) (rF.on H8.below)).mono ?_); rintro e w9 ⟨rfl, j9⟩
         have H9 := H8.call j9
         have qe0 := (H9.box 3).read 0
         have qe1 := (H9.box 3).read 1
         have qe2 := (H9.box 3).read 2
         have qe3 := (H9.box 3).read 3
         have qe4 := (H9.box 3).read 4
         have qe5 := (H9.box 3).read 5
         have qe6 := (H9.box 3).read 6
         have qei := (H9.box 3).inside
         have qf0 := (H9.box 2).read 0
         have qf1 := (H9.box 2).read 1
         have qf2 := (H9.box 2).read 2
         have qf3 := (H9.box 2).read 3
         have qf4 := (H9.box 2).read 4
         have qf5 := (H9.box 2).read 5
         have qf6 := (H9.box 2).read 6
         have qfi := (H9.box 2).inside
         have qg0 := (H9.box 1).read 0
         have qg1 := (H9.box 1).read 1
         have qg2 := (H9.box 1).read 2
         have qg3 := (H9.box 1).read 3
         have qgi := (H9.box 1).inside
         have qh0 := (H9.box 0).read 0
         have qh1 := (H9.box 0).read 1
         have qh2 := (H9.box 0).read 2
         have qh3 := (H9.box 0).read 3
         have qhi := (H9.box 0).inside
        )
      | fail)
    have H10 := H9
    go_cut [87] (fun s wx => s = .bool false ∧ Has w [(w.heap.size + 1 + 1 + 1, 35, rgB ha hb E hN xc F hM fc), (w.heap.size + 1 + 1, 35, rgB ga gb C gN cc D gM dc), (w.heap.size + 1, 33, enB fp fi fs fh fl fq B fN bc), (w.heap.size, 33, enB ep ei es eh el eq A eN ac)] wx)
    case first =>
      cases z1 <;> cases z2 <;> cases z3 <;> cases z4
      all_goals (have x1 := X1.out)
      all_goals (have y1 := Y1.out)
      all_goals (try simp only [forall_const, Bool.false_eq_true, false_implies, implies_true] at x1 y1)
      all_goals (clear X1 Y1)
      all_goals go_wp2_with (first
        | (go_at_call 24; (with_reducible refine (cS _ (rA.on H10.below) (rB.on H10.below)).mono ?_); rintro e wa ⟨rfl, ja⟩
           have H10 := H10.call ja
           have qe0 := (H10.box 3).read 0
           have qe1 := (H10.box 3).read 1
           have qe2 := (H10.box 3).read 2
           have qe3 := (H10.box 3).read 3
           have qe4 := (H10.box 3).read 4
           have qe5 := (H10.box 3).read 5
           have qe6 := (H10.box 3).read 6
           have qei := (H10.box 3).inside
           have qf0 := (H10.box 2).read 0
           have qf1 := (H10.box 2).read 1
           have qf2 := (H10.box 2).read 2
           have qf3 := (H10.box 2).read 3
           have qf4 := (H10.box 2).read 4
           have qf5 := (H10.box 2).read 5
           have qf6 := (H10.box 2).read 6
           have qfi := (H10.box 2).inside
           have qg0 := (H10.box 1).read 0
           have qg1 := (H10.box 1).read 1
           have qg2 := (H10.box 1).read 2
           have qg3 := (H10.box 1).read 3
           have qgi := (H10.box 1).inside
           have qh0 := (H10.box 0).read 0
           have qh1 := (H10.box 0).read 1
           have qh2 := (H10.box 0).read 2
           have qh3 := (H10.box 0).read 3
           have qhi := (H10.box 0).inside
          )
        | (go_at_call 26; (with_reducible refine (cT _ (rC.on H10.below) (rE.on H10.below) (rD.on H10.below) (rF.on H10.below)).mono ?_); rintro e wb ⟨rfl, jb⟩; have H10 := H10.call jb)
        | fail)
      all_goals go_meet
      all_goals exact ⟨rfl, H10⟩
    case rest =>
      obtain ⟨rfl, H11⟩ := hcut
      clear H H2 H3 H4 H5 H6 H7 H8 H9 H10 X1 Y1 cE1 cE2 cG1 cG2 cL1 cL2 cL3 cL4 cS cT
      have qe0 := (H11.box 3).read 0
      have qe1 := (H11.box 3).read 1
      have qe2 := (H11.box 3).read 2
      have qe3 := (H11.box 3).read 3
      have qe4 := (H11.box 3).read 4
      have qe5 := (H11.box 3).read 5
      have qe6 := (H11.box 3).read 6
      have qei := (H11.box 3).inside
      have qf0 := (H11.box 2).read 0
      have qf1 := (H11.box 2).read 1
      have qf2 := (H11.box 2).read 2
      have qf3 := (H11.box 2).read 3
      have qf4 := (H11.box 2).read 4
      have qf5 := (H11.box 2).read 5
      have qf6 := (H11.box 2).read 6
      have qfi := (H11.box 2).inside
      have qg0 := (H11.box 1).read 0
      have qg1 := (H11.box 1).read 1
      have qg2 := (H11.box 1).read 2
      have qg3 := (H11.box 1).read 3
      have qgi := (H11.box 1).inside
      have qh0 := (H11.box 0).read 0
      have qh1 := (H11.box 0).read 1
      have qh2 := (H11.box 0).read 2
      have qh3 := (H11.box 0).read 3
      have qhi := (H11.box 0).inside
      go_upto_region 12 with fail
      change Code.wp _ _ _ _ ((wc.alloc (.cells (chA eq ep ei es eh el fp fi fs fh fl) 103)).alloc (.cells (dfB (some ⟨wc.heap.size, 0, none⟩) 1 1 C gN cc) 38))
      have H12 := (H11.add 103 (chA eq ep ei es eh el fp fi fs fh fl)).addAt 38 (dfB (some ⟨wc.heap.size, 0, none⟩) 1 1 C gN cc) (g := wc.heap.size + 1) (by simp)
      obtain ⟨m, hm⟩ : ∃ m, wc.heap.size = m := ⟨_, rfl⟩
      rw [hm] at H12 ⊢
      generalize (wc.alloc (.cells (chA eq ep ei es eh el fp fi fs fh fl) 103)).alloc (.cells (dfB (some ⟨m, 0, none⟩) 1 1 C gN cc) 38) = W12 at *
      clear H11 qe0 qe1 qe2 qe3 qe4 qe5 qe6 qf0 qf1 qf2 qf3 qf4 qf5 qf6 qg0 qg1 qg2 qg3 qh0 qh1 qh2 qh3 qei qfi qgi qhi
      have qe0 := (H12.box 5).read 0
      have qe1 := (H12.box 5).read 1
      have qe2 := (H12.box 5).read 2
      have qe3 := (H12.box 5).read 3
      have qe4 := (H12.box 5).read 4
      have qe5 := (H12.box 5).read 5
      have qe6 := (H12.box 5).read 6
      have qei := (H12.box 5).inside
      have qf0 := (H12.box 4).read 0
      have qf1 := (H12.box 4).read 1
      have qf2 := (H12.box 4).read 2
      have qf3 := (H12.box 4).read 3
      have qf4 := (H12.box 4).read 4
      have qf5 := (H12.box 4).read 5
      have qf6 := (H12.box 4).read 6
      have qfi := (H12.box 4).inside
      have qg0 := (H12.box 3).read 0
      have qg1 := (H12.box 3).read 1
      have qg2 := (H12.box 3).read 2
      have qg3 := (H12.box 3).read 3
      have qgi := (H12.box 3).inside
      have qh0 := (H12.box 2).read 0
      have qh1 := (H12.box 2).read 1
      have qh2 := (H12.box 2).read 2
      have qh3 := (H12.box 2).read 3
      have qhi := (H12.box 2).inside
      go_upto_region 13 with fail
      change Code.wp _ _ _ _ ((W12.alloc (.cells (chA fq ep ei es eh el fp fi fs fh fl) 103)).alloc (.cells (dfB (some ⟨W12.heap.size, 0, none⟩) 1 1 E hN xc) 38))
      have H13 := (H12.add 103 (chA fq ep ei es eh el fp fi fs fh fl)).addAt 38 (dfB (some ⟨W12.heap.size, 0, none⟩) 1 1 E hN xc) (g := W12.heap.size + 1) (by simp)
      obtain ⟨m2, hm2⟩ : ∃ m, W12.heap.size = m := ⟨_, rfl⟩
      rw [hm2] at H13 ⊢
      generalize (W12.alloc (.cells (chA fq ep ei es eh el fp fi fs fh fl) 103)).alloc (.cells (dfB (some ⟨m2, 0, none⟩) 1 1 E hN xc) 38) = W13 at *
      clear H12 qe0 qe1 qe2 qe3 qe4 qe5 qe6 qf0 qf1 qf2 qf3 qf4 qf5 qf6 qg0 qg1 qg2 qg3 qh0 qh1 qh2 qh3 qei qfi qgi qhi
      have qe0 := (H13.box 7).read 0
      have qe1 := (H13.box 7).read 1
      have qe2 := (H13.box 7).read 2
      have qe3 := (H13.box 7).read 3
      have qe4 := (H13.box 7).read 4
      have qe5 := (H13.box 7).read 5
      have qe6 := (H13.box 7).read 6
      have qei := (H13.box 7).inside
      have qf0 := (H13.box 6).read 0
      have qf1 := (H13.box 6).read 1
      have qf2 := (H13.box 6).read 2
      have qf3 := (H13.box 6).read 3
      have qf4 := (H13.box 6).read 4
      have qf5 := (H13.box 6).read 5
      have qf6 := (H13.box 6).read 6
      have qfi := (H13.box 6).inside
      have qg0 := (H13.box 5).read 0
      have qg1 := (H13.box 5).read 1
      have qg2 := (H13.box 5).read 2
      have qg3 := (H13.box 5).read 3
      have qgi := (H13.box 5).inside
      have qh0 := (H13.box 4).read 0
      have qh1 := (H13.box 4).read 1
      have qh2 := (H13.box 4).read 2
      have qh3 := (H13.box 4).read 3
      have qhi := (H13.box 4).inside
      go_cut [19] (fun s wx => s = .bool (t4 && t3) ∧ Has w [(m2 + 1, 38, dfB (some ⟨m2, 0, none⟩) 1 1 E hN xc), (m2, 103, chA fq ep ei es eh el fp fi fs fh fl), (m + 1, 38, dfB (some ⟨m, 0, none⟩) 1 1 C gN cc), (m, 103, chA eq ep ei es eh el fp fi fs fh fl), (w.heap.size + 1 + 1 + 1, 35, rgB ha hb E hN xc F hM fc), (w.heap.size + 1 + 1, 35, rgB ga gb C gN cc D gM dc), (w.heap.size + 1, 33, enB fp fi fs fh fl fq B fN bc), (w.heap.size, 33, enB ep ei es eh el eq A eN ac)] wx)
      case first =>
        cases t4 with
        | false =>
          go_wp2
          go_meet
          exact ⟨rfl, H13⟩
        | true =>
          go_wp2_with (first
            | (go_at_call 49; refine (cN _ (rC.on H13.below) (rE.on H13.below)).mono ?_; rintro e wa ⟨rfl, ja⟩)
            | fail)
          go_meet
          exact ⟨rfl, H13.call ja⟩
      case rest =>
        obtain ⟨rfl, H14⟩ := hcut
        clear H13 cN hqq qe0 qe1 qe2 qe3 qe4 qe5 qe6 qf0 qf1 qf2 qf3 qf4 qf5 qf6 qg0 qg1 qg2 qg3 qh0 qh1 qh2 qh3 qei qfi qgi qhi
        have qe0 := (H14.box 7).read 0
        have qe1 := (H14.box 7).read 1
        have qe2 := (H14.box 7).read 2
        have qe3 := (H14.box 7).read 3
        have qe4 := (H14.box 7).read 4
        have qe5 := (H14.box 7).read 5
        have qe6 := (H14.box 7).read 6
        have qei := (H14.box 7).inside
        have qf0 := (H14.box 6).read 0
        have qf1 := (H14.box 6).read 1
        have qf2 := (H14.box 6).read 2
        have qf3 := (H14.box 6).read 3
        have qf4 := (H14.box 6).read 4
        have qf5 := (H14.box 6).read 5
        have qf6 := (H14.box 6).read 6
        have qfi := (H14.box 6).inside
        have qg0 := (H14.box 5).read 0
        have qg1 := (H14.box 5).read 1
        have qg2 := (H14.box 5).read 2
        have qg3 := (H14.box 5).read 3
        have qgi := (H14.box 5).inside
        have qh0 := (H14.box 4).read 0
        have qh1 := (H14.box 4).read 1
        have qh2 := (H14.box 4).read 2
        have qh3 := (H14.box 4).read 3
        have qhi := (H14.box 4).inside
        have qx0 := (H14.box 2).read 0
        have qy0 := (H14.box 0).read 0
        have qx1 := (H14.box 2).read 1
        have qy1 := (H14.box 0).read 1
        have qxi := (H14.box 2).inside
        have qyi := (H14.box 0).inside
        generalize (t4 && t3) = t5 at *
        have cR1 : ∀ u, Has w [(m2 + 1, 38, dfB (some ⟨m2, 0, none⟩) 1 1 E hN xc), (m2, 103, chA fq ep ei es eh el fp fi fs fh fl), (m + 1, 38, dfB (some ⟨m, 0, none⟩) 1 1 C gN cc), (m, 103, chA eq ep ei es eh el fp fi fs fh fl), (w.heap.size + 1 + 1 + 1, 35, rgB ha hb E hN xc F hM fc), (w.heap.size + 1 + 1, 35, rgB ga gb C gN cc D gM dc), (w.heap.size + 1, 33, enB fp fi fs fh fl fq B fN bc), (w.heap.size, 33, enB ep ei es eh el eq A eN ac)] u → chS.Row u u.heap.size (some ⟨m, 0, none⟩) [⟨eq, ⟨ep, ei, es, eh, el⟩, ⟨fp, fi, fs, fh, fl⟩⟩] ∧ chS.Row u u.heap.size (some ⟨m2, 0, none⟩) [⟨fq, ⟨ep, ei, es, eh, el⟩, ⟨fp, fi, fs, fh, fl⟩⟩] :=
          fun u hu => ⟨ch_box (x := ⟨eq, ⟨ep, ei, es, eh, el⟩, ⟨fp, fi, fs, fh, fl⟩⟩) (hu.box 3), ch_box (x := ⟨fq, ⟨ep, ei, es, eh, el⟩, ⟨fp, fi, fs, fh, fl⟩⟩) (hu.box 1)⟩
        go_wp2_with (first
          | (go_at_call 24; (with_reducible refine (cS0 _ (rA.on H14.below) (rA.on H14.below)).mono ?_); rintro e wa ⟨rfl, ja⟩
             have H15 := H14.call ja
             have qe0 := (H15.box 7).read 0
             have qe1 := (H15.box 7).read 1
             have qe2 := (H15.box 7).read 2
             have qe3 := (H15.box 7).read 3
             have qe4 := (H15.box 7).read 4
             have qe5 := (H15.box 7).read 5
             have qe6 := (H15.box 7).read 6
             have qei := (H15.box 7).inside
             have qf0 := (H15.box 6).read 0
             have qf1 := (H15.box 6).read 1
             have qf2 := (H15.box 6).read 2
             have qf3 := (H15.box 6).read 3
             have qf4 := (H15.box 6).read 4
             have qf5 := (H15.box 6).read 5
             have qf6 := (H15.box 6).read 6
             have qfi := (H15.box 6).inside
             have qg0 := (H15.box 5).read 0
             have qg1 := (H15.box 5).read 1
             have qg2 := (H15.box 5).read 2
             have qg3 := (H15.box 5).read 3
             have qgi := (H15.box 5).inside
             have qh0 := (H15.box 4).read 0
             have qh1 := (H15.box 4).read 1
             have qh2 := (H15.box 4).read 2
             have qh3 := (H15.box 4).read 3
             have qhi := (H15.box 4).inside
             have qx0 := (H15.box 2).read 0
             have qy0 := (H15.box 0).read 0
             have qx1 := (H15.box 2).read 1
             have qy1 := (H15.box 0).read 1
             have qxi := (H15.box 2).inside
             have qyi := (H15.box 0).inside
             )
          | (go_at_call 26; (with_reducible refine (cT0 _ (rC.on H15.below) (rC.on H15.below) (rD.on H15.below) (rD.on H15.below)).mono ?_); rintro e wb ⟨rfl, jb⟩
             have H16 := H15.call jb
             have qe0 := (H16.box 7).read 0
             have qe1 := (H16.box 7).read 1
             have qe2 := (H16.box 7).read 2
             have qe3 := (H16.box 7).read 3
             have qe4 := (H16.box 7).read 4
             have qe5 := (H16.box 7).read 5
             have qe6 := (H16.box 7).read 6
             have qei := (H16.box 7).inside
             have qf0 := (H16.box 6).read 0
             have qf1 := (H16.box 6).read 1
             have qf2 := (H16.box 6).read 2
             have qf3 := (H16.box 6).read 3
             have qf4 := (H16.box 6).read 4
             have qf5 := (H16.box 6).read 5
             have qf6 := (H16.box 6).read 6
             have qfi := (H16.box 6).inside
             have qg0 := (H16.box 5).read 0
             have qg1 := (H16.box 5).read 1
             have qg2 := (H16.box 5).read 2
             have qg3 := (H16.box 5).read 3
             have qgi := (H16.box 5).inside
             have qh0 := (H16.box 4).read 0
             have qh1 := (H16.box 4).read 1
             have qh2 := (H16.box 4).read 2
             have qh3 := (H16.box 4).read 3
             have qhi := (H16.box 4).inside
             have qx0 := (H16.box 2).read 0
             have qy0 := (H16.box 0).read 0
             have qx1 := (H16.box 2).read 1
             have qy1 := (H16.box 0).read 1
             have qxi := (H16.box 2).inside
             have qyi := (H16.box 0).inside
             )
          | (go_at_call 28; (with_reducible refine (cD1 _ _ _ (cR1 _ H16).1 (cR1 _ H16).1 (rC.on H16.below) (rC.on H16.below)).mono ?_); rintro e wd ⟨rfl, jd⟩
             have H17 := H16.call jd
             have qe0 := (H17.box 7).read 0
             have qe1 := (H17.box 7).read 1
             have qe2 := (H17.box 7).read 2
             have qe3 := (H17.box 7).read 3
             have qe4 := (H17.box 7).read 4
             have qe5 := (H17.box 7).read 5
             have qe6 := (H17.box 7).read 6
             have qei := (H17.box 7).inside
             have qf0 := (H17.box 6).read 0
             have qf1 := (H17.box 6).read 1
             have qf2 := (H17.box 6).read 2
             have qf3 := (H17.box 6).read 3
             have qf4 := (H17.box 6).read 4
             have qf5 := (H17.box 6).read 5
             have qf6 := (H17.box 6).read 6
             have qfi := (H17.box 6).inside
             have qg0 := (H17.box 5).read 0
             have qg1 := (H17.box 5).read 1
             have qg2 := (H17.box 5).read 2
             have qg3 := (H17.box 5).read 3
             have qgi := (H17.box 5).inside
             have qh0 := (H17.box 4).read 0
             have qh1 := (H17.box 4).read 1
             have qh2 := (H17.box 4).read 2
             have qh3 := (H17.box 4).read 3
             have qhi := (H17.box 4).inside
             have qx0 := (H17.box 2).read 0
             have qy0 := (H17.box 0).read 0
             have qx1 := (H17.box 2).read 1
             have qy1 := (H17.box 0).read 1
             have qxi := (H17.box 2).inside
             have qyi := (H17.box 0).inside
             )
          | (go_at_call 28; (with_reducible refine (cD2 _ _ _ (cR1 _ H17).1 (cR1 _ H17).2 (rC.on H17.below) (rE.on H17.below)).mono ?_); rintro e wf ⟨rfl, jf⟩; have H18 := H17.call jf)
          | fail)
        go_ret
        exact ⟨by simp, H18.below⟩
end Go.Proofs.YtmflhodiibjpnaaGreatDoor
