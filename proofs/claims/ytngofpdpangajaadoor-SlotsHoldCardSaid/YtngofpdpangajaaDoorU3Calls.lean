/-
  What each plain call of package wide tells (Of, Narrow, lows, And, Plus), as a contract on the translated code: any halves below 2^64; old memory is as it was.
-/
import Derived.Test.YtngofpdpangajaaDoorM1Num
import Derived.Test.YtngofpdpangajaaDoorW1Has
import Derived.Test.YtngofpdpangajaaDoorD3Wide
import Derived.Deep.RegionHeld3
import Derived.Deep.RegionWith
import Derived.Deep.DeepCutAuto
import Derived.Deep.CutRange
namespace Go.Proofs.YtngofpdpangajaaDoor
set_option linter.unusedVariables false
set_option linter.unusedSimpArgs false
set_option maxRecDepth 10000
open Go.RowKit

/-- A wide number, as a value. -/
abbrev wide (H h l : Int) : Value := .agg #[.int .u64 H, .int .u64 h, .int .u64 l]
/-- The sum, as a wide number is told. -/
abbrev told (v : Int) : Value := wide (wH v) (wh v) (wl v)

theorem wof_any (h l : Int) (w : World) : Calls Tryd.prog 108 #[.agg #[.int .u64 h, .int .u64 l]] w (Tells (wide 0 h l) w.heap.size w) := by
  go_enter Tryd.func108, Tryd.ntmps108
  go_wp2
  exact bodyPost_ret (v := wide 0 h l) (by simp [results, Tryd.results108, go_sem]) rfl ⟨rfl, by repeat (first | exact Below.refl _ _ | apply Below.drew | apply below_drewN | refine Below.alloc ?_ (by simp; try omega) _ | refine Below.setCell ?_ (by simp; try omega) _)⟩

/-- How many times 2^128 is in the sum of two numbers. -/
def car (s : Int) : Int := if s < 340282366920938463463374607431768211456 then 0 else 1
theorem car_01 (s : Int) : 0 ≤ car s ∧ car s ≤ 1 := by unfold car; split <;> omega

set_option maxHeartbeats 4000000 in
theorem lows_any (ah al bh bl : Int) (a1 : Word ah) (a0 : Word al) (b1 : Word bh) (b0 : Word bl) (w : World) :
    Calls Tryd.prog 119 #[.agg #[.int .u64 ah, .int .u64 al], .agg #[.int .u64 bh, .int .u64 bl]] w
      (Tells (.tuple #[.agg #[.int .u64 (wh (nv ah al + nv bh bl)), .int .u64 (wl (nv ah al + nv bh bl))], .int .u64 (car (nv ah al + nv bh bl))]) w.heap.size w) := by
  obtain ⟨nA0, nA1⟩ := nv_word a1 a0
  obtain ⟨nB0, nB1⟩ := nv_word b1 b0
  have cA := fun u : World => add_any ah al bh bl a1 a0 b1 b0 u
  have K0 := (((Has.start w).add 36 #[.int .u64 ah, .int .u64 al]).addAt 36 #[.int .u64 bh, .int .u64 bl] (g := w.heap.size + 1) (by simp)).addAt 36 #[.int .u64 0, .int .u64 0] (g := w.heap.size + 1 + 1) (by simp)
  cases hroom : room (nv ah al + nv bh bl)
  · have hno := room_not.1 hroom
    have hM : nv 18446744073709551615 18446744073709551615 = 340282366920938463463374607431768211455 := by decide
    obtain ⟨fh, fl, f1, f0, hF⟩ := halves (s := 340282366920938463463374607431768211455 - nv ah al) (by omega) (by omega)
    obtain ⟨ph, pl, p1, p0, hP⟩ := halves (s := nv bh bl - nv fh fl) (by omega) (by omega)
    have e : wL (nv ah al + nv bh bl) = nv ph pl - nv 0 1 := by unfold wL; rw [show nv 0 1 = 1 by decide, hP, hF]; omega
    have hc : car (nv ah al + nv bh bl) = 1 := by unfold car; rw [if_neg (by omega)]
    have cA' := fun u : World => (cA u).mono fun e w' hf => Fit.no hroom hf
    have cS1 := fun u : World => (sub_any 18446744073709551615 18446744073709551615 ah al word_lit word_lit a1 a0 u).mono fun e w' hf => Fit.yes (h := fh) (l := fl) (by rw [hM]; exact hF) f1 f0 hf
    have cS2 := fun u : World => (sub_any bh bl fh fl b1 b0 f1 f0 u).mono fun e w' hf => Fit.yes (h := ph) (l := pl) hP p1 p0 hf
    have cS3 := fun u : World => (sub_any ph pl 0 1 p1 p0 word_lit word_lit u).mono fun e' w' hf => Fit.yes (h := wh (nv ah al + nv bh bl)) (l := wl (nv ah al + nv bh bl)) (by rw [nv_wl, e]) (wh_word _) (wl_word _) hf
    generalize wh (nv ah al + nv bh bl) = x at *
    generalize wl (nv ah al + nv bh bl) = y at *
    rw [hc]
    clear e hc hno hroom hF hP hM cA
    go_enter Tryd.func119, Tryd.ntmps119
    go_upto_region 3 with (first
      | (go_at_call 126; refine (cA' _).mono ?_; rintro e w1 ⟨rfl, h1⟩))
    have K1 := (K0.call h1).past (.cells #[.int .u64 0, .int .u64 0] 36)
    generalize w1.alloc (.cells #[.int .u64 0, .int .u64 0] 36) = W1 at *
    go_cut [8, 9] (fun s8 s9 wx => ∃ g, s8 = .pointer (some ⟨g, 0, none⟩) ∧ s9 = .int .i64 0 ∧ Has w [(g, 36, #[.int .u64 fh, .int .u64 fl]), (w.heap.size + 1 + 1, 36, #[.int .u64 0, .int .u64 0]), (w.heap.size + 1, 36, #[.int .u64 bh, .int .u64 bl]), (w.heap.size, 36, #[.int .u64 ah, .int .u64 al])] wx)
    case first =>
      obtain ⟨p1, p2, p3, p4, p5⟩ := (K1.box 2).two
      have s0 := (K1.box 0).inside
      go_region_with (first
        | (go_at_call 128; refine (most_any _).mono ?_; rintro e w2 ⟨rfl, h2⟩
           have K2 := K1.drew.call h2
           have s2 := (K2.box 0).inside
           obtain ⟨q1, q2, q3, q4, q5⟩ := (K2.box 2).two)
        | (go_at_call 128; refine (most_any _).mono ?_; rintro e w2 ⟨rfl, h2⟩
           have K2 := (K1.add _ _).drew.call h2
           obtain ⟨q1, q2, q3, q4, q5⟩ := (K2.box 3).two
           obtain ⟨g1, g2, g3, g4, g5⟩ := (K2.box 0).two)
        | (go_at_call 127; refine (cS1 _).mono ?_; rintro e w3 ⟨rfl, h3⟩
           have K3 := K2.call h3
           clear g1 g2 g3 g4 g5
           obtain ⟨g1, g2, g3, g4, g5⟩ := (K3.box 0).two)
        | (go_at_call 127; refine (cS1 _).mono ?_; rintro e w3 ⟨rfl, h3⟩
           have K3 := K2.call h3)
        | (go_at_call 127; refine (cS1 _).mono ?_; rintro e w3 ⟨rfl, h3⟩
           have K3 := (K2.add _ _).call h3
           obtain ⟨g1, g2, g3, g4, g5⟩ := (K3.box 0).two))
      all_goals go_wp2_with fail
      all_goals go_meet
      all_goals first
        | exact ⟨_, rfl, rfl, K3.add _ _⟩
        | exact ⟨_, rfl, rfl, (K3.wrote (by omega) (by simp; omega) 0 _).wrote (by omega) (by simp; omega) 1 _⟩
    case rest =>
      obtain ⟨g, rfl, rfl, K3⟩ := hcut
      obtain ⟨g1, g2, g3, g4, g5⟩ := (K3.box 0).two
      obtain ⟨p1, p2, p3, p4, p5⟩ := (K3.box 2).two
      go_upto_region 6 with (first
        | (go_at_call 127; refine (cS2 _).mono ?_; rintro e w4 ⟨rfl, h4⟩))
      have K5 := (K3.call h4).add 36 #[.int .u64 ph, .int .u64 pl]
      have hs5 := K3.size
      have hs4 := h4.size
      generalize w4.alloc (.cells #[.int .u64 ph, .int .u64 pl] 36) = W5 at *
      clear p1 p2 p3 p4 p5 g1 g2 g3 g4 g5
      obtain ⟨p1, p2, p3, p4, p5⟩ := (K5.box 0).two
      go_region_with (first
        | (go_at_call 59; refine (of_any _ _).mono ?_; rintro e w6 ⟨rfl, h6⟩
           have K6 := K5.drew.call h6
           obtain ⟨q1, q2, q3, q4, q5⟩ := (K6.box 0).two)
        | (go_at_call 127; refine (cS3 _).mono ?_; rintro e w7 ⟨rfl, h7⟩
           have K7 := K6.call h7
           obtain ⟨r1, r2, r3, r4, r5⟩ := (K7.box 2).two))
      all_goals go_wp2
      all_goals
        have R9 := ((((K7.box 2).wrote 0 (.int .u64 x)).wrote 1 (.int .u64 y)).wrote 0 (.int .u64 x)).wrote 1 (.int .u64 y)
        have e0 := R9.read 0
        have e1 := R9.read 1
        simp only [Nat.reduceLT, List.setIfInBounds_toArray, List.set_cons_zero, List.set_cons_succ, List.getElem?_toArray, List.getElem?_cons_zero, List.getElem?_cons_succ] at e0 e1
        have L9 := K7.below
        have hw : w.heap.size ≤ w.heap.size + 1 + 1 := by omega
        exact bodyPost_ret (v := .tuple #[.agg #[.int .u64 x, .int .u64 y], .int .u64 1]) (by simp [results, Tryd.results119, go_sem, e0, e1]) rfl ⟨rfl, (((L9.setCell hw _).setCell hw _).setCell hw _).setCell hw _⟩
  · have hyes := room_iff.1 hroom
    have hc : car (nv ah al + nv bh bl) = 0 := by unfold car; rw [if_pos (by omega)]
    have cA' := fun u : World => (cA u).mono fun e w' hf => Fit.yes (h := wh (nv ah al + nv bh bl)) (l := wl (nv ah al + nv bh bl)) (by rw [nv_wl]; unfold wL; omega) (wh_word _) (wl_word _) hf
    generalize wh (nv ah al + nv bh bl) = x at *
    generalize wl (nv ah al + nv bh bl) = y at *
    rw [hc]
    clear hc hyes hroom cA
    go_enter Tryd.func119, Tryd.ntmps119
    go_wp2_with (first
      | (go_at_call 126; refine (cA' _).mono ?_; rintro e w1 ⟨rfl, h1⟩
         obtain ⟨r0, r1, r2, r3, r4⟩ := ((K0.call h1).box 0).two))
    have K1 := (((K0.call h1).wrote (by omega) (by simp; omega) 0 (.int .u64 x)).wrote (by omega) (by simp; omega) 1 (.int .u64 y)).past (.cells #[.int .u64 x, .int .u64 y] 36)
    have e0 := (K1.box 0).read 0
    have e1 := (K1.box 0).read 1
    simp only [Nat.reduceLT, List.setIfInBounds_toArray, List.set_cons_zero, List.set_cons_succ, List.getElem?_toArray, List.getElem?_cons_zero, List.getElem?_cons_succ] at e0 e1
    exact bodyPost_ret (v := .tuple #[.agg #[.int .u64 x, .int .u64 y], .int .u64 0]) (by simp [results, Tryd.results119, go_sem, e0, e1]) rfl ⟨rfl, K1.below⟩
end Go.Proofs.YtngofpdpangajaaDoor
