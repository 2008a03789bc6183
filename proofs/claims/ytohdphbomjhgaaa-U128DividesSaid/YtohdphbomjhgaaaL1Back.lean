/-
  The law of layer 1: what is added may be taken away again, and the other way about; a sum is too much just if the second number is more than is left of the greatest one; any two numbers, no condition.
-/
import Derived.Test.YtohdphbomjhgaaaU1Awake
import Derived.Test.YtohdphbomjhgaaaW0Lift
import Derived.Deep.RegionWith
import Derived.Deep.DeepCutAuto
import Derived.Deep.CutRange
namespace Go.Proofs.Ytohdphbomjhgaaa
set_option linter.unusedVariables false
set_option linter.unusedSimpArgs false
open Go.ChangeShapes Go.WideShapes Go.ChangeAt Go.RowKit

/-- A number that has room has two halves. -/
theorem halves {s : Int} (h0 : 0 ≤ s) (h1 : s < 340282366920938463463374607431768211456) : ∃ h l : Int, Word h ∧ Word l ∧ nv h l = s :=
  ⟨rh s, rl s, rh_word s, rl_word s, nv_r (room_iff.2 ⟨h0, h1⟩)⟩
theorem Fit.yes {s h l : Int} {B : Nat} {w w' : World} {e : Ending} (hs : nv h l = s) (hh : Word h) (hl : Word l) (hf : Fit s B w e w') :
    e = .returned (.tuple #[.agg #[.int .u64 h, .int .u64 l], .int .i64 0]) ∧ Below B w w' := by
  subst hs
  obtain ⟨he, hb⟩ := hf
  exact ⟨by rw [he, rh_nv hh hl, rl_nv hh hl, re_nv hh hl], hb⟩
theorem Fit.no {s : Int} {B : Nat} {w w' : World} {e : Ending} (hs : room s = false) (hf : Fit s B w e w') :
    e = .returned (.tuple #[.agg #[.int .u64 0, .int .u64 0], .int .i64 10]) ∧ Below B w w' := by
  obtain ⟨he, hb⟩ := hf
  exact ⟨by rw [he, rh_no hs, rl_no hs, re_no hs], hb⟩
/-- Two numbers in their blocks, nothing else turned. -/
def AB (w : World) (ah al bh bl : Int) (w' : World) : Prop := Box w' w.heap.size 24 #[.int .u64 ah, .int .u64 al] ∧ Box w' (w.heap.size + 1) 24 #[.int .u64 bh, .int .u64 bl] ∧ Below w.heap.size w w'
section
variable {w W w' : World} {ah al bh bl : Int}
theorem AB.call (h : AB w ah al bh bl W) (hb : Below W.heap.size W w') : AB w ah al bh bl w' := ⟨h.1.call hb, h.2.1.call hb, chain h.2.2 hb⟩
theorem AB.past (h : AB w ah al bh bl W) (o : Obj) : AB w ah al bh bl (W.alloc o) := ⟨h.1.past o, h.2.1.past o, chainA h.2.2 o⟩
theorem AB.set_ (h : AB w ah al bh bl W) {p : Addr} (hp : w.heap.size + 1 < p.block) (u : Value) : AB w ah al bh bl (W.setCell p u) :=
  ⟨h.1.apart (by omega) u, h.2.1.apart (by omega) u, h.2.2.setCell (by omega) u⟩
theorem AB.drew (h : AB w ah al bh bl W) : AB w ah al bh bl W.drew := ⟨h.1.draw, h.2.1.draw, h.2.2.drew⟩
theorem AB.cells (h : AB w ah al bh bl W) : W.cell? ⟨w.heap.size, 0, none⟩ = some (.int .u64 ah) ∧ W.cell? ⟨w.heap.size, 1, none⟩ = some (.int .u64 al) ∧ W.cell? ⟨w.heap.size + 1, 0, none⟩ = some (.int .u64 bh) ∧
    W.cell? ⟨w.heap.size + 1, 1, none⟩ = some (.int .u64 bl) ∧ w.heap.size < W.heap.size ∧ w.heap.size + 1 < W.heap.size := ⟨h.1.read 0, h.1.read 1, h.2.1.read 0, h.2.1.read 1, h.1.inside, h.2.1.inside⟩
end

set_option maxRecDepth 100000 in
set_option maxHeartbeats 8000000 in
theorem back_walk (ah al bh bl : Int) (a1 : Word ah) (a0 : Word al) (b1 : Word bh) (b0 : Word bl) (w : World) :
    Calls Try.prog 6 #[.agg #[.int .u64 ah, .int .u64 al], .agg #[.int .u64 bh, .int .u64 bl]] w (Tells (.bool true) w.heap.size w) := by
  obtain ⟨nA0, nA1⟩ := nv_word a1 a0
  obtain ⟨nB0, nB1⟩ := nv_word b1 b0
  have hM : nv 18446744073709551615 18446744073709551615 = 340282366920938463463374607431768211455 := by decide
  obtain ⟨lh, ll, l1, l0, hL⟩ := halves (s := 340282366920938463463374607431768211455 - nv ah al) (by omega) (by omega)
  have cSub1 := fun u : World => (sub_any 18446744073709551615 18446744073709551615 ah al word_lit word_lit a1 a0 u).mono fun e w' hf => Fit.yes (h := lh) (l := ll) (by rw [hM]; exact hL) l1 l0 hf
  have AB0 : AB w ah al bh bl ((w.alloc (.cells #[.int .u64 ah, .int .u64 al] 24)).alloc (.cells #[.int .u64 bh, .int .u64 bl] 24)) := by
    refine ⟨(Box.made w 24 #[.int .u64 ah, .int .u64 al]).past _, ?_, by repeat (first | exact Below.refl _ _ | apply Below.drew | apply below_drewN | refine Below.alloc ?_ (by simp; try omega) _ | refine Below.setCell ?_ (by simp; try omega) _)⟩
    have := Box.made (w.alloc (.cells #[.int .u64 ah, .int .u64 al] 24)) 24 #[.int .u64 bh, .int .u64 bl]
    simpa using this
  have HL := hideIt hL
  clear hM hL
  go_enter Try.func6, Try.ntmps6
  go_upto_region 3 with (first
    | (go_at_call 30; refine (awake_any _).mono ?_; rintro e w1 ⟨rfl, h1⟩))
  have AB1 := AB0.call h1
  clear AB0 h1
  go_cut [5, 6] (fun s5 s6 wx => ∃ g, s5 = .pointer (some ⟨g, 0, none⟩) ∧ s6 = .int .i64 0 ∧ Box wx g 24 #[.int .u64 lh, .int .u64 ll] ∧ AB w ah al bh bl wx)
  case first =>
    obtain ⟨p1, p2, p3, p4, p5, p6⟩ := AB1.cells
    go_region_with (first
      | (go_at_call 18; refine (most_any _).mono ?_; rintro e w2 ⟨rfl, h2⟩
         have AB2 := AB1.drew.call h2
         obtain ⟨q1, q2, q3, q4, q5, q6⟩ := AB2.cells)
      | (go_at_call 18; refine (most_any _).mono ?_; rintro e w2 ⟨rfl, h2⟩
         have AB2 := (AB1.past _).drew.call h2
         obtain ⟨q1, q2, q3, q4, q5, q6⟩ := AB2.cells
         have G2 := (Box.made w1 24 #[.int .u64 0, .int .u64 0]).draw.call h2
         obtain ⟨g1, g2, g3⟩ := G2.num)
      | (go_at_call 12; refine (cSub1 _).mono ?_; rintro e w3 ⟨rfl, h3⟩
         have AB3 := AB2.call h3
         have G3 := G2.call h3
         clear g1 g2 g3
         obtain ⟨g1, g2, g3⟩ := G3.num
         have g4 := G3.free 0
         have g5 := G3.free 1)
      | (go_at_call 12; refine (cSub1 _).mono ?_; rintro e w3 ⟨rfl, h3⟩
         have AB3 := AB2.call h3)
      | (go_at_call 12; refine (cSub1 _).mono ?_; rintro e w3 ⟨rfl, h3⟩
         have AB3 := (AB2.past _).call h3
         have G3 := (Box.made w2 24 #[.int .u64 0, .int .u64 0]).call h3
         obtain ⟨g1, g2, g3⟩ := G3.num
         have g4 := G3.free 0
         have g5 := G3.free 1))
    all_goals go_wp2_with fail
    all_goals go_meet
    all_goals first
      | exact ⟨_, rfl, rfl, Box.made _ _ _, AB3.past _⟩
      | exact ⟨_, rfl, rfl, (G3.wrote 0 _).wrote 1 _, (AB3.set_ (by simp; omega) _).set_ (by simp; omega) _⟩
  case rest =>
    obtain ⟨g, rfl, rfl, hG, hAB⟩ := hcut
    obtain ⟨p1, p2, p3, p4, p5, p6⟩ := hAB.cells
    obtain ⟨g1, g2, g3⟩ := hG.num
    go_upto_region 5 with (first
      | (go_at_call 10; refine (add_any ah al bh bl a1 a0 b1 b0 _).mono ?_; rintro e w4 ⟨rfl, h4⟩))
    have AB5 := (hAB.call h4).past (.cells #[.int .u64 (rh (nv ah al + nv bh bl)), .int .u64 (rl (nv ah al + nv bh bl))] 24)
    have G5 := (hG.call h4).past (.cells #[.int .u64 (rh (nv ah al + nv bh bl)), .int .u64 (rl (nv ah al + nv bh bl))] 24)
    have S5 := Box.made w4 24 #[.int .u64 (rh (nv ah al + nv bh bl)), .int .u64 (rl (nv ah al + nv bh bl))]
    generalize w4.alloc (.cells #[.int .u64 (rh (nv ah al + nv bh bl)), .int .u64 (rl (nv ah al + nv bh bl))] 24) = W5 at *
    clear p1 p2 p3 p4 p5 p6 g1 g2 g3
    go_cut [8, 54] from 17 to 125 (fun s8 s wx => s8 = .int .i64 (re (nv ah al + nv bh bl)) ∧ s = .bool false ∧ AB w ah al bh bl wx ∧ Box wx w4.heap.size 24 #[.int .u64 (rh (nv ah al + nv bh bl)), .int .u64 (rl (nv ah al + nv bh bl))])
    case first =>
      obtain ⟨p1, p2, p3, p4, p5, p6⟩ := AB5.cells
      obtain ⟨g1, g2, g3⟩ := G5.num
      obtain ⟨s1, s2, s3⟩ := S5.num
      cases hroom : room (nv ah al + nv bh bl)
      · have hno := room_not.1 hroom
        have e1 := rh_no hroom
        have e2 := rl_no hroom
        have e3 := re_no hroom
        have cCmp := fun u : World => cmp_any bh bl lh ll b1 b0 l1 l0 u
        rw [cmpI_gt (show nv lh ll < nv bh bl by rw [HL.out]; omega)] at cCmp
        clear hno hroom
        go_wp2_with (first
          | (go_at_call 14; refine (cCmp _).mono ?_; rintro e w6 ⟨rfl, h6⟩
             have S6 := S5.call h6
             obtain ⟨t1, t2, t3⟩ := S6.num))
        go_meet
        exact ⟨by rw [e3], rfl, AB5.call h6, S5.call h6⟩
      · have hyes := room_iff.1 hroom
        have e3 := re_yes hroom
        have cCmp := fun u : World => cmp_any bh bl lh ll b1 b0 l1 l0 u
        obtain ⟨c, hc⟩ : ∃ c, cmpI (nv bh bl) (nv lh ll) = c := ⟨_, rfl⟩
        have hc0 : c ≤ 0 := by
          rw [← hc, HL.out]; unfold cmpI; split
          · omega
          · rw [if_pos (by omega)]; omega
        rw [hc] at cCmp
        clear hyes hroom hc
        go_wp2_with (first
          | (go_at_call 14; refine (cCmp _).mono ?_; rintro e w6 ⟨rfl, h6⟩))
        go_meet
        exact ⟨by rw [e3], rfl, AB5.call h6, S5.call h6⟩
    case rest =>
      obtain ⟨rfl, rfl, AB6, S6⟩ := hcut
      clear AB5 G5 S5 hG hAB
      go_upto_if 56 with fail
      go_cut [8] from 17 to 125 (fun s8 wx => s8 = .int .i64 (re (nv ah al + nv bh bl)) ∧ AB w ah al bh bl wx)
      case first =>
        obtain ⟨p1, p2, p3, p4, p5, p6⟩ := AB6.cells
        obtain ⟨s1, s2, s3⟩ := S6.num
        cases hroom : room (nv ah al + nv bh bl)
        · have e3 := re_no hroom
          clear hroom
          go_wp2
          go_meet
          exact ⟨by rw [e3], AB6⟩
        · have e3 := re_yes hroom
          have hx := rh_word (nv ah al + nv bh bl)
          have hy := rl_word (nv ah al + nv bh bl)
          have hv := nv_r hroom
          have cS1 := fun u : World => (sub_any (rh (nv ah al + nv bh bl)) (rl (nv ah al + nv bh bl)) bh bl hx hy b1 b0 u).mono fun e w' hf => Fit.yes (h := ah) (l := al) (by rw [hv]; omega) a1 a0 hf
          have cS2 := fun u : World => (sub_any (rh (nv ah al + nv bh bl)) (rl (nv ah al + nv bh bl)) ah al hx hy a1 a0 u).mono fun e w' hf => Fit.yes (h := bh) (l := bl) (by rw [hv]; omega) b1 b0 hf
          have E3 := hideIt e3
          generalize rh (nv ah al + nv bh bl) = x at *
          generalize rl (nv ah al + nv bh bl) = y at *
          clear hroom hx hy hv
          go_upto_region 9 with (first
            | (go_at_call 12; refine (cS1 _).mono ?_; rintro e v1 ⟨rfl, k1⟩))
          have AB7 := (AB6.call k1).past (.cells #[.int .u64 ah, .int .u64 al] 24)
          have S7 := (S6.call k1).past (.cells #[.int .u64 ah, .int .u64 al] 24)
          have X7 := Box.made v1 24 #[.int .u64 ah, .int .u64 al]
          generalize v1.alloc (.cells #[.int .u64 ah, .int .u64 al] 24) = W7 at *
          clear p1 p2 p3 p4 p5 p6 s1 s2 s3
          obtain ⟨p1, p2, p3, p4, p5, p6⟩ := AB7.cells
          obtain ⟨s1, s2, s3⟩ := S7.num
          go_upto_region 10 with (first
            | (go_at_call 12; refine (cS2 _).mono ?_; rintro e v2 ⟨rfl, k2⟩))
          have AB8 := (AB7.call k2).past (.cells #[.int .u64 bh, .int .u64 bl] 24)
          have X8 := (X7.call k2).past (.cells #[.int .u64 bh, .int .u64 bl] 24)
          have Y8 := Box.made v2 24 #[.int .u64 bh, .int .u64 bl]
          generalize v2.alloc (.cells #[.int .u64 bh, .int .u64 bl] 24) = W8 at *
          clear p1 p2 p3 p4 p5 p6 s1 s2 s3
          obtain ⟨p1, p2, p3, p4, p5, p6⟩ := AB8.cells
          obtain ⟨s1, s2, s3⟩ := X8.num
          obtain ⟨t1, t2, t3⟩ := Y8.num
          go_wp2
          go_meet
          exact ⟨by rw [E3.out], AB8⟩
      case rest =>
        obtain ⟨rfl, AB9⟩ := hcut
        obtain ⟨p1, p2, p3, p4, p5, p6⟩ := AB9.cells
        cases hroom : room (nv ah al - nv bh bl)
        · have hno := room_not.1 hroom
          have cSub := fun u : World => (sub_any ah al bh bl a1 a0 b1 b0 u).mono fun e w' hf => Fit.no hroom hf
          have cCmp := fun u : World => cmp_any ah al bh bl a1 a0 b1 b0 u
          rw [cmpI_lt (show nv ah al < nv bh bl by omega)] at cCmp
          clear hno hroom
          go_upto_region 13 with (first
            | (go_at_call 12; refine (cSub _).mono ?_; rintro e v3 ⟨rfl, k3⟩))
          have ABa := (AB9.call k3).past (.cells #[.int .u64 0, .int .u64 0] 24)
          have Za := Box.made v3 24 #[.int .u64 0, .int .u64 0]
          generalize v3.alloc (.cells #[.int .u64 0, .int .u64 0] 24) = Wa at *
          clear p1 p2 p3 p4 p5 p6
          obtain ⟨p1, p2, p3, p4, p5, p6⟩ := ABa.cells
          go_wp2_with (first
            | (go_at_call 14; refine (cCmp _).mono ?_; rintro e v4 ⟨rfl, k4⟩
               have ABb := ABa.call k4
               have Zb := Za.call k4
               obtain ⟨t1, t2, t3⟩ := Zb.num))
          go_ret
          exact ⟨rfl, ABb.2.2⟩
        · have hyes := room_iff.1 hroom
          obtain ⟨dh, dl, d1, d0, hd⟩ := halves hyes.1 hyes.2
          have cSub := fun u : World => (sub_any ah al bh bl a1 a0 b1 b0 u).mono fun e w' hf => Fit.yes (h := dh) (l := dl) hd d1 d0 hf
          have cCmp := fun u : World => cmp_any ah al bh bl a1 a0 b1 b0 u
          have cAdd := fun u : World => (add_any dh dl bh bl d1 d0 b1 b0 u).mono fun e w' hf => Fit.yes (h := ah) (l := al) (by rw [hd]; omega) a1 a0 hf
          obtain ⟨c, hc⟩ : ∃ c, cmpI (nv ah al) (nv bh bl) = c := ⟨_, rfl⟩
          have hc0 : 0 ≤ c := by
            rw [← hc]; unfold cmpI; rw [if_neg (by omega)]; split <;> omega
          rw [hc] at cCmp
          clear hyes hroom hc hd
          go_upto_region 13 with (first
            | (go_at_call 12; refine (cSub _).mono ?_; rintro e v3 ⟨rfl, k3⟩))
          have ABa := (AB9.call k3).past (.cells #[.int .u64 dh, .int .u64 dl] 24)
          have Za := Box.made v3 24 #[.int .u64 dh, .int .u64 dl]
          generalize v3.alloc (.cells #[.int .u64 dh, .int .u64 dl] 24) = Wa at *
          clear p1 p2 p3 p4 p5 p6
          obtain ⟨p1, p2, p3, p4, p5, p6⟩ := ABa.cells
          go_upto_region 18 with (first
            | (go_at_call 14; refine (cCmp _).mono ?_; rintro e v4 ⟨rfl, k4⟩
               have ABb := ABa.call k4
               have Zb := Za.call k4
               obtain ⟨q1, q2, q3, q4, q5, q6⟩ := ABb.cells
               obtain ⟨t1, t2, t3⟩ := Zb.num)
            | (go_at_call 10; refine (cAdd _).mono ?_; rintro e v5 ⟨rfl, k5⟩))
          have ABc := (ABb.call k5).past (.cells #[.int .u64 ah, .int .u64 al] 24)
          have Zc := Box.made v5 24 #[.int .u64 ah, .int .u64 al]
          generalize v5.alloc (.cells #[.int .u64 ah, .int .u64 al] 24) = Wc at *
          clear q1 q2 q3 q4 q5 q6 t1 t2 t3 p1 p2 p3 p4 p5 p6
          obtain ⟨p1, p2, p3, p4, p5, p6⟩ := ABc.cells
          obtain ⟨t1, t2, t3⟩ := Zc.num
          go_wp2
          go_ret
          exact ⟨rfl, ABc.2.2⟩

theorem u128Back_core (H : Type) (enc : TypeId × Value → H) (W : World) (base : Nat) (args : Array Value) (ds gs : List (DataW H)) (before : List MemPlace)
    (hval : ∀ (j : Nat) t v, Try.f6.params[j]? = some t → args[j]? = some v → Value.okWide Try.prog W .any base t v)
    (hW : DataW.Whole enc Try.prog Try.f6.params.toList Rows.u128BackSpec.vars false W args.toList ds gs before) :
    gs = [] ∧ ds.length = 2 ∧ Calls Try.prog 6 args W (Tells (.bool true) W.heap.size W) := by
  obtain ⟨p, q, hA, hV, -, -, -⟩ := hW
  obtain ⟨rfl, rfl⟩ := trodVars_none hV
  have hA : DataW.TrodAll enc Try.prog W 0 (fun _ => true) true Try.f6.params.toList args.toList ds p := hA
  rw [Try.params6] at hA hval
  obtain ⟨v0, v1, d0, d1, p0, p1, rfl, rfl, -, h0, h1⟩ := trodAll_two hA
  obtain ⟨ah, al, rfl, a1, a0⟩ := open_num (hval 0 _ v0 rfl rfl) h0
  obtain ⟨bh, bl, rfl, b1, b0⟩ := open_num (hval 1 _ v1 rfl rfl) h1
  exact ⟨rfl, rfl, back_walk ah al bh bl a1 a0 b1 b0 W⟩

set_option maxRecDepth 100000 in
theorem u128Back_lifted (os : Os) (started : os.Started) (H : Type) (enc : TypeId × Value → H) :
    ReturnsInHanded {} Try.checked os 6 .any (Rows.u128BackSpec.pre6 enc Try.prog Try.f6 Rows.u128BackRow.domain false) (Rows.u128BackSpec.post enc Try.prog Try.f6 false true false false) := by
  refine returnsInHanded_of_change (C := Try.checked) own_knob started (by kernel_rfl) Try.func6
    (ChangeSpec.witness6 (enc := enc) (C := Try.checked) false ⟨#[], #[.agg #[.int .u64 0, .int .u64 0], .agg #[.int .u64 0, .int .u64 0]], []⟩ 8 (by kernel_rfl) (by kernel_rfl) (by kernel_rfl) (by kernel_rfl)) ?_
  intro W base args ds gs before hval hW _ _
  obtain ⟨hg, hlen, hc⟩ := u128Back_core H enc W base args ds gs before hval hW
  subst hg
  have hr : (Try.f6.params.toList.all fun t => Try.prog.readableRec t && decide (t < Try.prog.types.size)) = true := by kernel_rfl
  have hread : ∀ t ∈ Try.f6.params.toList, Try.prog.readableRec t = true ∧ t < Try.prog.types.size := fun t ht => by
    have h := List.all_eq_true.1 hr t ht
    rw [Bool.and_eq_true, decide_eq_true_eq] at h
    exact h
  refine hc.mono fun e W' ⟨he, hb⟩ => ?_
  subst he
  match ds, hlen with
  | [d0, d1], _ => exact ⟨_, rfl, law_post laid_out Try.underlying4 rfl hread rfl hW rfl rfl rfl hb⟩

theorem u128Back_holds : Rows.U128BackSaid :=
  OpenClaim.holds_of_wide 6 Try.f6 rfl rfl rfl rfl rfl rfl rfl ⟨rfl, rfl, rfl, rfl, rfl⟩ rfl rfl rfl rfl rfl (by kernel_rfl) Try.func6 (by kernel_rfl)
    (of_decide_eq_true (by kernel_rfl)) (by unfold Func.isWrapper; first | (rw [if_pos (by decide +kernel)]; kernel_rfl) | (rw [if_neg (by decide +kernel)]; exact ⟨rfl, rfl⟩))
    (fun os started H enc _ => u128Back_lifted os started H enc)

end Go.Proofs.Ytohdphbomjhgaaa
