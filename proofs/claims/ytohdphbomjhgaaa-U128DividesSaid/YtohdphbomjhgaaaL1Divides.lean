/-
  The law of layer 1: a number is its quotient times what it was divided by, and the rest; a product, divided, is what was multiplied; it is too much just if it is more than the greatest number's quotient; any number, any other one, no condition.
-/
import Derived.Test.YtohdphbomjhgaaaL1Back
import Derived.Test.YtohdphbomjhgaaaU1Times
namespace Go.Proofs.Ytohdphbomjhgaaa
set_option linter.unusedVariables false
set_option linter.unusedSimpArgs false
open Go.ChangeShapes Go.WideShapes Go.ChangeAt Go.RowKit

/-- A number in its block, nothing else turned. -/
def OneIn (w : World) (ah al : Int) (w' : World) : Prop := Box w' w.heap.size 24 #[.int .u64 ah, .int .u64 al] ∧ Below w.heap.size w w'
section
variable {w W w' : World} {ah al : Int}
theorem OneIn.call (h : OneIn w ah al W) (hb : Below W.heap.size W w') : OneIn w ah al w' := ⟨h.1.call hb, chain h.2 hb⟩
theorem OneIn.past (h : OneIn w ah al W) (o : Obj) : OneIn w ah al (W.alloc o) := ⟨h.1.past o, chainA h.2 o⟩
theorem OneIn.drew (h : OneIn w ah al W) : OneIn w ah al W.drew := ⟨h.1.draw, h.2.drew⟩
theorem OneIn.set_ (h : OneIn w ah al W) {p : Addr} (hp : w.heap.size < p.block) (u : Value) : OneIn w ah al (W.setCell p u) := ⟨h.1.apart (by omega) u, h.2.setCell (by omega) u⟩
end
theorem over_yes {A n : Int} {h l r : Int} {B : Nat} {w w' : World} {e : Ending} (h0 : n ≠ 0) (hs : nv h l = A / n) (hr : A % n = r) (hh : Word h) (hl : Word l) (hf : OverTells A n B w e w') :
    e = .returned (.tuple #[.agg #[.int .u64 h, .int .u64 l], .int .u64 r, .int .i64 0]) ∧ Below B w w' := by
  obtain ⟨he, hb⟩ := hf
  refine ⟨?_, hb⟩
  rw [he, ← hs, rh_nv hh hl, rl_nv hh hl, orest, if_neg h0, hr, oerr, if_neg h0]

set_option maxRecDepth 100000 in
set_option maxHeartbeats 16000000 in
theorem divides_walk (ah al n : Int) (a1 : Word ah) (a0 : Word al) (hn : Word n) (w : World) :
    Calls Try.prog 7 #[.agg #[.int .u64 ah, .int .u64 al], .int .u64 n] w (Tells (.bool true) w.heap.size w) := by
  obtain ⟨nA0, nA1⟩ := nv_word a1 a0
  have P0 : OneIn w ah al (w.alloc (.cells #[.int .u64 ah, .int .u64 al] 24)) := ⟨Box.made w 24 #[.int .u64 ah, .int .u64 al], by repeat (first | exact Below.refl _ _ | apply Below.drew | apply below_drewN | refine Below.alloc ?_ (by simp; try omega) _ | refine Below.setCell ?_ (by simp; try omega) _)⟩
  by_cases h0 : n = 0
  · subst h0
    have cT := fun u : World => (times_any ah al 0 a1 a0 hn u).mono fun e w' hf => Fit.yes (h := 0) (l := 0) (by rw [Int.mul_zero]; decide) word_lit word_lit hf
    go_enter Try.func7, Try.ntmps7
    go_upto_region 4 with (first
      | (go_at_call 30; refine (awake_any _).mono ?_; rintro e w1 ⟨rfl, h1⟩))
    have P1 := P0.call h1
    obtain ⟨p1, p2, p3⟩ := P1.1.num
    clear P0 h1
    go_wp2_with (first
      | (go_at_call 20; refine (cT _).mono ?_; rintro e w2 ⟨rfl, h2⟩))
    go_ret
    exact ⟨rfl, chainA (P1.call h2).2 _⟩
  · have hn0 : 0 < n := by have := hn.1; omega
    have q0 : 0 ≤ nv ah al / n := Int.ediv_nonneg nA0 (by omega)
    have q1 : nv ah al / n ≤ nv ah al := Int.ediv_le_self _ nA0
    obtain ⟨qh, ql, wq1, wq0, hq⟩ := halves (s := nv ah al / n) q0 (by omega)
    obtain ⟨r, hr⟩ : ∃ r, nv ah al % n = r := ⟨_, rfl⟩
    have r0 : 0 ≤ r := by rw [← hr]; exact Int.emod_nonneg _ h0
    have r1 : r < n := by rw [← hr]; exact Int.emod_lt_of_pos _ hn0
    have hqn : nv ah al / n * n + r = nv ah al := by rw [← hr]; exact Int.ediv_mul_add_emod _ _
    have hp0 : 0 ≤ nv ah al / n * n := Int.mul_nonneg q0 (by omega)
    obtain ⟨th, tl, wt1, wt0, ht⟩ := halves (s := nv ah al / n * n) hp0 (by omega)
    have wr : Word r := ⟨r0, by have := hn.2; omega⟩
    have hM : nv 18446744073709551615 18446744073709551615 = 340282366920938463463374607431768211455 := by decide
    obtain ⟨mh, ml, wm1, wm0, hm⟩ := halves (s := 340282366920938463463374607431768211455 / n) (Int.ediv_nonneg (by decide) (by omega)) (by have := Int.ediv_le_self n (show (0 : Int) ≤ 340282366920938463463374607431768211455 by decide); omega)
    obtain ⟨mr, hmr⟩ : ∃ r : Int, 340282366920938463463374607431768211455 % n = r := ⟨_, rfl⟩
    have cO1 := fun u : World => (over_any ah al n a1 a0 hn u).mono fun e w' hf => over_yes (h := qh) (l := ql) h0 hq hr wq1 wq0 hf
    have cT1 := fun u : World => (times_any qh ql n wq1 wq0 hn u).mono fun e w' hf => Fit.yes (h := th) (l := tl) (by rw [hq]; exact ht) wt1 wt0 hf
    have cA1 := fun u : World => (add_any th tl 0 r wt1 wt0 word_lit wr u).mono fun e w' hf => Fit.yes (h := ah) (l := al) (by rw [ht, show nv 0 r = r by unfold nv; omega]; exact hqn.symm) a1 a0 hf
    have cO2 := fun u : World => (over_any 18446744073709551615 18446744073709551615 n word_lit word_lit hn u).mono fun e w' hf => over_yes (h := mh) (l := ml) (r := mr) h0 (by rw [hM]; exact hm) (by rw [hM]; exact hmr) wm1 wm0 hf
    have hle : nv ah al ≤ nv mh ml ↔ nv ah al * n ≤ 340282366920938463463374607431768211455 := by rw [hm]; exact Int.le_ediv_iff_mul_le hn0
    have HLE := hideIt hle
    clear hle hM hm hmr hqn ht hr hq
    go_enter Try.func7, Try.ntmps7
    go_upto_region 6 with (first
      | (go_at_call 30; refine (awake_any _).mono ?_; rintro e w1 ⟨rfl, h1⟩))
    have P1 := P0.call h1
    obtain ⟨p1, p2, p3⟩ := P1.1.num
    clear P0 h1
    go_upto_region 7 with (first
      | (go_at_call 22; refine (cO1 _).mono ?_; rintro e w2 ⟨rfl, h2⟩))
    have P2 := (P1.call h2).past (.cells #[.int .u64 qh, .int .u64 ql] 24)
    have Q2 := Box.made w2 24 #[.int .u64 qh, .int .u64 ql]
    generalize w2.alloc (.cells #[.int .u64 qh, .int .u64 ql] 24) = W2 at *
    clear p1 p2 p3
    obtain ⟨p1, p2, p3⟩ := Q2.num
    go_upto_region 8 with (first
      | (go_at_call 20; refine (cT1 _).mono ?_; rintro e w3 ⟨rfl, h3⟩))
    have P3 := (P2.call h3).past (.cells #[.int .u64 th, .int .u64 tl] 24)
    have T3 := Box.made w3 24 #[.int .u64 th, .int .u64 tl]
    generalize w3.alloc (.cells #[.int .u64 th, .int .u64 tl] 24) = W3 at *
    clear p1 p2 p3
    obtain ⟨p1, p2, p3⟩ := T3.num
    have pz := P3.1.inside
    go_cut [12, 13] from 22 to 135 (fun s12 s13 wx => ∃ g, s12 = .pointer (some ⟨g, 0, none⟩) ∧ s13 = .int .i64 0 ∧ Box wx g 24 #[.int .u64 ah, .int .u64 al] ∧ OneIn w ah al wx)
    case first =>
      go_region_with (first
        | (go_at_call 16; refine (of_any _ _).mono ?_; rintro e v2 ⟨rfl, k2⟩
           have R2 := P3.drew.call k2
           have U2 := T3.draw.call k2
           obtain ⟨q1, q2, q3⟩ := U2.num)
        | (go_at_call 16; refine (of_any _ _).mono ?_; rintro e v2 ⟨rfl, k2⟩
           have R2 := (P3.past _).drew.call k2
           have U2 := (T3.past _).draw.call k2
           obtain ⟨q1, q2, q3⟩ := U2.num
           have G2 := (Box.made W3 24 #[.int .u64 0, .int .u64 0]).draw.call k2
           obtain ⟨g1, g2, g3⟩ := G2.num)
        | (go_at_call 10; refine (cA1 _).mono ?_; rintro e v3 ⟨rfl, k3⟩
           have R3 := R2.call k3
           have G3 := G2.call k3
           clear g1 g2 g3
           obtain ⟨g1, g2, g3⟩ := G3.num
           have g4 := G3.free 0
           have g5 := G3.free 1)
        | (go_at_call 10; refine (cA1 _).mono ?_; rintro e v3 ⟨rfl, k3⟩
           have R3 := R2.call k3)
        | (go_at_call 10; refine (cA1 _).mono ?_; rintro e v3 ⟨rfl, k3⟩
           have R3 := (R2.past _).call k3
           have G3 := (Box.made v2 24 #[.int .u64 0, .int .u64 0]).call k3
           obtain ⟨g1, g2, g3⟩ := G3.num
           have g4 := G3.free 0
           have g5 := G3.free 1))
      all_goals go_wp2_with fail
      all_goals go_meet
      all_goals have hz2 := R2.1.inside
      all_goals first
        | exact ⟨_, rfl, rfl, Box.made _ _ _, R3.past _⟩
        | exact ⟨_, rfl, rfl, (G3.wrote 0 _).wrote 1 _, (R3.set_ (by simp; omega) _).set_ (by simp; omega) _⟩
    case rest =>
      obtain ⟨g, rfl, rfl, G4, P4⟩ := hcut
      clear P1 P2 P3 Q2 T3 p1 p2 p3
      obtain ⟨p1, p2, p3⟩ := P4.1.num
      obtain ⟨g1, g2, g3⟩ := G4.num
      obtain ⟨wn0, wn1⟩ := hn
      go_upto_region 12 with (first
        | (go_at_call 18; refine (most_any _).mono ?_; rintro e v1 ⟨rfl, k1⟩)
        | (go_at_call 22; refine (cO2 _).mono ?_; rintro e v2 ⟨rfl, k2⟩))
      have P5 := ((P4.call k1).call k2).past (.cells #[.int .u64 mh, .int .u64 ml] 24)
      have M5 := Box.made v2 24 #[.int .u64 mh, .int .u64 ml]
      generalize v2.alloc (.cells #[.int .u64 mh, .int .u64 ml] 24) = W5 at *
      clear p1 p2 p3 g1 g2 g3
      obtain ⟨p1, p2, p3⟩ := P5.1.num
      obtain ⟨g1, g2, g3⟩ := M5.num
      cases hroom : room (nv ah al * n)
      · have hno := room_not.1 hroom
        have hnn : 0 ≤ nv ah al * n := Int.mul_nonneg nA0 wn0
        have cT2 := fun u : World => (times_any ah al n a1 a0 ⟨wn0, wn1⟩ u).mono fun e w' hf => Fit.no hroom hf
        have cC := fun u : World => cmp_any ah al mh ml a1 a0 wm1 wm0 u
        rw [cmpI_gt (show nv mh ml < nv ah al by have := HLE.out; omega)] at cC
        clear hno hroom hnn
        go_upto_region 13 with (first
          | (go_at_call 20; refine (cT2 _).mono ?_; rintro e v3 ⟨rfl, k3⟩))
        have P6 := (P5.call k3).past (.cells #[.int .u64 0, .int .u64 0] 24)
        have M6 := (M5.call k3).past (.cells #[.int .u64 0, .int .u64 0] 24)
        have X6 := Box.made v3 24 #[.int .u64 0, .int .u64 0]
        generalize v3.alloc (.cells #[.int .u64 0, .int .u64 0] 24) = W6 at *
        clear p1 p2 p3 g1 g2 g3
        obtain ⟨p1, p2, p3⟩ := P6.1.num
        obtain ⟨g1, g2, g3⟩ := M6.num
        go_wp2_with (first
          | (go_at_call 14; refine (cC _).mono ?_; rintro e v4 ⟨rfl, k4⟩
             have X7 := X6.call k4
             obtain ⟨t1, t2, t3⟩ := X7.num))
        go_ret
        exact ⟨rfl, (P6.call k4).2⟩
      · have hyes := room_iff.1 hroom
        obtain ⟨xh, xl, wx1, wx0, hx⟩ := halves hyes.1 hyes.2
        have cT2 := fun u : World => (times_any ah al n a1 a0 ⟨wn0, wn1⟩ u).mono fun e w' hf => Fit.yes (h := xh) (l := xl) hx wx1 wx0 hf
        have cC := fun u : World => cmp_any ah al mh ml a1 a0 wm1 wm0 u
        obtain ⟨c, hc⟩ : ∃ c, cmpI (nv ah al) (nv mh ml) = c := ⟨_, rfl⟩
        have hc0 : c ≤ 0 := by
          rw [← hc]
          have := HLE.out.2 (by omega)
          unfold cmpI; split
          · omega
          · rw [if_pos (by omega)]; omega
        rw [hc] at cC
        have cO3 := fun u : World => (over_any xh xl n wx1 wx0 ⟨wn0, wn1⟩ u).mono fun e w' hf => over_yes (h := ah) (l := al) (r := 0) h0 (by rw [hx, Int.mul_ediv_cancel _ h0]) (by rw [hx, Int.mul_emod_left]) a1 a0 hf
        clear hyes hroom hc hx
        go_upto_region 13 with (first
          | (go_at_call 20; refine (cT2 _).mono ?_; rintro e v3 ⟨rfl, k3⟩))
        have P6 := (P5.call k3).past (.cells #[.int .u64 xh, .int .u64 xl] 24)
        have M6 := (M5.call k3).past (.cells #[.int .u64 xh, .int .u64 xl] 24)
        have X6 := Box.made v3 24 #[.int .u64 xh, .int .u64 xl]
        generalize v3.alloc (.cells #[.int .u64 xh, .int .u64 xl] 24) = W6 at *
        clear p1 p2 p3 g1 g2 g3
        obtain ⟨p1, p2, p3⟩ := P6.1.num
        obtain ⟨g1, g2, g3⟩ := M6.num
        go_upto_region 18 with (first
          | (go_at_call 14; refine (cC _).mono ?_; rintro e v4 ⟨rfl, k4⟩
             have X7 := X6.call k4
             have P7 := P6.call k4
             obtain ⟨t1, t2, t3⟩ := X7.num)
          | (go_at_call 22; refine (cO3 _).mono ?_; rintro e v5 ⟨rfl, k5⟩))
        have P8 := (P7.call k5).past (.cells #[.int .u64 ah, .int .u64 al] 24)
        have Z8 := Box.made v5 24 #[.int .u64 ah, .int .u64 al]
        generalize v5.alloc (.cells #[.int .u64 ah, .int .u64 al] 24) = W8 at *
        clear p1 p2 p3 g1 g2 g3 t1 t2 t3
        obtain ⟨p1, p2, p3⟩ := P8.1.num
        obtain ⟨t1, t2, t3⟩ := Z8.num
        go_wp2
        go_ret
        exact ⟨rfl, P8.2⟩

theorem u128Divides_core (H : Type) (enc : TypeId × Value → H) (W : World) (base : Nat) (args : Array Value) (ds gs : List (DataW H)) (before : List MemPlace)
    (hval : ∀ (j : Nat) t v, Try.f7.params[j]? = some t → args[j]? = some v → Value.okWide Try.prog W .any base t v)
    (hW : DataW.Whole enc Try.prog Try.f7.params.toList Rows.u128DividesSpec.vars false W args.toList ds gs before) :
    gs = [] ∧ ds.length = 2 ∧ Calls Try.prog 7 args W (Tells (.bool true) W.heap.size W) := by
  obtain ⟨p, q, hA, hV, -, -, -⟩ := hW
  obtain ⟨rfl, rfl⟩ := trodVars_none hV
  have hA : DataW.TrodAll enc Try.prog W 0 (fun _ => true) true Try.f7.params.toList args.toList ds p := hA
  rw [Try.params7] at hA hval
  obtain ⟨v0, v1, d0, d1, p0, p1, rfl, rfl, -, h0, h1⟩ := trodAll_two hA
  obtain ⟨ah, al, rfl, a1, a0⟩ := open_num (hval 0 _ v0 rfl rfl) h0
  obtain ⟨n, rfl, rfl, rfl, wn⟩ := open_int Try.underlying22 (hval 1 22 v1 rfl rfl) h1
  exact ⟨rfl, rfl, divides_walk ah al n a1 a0 (word_of wn) W⟩

set_option maxRecDepth 100000 in
theorem u128Divides_lifted (os : Os) (started : os.Started) (H : Type) (enc : TypeId × Value → H) :
    ReturnsInHanded {} Try.checked os 7 .any (Rows.u128DividesSpec.pre6 enc Try.prog Try.f7 Rows.u128DividesRow.domain false) (Rows.u128DividesSpec.post enc Try.prog Try.f7 false true false false) := by
  refine returnsInHanded_of_change (C := Try.checked) own_knob started (by kernel_rfl) Try.func7
    (ChangeSpec.witness6 (enc := enc) (C := Try.checked) false ⟨#[], #[.agg #[.int .u64 0, .int .u64 0], .int .u64 0], []⟩ 8 (by kernel_rfl) (by kernel_rfl) (by kernel_rfl) (by kernel_rfl)) ?_
  intro W base args ds gs before hval hW _ _
  obtain ⟨hg, hlen, hc⟩ := u128Divides_core H enc W base args ds gs before hval hW
  subst hg
  have hr : (Try.f7.params.toList.all fun t => Try.prog.readableRec t && decide (t < Try.prog.types.size)) = true := by kernel_rfl
  have hread : ∀ t ∈ Try.f7.params.toList, Try.prog.readableRec t = true ∧ t < Try.prog.types.size := fun t ht => by
    have h := List.all_eq_true.1 hr t ht
    rw [Bool.and_eq_true, decide_eq_true_eq] at h
    exact h
  refine hc.mono fun e W' ⟨he, hb⟩ => ?_
  subst he
  match ds, hlen with
  | [d0, d1], _ => exact ⟨_, rfl, law_post laid_out Try.underlying4 rfl hread rfl hW rfl rfl rfl hb⟩

theorem u128Divides_holds : Rows.U128DividesSaid :=
  OpenClaim.holds_of_wide 7 Try.f7 rfl rfl rfl rfl rfl rfl rfl ⟨rfl, rfl, rfl, rfl, rfl⟩ rfl rfl rfl rfl rfl (by kernel_rfl) Try.func7 (by kernel_rfl)
    (of_decide_eq_true (by kernel_rfl)) (by unfold Func.isWrapper; first | (rw [if_pos (by decide +kernel)]; kernel_rfl) | (rw [if_neg (by decide +kernel)]; exact ⟨rfl, rfl⟩))
    (fun os started H enc _ => u128Divides_lifted os started H enc)

end Go.Proofs.Ytohdphbomjhgaaa
