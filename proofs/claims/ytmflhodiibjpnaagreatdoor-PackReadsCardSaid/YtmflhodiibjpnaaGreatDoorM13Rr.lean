/- Several of my texts, laid as one. -/
import Derived.Test.YtmflhodiibjpnaaGreatDoorM13Rd
import Derived.Test.YtmflhodiibjpnaaGreatDoorM13Rf
/-
  paymasterref13's ReadRange, walked.
-/
namespace Go.Proofs.YtmflhodiibjpnaaGreatDoor
set_option linter.unusedVariables false
set_option linter.unusedSimpArgs false
set_option maxRecDepth 10000
open Go.RowKit

/-- What a range's reading tells: its slices lie in memory of its own. -/
def RgTold (x : RgP) (n : Int) (w : World) (e : Ending) (w' : World) : Prop := ∃ (A : Option Addr) (c : Nat) (B : Option Addr) (d : Nat), e = .returned (.tuple #[.agg (rgB x.a x.b A x.ins.length c B x.outs.length d), .int .i64 n]) ∧ (A = none → c = 0) ∧ (B = none → d = 0) ∧ ndS.Row w' w'.heap.size A x.ins ∧ ndS.Row w' w'.heap.size B x.outs ∧ Below w.heap.size w w'
theorem rgG_ok (st : StR) : Word (rgG st).1.a ∧ Word (rgG st).1.b ∧ ((rgG st).1.ins.length ≤ 2048 ∧ ∀ y ∈ (rgG st).1.ins, y.hash.size ≤ 32 ∧ y.words) ∧ (rgG st).1.outs.length ≤ 2048 ∧ ∀ y ∈ (rgG st).1.outs, y.hash.size ≤ 32 ∧ y.words :=
  ⟨lV_word 8 _, lV_word 8 _, row_ok (p := fun y : Nd => y.hash.size ≤ 32 ∧ y.words) ndG_ok _, row_ok (p := fun y : Nd => y.hash.size ≤ 32 ∧ y.words) ndG_ok _⟩
set_option maxRecDepth 20000 in
set_option maxHeartbeats 8000000 in
theorem rreadRange_any (s : ByteArray) (hs : s.size ≤ 1000000) (w : World) : Calls Tryz.prog 42 #[.string s] w (RgTold (readO rgG rgO RgP.zero s).1 (readO rgG rgO RgP.zero s).2 w) := by
  obtain ⟨s1, h1⟩ : ∃ s1, nxt (opB (some s.data.toList)) = s1 := ⟨_, rfl⟩
  have z0 := rest_opB (some s.data.toList)
  rw [show restN (some s.data.toList) = s.size from osize s, h1] at z0
  have cB := fun u hu => r_byte u (w.heap.size + 1) (some s.data.toList) (by show s.data.toList.length ≤ _; rw [osize]; omega) hu
  rw [h1] at cB
  generalize bV (opB (some s.data.toList)) = b0 at *
  have hok := rgG_ok s1
  have hd : rgG s1 = (⟨(numG s1).1, (numG (numG s1).2).1, (rowG ndG (numG (numG s1).2).2).1, (rowG ndG (rowG ndG (numG (numG s1).2).2).2).1⟩, (rowG ndG (rowG ndG (numG (numG s1).2).2).2).2) := rfl
  unfold numG at hd
  rw [hd] at hok
  simp only at hd hok
  have z1 := rest_opN 8 s1
  have cN := fun u hu => r_num u (w.heap.size + 1) s1 (by omega) hu
  obtain ⟨xa, hxa⟩ : ∃ q, lV (opN 8 s1) = q := ⟨_, rfl⟩
  obtain ⟨sa, hsa⟩ : ∃ q, nxt (opN 8 s1) = q := ⟨_, rfl⟩
  rw [hxa, hsa] at cN hok hd
  rw [hsa] at z1
  have z2 := rest_opN 8 sa
  have cM := fun u hu => r_num u (w.heap.size + 1) sa (by omega) hu
  obtain ⟨xb, hxb⟩ : ∃ q, lV (opN 8 sa) = q := ⟨_, rfl⟩
  obtain ⟨sb, hsb⟩ : ∃ q, nxt (opN 8 sa) = q := ⟨_, rfl⟩
  rw [hxb, hsb] at cM hok hd
  rw [hsb] at z2
  have z3 := rest_row rest_nd sb
  have cR := fun u hu => rgetNodes_any u (w.heap.size + 1) sb (by omega) hu
  obtain ⟨⟨ins, sc⟩, hr⟩ : ∃ V, rowG ndG sb = V := ⟨_, rfl⟩
  rw [hr] at cR hok hd z3
  simp only at cR hok hd z3
  have cQ := fun u hu => rgetNodes_any u (w.heap.size + 1) sc (by omega) hu
  obtain ⟨⟨outs, s2⟩, hq⟩ : ∃ V, rowG ndG sc = V := ⟨_, rfl⟩
  rw [hq] at cQ hok hd
  simp only at cQ hok hd
  have cT := fun (A B : Option Addr) (c d : Nat) u hu hv => rrange_any ⟨xa, xb, ins, outs⟩ A B c d (by have := hok.2.2.1.1; simp only; omega) (fun y hy => by have := (hok.2.2.1.2 y hy).1; omega) (fun y hy => (hok.2.2.1.2 y hy).2) (by have := hok.2.2.2.1; simp only; omega) (fun y hy => by have := (hok.2.2.2.2 y hy).1; omega) (fun y hy => (hok.2.2.2.2 y hy).2) hok.1 hok.2.1 u hu hv
  obtain ⟨⟨T, n⟩, ht⟩ : ∃ V, rgO ⟨xa, xb, ins, outs⟩ = V := ⟨_, rfl⟩
  rw [ht] at cT
  simp only at cT
  have cO := fun u hu => r_done u (w.heap.size + 1) s2 hu
  have hrd := read_if (z := RgP.zero) h1 hd ht
  obtain ⟨RR, hRR⟩ : ∃ R, readO rgG rgO RgP.zero s = R := ⟨_, rfl⟩
  rw [hRR] at hrd ⊢
  generalize decide (s2 = some []) = b1 at *
  obtain ⟨b2, hb2⟩ : ∃ b2, (n == 0) = b2 := ⟨_, rfl⟩
  obtain ⟨b3, hb3⟩ : ∃ b3, (T.toList == s.toList) = b3 := ⟨_, rfl⟩
  rw [hb2, hb3] at hrd
  have HR := hideIt hrd
  have hb2n : (n != 0) = !b2 := by rw [bne, hb2]
  have hb3n : (T.toList != s.toList) = !b3 := by rw [bne, hb3]
  clear hrd hRR h1 hd ht
  clear hok hxa hsa hxb hsb hr hq z0 z1 z2 z3
  have D0 := Rd.open_ w 35 (rgB 0 0 none 0 0 none 0 0) s
  obtain ⟨g, hg⟩ : ∃ g, w.heap.size + 1 = g := ⟨_, rfl⟩
  rw [hg] at D0 cB cO cN cM cR cQ
  go_enter Tryz.func42, Tryz.ntmps42
  go_upto_region 2 with fail
  change Code.wp _ _ _ _ ((w.alloc (.cells (rgB 0 0 none 0 0 none 0 0) 35)).alloc (.cells #[.string s, .bool false] 70))
  try rw [hg]
  generalize (w.alloc (.cells (rgB 0 0 none 0 0 none 0 0) 35)).alloc (.cells #[.string s, .bool false] 70) = W0 at *
  have hgw : w.heap.size ≤ g := by omega
  go_upto_region 4 with (first
    | (go_at_call 76; refine (cB _ D0.inS).mono ?_; rintro e w1 ⟨rfl, t1, k1⟩; have D1 := D0.read t1 k1)
    | (go_at_call 73; refine (cN _ t1).mono ?_; rintro e w2 ⟨rfl, t2, k2⟩; have D2 := D1.read t2 k2)
    | fail)
  have D3 := D2.add 35 (rgB xa 0 none 0 0 none 0 0)
  change Code.wp _ _ _ _ (w2.alloc (.cells (rgB xa 0 none 0 0 none 0 0) 35))
  have hlt : w.heap.size < w2.heap.size := (D2.box 0).inside
  obtain ⟨b, hb⟩ : ∃ b, w2.heap.size = b := ⟨_, rfl⟩
  rw [hb] at D3 hlt ⊢
  have hgb : g < b := by rw [← hb]; exact t2.inside
  generalize w2.alloc (.cells (rgB xa 0 none 0 0 none 0 0) 35) = W3 at *
  clear D0 D1 D2 t1 k1 t2 k2 hb cB cN
  have hne : ∀ x ∈ [((w.heap.size, 35, rgB 0 0 none 0 0 none 0 0) : Blk)], x.1 ≠ b := fun x hx => by simp at hx; subst hx; exact Nat.ne_of_lt hlt
  have hne2 : ∀ {cs : Array Value}, ∀ x ∈ [((b, 35, cs) : Blk)], x.1 ≠ w.heap.size := fun x hx => by simp at hx; subst hx; exact (Nat.ne_of_lt hlt).symm
  go_upto_region 5 with (first | (go_at_call 73; refine (cM _ D3.inS).mono ?_; rintro e w4 ⟨rfl, t4, k4⟩; have D4 := D3.read t4 k4; obtain ⟨⟨y0, y1, y2, y3⟩, hin⟩ := (D4.box 0).four0; have e1 := (D4.box 0).free 1) | fail)
  have D5 := D4.wrote hne 1 (.int .u64 xb)
  change Rd w g sb [(b, 35, rgB xa xb none 0 0 none 0 0), (w.heap.size, 35, rgB 0 0 none 0 0 none 0 0)] _ at D5
  generalize World.setCell w4 _ _ = W5 at *
  clear D3 D4 t4 k4 cM y0 y1 y2 y3 e1 hin
  go_upto_region 6 with (first | (go_at_call 81; refine (cR _ D5.inS).mono ?_; rintro e w6 ⟨v6, rfl, O6, t6, k6⟩; have D6 := D5.read t6 k6; obtain ⟨⟨y0, y1, y2, y3⟩, hin⟩ := (D6.box 0).four0; have e2 := (D6.box 0).free 2; obtain ⟨A, c, hv, hA, R6⟩ := Sh.own_row (S := ndS) O6; subst hv) | fail)
  have hb5 := (D5.box 0).inside
  have D7' := D6.wrote hne 2 (.slice A ins.length c)
  change Rd w g sc [(b, 35, rgB xa xb A ins.length c none 0 0), (w.heap.size, 35, rgB 0 0 none 0 0 none 0 0)] _ at D7'
  have O7 : (w6.setCell ⟨b, 2, none⟩ (.slice A ins.length c)).ownsRow W5.heap.size 143 3 (.slice A ins.length c) ins.length (ndS.flat ins) := own_off O6 ((Off.refl (One b) w6).set_ (p := ⟨b, 2, none⟩) (Or.inl rfl) _) hb5
  obtain ⟨B5, hB⟩ : ∃ B, W5.heap.size = B := ⟨_, rfl⟩
  rw [hB] at O7 hb5
  generalize World.setCell w6 _ _ = W6 at *
  clear D5 D6 t6 k6 cR O6 R6 y0 y1 y2 y3 e2 hin hB
  go_upto_region 7 with (first | (go_at_call 81; refine (cQ _ D7'.inS).mono ?_; rintro e w8 ⟨v8, rfl, O8, t8, k8⟩; have D8 := D7'.read t8 k8; obtain ⟨⟨y0, y1, y2, y3⟩, hin⟩ := (D8.box 0).four0; have e3 := (D8.box 0).free 3; obtain ⟨B, d, hv, hBn, R8⟩ := Sh.own_row (S := ndS) O8; subst hv) | fail)
  have hb6 := (D7'.box 0).inside
  have hk3 : Off (One b) w8 (w8.setCell ⟨b, 3, none⟩ (.slice B outs.length d)) := (Off.refl (One b) w8).set_ (p := ⟨b, 3, none⟩) (Or.inl rfl) _
  have D9' := D8.wrote hne 3 (.slice B outs.length d)
  change Rd w g s2 [(b, 35, rgB xa xb A ins.length c B outs.length d), (w.heap.size, 35, rgB 0 0 none 0 0 none 0 0)] _ at D9'
  have P7 := own_off (own_off O7 k8 (by omega)) hk3 hb5
  have Q7 := own_off O8 hk3 hb6
  obtain ⟨B6, hB⟩ : ∃ B, W6.heap.size = B := ⟨_, rfl⟩
  rw [hB] at Q7 hb6
  have hr5 : w.heap.size < B5 := by omega
  have hr6 : w.heap.size < B6 := by omega
  generalize World.setCell w8 _ _ = W8 at *
  have RA : ndS.Row W8 W8.heap.size A ins := by
    obtain ⟨A', c', hv', -, R⟩ := Sh.own_row (S := ndS) P7
    injection hv' with e1 e2 e3
    rw [e1]
    exact R
  have RB : ndS.Row W8 W8.heap.size B outs := by
    obtain ⟨A', c', hv', -, R⟩ := Sh.own_row (S := ndS) Q7
    injection hv' with e1 e2 e3
    rw [e1]
    exact R
  clear D7' D8 t8 k8 cQ O7 O8 R8 hk3 y0 y1 y2 y3 e3 hin hB hb5 hb6
  have cT1 := cT A B c d W8 RA RB
  obtain ⟨N, hN⟩ : ∃ N, ins.length = N := ⟨_, rfl⟩
  obtain ⟨M, hM⟩ : ∃ M, outs.length = M := ⟨_, rfl⟩
  rw [hN, hM] at cT1 D9'
  obtain ⟨⟨y0, y1, y2, y3⟩, hin⟩ := (D9'.box 0).four0
  rw [hN, hM]
  go_upto_region 8 with (first | (go_at_call 20; refine cT1.mono ?_; rintro e w7 ⟨rfl, j7⟩) | fail)
  have D7 := D9'.call j7
  have P8 := own_below P7 j7
  have Q8 := own_below Q7 j7
  clear D9' j7 cT cT1 P7 Q7 y0 y1 y2 y3 hin RA RB
  cases b1 with
  | false =>
    have e := HR.out
    simp only [Bool.false_eq_true, false_and, and_false, if_false] at e
    subst e
    obtain ⟨⟨x0, x1, x2, x3⟩, hin2⟩ := (D7.box 1).four0
    have f0 := (D7.box 1).free 0
    have f1 := (D7.box 1).free 1
    have f2 := (D7.box 1).free 2
    have f3 := (D7.box 1).free 3
    obtain ⟨⟨y0, y1, y2, y3⟩, hin⟩ := (D7.box 0).four0
    go_wp2_with (first | (go_at_call 77; refine (cO _ D7.inS).mono ?_; rintro e v6 ⟨rfl, rfl⟩) | fail)
    have D9 := (((D7.swap.wrote hne2 0 (.int .u64 0)).wrote hne2 1 (.int .u64 0)).wrote hne2 2 (.slice none 0 0)).wrote hne2 3 (.slice none 0 0)
    change Rd w g s2 [(w.heap.size, 35, rgB 0 0 none 0 0 none 0 0), (b, 35, rgB xa xb A N c B M d)] _ at D9
    generalize World.setCell (World.setCell (World.setCell (World.setCell w7 _ _) _ _) _ _) _ _ = W9 at *
    obtain ⟨⟨v0, v1, v2, v3⟩, -⟩ := (D9.box 0).four0
    exact bodyPost_ret (v := .tuple #[.agg (rgB 0 0 none 0 0 none 0 0), .int .i64 80]) (by simp [results, Tryz.results42, go_sem, v0, v1, v2, v3]) rfl ⟨none, 0, none, 0, rfl, fun _ => rfl, fun _ => rfl, Sh.Row.nil ndS _ _ _, Sh.Row.nil ndS _ _ _, D9.below hgw⟩
  | true =>
    cases b2 with
    | false =>
      have e := HR.out
      simp only [Bool.false_eq_true, false_and, and_false, if_false] at e
      subst e
      obtain ⟨⟨x0, x1, x2, x3⟩, hin2⟩ := (D7.box 1).four0
      have f0 := (D7.box 1).free 0
      have f1 := (D7.box 1).free 1
      have f2 := (D7.box 1).free 2
      have f3 := (D7.box 1).free 3
      obtain ⟨⟨y0, y1, y2, y3⟩, hin⟩ := (D7.box 0).four0
      go_wp2_with (first | (go_at_call 77; refine (cO _ D7.inS).mono ?_; rintro e v6 ⟨rfl, rfl⟩) | fail)
      have D9 := (((D7.swap.wrote hne2 0 (.int .u64 0)).wrote hne2 1 (.int .u64 0)).wrote hne2 2 (.slice none 0 0)).wrote hne2 3 (.slice none 0 0)
      change Rd w g s2 [(w.heap.size, 35, rgB 0 0 none 0 0 none 0 0), (b, 35, rgB xa xb A N c B M d)] _ at D9
      generalize World.setCell (World.setCell (World.setCell (World.setCell w7 _ _) _ _) _ _) _ _ = W9 at *
      obtain ⟨⟨v0, v1, v2, v3⟩, -⟩ := (D9.box 0).four0
      exact bodyPost_ret (v := .tuple #[.agg (rgB 0 0 none 0 0 none 0 0), .int .i64 80]) (by simp [results, Tryz.results42, go_sem, v0, v1, v2, v3]) rfl ⟨none, 0, none, 0, rfl, fun _ => rfl, fun _ => rfl, Sh.Row.nil ndS _ _ _, Sh.Row.nil ndS _ _ _, D9.below hgw⟩
    | true =>
      cases b3 with
      | false =>
        have e := HR.out
        simp only [Bool.false_eq_true, false_and, and_false, if_false] at e
        subst e
        obtain ⟨⟨x0, x1, x2, x3⟩, hin2⟩ := (D7.box 1).four0
        have f0 := (D7.box 1).free 0
        have f1 := (D7.box 1).free 1
        have f2 := (D7.box 1).free 2
        have f3 := (D7.box 1).free 3
        obtain ⟨⟨y0, y1, y2, y3⟩, hin⟩ := (D7.box 0).four0
        go_wp2_with (first | (go_at_call 77; refine (cO _ D7.inS).mono ?_; rintro e v6 ⟨rfl, rfl⟩) | fail)
        have D9 := (((D7.swap.wrote hne2 0 (.int .u64 0)).wrote hne2 1 (.int .u64 0)).wrote hne2 2 (.slice none 0 0)).wrote hne2 3 (.slice none 0 0)
        change Rd w g s2 [(w.heap.size, 35, rgB 0 0 none 0 0 none 0 0), (b, 35, rgB xa xb A N c B M d)] _ at D9
        generalize World.setCell (World.setCell (World.setCell (World.setCell w7 _ _) _ _) _ _) _ _ = W9 at *
        obtain ⟨⟨v0, v1, v2, v3⟩, -⟩ := (D9.box 0).four0
        exact bodyPost_ret (v := .tuple #[.agg (rgB 0 0 none 0 0 none 0 0), .int .i64 80]) (by simp [results, Tryz.results42, go_sem, v0, v1, v2, v3]) rfl ⟨none, 0, none, 0, rfl, fun _ => rfl, fun _ => rfl, Sh.Row.nil ndS _ _ _, Sh.Row.nil ndS _ _ _, D9.below hgw⟩
      | true =>
        have e := HR.out
        rw [if_pos ⟨rfl, rfl, rfl⟩] at e
        subst e
        obtain ⟨⟨x0, x1, x2, x3⟩, hin2⟩ := (D7.box 1).four0
        have f0 := (D7.box 1).free 0
        have f1 := (D7.box 1).free 1
        have f2 := (D7.box 1).free 2
        have f3 := (D7.box 1).free 3
        obtain ⟨⟨y0, y1, y2, y3⟩, hin⟩ := (D7.box 0).four0
        go_wp2_with (first | (go_at_call 77; refine (cO _ D7.inS).mono ?_; rintro e v6 ⟨rfl, rfl⟩) | fail)
        have D9 := (((D7.swap.wrote hne2 0 (.int .u64 xa)).wrote hne2 1 (.int .u64 xb)).wrote hne2 2 (.slice A N c)).wrote hne2 3 (.slice B M d)
        change Rd w g s2 [(w.heap.size, 35, rgB xa xb A N c B M d), (b, 35, rgB xa xb A N c B M d)] _ at D9
        have ko := ((((Off.refl (One w.heap.size) w7).set_ (p := ⟨w.heap.size, 0, none⟩) (Or.inl rfl) (.int .u64 xa)).set_ (p := ⟨w.heap.size, 1, none⟩) (Or.inl rfl) (.int .u64 xb)).set_ (p := ⟨w.heap.size, 2, none⟩) (Or.inl rfl) (.slice A N c)).set_ (p := ⟨w.heap.size, 3, none⟩) (Or.inl rfl) (.slice B M d)
        have P9 := own_off P8 ko hr5
        have Q9 := own_off Q8 ko hr6
        generalize World.setCell (World.setCell (World.setCell (World.setCell w7 _ _) _ _) _ _) _ _ = W9 at *
        obtain ⟨⟨v0, v1, v2, v3⟩, -⟩ := (D9.box 0).four0
        obtain ⟨A', c', hv', hA', RA⟩ := Sh.own_row (S := ndS) P9
        obtain ⟨B', d', hu', hB', RB⟩ := Sh.own_row (S := ndS) Q9
        injection hv' with e1 e2 e3
        injection hu' with e4 e5 e6
        refine bodyPost_ret (v := .tuple #[.agg (rgB xa xb A N c B M d), .int .i64 0]) (by simp [results, Tryz.results42, go_sem, v0, v1, v2, v3]) rfl ⟨A, c, B, d, by rw [← hN, ← hM], hA, hBn, by rw [e1]; exact RA, by rw [e4]; exact RB, D9.below hgw⟩
end Go.Proofs.YtmflhodiibjpnaaGreatDoor
/-
  paymasterref13's ReadDiff, walked.
-/
namespace Go.Proofs.YtmflhodiibjpnaaGreatDoor
set_option linter.unusedVariables false
set_option linter.unusedSimpArgs false
set_option maxRecDepth 10000
open Go.RowKit

theorem Box.elevenF {w : World} {g : Nat} {t : TypeId} {a b c d e f h i j k m : Value} (H : Box w g t #[a, b, c, d, e, f, h, i, j, k, m]) :
    w.frozen? ⟨g, 0, none⟩ = false ∧ (w.frozen? ⟨g, 1, none⟩ = false ∧ w.frozen? ⟨g, 2, none⟩ = false ∧ w.frozen? ⟨g, 3, none⟩ = false ∧ w.frozen? ⟨g, 4, none⟩ = false ∧ w.frozen? ⟨g, 5, none⟩ = false) ∧ (w.frozen? ⟨g, 6, none⟩ = false ∧ w.frozen? ⟨g, 7, none⟩ = false ∧ w.frozen? ⟨g, 8, none⟩ = false ∧ w.frozen? ⟨g, 9, none⟩ = false ∧ w.frozen? ⟨g, 10, none⟩ = false) :=
  ⟨H.free 0, ⟨H.free 1, H.free 2, H.free 3, H.free 4, H.free 5⟩, H.free 6, H.free 7, H.free 8, H.free 9, H.free 10⟩
theorem rest_ch (st : StR) : restN (chG st).2 ≤ restN st := Nat.le_trans (rest_lf _) (Nat.le_trans (rest_lf _) (rest_opN 8 st))
/-- What a diff's reading tells: its slices lie in memory of its own. -/
def DfTold (x : DfP) (n : Int) (w : World) (e : Ending) (w' : World) : Prop := ∃ (A : Option Addr) (c : Nat) (B : Option Addr) (d : Nat), e = .returned (.tuple #[.agg (dfB A x.chs.length c B x.fr.length d), .int .i64 n]) ∧ (A = none → c = 0) ∧ (B = none → d = 0) ∧ chS.Row w' w'.heap.size A x.chs ∧ ndS.Row w' w'.heap.size B x.fr ∧ Below w.heap.size w w'
def ChSm (y : ChP) : Prop := (y.old.id.size ≤ 255 ∧ y.old.salt.size ≤ 255 ∧ y.old.words) ∧ (y.new.id.size ≤ 255 ∧ y.new.salt.size ≤ 255 ∧ y.new.words) ∧ Word y.pos
theorem chG_sm (st : StR) : ChSm (chG st).1 := ⟨(chG_ok st).2.1, (chG_ok st).2.2, (chG_ok st).1⟩
theorem dfG_ok (st : StR) : ((dfG st).1.chs.length ≤ 2048 ∧ ∀ y ∈ (dfG st).1.chs, ChSm y) ∧ (dfG st).1.fr.length ≤ 2048 ∧ ∀ y ∈ (dfG st).1.fr, y.hash.size ≤ 32 ∧ y.words := ⟨row_ok (p := ChSm) chG_sm _, row_ok (p := fun y : Nd => y.hash.size ≤ 32 ∧ y.words) ndG_ok _⟩
/-- The rows of changes, read: the loop's beginning. -/
theorem chrow_if (st : StR) : rowG chG st = repG chG (lV (opN 8 st)).toNat (if 2048 < lV (opN 8 st) then none else nxt (opN 8 st)) := rfl
set_option maxRecDepth 20000 in
set_option maxHeartbeats 8000000 in
theorem rreadDiff_any (s : ByteArray) (hs : s.size ≤ 1000000) (w : World) : Calls Tryz.prog 44 #[.string s] w (DfTold (readO dfG dfO DfP.zero s).1 (readO dfG dfO DfP.zero s).2 w) := by
  obtain ⟨s1, h1⟩ : ∃ s1, nxt (opB (some s.data.toList)) = s1 := ⟨_, rfl⟩
  have z0 := rest_opB (some s.data.toList)
  rw [show restN (some s.data.toList) = s.size from osize s, h1] at z0
  have cB := fun u hu => r_byte u (w.heap.size + 1) (some s.data.toList) (by show s.data.toList.length ≤ _; rw [osize]; omega) hu
  rw [h1] at cB
  generalize bV (opB (some s.data.toList)) = b0 at *
  have HH1 := hideIt h1
  obtain ⟨RR, hRR⟩ : ∃ R, readO dfG dfO DfP.zero s = R := ⟨_, rfl⟩
  rw [hRR]
  have HRR := hideIt hRR
  have hdd : ∀ (L : List ChP) (sc : StR) (fr : List Nd) (s2 : StR), rowG chG s1 = (L, sc) → rowG ndG sc = (fr, s2) → dfG s1 = (⟨L, fr⟩, s2) := fun L sc fr s2 k1 k2 => by
    unfold dfG
    rw [k1]
    simp only [k2]
  have HDD := hideIt hdd
  have hch := row_ok (p := ChSm) chG_sm s1
  have hcr := chrow_if s1
  have z1 := rest_opN 8 s1
  have cN := fun u hu => r_num u (w.heap.size + 1) s1 (by omega) hu
  obtain ⟨⟨hn0, -⟩, -⟩ := (⟨lV_word 8 s1, trivial⟩ : Word (lV (opN 8 s1)) ∧ True)
  obtain ⟨n, hn⟩ := Int.eq_ofNat_of_zero_le hn0
  obtain ⟨sa, hsa⟩ : ∃ q, nxt (opN 8 s1) = q := ⟨_, rfl⟩
  rw [hn, hsa] at cN hcr
  rw [hsa] at z1
  rw [Int.toNat_natCast] at hcr
  clear hn hn0 hsa h1 hRR hdd
  have D0 := Rd.open_ w 38 (dfB none 0 0 none 0 0) s
  obtain ⟨g, hg⟩ : ∃ g, w.heap.size + 1 = g := ⟨_, rfl⟩
  rw [hg] at D0 cB cN
  go_enter Tryz.func44, Tryz.ntmps44
  go_upto_region 2 with fail
  change Code.wp _ _ _ _ ((w.alloc (.cells (dfB none 0 0 none 0 0) 38)).alloc (.cells #[.string s, .bool false] 70))
  try rw [hg]
  generalize (w.alloc (.cells (dfB none 0 0 none 0 0) 38)).alloc (.cells #[.string s, .bool false] 70) = W0 at *
  have hgw : w.heap.size ≤ g := by omega
  go_upto_region 4 with (first
    | (go_at_call 76; refine (cB _ D0.inS).mono ?_; rintro e w1 ⟨rfl, t1, k1⟩; have D1 := D0.read t1 k1)
    | fail)
  have D3 := D1.add 38 (dfB none 0 0 none 0 0)
  change Code.wp _ _ _ _ (w1.alloc (.cells (dfB none 0 0 none 0 0) 38))
  have hlt : w.heap.size < w1.heap.size := (D1.box 0).inside
  obtain ⟨b, hb⟩ : ∃ b, w1.heap.size = b := ⟨_, rfl⟩
  rw [hb] at D3 hlt ⊢
  have hgb : g < b := by rw [← hb]; exact t1.inside
  generalize w1.alloc (.cells (dfB none 0 0 none 0 0) 38) = W3 at *
  clear D0 D1 t1 k1 hb cB
  have hne : ∀ x ∈ [((w.heap.size, 38, dfB none 0 0 none 0 0) : Blk)], x.1 ≠ b := fun x hx => by simp at hx; subst hx; exact Nat.ne_of_lt hlt
  have hne2 : ∀ {cs : Array Value}, ∀ x ∈ [((b, 38, cs) : Blk)], x.1 ≠ w.heap.size := fun x hx => by simp at hx; subst hx; exact (Nat.ne_of_lt hlt).symm
  have hb3 := (D3.box 0).inside
  obtain ⟨B5, hB5⟩ : ∃ B, W3.heap.size = B := ⟨_, rfl⟩
  rw [hB5] at hb3
  have hbB : b < B5 := hb3
  have hgB : g < B5 := by omega
  have hrB : w.heap.size < B5 := by omega
  by_cases hm : 2048 < n
  · have hmi : (2048 : Int) < (n : Int) := by omega
    rw [if_pos hmi, repG_none] at hcr
    have HQL := hideIt hcr
    have cS := fun u (hu : RInS u g sa) => r_spoil u g _ _ hu
    rw [hcr] at hch
    have hchs := hch
    simp only at hchs
    go_upto_region 8 with (first
      | (go_at_call 73; refine (cN _ D3.inS).mono ?_; rintro e w4 ⟨rfl, t4, k4⟩; have D4 := D3.read t4 k4)
      | (go_at_call 74; refine (cS _ t4).mono ?_; rintro e w5 ⟨rfl, t5, k5⟩; have D5a := D4.read t5 k5)
      | fail)
    clear cN cS hch hcr
    go_loopg [7] 0 (fun gk i wr => i = .int .u64 0 ∧ wr = w5)
    case atStart => exact ⟨rfl, rfl⟩
    case round =>
      obtain ⟨rfl, hww⟩ := hrel
      rw [← hww] at D5a
      have D5 := D5a
      obtain ⟨q0, q1, hin⟩ := D5.inS.parts
      have hmi2 : (0 : Int) < (n : Int) := by omega
      simp only [Option.isNone_none] at q1
      have O7 : wr.ownsRow B5 103 11 (.slice none 0 0) ([] : List ChP).length (chS.flat []) := World.ownsRow_nil _ _ _ _
      have hA : (none : Option Addr) = none → 0 = 0 := fun _ => rfl
      have hz3 : restN (none : StR) ≤ 4611686018427387903 := by show 0 ≤ _; omega
      clear D3 D4 t4 k4 D5a hww
      have cR := fun u hu => rgetNodes_any u g (none : StR) hz3 hu
      obtain ⟨⟨fr, s2⟩, hr⟩ : ∃ V, rowG ndG (none : StR) = V := ⟨_, rfl⟩
      have hf := row_ok (p := fun y : Nd => y.hash.size ≤ 32 ∧ y.words) ndG_ok (none : StR)
      rw [hr] at cR hf
      simp only at cR hf
      have hd := HDD.out ([] : List ChP) (none : StR) fr s2 HQL.out hr
      have cT := fun (B : Option Addr) (d : Nat) u hu hv => rdiff_any ⟨([] : List ChP), fr⟩ (none : Option Addr) B 0 d (by have := hchs.1; simp only; omega) (fun y hy => by
        obtain ⟨⟨m1, m2, m3⟩, ⟨m4, m5, m6⟩, m7⟩ := hchs.2 y hy
        exact ⟨⟨by omega, by omega, m3⟩, ⟨by omega, by omega, m6⟩, m7⟩) (by have := hf.1; simp only; omega) (fun y hy => by have := (hf.2 y hy).1; omega) (fun y hy => (hf.2 y hy).2) u hu hv
      obtain ⟨⟨T, n⟩, ht⟩ : ∃ V, dfO ⟨([] : List ChP), fr⟩ = V := ⟨_, rfl⟩
      rw [ht] at cT
      simp only at cT
      have cO := fun u hu => r_done u g s2 hu
      have hrd := read_if (z := DfP.zero) HH1.out hd ht
      rw [HRR.out] at hrd
      generalize decide (s2 = some []) = b1 at *
      obtain ⟨b2, hb2⟩ : ∃ b2, (n == 0) = b2 := ⟨_, rfl⟩
      obtain ⟨b3, hb3⟩ : ∃ b3, (T.toList == s.toList) = b3 := ⟨_, rfl⟩
      rw [hb2, hb3] at hrd
      have HR := hideIt hrd
      have hb2n : (n != 0) = !b2 := by rw [bne, hb2]
      have hb3n : (T.toList != s.toList) = !b3 := by rw [bne, hb3]
      clear hrd hd ht hr hf hz3
      go_upto_region 15 with (first | (go_at_call 81; refine (cR _ D5.inS).mono ?_; rintro e w8 ⟨v8, rfl, O8, t8, k8⟩; have D8 := D5.read t8 k8; obtain ⟨y0, y1, e0, e3, hin⟩ := (D8.box 0).two; obtain ⟨B, d, hv, hBn, R8⟩ := Sh.own_row (S := ndS) O8; subst hv) | fail)
      have hb6 := (D5.box 0).inside
      have hk3 : Off (One b) w8 (w8.setCell ⟨b, 1, none⟩ (.slice B fr.length d)) := (Off.refl (One b) w8).set_ (p := ⟨b, 1, none⟩) (Or.inl rfl) _
      have D9' := D8.wrote hne 1 (.slice B fr.length d)
      change Rd w g s2 [(b, 38, dfB (none : Option Addr) (([] : List ChP)).length 0 B fr.length d), (w.heap.size, 38, dfB none 0 0 none 0 0)] _ at D9'
      have P7 := own_off (own_off O7 k8 hgB) hk3 hbB
      have Q7 := own_off O8 hk3 hb6
      obtain ⟨B6, hB6⟩ : ∃ B, wr.heap.size = B := ⟨_, rfl⟩
      rw [hB6] at Q7 hb6
      have hr6 : w.heap.size < B6 := by omega
      generalize World.setCell w8 _ _ = W8 at *
      have RA : chS.Row W8 W8.heap.size (none : Option Addr) ([] : List ChP) := by
        obtain ⟨A', c', hv', -, R⟩ := Sh.own_row (S := chS) P7
        injection hv' with e1 e2 e3
        rw [e1]
        exact R
      have RB : ndS.Row W8 W8.heap.size B fr := by
        obtain ⟨A', c', hv', -, R⟩ := Sh.own_row (S := ndS) Q7
        injection hv' with e1 e2 e3
        rw [e1]
        exact R
      clear D5 D8 t8 k8 cR O7 O8 R8 hk3 y0 y1 e0 e3 hin hb6
      have cT1 := cT B d W8 RA RB
      obtain ⟨N, hN⟩ : ∃ N, (([] : List ChP)).length = N := ⟨_, rfl⟩
      obtain ⟨M, hM⟩ : ∃ M, fr.length = M := ⟨_, rfl⟩
      simp only [hN, hM] at cT1 D9'
      obtain ⟨y0, y1, -, -, hin⟩ := (D9'.box 0).two
      try rw [hM]
      go_upto_region 16 with (first | (go_at_call 22; refine cT1.mono ?_; rintro e w7 ⟨rfl, j7⟩) | fail)
      have D7 := D9'.call j7
      have P8 := own_below P7 j7
      have Q8 := own_below Q7 j7
      clear D9' j7 cT cT1 P7 Q7 y0 y1 hin RA RB
      cases b1 with
      | false =>
        have e := HR.out
        simp only [Bool.false_eq_true, false_and, and_false, if_false] at e
        subst e
        obtain ⟨x0, x1, f0, f1, hin2⟩ := (D7.box 1).two
        obtain ⟨y0, y1, -, -, hin⟩ := (D7.box 0).two
        go_wp2_with (first | (go_at_call 77; refine (cO _ D7.inS).mono ?_; rintro e v6 ⟨rfl, rfl⟩) | fail)
        have D9 := (D7.swap.wrote hne2 0 (.slice none 0 0)).wrote hne2 1 (.slice none 0 0)
        change Rd w g s2 [(w.heap.size, 38, dfB none 0 0 none 0 0), (b, 38, dfB none N 0 B M d)] _ at D9
        generalize World.setCell (World.setCell w7 _ _) _ _ = W9 at *
        obtain ⟨v0, v1, -, -, -⟩ := (D9.box 0).two
        exact bodyPost_ret (v := .tuple #[.agg (dfB none 0 0 none 0 0), .int .i64 80]) (by simp [results, Tryz.results44, go_sem, v0, v1]) rfl ⟨none, 0, none, 0, rfl, fun _ => rfl, fun _ => rfl, Sh.Row.nil chS _ _ _, Sh.Row.nil ndS _ _ _, D9.below hgw⟩
      | true =>
        cases b2 with
        | false =>
          have e := HR.out
          simp only [Bool.false_eq_true, false_and, and_false, if_false] at e
          subst e
          obtain ⟨x0, x1, f0, f1, hin2⟩ := (D7.box 1).two
          obtain ⟨y0, y1, -, -, hin⟩ := (D7.box 0).two
          go_wp2_with (first | (go_at_call 77; refine (cO _ D7.inS).mono ?_; rintro e v6 ⟨rfl, rfl⟩) | fail)
          have D9 := (D7.swap.wrote hne2 0 (.slice none 0 0)).wrote hne2 1 (.slice none 0 0)
          change Rd w g s2 [(w.heap.size, 38, dfB none 0 0 none 0 0), (b, 38, dfB none N 0 B M d)] _ at D9
          generalize World.setCell (World.setCell w7 _ _) _ _ = W9 at *
          obtain ⟨v0, v1, -, -, -⟩ := (D9.box 0).two
          exact bodyPost_ret (v := .tuple #[.agg (dfB none 0 0 none 0 0), .int .i64 80]) (by simp [results, Tryz.results44, go_sem, v0, v1]) rfl ⟨none, 0, none, 0, rfl, fun _ => rfl, fun _ => rfl, Sh.Row.nil chS _ _ _, Sh.Row.nil ndS _ _ _, D9.below hgw⟩
        | true =>
          cases b3 with
          | false =>
            have e := HR.out
            simp only [Bool.false_eq_true, false_and, and_false, if_false] at e
            subst e
            obtain ⟨x0, x1, f0, f1, hin2⟩ := (D7.box 1).two
            obtain ⟨y0, y1, -, -, hin⟩ := (D7.box 0).two
            go_wp2_with (first | (go_at_call 77; refine (cO _ D7.inS).mono ?_; rintro e v6 ⟨rfl, rfl⟩) | fail)
            have D9 := (D7.swap.wrote hne2 0 (.slice none 0 0)).wrote hne2 1 (.slice none 0 0)
            change Rd w g s2 [(w.heap.size, 38, dfB none 0 0 none 0 0), (b, 38, dfB none N 0 B M d)] _ at D9
            generalize World.setCell (World.setCell w7 _ _) _ _ = W9 at *
            obtain ⟨v0, v1, -, -, -⟩ := (D9.box 0).two
            exact bodyPost_ret (v := .tuple #[.agg (dfB none 0 0 none 0 0), .int .i64 80]) (by simp [results, Tryz.results44, go_sem, v0, v1]) rfl ⟨none, 0, none, 0, rfl, fun _ => rfl, fun _ => rfl, Sh.Row.nil chS _ _ _, Sh.Row.nil ndS _ _ _, D9.below hgw⟩
          | true =>
            have e := HR.out
            rw [if_pos ⟨rfl, rfl, rfl⟩] at e
            subst e
            obtain ⟨x0, x1, f0, f1, hin2⟩ := (D7.box 1).two
            obtain ⟨y0, y1, -, -, hin⟩ := (D7.box 0).two
            go_wp2_with (first | (go_at_call 77; refine (cO _ D7.inS).mono ?_; rintro e v6 ⟨rfl, rfl⟩) | fail)
            have D9 := (D7.swap.wrote hne2 0 (.slice none N 0)).wrote hne2 1 (.slice B M d)
            change Rd w g s2 [(w.heap.size, 38, dfB none N 0 B M d), (b, 38, dfB none N 0 B M d)] _ at D9
            have ko := ((Off.refl (One w.heap.size) w7).set_ (p := ⟨w.heap.size, 0, none⟩) (Or.inl rfl) (.slice none N 0)).set_ (p := ⟨w.heap.size, 1, none⟩) (Or.inl rfl) (.slice B M d)
            have P9 := own_off P8 ko hrB
            have Q9 := own_off Q8 ko hr6
            generalize World.setCell (World.setCell w7 _ _) _ _ = W9 at *
            obtain ⟨v0, v1, -, -, -⟩ := (D9.box 0).two
            obtain ⟨A', c', hv', hA', RA⟩ := Sh.own_row (S := chS) P9
            obtain ⟨B', d', hu', hB', RB⟩ := Sh.own_row (S := ndS) Q9
            injection hv' with e1 e2 e3
            injection hu' with e4 e5 e6
            refine bodyPost_ret (v := .tuple #[.agg (dfB none N 0 B M d), .int .i64 0]) (by simp [results, Tryz.results44, go_sem, v0, v1]) rfl ⟨none, 0, B, d, by simp only [hN, hM], (by first | exact hA | (intro _; rfl)), hBn, by rw [e1]; exact RA, by rw [e4]; exact RB, D9.below hgw⟩
  · have hmi : ¬ ((2048 : Int) < (n : Int)) := by omega
    rw [if_neg hmi] at hcr
    have HR0 : Hid (rowG chG s1 = ([] ++ (repG chG (n - 0) sa).1, (repG chG (n - 0) sa).2)) := by
      show rowG chG s1 = _
      rw [hcr, Nat.sub_zero, List.nil_append]
    have HCH := hideIt hch
    go_upto_region 8 with (first
      | (go_at_call 73; refine (cN _ D3.inS).mono ?_; rintro e w4 ⟨rfl, t4, k4⟩; have D4 := D3.read t4 k4)
      | fail)
    have hs4 : B5 ≤ w4.heap.size := by rw [← hB5]; exact k4.size
    clear cN hcr hch D3 t4 k4 hB5 hb3
    go_loopg [7] n (fun gk i wr => ∃ (k : Nat) (L : List ChP) (sx : StR) (A : Option Addr) (c : Nat), k ≤ n ∧ n - k ≤ gk ∧ i = .int .u64 k ∧ L.length = k ∧ restN sx ≤ 4611686018427387903 ∧ (A = none → c = 0) ∧ B5 ≤ wr.heap.size ∧ Rd w g sx [(b, 38, dfB A k c none 0 0), (w.heap.size, 38, dfB none 0 0 none 0 0)] wr ∧ wr.ownsRow B5 103 11 (.slice A k c) k (chS.flat L) ∧
      Hid (rowG chG s1 = (L ++ (repG chG (n - k) sx).1, (repG chG (n - k) sx).2)))
    case atStart => exact ⟨0, [], sa, none, 0, Nat.zero_le _, by omega, rfl, rfl, by omega, fun _ => rfl, hs4, D4, World.ownsRow_nil _ _ _ _, HR0⟩
    case round =>
      clear D4 hs4 HR0
      obtain ⟨k, L, sx, A, c, hk, hgk, rfl, hL, hz2, hA, hsz, D, O, HQ⟩ := hrel
      have HG := hideIt hgk
      have HLn := hideIt hL
      clear hgk hL
      obtain ⟨q0, q1, hin⟩ := D.inS.parts
      obtain ⟨cont, hcont⟩ : ∃ b, (decide (k < n) && !sx.isNone) = b := ⟨_, rfl⟩
      go_upto_region 8 with fail
      go_cut [7, 32] from 23 to 49 (fun s7 s32 wx => s7 = .int .u64 k ∧ s32 = .bool cont ∧ wx = wr)
      case first =>
        by_cases hlt2 : k < n
        · have hlti : (k : Int) < (n : Int) := by omega
          rw [decide_eq_true hlt2, Bool.true_and] at hcont
          cases sx with
          | none =>
            simp only [Option.isNone_none, Bool.not_true] at q1 hcont
            subst hcont
            go_wp2_with fail
            go_meet
            exact ⟨rfl, rfl, rfl⟩
          | some l =>
            simp only [Option.isNone_some, Bool.not_false] at q1 hcont
            subst hcont
            go_wp2_with fail
            go_meet
            exact ⟨rfl, rfl, rfl⟩
        · have hlti : ¬ ((k : Int) < (n : Int)) := by omega
          rw [decide_eq_false hlt2, Bool.false_and] at hcont
          subst hcont
          go_wp2_with fail
          go_meet
          exact ⟨rfl, rfl, rfl⟩
      case rest =>
        obtain ⟨rfl, rfl, hwc⟩ := hcut
        subst hwc
        cases cont with
        | false =>
          have hql : rowG chG s1 = (L, sx) := by
            rw [HQ.out]
            by_cases hlt2 : k < n
            · rw [decide_eq_true hlt2, Bool.true_and] at hcont
              cases sx with
              | none => rw [repG_none, List.append_nil]
              | some l => simp at hcont
            · rw [show n - k = 0 by omega, repG, List.append_nil]
          have HQL := hideIt hql
          have hchs := HCH.out
          rw [hql] at hchs
          simp only at hchs
          have D5 := D
          have O7 : wc.ownsRow B5 103 11 (.slice A L.length c) L.length (chS.flat L) := by rw [HLn.out]; exact O
          have e0 := HLn.out
          subst e0
          have hz3 := hz2
          clear hql hcont HQ D O q0 q1 hin HLn hz2
          generalize wc = wr at *
          have cR := fun u hu => rgetNodes_any u g sx hz3 hu
          obtain ⟨⟨fr, s2⟩, hr⟩ : ∃ V, rowG ndG sx = V := ⟨_, rfl⟩
          have hf := row_ok (p := fun y : Nd => y.hash.size ≤ 32 ∧ y.words) ndG_ok sx
          rw [hr] at cR hf
          simp only at cR hf
          have hd := HDD.out L sx fr s2 HQL.out hr
          have cT := fun (B : Option Addr) (d : Nat) u hu hv => rdiff_any ⟨L, fr⟩ A B c d (by have := hchs.1; simp only; omega) (fun y hy => by
            obtain ⟨⟨m1, m2, m3⟩, ⟨m4, m5, m6⟩, m7⟩ := hchs.2 y hy
            exact ⟨⟨by omega, by omega, m3⟩, ⟨by omega, by omega, m6⟩, m7⟩) (by have := hf.1; simp only; omega) (fun y hy => by have := (hf.2 y hy).1; omega) (fun y hy => (hf.2 y hy).2) u hu hv
          obtain ⟨⟨T, n⟩, ht⟩ : ∃ V, dfO ⟨L, fr⟩ = V := ⟨_, rfl⟩
          rw [ht] at cT
          simp only at cT
          have cO := fun u hu => r_done u g s2 hu
          have hrd := read_if (z := DfP.zero) HH1.out hd ht
          rw [HRR.out] at hrd
          generalize decide (s2 = some []) = b1 at *
          obtain ⟨b2, hb2⟩ : ∃ b2, (n == 0) = b2 := ⟨_, rfl⟩
          obtain ⟨b3, hb3⟩ : ∃ b3, (T.toList == s.toList) = b3 := ⟨_, rfl⟩
          rw [hb2, hb3] at hrd
          have HR := hideIt hrd
          have hb2n : (n != 0) = !b2 := by rw [bne, hb2]
          have hb3n : (T.toList != s.toList) = !b3 := by rw [bne, hb3]
          clear hrd hd ht hr hf hz3
          go_upto_region 15 with (first | (go_at_call 81; refine (cR _ D5.inS).mono ?_; rintro e w8 ⟨v8, rfl, O8, t8, k8⟩; have D8 := D5.read t8 k8; obtain ⟨y0, y1, e0, e3, hin⟩ := (D8.box 0).two; obtain ⟨B, d, hv, hBn, R8⟩ := Sh.own_row (S := ndS) O8; subst hv) | fail)
          have hb6 := (D5.box 0).inside
          have hk3 : Off (One b) w8 (w8.setCell ⟨b, 1, none⟩ (.slice B fr.length d)) := (Off.refl (One b) w8).set_ (p := ⟨b, 1, none⟩) (Or.inl rfl) _
          have D9' := D8.wrote hne 1 (.slice B fr.length d)
          change Rd w g s2 [(b, 38, dfB A (L).length c B fr.length d), (w.heap.size, 38, dfB none 0 0 none 0 0)] _ at D9'
          have P7 := own_off (own_off O7 k8 hgB) hk3 hbB
          have Q7 := own_off O8 hk3 hb6
          obtain ⟨B6, hB6⟩ : ∃ B, wr.heap.size = B := ⟨_, rfl⟩
          rw [hB6] at Q7 hb6
          have hr6 : w.heap.size < B6 := by omega
          generalize World.setCell w8 _ _ = W8 at *
          have RA : chS.Row W8 W8.heap.size A L := by
            obtain ⟨A', c', hv', -, R⟩ := Sh.own_row (S := chS) P7
            injection hv' with e1 e2 e3
            rw [e1]
            exact R
          have RB : ndS.Row W8 W8.heap.size B fr := by
            obtain ⟨A', c', hv', -, R⟩ := Sh.own_row (S := ndS) Q7
            injection hv' with e1 e2 e3
            rw [e1]
            exact R
          clear D5 D8 t8 k8 cR O7 O8 R8 hk3 y0 y1 e0 e3 hin hb6
          have cT1 := cT B d W8 RA RB
          obtain ⟨N, hN⟩ : ∃ N, (L).length = N := ⟨_, rfl⟩
          obtain ⟨M, hM⟩ : ∃ M, fr.length = M := ⟨_, rfl⟩
          simp only [hN, hM] at cT1 D9'
          obtain ⟨y0, y1, -, -, hin⟩ := (D9'.box 0).two
          try rw [hM]
          go_upto_region 16 with (first | (go_at_call 22; refine cT1.mono ?_; rintro e w7 ⟨rfl, j7⟩) | fail)
          have D7 := D9'.call j7
          have P8 := own_below P7 j7
          have Q8 := own_below Q7 j7
          clear D9' j7 cT cT1 P7 Q7 y0 y1 hin RA RB
          cases b1 with
          | false =>
            have e := HR.out
            simp only [Bool.false_eq_true, false_and, and_false, if_false] at e
            subst e
            obtain ⟨x0, x1, f0, f1, hin2⟩ := (D7.box 1).two
            obtain ⟨y0, y1, -, -, hin⟩ := (D7.box 0).two
            go_wp2_with (first | (go_at_call 77; refine (cO _ D7.inS).mono ?_; rintro e v6 ⟨rfl, rfl⟩) | fail)
            have D9 := (D7.swap.wrote hne2 0 (.slice none 0 0)).wrote hne2 1 (.slice none 0 0)
            change Rd w g s2 [(w.heap.size, 38, dfB none 0 0 none 0 0), (b, 38, dfB A N c B M d)] _ at D9
            generalize World.setCell (World.setCell w7 _ _) _ _ = W9 at *
            obtain ⟨v0, v1, -, -, -⟩ := (D9.box 0).two
            exact bodyPost_ret (v := .tuple #[.agg (dfB none 0 0 none 0 0), .int .i64 80]) (by simp [results, Tryz.results44, go_sem, v0, v1]) rfl ⟨none, 0, none, 0, rfl, fun _ => rfl, fun _ => rfl, Sh.Row.nil chS _ _ _, Sh.Row.nil ndS _ _ _, D9.below hgw⟩
          | true =>
            cases b2 with
            | false =>
              have e := HR.out
              simp only [Bool.false_eq_true, false_and, and_false, if_false] at e
              subst e
              obtain ⟨x0, x1, f0, f1, hin2⟩ := (D7.box 1).two
              obtain ⟨y0, y1, -, -, hin⟩ := (D7.box 0).two
              go_wp2_with (first | (go_at_call 77; refine (cO _ D7.inS).mono ?_; rintro e v6 ⟨rfl, rfl⟩) | fail)
              have D9 := (D7.swap.wrote hne2 0 (.slice none 0 0)).wrote hne2 1 (.slice none 0 0)
              change Rd w g s2 [(w.heap.size, 38, dfB none 0 0 none 0 0), (b, 38, dfB A N c B M d)] _ at D9
              generalize World.setCell (World.setCell w7 _ _) _ _ = W9 at *
              obtain ⟨v0, v1, -, -, -⟩ := (D9.box 0).two
              exact bodyPost_ret (v := .tuple #[.agg (dfB none 0 0 none 0 0), .int .i64 80]) (by simp [results, Tryz.results44, go_sem, v0, v1]) rfl ⟨none, 0, none, 0, rfl, fun _ => rfl, fun _ => rfl, Sh.Row.nil chS _ _ _, Sh.Row.nil ndS _ _ _, D9.below hgw⟩
            | true =>
              cases b3 with
              | false =>
                have e := HR.out
                simp only [Bool.false_eq_true, false_and, and_false, if_false] at e
                subst e
                obtain ⟨x0, x1, f0, f1, hin2⟩ := (D7.box 1).two
                obtain ⟨y0, y1, -, -, hin⟩ := (D7.box 0).two
                go_wp2_with (first | (go_at_call 77; refine (cO _ D7.inS).mono ?_; rintro e v6 ⟨rfl, rfl⟩) | fail)
                have D9 := (D7.swap.wrote hne2 0 (.slice none 0 0)).wrote hne2 1 (.slice none 0 0)
                change Rd w g s2 [(w.heap.size, 38, dfB none 0 0 none 0 0), (b, 38, dfB A N c B M d)] _ at D9
                generalize World.setCell (World.setCell w7 _ _) _ _ = W9 at *
                obtain ⟨v0, v1, -, -, -⟩ := (D9.box 0).two
                exact bodyPost_ret (v := .tuple #[.agg (dfB none 0 0 none 0 0), .int .i64 80]) (by simp [results, Tryz.results44, go_sem, v0, v1]) rfl ⟨none, 0, none, 0, rfl, fun _ => rfl, fun _ => rfl, Sh.Row.nil chS _ _ _, Sh.Row.nil ndS _ _ _, D9.below hgw⟩
              | true =>
                have e := HR.out
                rw [if_pos ⟨rfl, rfl, rfl⟩] at e
                subst e
                obtain ⟨x0, x1, f0, f1, hin2⟩ := (D7.box 1).two
                obtain ⟨y0, y1, -, -, hin⟩ := (D7.box 0).two
                go_wp2_with (first | (go_at_call 77; refine (cO _ D7.inS).mono ?_; rintro e v6 ⟨rfl, rfl⟩) | fail)
                have D9 := (D7.swap.wrote hne2 0 (.slice A N c)).wrote hne2 1 (.slice B M d)
                change Rd w g s2 [(w.heap.size, 38, dfB A N c B M d), (b, 38, dfB A N c B M d)] _ at D9
                have ko := ((Off.refl (One w.heap.size) w7).set_ (p := ⟨w.heap.size, 0, none⟩) (Or.inl rfl) (.slice A N c)).set_ (p := ⟨w.heap.size, 1, none⟩) (Or.inl rfl) (.slice B M d)
                have P9 := own_off P8 ko hrB
                have Q9 := own_off Q8 ko hr6
                generalize World.setCell (World.setCell w7 _ _) _ _ = W9 at *
                obtain ⟨v0, v1, -, -, -⟩ := (D9.box 0).two
                obtain ⟨A', c', hv', hA', RA⟩ := Sh.own_row (S := chS) P9
                obtain ⟨B', d', hu', hB', RB⟩ := Sh.own_row (S := ndS) Q9
                injection hv' with e1 e2 e3
                injection hu' with e4 e5 e6
                refine bodyPost_ret (v := .tuple #[.agg (dfB A N c B M d), .int .i64 0]) (by simp [results, Tryz.results44, go_sem, v0, v1]) rfl ⟨A, c, B, d, by simp only [hN, hM], (by first | exact hA | (intro _; rfl)), hBn, by rw [e1]; exact RA, by rw [e4]; exact RB, D9.below hgw⟩
        | true =>
          obtain ⟨hlt2, l, rfl⟩ : k < n ∧ ∃ l, sx = some l := by
            rw [Bool.and_eq_true, decide_eq_true_eq] at hcont
            refine ⟨hcont.1, ?_⟩
            cases sx with
            | none => simp at hcont
            | some l => exact ⟨l, rfl⟩
          have hw1 : IntKind.u64.wrap ((k : Int) + 1) = ((k + 1 : Nat) : Int) := by rw [IntKind.wrap_u64]; omega
          have y1 := rest_opN 8 (some l)
          have hd : chG (some l) = (⟨lV (opN 8 (some l)), (lfG (nxt (opN 8 (some l)))).1, (lfG (lfG (nxt (opN 8 (some l)))).2).1⟩, (lfG (lfG (nxt (opN 8 (some l)))).2).2) := rfl
          have cP := fun u hu => r_num u g (some l) hz2 hu
          obtain ⟨xq, hxq⟩ : ∃ q, lV (opN 8 (some l)) = q := ⟨_, rfl⟩
          obtain ⟨t1, ht1⟩ : ∃ q, nxt (opN 8 (some l)) = q := ⟨_, rfl⟩
          rw [hxq, ht1] at hd cP
          rw [ht1] at y1
          have y2 := rest_lf t1
          have cE := fun u hu => rgetLeaf_any u g t1 (by omega) hu
          obtain ⟨⟨⟨p, i, ss, h, ll⟩, t2⟩, hl1⟩ : ∃ V, lfG t1 = V := ⟨_, rfl⟩
          rw [hl1] at hd cE y2
          simp only [Lf.val] at hd cE y2
          have y3 := rest_lf t2
          have cF := fun u hu => rgetLeaf_any u g t2 (by omega) hu
          obtain ⟨⟨⟨p', i', s', h', l'⟩, t3⟩, hl2⟩ : ∃ V, lfG t2 = V := ⟨_, rfl⟩
          rw [hl2] at hd cF y3
          simp only [Lf.val] at hd cF y3
          obtain ⟨m, hm2⟩ : ∃ m, n - k = m + 1 := ⟨n - k - 1, by omega⟩
          have e := HQ.out
          rw [hm2, repG, hd] at e
          have e2 : rowG chG s1 = ((L ++ [⟨xq, ⟨p, i, ss, h, ll⟩, ⟨p', i', s', h', l'⟩⟩]) ++ (repG chG (n - (k + 1)) t3).1, (repG chG (n - (k + 1)) t3).2) := by
            rw [e, show n - (k + 1) = m by omega]
            simp
          have HE := hideIt e2
          have hz5 : restN t3 ≤ 4611686018427387903 := by omega
          clear e e2 hd hxq ht1 hl1 hl2 y1 y2 y3 HQ hcont q0 q1 hin hm2 hz2
          go_upto_region 11 with (first | (go_at_call 73; refine (cP _ D.inS).mono ?_; rintro e w5 ⟨rfl, m5, k5⟩) | fail)
          have O5 := own_off O k5 hgB
          have hs5 : B5 ≤ w5.heap.size := Nat.le_trans hsz k5.size
          have E5 := (D.read m5 k5).add 103 (chA xq false ⟨#[]⟩ ⟨#[]⟩ 0 0 false ⟨#[]⟩ ⟨#[]⟩ 0 0)
          have K5 := (Off.refl (One g) w5).past (.cells (chA xq false ⟨#[]⟩ ⟨#[]⟩ 0 0 false ⟨#[]⟩ ⟨#[]⟩ 0 0) 103)
          change Code.wp _ _ _ _ (w5.alloc (.cells (chA xq false ⟨#[]⟩ ⟨#[]⟩ 0 0 false ⟨#[]⟩ ⟨#[]⟩ 0 0) 103))
          obtain ⟨cb, hcb⟩ : ∃ q, w5.heap.size = q := ⟨_, rfl⟩
          rw [hcb] at E5 ⊢
          have hcb1 : w5.heap.size ≤ cb := by omega
          have hnc : ∀ x ∈ [((b, 38, dfB A k c none 0 0) : Blk), (w.heap.size, 38, dfB none 0 0 none 0 0)], x.1 ≠ cb := fun x hx => by
            simp only [List.mem_cons, List.not_mem_nil, or_false] at hx
            rcases hx with rfl | rfl
            · show b ≠ cb; omega
            · show w.heap.size ≠ cb; omega
          generalize w5.alloc (.cells (chA xq false ⟨#[]⟩ ⟨#[]⟩ 0 0 false ⟨#[]⟩ ⟨#[]⟩ 0 0) 103) = W5 at *
          clear D O m5 k5 cP
          go_upto_region 12 with (first | (go_at_call 79; (with_reducible refine (cE _ E5.inS).mono ?_); rintro e w6 ⟨rfl, m6, k6⟩; have E6 := E5.read m6 k6; obtain ⟨f0, ⟨f1, f2, f3, f4, f5⟩, f6, f7, f8, f9, f10⟩ := (E6.box 0).elevenF; obtain ⟨g0, ⟨g1, g2, g3, g4, g5⟩, g6, g7, g8, g9, g10⟩ := (E6.box 0).eleven; have hin6 := (E6.box 0).inside) | fail)
          have E7 := ((((E6.wrote hnc 1 (.bool p)).wrote hnc 2 (.string i)).wrote hnc 3 (.string ss)).wrote hnc 4 (.int .u64 h)).wrote hnc 5 (.int .u64 ll)
          change Rd w g t2 [(cb, 103, chA xq p i ss h ll false ⟨#[]⟩ ⟨#[]⟩ 0 0), (b, 38, dfB A k c none 0 0), (w.heap.size, 38, dfB none 0 0 none 0 0)] _ at E7
          have K7 := (((((K5.trans k6).set_ (p := ⟨cb, 1, none⟩) (Or.inr hcb1) (.bool p)).set_ (p := ⟨cb, 2, none⟩) (Or.inr hcb1) (.string i)).set_ (p := ⟨cb, 3, none⟩) (Or.inr hcb1) (.string ss)).set_ (p := ⟨cb, 4, none⟩) (Or.inr hcb1) (.int .u64 h)).set_ (p := ⟨cb, 5, none⟩) (Or.inr hcb1) (.int .u64 ll)
          generalize World.setCell (World.setCell (World.setCell (World.setCell (World.setCell w6 _ _) _ _) _ _) _ _) _ _ = W7 at *
          clear E5 E6 K5 m6 k6 cE f0 f1 f2 f3 f4 f5 f6 f7 f8 f9 f10 g0 g1 g2 g3 g4 g5 g6 g7 g8 g9 g10 hin6
          go_upto_region 13 with (first | (go_at_call 79; (with_reducible refine (cF _ E7.inS).mono ?_); rintro e w8 ⟨rfl, m8, k8⟩; have E8 := E7.read m8 k8; obtain ⟨f0, ⟨f1, f2, f3, f4, f5⟩, f6, f7, f8, f9, f10⟩ := (E8.box 0).elevenF; obtain ⟨g0, ⟨g1, g2, g3, g4, g5⟩, g6, g7, g8, g9, g10⟩ := (E8.box 0).eleven; have hin6 := (E8.box 0).inside) | fail)
          have E9 := ((((E8.wrote hnc 6 (.bool p')).wrote hnc 7 (.string i')).wrote hnc 8 (.string s')).wrote hnc 9 (.int .u64 h')).wrote hnc 10 (.int .u64 l')
          change Rd w g t3 [(cb, 103, chA xq p i ss h ll p' i' s' h' l'), (b, 38, dfB A k c none 0 0), (w.heap.size, 38, dfB none 0 0 none 0 0)] _ at E9
          have K9 := (((((K7.trans k8).set_ (p := ⟨cb, 6, none⟩) (Or.inr hcb1) (.bool p')).set_ (p := ⟨cb, 7, none⟩) (Or.inr hcb1) (.string i')).set_ (p := ⟨cb, 8, none⟩) (Or.inr hcb1) (.string s')).set_ (p := ⟨cb, 9, none⟩) (Or.inr hcb1) (.int .u64 h')).set_ (p := ⟨cb, 10, none⟩) (Or.inr hcb1) (.int .u64 l')
          generalize World.setCell (World.setCell (World.setCell (World.setCell (World.setCell w8 _ _) _ _) _ _) _ _) _ _ = W9 at *
          clear E7 E8 K7 m8 k8 cF f0 f1 f2 f3 f4 f5 f6 f7 f8 f9 f10 g0 g1 g2 g3 g4 g5 g6 g7 g8 g9 g10 hin6
          have O9 := own_off O5 K9 hgB
          have hs9 : B5 ≤ W9.heap.size := Nat.le_trans hs5 K9.size
          obtain ⟨v', W', hrn, O', L'⟩ := ch_app1 W9 B5 (.slice A k c) k L O9 ⟨xq, ⟨p, i, ss, h, ll⟩, ⟨p', i', s', h', l'⟩⟩ (by omega) hs9
          have hlen : (L ++ [(⟨xq, ⟨p, i, ss, h, ll⟩, ⟨p', i', s', h', l'⟩⟩ : ChP)]).length = k + 1 := by rw [List.length_append, HLn.out]; rfl
          obtain ⟨A', c', hv', hA', -⟩ := Sh.own_row (S := chS) (T := 103) (b := B5) (W := W') (v := v') (l := L ++ [(⟨xq, ⟨p, i, ss, h, ll⟩, ⟨p', i', s', h', l'⟩⟩ : ChP)]) (by rw [hlen]; exact O')
          rw [hlen] at hv'
          subst hv'
          have E10 := E9.tail.low L' (by omega) hgB (fun x hx => by
            simp only [List.mem_cons, List.not_mem_nil, or_false] at hx
            rcases hx with rfl | rfl
            · exact hbB
            · exact hrB)
          obtain ⟨g0, ⟨g1, g2, g3, g4, g5⟩, g6, g7, g8, g9, g10⟩ := (E9.box 0).eleven
          have hin9 := (E9.box 0).inside
          obtain ⟨x0, x1, -, -, hin10⟩ := (E9.box 1).two
          obtain ⟨z0, z1, fz0, fz1, hin11⟩ := (E10.box 0).two
          have E11 := E10.wrote hne 0 (.slice A' (k + 1) c')
          change Rd w g t3 [(b, 38, dfB A' (k + 1) c' none 0 0), (w.heap.size, 38, dfB none 0 0 none 0 0)] _ at E11
          have O11 := own_off O' ((Off.refl (One b) W').set_ (p := ⟨b, 0, none⟩) (Or.inl rfl) (.slice A' (k + 1) c')) hbB
          have hs11 : B5 ≤ (W'.setCell ⟨b, 0, none⟩ (.slice A' (k + 1) c')).heap.size := by
            have := L'.size
            simp [World.setCell]
            omega
          go_wp2_with (first
            | (at_builtin; refine gen_run rfl _ _ _ rfl _ _ rfl rfl _ W' hrn ?_)
            | fail)
          go_roundg (n - (k + 1))
          case measure => have := HG.out; omega
          case rel => exact ⟨k + 1, _, t3, A', c', by omega, Nat.le_refl _, by first | rfl | go_num, hlen, hz5, hA', hs11, E11, O11, HE⟩
end Go.Proofs.YtmflhodiibjpnaaGreatDoor
