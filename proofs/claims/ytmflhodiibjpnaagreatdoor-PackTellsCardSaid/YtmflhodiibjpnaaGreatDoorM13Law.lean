/- Several of my texts, laid as one. -/
import Derived.Test.YtmflhodiibjpnaaGreatDoorM13Rs
import Derived.Test.YtmflhodiibjpnaaGreatDoorM13Top
import Derived.Test.YtmflhodiibjpnaaGreatDoorM13Nod
/-
  pack's SameEntry, SameRange, SameDiff, walked; slices.Equal at nodes and changes.
-/
namespace Go.Proofs.YtmflhodiibjpnaaGreatDoor
set_option linter.unusedVariables false
set_option linter.unusedSimpArgs false
set_option maxRecDepth 10000
open Go.RowKit

set_option maxRecDepth 100000 in
set_option maxHeartbeats 2000000 in
theorem eqN_any (A B : Option Addr) (c d : Nat) (a b : List Nd) (ha : a.length ≤ 1000000000) (hb : b.length ≤ 1000000000) (w : World) (h1 : ndS.Row w w.heap.size A a) (h2 : ndS.Row w w.heap.size B b) :
    Calls Tryz.prog 69 #[.slice A a.length c, .slice B b.length d] w (Tells (.bool (decide (a = b))) w.heap.size w) := by
  obtain ⟨V, hV⟩ : ∃ V, decide (a = b) = V := ⟨_, rfl⟩
  rw [hV]
  have HV := hideIt hV
  clear hV
  obtain ⟨N, hN⟩ : ∃ N, a.length = N := ⟨_, rfl⟩
  obtain ⟨M, hM⟩ : ∃ M, b.length = M := ⟨_, rfl⟩
  rw [hN, hM]
  by_cases hl : N = M
  · subst hl
    have hq : (((N : Nat) : Int) != (N : Int)) = false := by simp
    go_enter Tryz.func69, Tryz.ntmps69
    go_wp2
    go_loopg [13] N (fun gk i wr => ∃ k : Nat, k ≤ N ∧ N - k ≤ gk ∧ i = .int .i64 k ∧ (∀ j x y, j < k → a[j]? = some x → b[j]? = some y → x = y) ∧ Below w.heap.size w wr)
    case atStart => exact ⟨0, Nat.zero_le _, by omega, rfl, fun j x y hj => absurd hj (Nat.not_lt_zero _), Below.refl _ _⟩
    case round =>
      obtain ⟨k, hk, hgk, rfl, hall, hb3⟩ := hrel
      have HG := hideIt hgk
      have HA := hideIt hall
      clear hgk hall
      by_cases hlt : k < N
      · obtain ⟨x, hx⟩ : ∃ x, a[k]? = some x := ⟨_, List.getElem?_eq_getElem (by omega)⟩
        obtain ⟨y, hy⟩ : ∃ y, b[k]? = some y := ⟨_, List.getElem?_eq_getElem (by omega)⟩
        have hlti : (k : Int) < (N : Int) := by omega
        obtain ⟨ad, rfl, g1, p0, p1, p2⟩ := nd_get (h1.on hb3) hx
        obtain ⟨ae, rfl, g2, q0, q1, q2⟩ := nd_get (h2.on hb3) hy
        have hq1 := run_neq_nd x y
        have hd := Nd.same_dec x y
        obtain ⟨t, ht⟩ : ∃ t, x.same y = t := ⟨_, rfl⟩
        rw [ht] at hq1 hd
        have HX := hideIt hx
        have HY := hideIt hy
        have HD := hideIt hd
        obtain ⟨xs, xh, xl⟩ := x
        obtain ⟨ys, yh, yl⟩ := y
        simp only [Nd.val] at hq1 p0 p1 p2 q0 q1 q2
        clear hx hy hd ht
        cases t with
        | true =>
          go_upto_region 6 with fail
          go_quiet (fail)
          go_wp2
          go_roundg (N - (k + 1))
          case measure => have := HG.out; omega
          case rel => exact ⟨k + 1, by omega, Nat.le_refl _, by go_num, fun j x y hj hx hy => by
            by_cases e : j = k
            · subst e
              rw [HX.out] at hx
              rw [HY.out] at hy
              injection hx with hx
              injection hy with hy
              subst hx hy
              exact of_decide_eq_true HD.out.symm
            · exact HA.out j x y (by omega) hx hy, below_drewN hb3 _⟩
        | false =>
          have hno : V = false := by
            rw [← HV.out]
            exact decide_eq_false (list_other HX.out HY.out (of_decide_eq_false HD.out.symm))
          subst hno
          go_upto_region 6 with fail
          go_quiet (fail)
          go_wp2
          go_ret
          exact ⟨rfl, below_drewN hb3 _⟩
      · have e : k = N := by omega
        subst e
        have hyes : V = true := by
          rw [← HV.out]
          refine decide_eq_true (list_same (by omega) fun j x y hx hy => HA.out j x y ?_ hx hy)
          have := (List.getElem?_eq_some_iff.1 hx).1
          omega
        subst hyes
        go_wp2
        go_ret
        exact ⟨rfl, hb3⟩
  · have hli : ¬ ((N : Int) = (M : Int)) := by omega
    have hq : (((N : Nat) : Int) != (M : Int)) = true := by rw [bne, beq_false_of_ne hli]; rfl
    have hq2 : (((N : Nat) : Int) == (M : Int)) = false := beq_false_of_ne hli
    have hno : V = false := by
      rw [← HV.out]
      refine decide_eq_false fun e => hl ?_
      rw [← hN, ← hM, e]
    subst hno
    go_enter Tryz.func69, Tryz.ntmps69
    go_wp2
    go_ret
    exact ⟨rfl, Below.refl _ _⟩
set_option maxRecDepth 100000 in
set_option maxHeartbeats 2000000 in
theorem eqC_any (A B : Option Addr) (c d : Nat) (a b : List ChP) (ha : a.length ≤ 1000000000) (hb : b.length ≤ 1000000000) (w : World) (h1 : chS.Row w w.heap.size A a) (h2 : chS.Row w w.heap.size B b) :
    Calls Tryz.prog 70 #[.slice A a.length c, .slice B b.length d] w (Tells (.bool (decide (a = b))) w.heap.size w) := by
  obtain ⟨V, hV⟩ : ∃ V, decide (a = b) = V := ⟨_, rfl⟩
  rw [hV]
  have HV := hideIt hV
  clear hV
  obtain ⟨N, hN⟩ : ∃ N, a.length = N := ⟨_, rfl⟩
  obtain ⟨M, hM⟩ : ∃ M, b.length = M := ⟨_, rfl⟩
  rw [hN, hM]
  by_cases hl : N = M
  · subst hl
    have hq : (((N : Nat) : Int) != (N : Int)) = false := by simp
    go_enter Tryz.func70, Tryz.ntmps70
    go_wp2
    go_loopg [13] N (fun gk i wr => ∃ k : Nat, k ≤ N ∧ N - k ≤ gk ∧ i = .int .i64 k ∧ (∀ j x y, j < k → a[j]? = some x → b[j]? = some y → x = y) ∧ Below w.heap.size w wr)
    case atStart => exact ⟨0, Nat.zero_le _, by omega, rfl, fun j x y hj => absurd hj (Nat.not_lt_zero _), Below.refl _ _⟩
    case round =>
      obtain ⟨k, hk, hgk, rfl, hall, hb3⟩ := hrel
      have HG := hideIt hgk
      have HA := hideIt hall
      clear hgk hall
      by_cases hlt : k < N
      · obtain ⟨x, hx⟩ : ∃ x, a[k]? = some x := ⟨_, List.getElem?_eq_getElem (by omega)⟩
        obtain ⟨y, hy⟩ : ∃ y, b[k]? = some y := ⟨_, List.getElem?_eq_getElem (by omega)⟩
        have hlti : (k : Int) < (N : Int) := by omega
        obtain ⟨ad, rfl, g1, p0, ⟨p1, p2, p3, p4, p5⟩, p6, p7, p8, p9, p10⟩ := ch_get (h1.on hb3) hx
        obtain ⟨ae, rfl, g2, s0, ⟨s1, s2, s3, s4, s5⟩, s6, s7, s8, s9, s10⟩ := ch_get (h2.on hb3) hy
        have hq1 := run_neq_ch x y
        have hd := ChP.same_dec x y
        obtain ⟨t, ht⟩ : ∃ t, x.same y = t := ⟨_, rfl⟩
        rw [ht] at hq1 hd
        have HX := hideIt hx
        have HY := hideIt hy
        have HD := hideIt hd
        obtain ⟨xq, ⟨xp, xi, xs, xh, xl⟩, ⟨xp', xi', xs', xh', xl'⟩⟩ := x
        obtain ⟨yq, ⟨yp, yi, ys, yh, yl⟩, ⟨yp', yi', ys', yh', yl'⟩⟩ := y
        simp only [ChP.val] at hq1 p0 p1 p2 p3 p4 p5 p6 p7 p8 p9 p10 s0 s1 s2 s3 s4 s5 s6 s7 s8 s9 s10
        clear hx hy hd ht
        cases t with
        | true =>
          go_upto_region 6 with fail
          go_quiet (fail)
          go_wp2
          go_roundg (N - (k + 1))
          case measure => have := HG.out; omega
          case rel => exact ⟨k + 1, by omega, Nat.le_refl _, by go_num, fun j x y hj hx hy => by
            by_cases e : j = k
            · subst e
              rw [HX.out] at hx
              rw [HY.out] at hy
              injection hx with hx
              injection hy with hy
              subst hx hy
              exact of_decide_eq_true HD.out.symm
            · exact HA.out j x y (by omega) hx hy, below_drewN hb3 _⟩
        | false =>
          have hno : V = false := by
            rw [← HV.out]
            exact decide_eq_false (list_other HX.out HY.out (of_decide_eq_false HD.out.symm))
          subst hno
          go_upto_region 6 with fail
          go_quiet (fail)
          go_wp2
          go_ret
          exact ⟨rfl, below_drewN hb3 _⟩
      · have e : k = N := by omega
        subst e
        have hyes : V = true := by
          rw [← HV.out]
          refine decide_eq_true (list_same (by omega) fun j x y hx hy => HA.out j x y ?_ hx hy)
          have := (List.getElem?_eq_some_iff.1 hx).1
          omega
        subst hyes
        go_wp2
        go_ret
        exact ⟨rfl, hb3⟩
  · have hli : ¬ ((N : Int) = (M : Int)) := by omega
    have hq : (((N : Nat) : Int) != (M : Int)) = true := by rw [bne, beq_false_of_ne hli]; rfl
    have hq2 : (((N : Nat) : Int) == (M : Int)) = false := beq_false_of_ne hli
    have hno : V = false := by
      rw [← HV.out]
      refine decide_eq_false fun e => hl ?_
      rw [← hN, ← hM, e]
    subst hno
    go_enter Tryz.func70, Tryz.ntmps70
    go_wp2
    go_ret
    exact ⟨rfl, Below.refl _ _⟩
set_option maxRecDepth 20000 in
set_option maxHeartbeats 4000000 in
theorem sameentry_any (x y : EnP) (A B : Option Addr) (c d : Nat) (ha : x.sides.length ≤ 1000000000) (hb : y.sides.length ≤ 1000000000) (w : World) (h1 : ndS.Row w w.heap.size A x.sides) (h2 : ndS.Row w w.heap.size B y.sides) :
    Calls Tryz.prog 24 #[.agg (enB x.leaf.pad x.leaf.id x.leaf.salt x.leaf.h x.leaf.l x.pos A x.sides.length c), .agg (enB y.leaf.pad y.leaf.id y.leaf.salt y.leaf.h y.leaf.l y.pos B y.sides.length d)] w (Tells (.bool (x.same y)) w.heap.size w) := by
  have cN := fun u hu hv => eqN_any A B c d x.sides y.sides ha hb u hu hv
  have hq := run_eql_lf x.leaf y.leaf
  obtain ⟨V, hV⟩ : ∃ V, x.same y = V := ⟨_, rfl⟩
  rw [hV]
  unfold EnP.same at hV
  obtain ⟨⟨p, i, s, h, l⟩, xq, sd⟩ := x
  obtain ⟨⟨p', i', s', h', l'⟩, yq, sd'⟩ := y
  simp only [Lf.val] at *
  obtain ⟨b1, e1⟩ : ∃ b, Lf.same ⟨p, i, s, h, l⟩ ⟨p', i', s', h', l'⟩ = b := ⟨_, rfl⟩
  obtain ⟨b2, e2⟩ : ∃ b, decide (xq = yq) = b := ⟨_, rfl⟩
  obtain ⟨b3, e3⟩ : ∃ b, decide (sd = sd') = b := ⟨_, rfl⟩
  rw [e1] at hq
  rw [e3] at cN
  rw [e1, e2, e3] at hV
  have hq2 : (xq == yq) = b2 := by rw [← e2]; exact Bool.beq_eq_decide_eq _ _
  obtain ⟨N, hN⟩ : ∃ N, sd.length = N := ⟨_, rfl⟩
  obtain ⟨M, hM⟩ : ∃ M, sd'.length = M := ⟨_, rfl⟩
  rw [hN, hM] at cN ⊢
  have H0 : Has w [(w.heap.size + 1, 33, enB p' i' s' h' l' yq B M d), (w.heap.size, 33, enB p i s h l xq A N c)] ((w.alloc (.cells (enB p i s h l xq A N c) 33)).alloc (.cells (enB p' i' s' h' l' yq B M d) 33)) :=
    ((Has.start w).add 33 (enB p i s h l xq A N c)).addAt 33 (enB p' i' s' h' l' yq B M d) (by simp)
  clear e1 e2 e3
  go_enter Tryz.func24, Tryz.ntmps24
  go_upto_region 1 with fail
  change Code.wp _ _ _ _ ((w.alloc (.cells (enB p i s h l xq A N c) 33)).alloc (.cells (enB p' i' s' h' l' yq B M d) 33))
  generalize (w.alloc (.cells (enB p i s h l xq A N c) 33)).alloc (.cells (enB p' i' s' h' l' yq B M d) 33) = W at *
  have q0 := (H0.box 1).read 0
  have q1 := (H0.box 1).read 1
  have q2 := (H0.box 1).read 2
  have q3 := (H0.box 1).read 3
  have q4 := (H0.box 1).read 4
  have q5 := (H0.box 1).read 5
  have q6 := (H0.box 1).read 6
  have hin := (H0.box 1).inside
  have r0 := (H0.box 0).read 0
  have r1 := (H0.box 0).read 1
  have r2 := (H0.box 0).read 2
  have r3 := (H0.box 0).read 3
  have r4 := (H0.box 0).read 4
  have r5 := (H0.box 0).read 5
  have r6 := (H0.box 0).read 6
  have hin2 := (H0.box 0).inside
  have RA := h1.on H0.below
  have RB := h2.on H0.below
  cases b1 with
  | false =>
    rw [Bool.false_and] at hV
    subst hV
    go_wp2
    go_ret
    exact ⟨rfl, H0.below⟩
  | true =>
    cases b2 with
    | false =>
      rw [Bool.false_and, Bool.true_and] at hV
      subst hV
      go_wp2
      go_ret
      exact ⟨rfl, H0.below⟩
    | true =>
      rw [Bool.true_and, Bool.true_and] at hV
      subst hV
      go_wp2_with (first | (go_at_call 69; refine (cN _ RA RB).mono ?_; rintro e v1 ⟨rfl, j1⟩) | fail)
      go_ret
      exact ⟨rfl, (H0.call j1).below⟩
set_option maxRecDepth 20000 in
set_option maxHeartbeats 4000000 in
theorem samerange_any (x y : RgP) (A B A' B' : Option Addr) (c d c' d' : Nat) (ha : x.ins.length ≤ 1000000000) (hb : y.ins.length ≤ 1000000000) (hc : x.outs.length ≤ 1000000000) (hd : y.outs.length ≤ 1000000000) (w : World) (h1 : ndS.Row w w.heap.size A x.ins) (h2 : ndS.Row w w.heap.size A' y.ins) (h3 : ndS.Row w w.heap.size B x.outs) (h4 : ndS.Row w w.heap.size B' y.outs) :
    Calls Tryz.prog 26 #[.agg (rgB x.a x.b A x.ins.length c B x.outs.length d), .agg (rgB y.a y.b A' y.ins.length c' B' y.outs.length d')] w (Tells (.bool (x.same y)) w.heap.size w) := by
  have cN := fun u hu hv => eqN_any A A' c c' x.ins y.ins ha hb u hu hv
  have cM := fun u hu hv => eqN_any B B' d d' x.outs y.outs hc hd u hu hv
  obtain ⟨V, hV⟩ : ∃ V, x.same y = V := ⟨_, rfl⟩
  rw [hV]
  unfold RgP.same at hV
  obtain ⟨xa, xb, i1, o1⟩ := x
  obtain ⟨ya, yb, i2, o2⟩ := y
  simp only at *
  obtain ⟨b1, e1⟩ : ∃ b, decide (xa = ya) = b := ⟨_, rfl⟩
  obtain ⟨b2, e2⟩ : ∃ b, decide (xb = yb) = b := ⟨_, rfl⟩
  obtain ⟨b3, e3⟩ : ∃ b, decide (i1 = i2) = b := ⟨_, rfl⟩
  obtain ⟨b4, e4⟩ : ∃ b, decide (o1 = o2) = b := ⟨_, rfl⟩
  rw [e3] at cN
  rw [e4] at cM
  rw [e1, e2, e3, e4] at hV
  have hq1 : (xa == ya) = b1 := by rw [← e1]; exact Bool.beq_eq_decide_eq _ _
  have hq2 : (xb == yb) = b2 := by rw [← e2]; exact Bool.beq_eq_decide_eq _ _
  obtain ⟨N1, hN1⟩ : ∃ N, i1.length = N := ⟨_, rfl⟩
  obtain ⟨N2, hN2⟩ : ∃ N, i2.length = N := ⟨_, rfl⟩
  obtain ⟨M1, hM1⟩ : ∃ N, o1.length = N := ⟨_, rfl⟩
  obtain ⟨M2, hM2⟩ : ∃ N, o2.length = N := ⟨_, rfl⟩
  rw [hN1, hN2] at cN ⊢
  rw [hM1, hM2] at cM ⊢
  have H0 : Has w [(w.heap.size + 1, 35, rgB ya yb A' N2 c' B' M2 d'), (w.heap.size, 35, rgB xa xb A N1 c B M1 d)] ((w.alloc (.cells (rgB xa xb A N1 c B M1 d) 35)).alloc (.cells (rgB ya yb A' N2 c' B' M2 d') 35)) :=
    ((Has.start w).add 35 (rgB xa xb A N1 c B M1 d)).addAt 35 (rgB ya yb A' N2 c' B' M2 d') (by simp)
  clear e1 e2 e3 e4
  go_enter Tryz.func26, Tryz.ntmps26
  go_upto_region 1 with fail
  change Code.wp _ _ _ _ ((w.alloc (.cells (rgB xa xb A N1 c B M1 d) 35)).alloc (.cells (rgB ya yb A' N2 c' B' M2 d') 35))
  generalize (w.alloc (.cells (rgB xa xb A N1 c B M1 d) 35)).alloc (.cells (rgB ya yb A' N2 c' B' M2 d') 35) = W at *
  obtain ⟨⟨q0, q1, q2, q3⟩, hin⟩ := (H0.box 1).four0
  obtain ⟨⟨r0, r1, r2, r3⟩, hin2⟩ := (H0.box 0).four0
  have RA := h1.on H0.below
  have RB := h2.on H0.below
  cases b1 with
  | false =>
    rw [Bool.false_and] at hV
    subst hV
    go_wp2
    go_ret
    exact ⟨rfl, H0.below⟩
  | true =>
    cases b2 with
    | false =>
      rw [Bool.false_and, Bool.true_and] at hV
      subst hV
      go_wp2
      go_ret
      exact ⟨rfl, H0.below⟩
    | true =>
      cases b3 with
      | false =>
        rw [Bool.true_and, Bool.true_and, Bool.false_and] at hV
        subst hV
        go_wp2_with (first | (go_at_call 69; (with_reducible refine (cN _ RA RB).mono ?_); rintro e v1 ⟨rfl, j1⟩) | fail)
        go_ret
        exact ⟨rfl, (H0.call j1).below⟩
      | true =>
        rw [Bool.true_and, Bool.true_and, Bool.true_and] at hV
        subst hV
        go_wp2_with (first
          | (go_at_call 69; (with_reducible refine (cN _ RA RB).mono ?_); rintro e v1 ⟨rfl, j1⟩; have H1 := H0.call j1; have RC := h3.on H1.below; have RD := h4.on H1.below; obtain ⟨⟨y0, y1, y2, y3⟩, hin3⟩ := (H1.box 1).four0; obtain ⟨⟨z0, z1, z2, z3⟩, hin4⟩ := (H1.box 0).four0)
          | (go_at_call 69; (with_reducible refine (cM _ RC RD).mono ?_); rintro e v2 ⟨rfl, j2⟩)
          | fail)
        go_ret
        exact ⟨rfl, (H1.call j2).below⟩
set_option maxRecDepth 20000 in
set_option maxHeartbeats 4000000 in
theorem samediff_any (x y : DfP) (A B A' B' : Option Addr) (c d c' d' : Nat) (ha : x.chs.length ≤ 1000000000) (hb : y.chs.length ≤ 1000000000) (hc : x.fr.length ≤ 1000000000) (hd : y.fr.length ≤ 1000000000) (w : World) (h1 : chS.Row w w.heap.size A x.chs) (h2 : chS.Row w w.heap.size A' y.chs) (h3 : ndS.Row w w.heap.size B x.fr) (h4 : ndS.Row w w.heap.size B' y.fr) :
    Calls Tryz.prog 28 #[.agg (dfB A x.chs.length c B x.fr.length d), .agg (dfB A' y.chs.length c' B' y.fr.length d')] w (Tells (.bool (x.same y)) w.heap.size w) := by
  have cN := fun u hu hv => eqC_any A A' c c' x.chs y.chs ha hb u hu hv
  have cM := fun u hu hv => eqN_any B B' d d' x.fr y.fr hc hd u hu hv
  obtain ⟨V, hV⟩ : ∃ V, x.same y = V := ⟨_, rfl⟩
  rw [hV]
  unfold DfP.same at hV
  obtain ⟨i1, o1⟩ := x
  obtain ⟨i2, o2⟩ := y
  simp only at *
  obtain ⟨b3, e3⟩ : ∃ b, decide (i1 = i2) = b := ⟨_, rfl⟩
  obtain ⟨b4, e4⟩ : ∃ b, decide (o1 = o2) = b := ⟨_, rfl⟩
  rw [e3] at cN
  rw [e4] at cM
  rw [e3, e4] at hV
  obtain ⟨N1, hN1⟩ : ∃ N, i1.length = N := ⟨_, rfl⟩
  obtain ⟨N2, hN2⟩ : ∃ N, i2.length = N := ⟨_, rfl⟩
  obtain ⟨M1, hM1⟩ : ∃ N, o1.length = N := ⟨_, rfl⟩
  obtain ⟨M2, hM2⟩ : ∃ N, o2.length = N := ⟨_, rfl⟩
  rw [hN1, hN2] at cN ⊢
  rw [hM1, hM2] at cM ⊢
  have H0 : Has w [(w.heap.size + 1, 38, dfB A' N2 c' B' M2 d'), (w.heap.size, 38, dfB A N1 c B M1 d)] ((w.alloc (.cells (dfB A N1 c B M1 d) 38)).alloc (.cells (dfB A' N2 c' B' M2 d') 38)) :=
    ((Has.start w).add 38 (dfB A N1 c B M1 d)).addAt 38 (dfB A' N2 c' B' M2 d') (by simp)
  clear e3 e4
  go_enter Tryz.func28, Tryz.ntmps28
  go_upto_region 1 with fail
  change Code.wp _ _ _ _ ((w.alloc (.cells (dfB A N1 c B M1 d) 38)).alloc (.cells (dfB A' N2 c' B' M2 d') 38))
  generalize (w.alloc (.cells (dfB A N1 c B M1 d) 38)).alloc (.cells (dfB A' N2 c' B' M2 d') 38) = W at *
  obtain ⟨q0, q1, -, -, hin⟩ := (H0.box 1).two
  obtain ⟨r0, r1, -, -, hin2⟩ := (H0.box 0).two
  have RA := h1.on H0.below
  have RB := h2.on H0.below
  cases b3 with
  | false =>
    rw [Bool.false_and] at hV
    subst hV
    go_wp2_with (first | (go_at_call 70; (refine (cN _ RA RB).mono ?_); rintro e v1 ⟨rfl, j1⟩) | fail)
    go_ret
    exact ⟨rfl, (H0.call j1).below⟩
  | true =>
    rw [Bool.true_and] at hV
    subst hV
    go_wp2_with (first
      | (go_at_call 70; (refine (cN _ RA RB).mono ?_); rintro e v1 ⟨rfl, j1⟩; have H1 := H0.call j1; have RC := h3.on H1.below; have RD := h4.on H1.below; obtain ⟨y0, y1, -, -, hin3⟩ := (H1.box 1).two; obtain ⟨z0, z1, -, -, hin4⟩ := (H1.box 0).two)
      | (go_at_call 69; (refine (cM _ RC RD).mono ?_); rintro e v2 ⟨rfl, j2⟩)
      | fail)
    go_ret
    exact ⟨rfl, (H1.call j2).below⟩
end Go.Proofs.YtmflhodiibjpnaaGreatDoor
/-
  For the laws of layer 13: what the guards leave; what is told and read as the laws need it; the laws' call told.
-/
namespace Go.Proofs.YtmflhodiibjpnaaGreatDoor
set_option linter.unusedVariables false
set_option linter.unusedSimpArgs false
set_option maxRecDepth 10000
open Go.RowKit

theorem nds_ok {l : List Nd} (h : l.length ≤ 2100 ∧ ∀ y ∈ l, y.hash.size ≤ 40) (hf : ∀ y ∈ l, y.fine) : AllNd l := ⟨by have := h.1; omega, fun y hy => ⟨by have := h.2 y hy; omega, (hf y hy).2⟩⟩
theorem lf_ok {x : Lf} (h : x.id.size ≤ 300 ∧ x.salt.size ≤ 300) (hf : x.fine) : LfOk x := ⟨⟨by omega, by omega⟩, hf.2⟩
theorem chs_ok {l : List ChP} (h : l.length ≤ 2100 ∧ ∀ c ∈ l, (c.old.id.size ≤ 300 ∧ c.old.salt.size ≤ 300) ∧ c.new.id.size ≤ 300 ∧ c.new.salt.size ≤ 300) (hf : ∀ y ∈ l, y.fine) : AllCh l :=
  ⟨by have := h.1; omega, fun y hy => ⟨(hf y hy).1, lf_ok (h.2 y hy).1 (hf y hy).2.1, lf_ok (h.2 y hy).2 (hf y hy).2.2⟩⟩
/-- What is told and read fits. -/
def EnP.w (x : EnP) : Prop := x.leaf.words ∧ Word x.pos ∧ ∀ y ∈ x.sides, y.words
def RgP.w (x : RgP) : Prop := Word x.a ∧ Word x.b ∧ (∀ y ∈ x.ins, y.words) ∧ ∀ y ∈ x.outs, y.words
def DfP.w (x : DfP) : Prop := (∀ y ∈ x.chs, Word y.pos ∧ y.old.words ∧ y.new.words) ∧ ∀ y ∈ x.fr, y.words
theorem en_same {x y : EnP} {p q : ByteArray} (hx : x.w) (hy : y.w) (h : enO x = (p, 0)) (h' : enO y = (q, 0)) : (p.toList == q.toList) = x.same y := by
  have := told_same enC en_tells hx hy h h'
  rw [same_str7]
  by_cases e : p = q
  · rw [decide_eq_true e, (EnP.same_iff x y).2 (this.1 e)]
  · rw [decide_eq_false e]
    cases hs : x.same y with
    | false => rfl
    | true => exact absurd (this.2 ((EnP.same_iff x y).1 hs)) e
theorem rg_same {x y : RgP} {p q : ByteArray} (hx : x.w) (hy : y.w) (h : rgO x = (p, 0)) (h' : rgO y = (q, 0)) : (p.toList == q.toList) = x.same y := by
  have := told_same rgC rg_tells hx hy h h'
  rw [same_str7]
  by_cases e : p = q
  · rw [decide_eq_true e, (RgP.same_iff x y).2 (this.1 e)]
  · rw [decide_eq_false e]
    cases hs : x.same y with
    | false => rfl
    | true => exact absurd (this.2 ((RgP.same_iff x y).1 hs)) e
theorem df_pair (q r : Int) (x y : Lf) (a b : List Nd) : DfP.same ⟨[⟨q, x, y⟩], a⟩ ⟨[⟨r, x, y⟩], b⟩ = (decide (q = r) && decide (a = b)) := by
  unfold DfP.same
  simp only
  congr 1
  by_cases e : q = r
  · subst e
    rw [decide_eq_true rfl, decide_eq_true rfl]
  · rw [decide_eq_false e, decide_eq_false (fun h => e (by injection h with h; injection h))]
theorem ch_box {w : World} {g : Nat} {x : ChP} (h : Box w g 103 (chA x.pos x.old.pad x.old.id x.old.salt x.old.h x.old.l x.new.pad x.new.id x.new.salt x.new.h x.new.l)) : chS.Row w w.heap.size (some ⟨g, 0, none⟩) [x] :=
  Sh.row_box (S := chS) (d := [x]) (by simpa [Sh.flat, chS] using h)
set_option maxHeartbeats 2000000 in
theorem told_any (p : ByteArray × Int) (hs : p.1.size ≤ 9223372036854775807) (h : Fair p) (w : World) : Calls Tryz.prog 47 #[.string p.1, .int .i64 p.2] w (Still (.bool true) w) := by
  obtain ⟨s, n⟩ := p
  simp only at hs ⊢
  rcases h with ⟨hn, hz⟩ | ⟨hz, hn⟩
  · simp only at hn hz
    subst hn
    obtain ⟨i0, i1⟩ := isEmpty_no s hz
    have i2 : (s.toList != []) = true := by rw [bne, i1]; rfl
    go_enter Tryz.func47, Tryz.ntmps47
    go_wp2
    go_ret
    exact ⟨rfl, rfl⟩
  · simp only at hn hz
    subst hz
    rcases hn with rfl | rfl
    · go_enter Tryz.func47, Tryz.ntmps47
      go_wp2
      go_ret
      exact ⟨rfl, rfl⟩
    · go_enter Tryz.func47, Tryz.ntmps47
      go_wp2
      go_ret
      exact ⟨rfl, rfl⟩
end Go.Proofs.YtmflhodiibjpnaaGreatDoor
