/- Several of my texts, laid as one. -/
import Derived.Test.YtmflhodiibjpnaaGreatDoorM13Rf
import Derived.Test.YtmflhodiibjpnaaGreatDoorM13Nod
import Derived.Test.YtmflhodiibjpnaaGreatDoorW0Lift
import Derived.SliceStrings
import Derived.Deep.Grids
/-
  paymasterref13's SameNodes, SameEntry, SameRange, SameDiff, walked.
-/
namespace Go.Proofs.YtmflhodiibjpnaaGreatDoor
set_option linter.unusedVariables false
set_option linter.unusedSimpArgs false
set_option maxRecDepth 10000
open Go.RowKit

set_option maxRecDepth 100000 in
set_option maxHeartbeats 2000000 in
theorem rsameNodes_any (A B : Option Addr) (c d : Nat) (a b : List Nd) (ha : a.length ≤ 1000000000) (hb : b.length ≤ 1000000000) (w : World) (h1 : ndS.Row w w.heap.size A a) (h2 : ndS.Row w w.heap.size B b) :
    Calls Tryz.prog 49 #[.slice A a.length c, .slice B b.length d] w (Tells (.bool (decide (a = b))) w.heap.size w) := by
  obtain ⟨V, hV⟩ : ∃ V, decide (a = b) = V := ⟨_, rfl⟩
  rw [hV]
  have HV := hideIt hV
  clear hV
  obtain ⟨N, hN⟩ : ∃ N, a.length = N := ⟨_, rfl⟩
  obtain ⟨M, hM⟩ : ∃ M, b.length = M := ⟨_, rfl⟩
  rw [hN, hM]
  by_cases hl : N = M
  · subst hl
    have hq : (((N : Nat) : Int) != (N : Int)) = false := by simp
    go_enter Tryz.func49, Tryz.ntmps49
    go_wp2
    go_loopg [5] N (fun gk i wr => ∃ k : Nat, k ≤ N ∧ N - k ≤ gk ∧ i = .int .i64 k ∧ (∀ j x y, j < k → a[j]? = some x → b[j]? = some y → x = y) ∧ Below w.heap.size w wr)
    case atStart => exact ⟨0, Nat.zero_le _, by omega, rfl, fun j x y hj => absurd hj (Nat.not_lt_zero _), Below.refl _ _⟩
    case round =>
      obtain ⟨k, hk, hgk, rfl, hall, hb3⟩ := hrel
      have HG := hideIt hgk
      have HA := hideIt hall
      clear hgk hall
      by_cases hlt : k < N
      · obtain ⟨x, hx⟩ : ∃ x, a[k]? = some x := ⟨_, List.getElem?_eq_getElem (by omega)⟩
        obtain ⟨y, hy⟩ : ∃ y, b[k]? = some y := ⟨_, List.getElem?_eq_getElem (by omega)⟩
        have hlti : (k : Int) < (N : Int) := by omega
        obtain ⟨ad, rfl, g1, p0, p1, p2⟩ := nd_get (h1.on hb3) hx
        obtain ⟨ae, rfl, g2, q0, q1, q2⟩ := nd_get (h2.on hb3) hy
        have hq1 := run_neq_nd x y
        have hd := Nd.same_dec x y
        obtain ⟨t, ht⟩ : ∃ t, x.same y = t := ⟨_, rfl⟩
        rw [ht] at hq1 hd
        have HX := hideIt hx
        have HY := hideIt hy
        have HD := hideIt hd
        obtain ⟨xs, xh, xl⟩ := x
        obtain ⟨ys, yh, yl⟩ := y
        simp only [Nd.val] at hq1 p0 p1 p2 q0 q1 q2
        clear hx hy hd ht
        cases t with
        | true =>
          go_upto_region 6 with fail
          go_quiet (fail)
          go_wp2
          go_roundg (N - (k + 1))
          case measure => have := HG.out; omega
          case rel => exact ⟨k + 1, by omega, Nat.le_refl _, by go_num, fun j x y hj hx hy => by
            by_cases e : j = k
            · subst e
              rw [HX.out] at hx
              rw [HY.out] at hy
              injection hx with hx
              injection hy with hy
              subst hx hy
              exact of_decide_eq_true HD.out.symm
            · exact HA.out j x y (by omega) hx hy, below_drewN hb3 _⟩
        | false =>
          have hno : V = false := by
            rw [← HV.out]
            exact decide_eq_false (list_other HX.out HY.out (of_decide_eq_false HD.out.symm))
          subst hno
          go_upto_region 6 with fail
          go_quiet (fail)
          go_wp2
          go_ret
          exact ⟨rfl, below_drewN hb3 _⟩
      · have e : k = N := by omega
        subst e
        have hyes : V = true := by
          rw [← HV.out]
          refine decide_eq_true (list_same (by omega) fun j x y hx hy => HA.out j x y ?_ hx hy)
          have := (List.getElem?_eq_some_iff.1 hx).1
          omega
        subst hyes
        go_wp2
        go_ret
        exact ⟨rfl, hb3⟩
  · have hli : ¬ ((N : Int) = (M : Int)) := by omega
    have hq : (((N : Nat) : Int) != (M : Int)) = true := by rw [bne, beq_false_of_ne hli]; rfl
    have hq2 : (((N : Nat) : Int) == (M : Int)) = false := beq_false_of_ne hli
    have hno : V = false := by
      rw [← HV.out]
      refine decide_eq_false fun e => hl ?_
      rw [← hN, ← hM, e]
    subst hno
    go_enter Tryz.func49, Tryz.ntmps49
    go_wp2
    go_ret
    exact ⟨rfl, Below.refl _ _⟩
/-- The same entry, range, diff? -/
def EnP.same (x y : EnP) : Bool := x.leaf.same y.leaf && (decide (x.pos = y.pos) && decide (x.sides = y.sides))
def RgP.same (x y : RgP) : Bool := decide (x.a = y.a) && (decide (x.b = y.b) && (decide (x.ins = y.ins) && decide (x.outs = y.outs)))
theorem EnP.same_iff (x y : EnP) : x.same y = true ↔ x = y := by
  obtain ⟨l, p, s⟩ := x
  obtain ⟨l', p', s'⟩ := y
  unfold EnP.same
  simp only [Bool.and_eq_true, decide_eq_true_eq, Lf.same_iff, EnP.mk.injEq]
theorem RgP.same_iff (x y : RgP) : x.same y = true ↔ x = y := by
  obtain ⟨a, b, i, o⟩ := x
  obtain ⟨a', b', i', o'⟩ := y
  unfold RgP.same
  simp only [Bool.and_eq_true, decide_eq_true_eq, RgP.mk.injEq]
set_option maxRecDepth 20000 in
set_option maxHeartbeats 4000000 in
theorem rsameEntry_any (x y : EnP) (A B : Option Addr) (c d : Nat) (ha : x.sides.length ≤ 1000000000) (hb : y.sides.length ≤ 1000000000) (w : World) (h1 : ndS.Row w w.heap.size A x.sides) (h2 : ndS.Row w w.heap.size B y.sides) :
    Calls Tryz.prog 25 #[.agg (enB x.leaf.pad x.leaf.id x.leaf.salt x.leaf.h x.leaf.l x.pos A x.sides.length c), .agg (enB y.leaf.pad y.leaf.id y.leaf.salt y.leaf.h y.leaf.l y.pos B y.sides.length d)] w (Tells (.bool (x.same y)) w.heap.size w) := by
  have cN := fun u hu hv => rsameNodes_any A B c d x.sides y.sides ha hb u hu hv
  have hq := run_eql_lf x.leaf y.leaf
  obtain ⟨V, hV⟩ : ∃ V, x.same y = V := ⟨_, rfl⟩
  rw [hV]
  unfold EnP.same at hV
  obtain ⟨⟨p, i, s, h, l⟩, xq, sd⟩ := x
  obtain ⟨⟨p', i', s', h', l'⟩, yq, sd'⟩ := y
  simp only [Lf.val] at *
  obtain ⟨b1, e1⟩ : ∃ b, Lf.same ⟨p, i, s, h, l⟩ ⟨p', i', s', h', l'⟩ = b := ⟨_, rfl⟩
  obtain ⟨b2, e2⟩ : ∃ b, decide (xq = yq) = b := ⟨_, rfl⟩
  obtain ⟨b3, e3⟩ : ∃ b, decide (sd = sd') = b := ⟨_, rfl⟩
  rw [e1] at hq
  rw [e3] at cN
  rw [e1, e2, e3] at hV
  have hq2 : (xq == yq) = b2 := by rw [← e2]; exact Bool.beq_eq_decide_eq _ _
  obtain ⟨N, hN⟩ : ∃ N, sd.length = N := ⟨_, rfl⟩
  obtain ⟨M, hM⟩ : ∃ M, sd'.length = M := ⟨_, rfl⟩
  rw [hN, hM] at cN ⊢
  have H0 : Has w [(w.heap.size + 1, 33, enB p' i' s' h' l' yq B M d), (w.heap.size, 33, enB p i s h l xq A N c)] ((w.alloc (.cells (enB p i s h l xq A N c) 33)).alloc (.cells (enB p' i' s' h' l' yq B M d) 33)) :=
    ((Has.start w).add 33 (enB p i s h l xq A N c)).addAt 33 (enB p' i' s' h' l' yq B M d) (by simp)
  clear e1 e2 e3
  go_enter Tryz.func25, Tryz.ntmps25
  go_upto_region 1 with fail
  change Code.wp _ _ _ _ ((w.alloc (.cells (enB p i s h l xq A N c) 33)).alloc (.cells (enB p' i' s' h' l' yq B M d) 33))
  generalize (w.alloc (.cells (enB p i s h l xq A N c) 33)).alloc (.cells (enB p' i' s' h' l' yq B M d) 33) = W at *
  have q0 := (H0.box 1).read 0
  have q1 := (H0.box 1).read 1
  have q2 := (H0.box 1).read 2
  have q3 := (H0.box 1).read 3
  have q4 := (H0.box 1).read 4
  have q5 := (H0.box 1).read 5
  have q6 := (H0.box 1).read 6
  have hin := (H0.box 1).inside
  have r0 := (H0.box 0).read 0
  have r1 := (H0.box 0).read 1
  have r2 := (H0.box 0).read 2
  have r3 := (H0.box 0).read 3
  have r4 := (H0.box 0).read 4
  have r5 := (H0.box 0).read 5
  have r6 := (H0.box 0).read 6
  have hin2 := (H0.box 0).inside
  have RA := h1.on H0.below
  have RB := h2.on H0.below
  cases b1 with
  | false =>
    rw [Bool.false_and] at hV
    subst hV
    go_wp2
    go_ret
    exact ⟨rfl, H0.below⟩
  | true =>
    cases b2 with
    | false =>
      rw [Bool.false_and, Bool.true_and] at hV
      subst hV
      go_wp2
      go_ret
      exact ⟨rfl, H0.below⟩
    | true =>
      rw [Bool.true_and, Bool.true_and] at hV
      subst hV
      go_wp2_with (first | (go_at_call 49; refine (cN _ RA RB).mono ?_; rintro e v1 ⟨rfl, j1⟩) | fail)
      go_ret
      exact ⟨rfl, (H0.call j1).below⟩
set_option maxRecDepth 20000 in
set_option maxHeartbeats 4000000 in
theorem rsameRange_any (x y : RgP) (A B A' B' : Option Addr) (c d c' d' : Nat) (ha : x.ins.length ≤ 1000000000) (hb : y.ins.length ≤ 1000000000) (hc : x.outs.length ≤ 1000000000) (hd : y.outs.length ≤ 1000000000) (w : World) (h1 : ndS.Row w w.heap.size A x.ins) (h2 : ndS.Row w w.heap.size A' y.ins) (h3 : ndS.Row w w.heap.size B x.outs) (h4 : ndS.Row w w.heap.size B' y.outs) :
    Calls Tryz.prog 27 #[.agg (rgB x.a x.b A x.ins.length c B x.outs.length d), .agg (rgB y.a y.b A' y.ins.length c' B' y.outs.length d')] w (Tells (.bool (x.same y)) w.heap.size w) := by
  have cN := fun u hu hv => rsameNodes_any A A' c c' x.ins y.ins ha hb u hu hv
  have cM := fun u hu hv => rsameNodes_any B B' d d' x.outs y.outs hc hd u hu hv
  obtain ⟨V, hV⟩ : ∃ V, x.same y = V := ⟨_, rfl⟩
  rw [hV]
  unfold RgP.same at hV
  obtain ⟨xa, xb, i1, o1⟩ := x
  obtain ⟨ya, yb, i2, o2⟩ := y
  simp only at *
  obtain ⟨b1, e1⟩ : ∃ b, decide (xa = ya) = b := ⟨_, rfl⟩
  obtain ⟨b2, e2⟩ : ∃ b, decide (xb = yb) = b := ⟨_, rfl⟩
  obtain ⟨b3, e3⟩ : ∃ b, decide (i1 = i2) = b := ⟨_, rfl⟩
  obtain ⟨b4, e4⟩ : ∃ b, decide (o1 = o2) = b := ⟨_, rfl⟩
  rw [e3] at cN
  rw [e4] at cM
  rw [e1, e2, e3, e4] at hV
  have hq1 : (xa == ya) = b1 := by rw [← e1]; exact Bool.beq_eq_decide_eq _ _
  have hq2 : (xb == yb) = b2 := by rw [← e2]; exact Bool.beq_eq_decide_eq _ _
  obtain ⟨N1, hN1⟩ : ∃ N, i1.length = N := ⟨_, rfl⟩
  obtain ⟨N2, hN2⟩ : ∃ N, i2.length = N := ⟨_, rfl⟩
  obtain ⟨M1, hM1⟩ : ∃ N, o1.length = N := ⟨_, rfl⟩
  obtain ⟨M2, hM2⟩ : ∃ N, o2.length = N := ⟨_, rfl⟩
  rw [hN1, hN2] at cN ⊢
  rw [hM1, hM2] at cM ⊢
  have H0 : Has w [(w.heap.size + 1, 35, rgB ya yb A' N2 c' B' M2 d'), (w.heap.size, 35, rgB xa xb A N1 c B M1 d)] ((w.alloc (.cells (rgB xa xb A N1 c B M1 d) 35)).alloc (.cells (rgB ya yb A' N2 c' B' M2 d') 35)) :=
    ((Has.start w).add 35 (rgB xa xb A N1 c B M1 d)).addAt 35 (rgB ya yb A' N2 c' B' M2 d') (by simp)
  clear e1 e2 e3 e4
  go_enter Tryz.func27, Tryz.ntmps27
  go_upto_region 1 with fail
  change Code.wp _ _ _ _ ((w.alloc (.cells (rgB xa xb A N1 c B M1 d) 35)).alloc (.cells (rgB ya yb A' N2 c' B' M2 d') 35))
  generalize (w.alloc (.cells (rgB xa xb A N1 c B M1 d) 35)).alloc (.cells (rgB ya yb A' N2 c' B' M2 d') 35) = W at *
  obtain ⟨⟨q0, q1, q2, q3⟩, hin⟩ := (H0.box 1).four0
  obtain ⟨⟨r0, r1, r2, r3⟩, hin2⟩ := (H0.box 0).four0
  have RA := h1.on H0.below
  have RB := h2.on H0.below
  cases b1 with
  | false =>
    rw [Bool.false_and] at hV
    subst hV
    go_wp2
    go_ret
    exact ⟨rfl, H0.below⟩
  | true =>
    cases b2 with
    | false =>
      rw [Bool.false_and, Bool.true_and] at hV
      subst hV
      go_wp2
      go_ret
      exact ⟨rfl, H0.below⟩
    | true =>
      cases b3 with
      | false =>
        rw [Bool.true_and, Bool.true_and, Bool.false_and] at hV
        subst hV
        go_wp2_with (first | (go_at_call 49; (with_reducible refine (cN _ RA RB).mono ?_); rintro e v1 ⟨rfl, j1⟩) | fail)
        go_ret
        exact ⟨rfl, (H0.call j1).below⟩
      | true =>
        rw [Bool.true_and, Bool.true_and, Bool.true_and] at hV
        subst hV
        go_wp2_with (first
          | (go_at_call 49; (with_reducible refine (cN _ RA RB).mono ?_); rintro e v1 ⟨rfl, j1⟩; have H1 := H0.call j1; have RC := h3.on H1.below; have RD := h4.on H1.below; obtain ⟨⟨y0, y1, y2, y3⟩, hin3⟩ := (H1.box 1).four0; obtain ⟨⟨z0, z1, z2, z3⟩, hin4⟩ := (H1.box 0).four0)
          | (go_at_call 49; (with_reducible refine (cM _ RC RD).mono ?_); rintro e v2 ⟨rfl, j2⟩)
          | fail)
        go_ret
        exact ⟨rfl, (H1.call j2).below⟩
/-- The same change, diff? -/
def ChP.same (x y : ChP) : Bool := decide (x.pos = y.pos) && (x.old.same y.old && x.new.same y.new)
theorem ChP.same_iff (x y : ChP) : x.same y = true ↔ x = y := by
  obtain ⟨a, b, i⟩ := x
  obtain ⟨a', b', i'⟩ := y
  unfold ChP.same
  simp only [Bool.and_eq_true, decide_eq_true_eq, Lf.same_iff, ChP.mk.injEq]
instance : DecidableEq ChP := fun x y => if h : x.same y = true then isTrue ((ChP.same_iff x y).1 h) else isFalse (fun e => h ((ChP.same_iff x y).2 e))
theorem ChP.same_dec (x y : ChP) : x.same y = decide (x = y) := by
  by_cases h : x = y
  · rw [decide_eq_true h]; exact (ChP.same_iff x y).2 h
  · rw [decide_eq_false h]
    cases hs : x.same y with
    | false => rfl
    | true => exact absurd ((ChP.same_iff x y).1 hs) h
def ChP.val (x : ChP) : Value := .agg (chA x.pos x.old.pad x.old.id x.old.salt x.old.h x.old.l x.new.pad x.new.id x.new.salt x.new.h x.new.l)
theorem equal_ch (d : Nat) (x y : ChP) (w : World) : (Op.equalIn (d + 4) 103 x.val y.val).run Tryz.prog w = .ok (x.same y) w := by
  obtain ⟨q, ⟨p, i, s, h, l⟩, ⟨p', i', s', h', l'⟩⟩ := x
  obtain ⟨q2, ⟨p2, i2, s2, h2, l2⟩, ⟨p2', i2', s2', h2', l2'⟩⟩ := y
  unfold ChP.val ChP.same
  rw [run_equalIn_agg w (d + 3) 103 _ _ (by kernel_rfl) (by kernel_rfl)]
  simp only [Program.fieldsOf, Tryz.underlying103, Op.eqFields]
  have e := fun (u : World) => equal_lf d ⟨p, i, s, h, l⟩ ⟨p2, i2, s2, h2, l2⟩ u
  have e' := fun (u : World) => equal_lf d ⟨p', i', s', h', l'⟩ ⟨p2', i2', s2', h2', l2'⟩ u
  simp only [Lf.val] at e e'
  have hq : (q == q2) = decide (q = q2) := Bool.beq_eq_decide_eq _ _
  cases h1 : decide (q = q2) <;> cases h3 : Lf.same ⟨p, i, s, h, l⟩ ⟨p2, i2, s2, h2, l2⟩ <;> cases h4 : Lf.same ⟨p', i', s', h', l'⟩ ⟨p2', i2', s2', h2', l2'⟩ <;>
    (rw [h1] at hq; rw [h3] at e; rw [h4] at e'; simp [go_sem, run_equalIn_int, Tryz.underlying22, hq, e, e'])
theorem run_neq_ch (x y : ChP) (w : World) : (binOp .neq 103 x.val y.val).run Tryz.prog w = .ok (.bool (!x.same y)) w := by
  have e := equal_ch 9996 x y w
  unfold ChP.val at *
  rw [run_neq_struct, e]
  rfl
def DfP.same (x y : DfP) : Bool := decide (x.chs = y.chs) && decide (x.fr = y.fr)
theorem DfP.same_iff (x y : DfP) : x.same y = true ↔ x = y := by
  obtain ⟨b, i⟩ := x
  obtain ⟨b', i'⟩ := y
  unfold DfP.same
  simp only [Bool.and_eq_true, decide_eq_true_eq, DfP.mk.injEq]
set_option maxRecDepth 100000 in
set_option maxHeartbeats 8000000 in
theorem rsameDiff_any (x y : DfP) (A B A' B' : Option Addr) (c d c' d' : Nat) (ha : x.chs.length ≤ 1000000000) (hb : y.chs.length ≤ 1000000000) (hc : x.fr.length ≤ 1000000000) (hd : y.fr.length ≤ 1000000000) (w : World) (h1 : chS.Row w w.heap.size A x.chs) (h2 : chS.Row w w.heap.size A' y.chs) (h3 : ndS.Row w w.heap.size B x.fr) (h4 : ndS.Row w w.heap.size B' y.fr) :
    Calls Tryz.prog 29 #[.agg (dfB A x.chs.length c B x.fr.length d), .agg (dfB A' y.chs.length c' B' y.fr.length d')] w (Tells (.bool (x.same y)) w.heap.size w) := by
  have cM := fun u hu hv => rsameNodes_any B B' d d' x.fr y.fr hc hd u hu hv
  obtain ⟨V, hV⟩ : ∃ V, x.same y = V := ⟨_, rfl⟩
  rw [hV]
  unfold DfP.same at hV
  obtain ⟨a, o1⟩ := x
  obtain ⟨b, o2⟩ := y
  simp only at *
  obtain ⟨b4, e4⟩ : ∃ b, decide (o1 = o2) = b := ⟨_, rfl⟩
  rw [e4] at cM hV
  have HV := hideIt hV
  obtain ⟨N, hN⟩ : ∃ N, a.length = N := ⟨_, rfl⟩
  obtain ⟨M, hM⟩ : ∃ N, b.length = N := ⟨_, rfl⟩
  obtain ⟨M1, hM1⟩ : ∃ N, o1.length = N := ⟨_, rfl⟩
  obtain ⟨M2, hM2⟩ : ∃ N, o2.length = N := ⟨_, rfl⟩
  rw [hM1, hM2] at cM
  rw [hN, hM, hM1, hM2]
  clear e4 hV
  have H0 : Has w [(w.heap.size + 1, 38, dfB A' M c' B' M2 d'), (w.heap.size, 38, dfB A N c B M1 d)] ((w.alloc (.cells (dfB A N c B M1 d) 38)).alloc (.cells (dfB A' M c' B' M2 d') 38)) :=
    ((Has.start w).add 38 (dfB A N c B M1 d)).addAt 38 (dfB A' M c' B' M2 d') (by simp)
  by_cases hl : N = M
  · subst hl
    have hq : (((N : Nat) : Int) != (N : Int)) = false := by simp
    go_enter Tryz.func29, Tryz.ntmps29
    go_upto_region 1 with fail
    change Code.wp _ _ _ _ ((w.alloc (.cells (dfB A N c B M1 d) 38)).alloc (.cells (dfB A' N c' B' M2 d') 38))
    generalize (w.alloc (.cells (dfB A N c B M1 d) 38)).alloc (.cells (dfB A' N c' B' M2 d') 38) = W at *
    obtain ⟨q0, q1, -, -, hin⟩ := (H0.box 1).two
    obtain ⟨r0, r1, -, -, hin2⟩ := (H0.box 0).two
    go_upto_region 4 with fail
    clear q0 q1 r0 r1 hin hin2
    go_loopg [5] N (fun gk i wr => ∃ k : Nat, k ≤ N ∧ N - k ≤ gk ∧ i = .int .i64 k ∧ (∀ j x y, j < k → a[j]? = some x → b[j]? = some y → x = y) ∧ Has w [(w.heap.size + 1, 38, dfB A' N c' B' M2 d'), (w.heap.size, 38, dfB A N c B M1 d)] wr)
    case atStart => exact ⟨0, Nat.zero_le _, by omega, rfl, fun j x y hj => absurd hj (Nat.not_lt_zero _), H0⟩
    case round =>
      clear H0
      obtain ⟨k, hk, hgk, rfl, hall, H⟩ := hrel
      have HG := hideIt hgk
      have HA := hideIt hall
      clear hgk hall
      obtain ⟨q0, q1, -, -, hin⟩ := (H.box 1).two
      obtain ⟨r0, r1, -, -, hin2⟩ := (H.box 0).two
      by_cases hlt : k < N
      · obtain ⟨x, hx⟩ : ∃ x, a[k]? = some x := ⟨_, List.getElem?_eq_getElem (by omega)⟩
        obtain ⟨y, hy⟩ : ∃ y, b[k]? = some y := ⟨_, List.getElem?_eq_getElem (by omega)⟩
        have hlti : (k : Int) < (N : Int) := by omega
        obtain ⟨ad, rfl, g1, p0, ⟨p1, p2, p3, p4, p5⟩, p6, p7, p8, p9, p10⟩ := ch_get (h1.on H.below) hx
        obtain ⟨ae, rfl, g2, s0, ⟨s1, s2, s3, s4, s5⟩, s6, s7, s8, s9, s10⟩ := ch_get (h2.on H.below) hy
        have hq1 := run_neq_ch x y
        have hd2 := ChP.same_dec x y
        obtain ⟨t, ht⟩ : ∃ t, x.same y = t := ⟨_, rfl⟩
        rw [ht] at hq1 hd2
        have HX := hideIt hx
        have HY := hideIt hy
        have HD := hideIt hd2
        obtain ⟨xq, ⟨xp, xi, xs, xh, xl⟩, ⟨xp', xi', xs', xh', xl'⟩⟩ := x
        obtain ⟨yq, ⟨yp, yi, ys, yh, yl⟩, ⟨yp', yi', ys', yh', yl'⟩⟩ := y
        simp only [ChP.val] at hq1 p0 p1 p2 p3 p4 p5 p6 p7 p8 p9 p10 s0 s1 s2 s3 s4 s5 s6 s7 s8 s9 s10
        clear hx hy hd2 ht
        cases t with
        | true =>
          go_upto_region 6 with fail
          go_quiet (fail)
          go_wp2
          go_roundg (N - (k + 1))
          case measure => have := HG.out; omega
          case rel => exact ⟨k + 1, by omega, Nat.le_refl _, by go_num, fun j x y hj hx hy => by
            by_cases e : j = k
            · subst e
              rw [HX.out] at hx
              rw [HY.out] at hy
              injection hx with hx
              injection hy with hy
              subst hx hy
              exact of_decide_eq_true HD.out.symm
            · exact HA.out j x y (by omega) hx hy, H.drewN _⟩
        | false =>
          have hno : V = false := by
            rw [← HV.out, decide_eq_false (list_other HX.out HY.out (of_decide_eq_false HD.out.symm)), Bool.false_and]
          subst hno
          go_upto_region 6 with fail
          go_quiet (fail)
          go_wp2
          go_ret
          exact ⟨rfl, (H.drewN _).below⟩
      · have e : k = N := by omega
        subst e
        have hyes : V = b4 := by
          rw [← HV.out, decide_eq_true (list_same (by omega) fun j x y hx hy => HA.out j x y (by have := (List.getElem?_eq_some_iff.1 hx).1; omega) hx hy), Bool.true_and]
        subst hyes
        have RC := h3.on H.below
        have RD := h4.on H.below
        go_wp2_with (first | (go_at_call 49; refine (cM _ RC RD).mono ?_; rintro e v2 ⟨rfl, j2⟩) | fail)
        go_ret
        exact ⟨rfl, (H.call j2).below⟩
  · have hli : ¬ ((N : Int) = (M : Int)) := by omega
    have hq : (((N : Nat) : Int) != (M : Int)) = true := by rw [bne, beq_false_of_ne hli]; rfl
    have hq2 : (((N : Nat) : Int) == (M : Int)) = false := beq_false_of_ne hli
    have hno : V = false := by
      rw [← HV.out, decide_eq_false (fun e => hl (by rw [← hN, ← hM, e])), Bool.false_and]
    subst hno
    go_enter Tryz.func29, Tryz.ntmps29
    go_upto_region 1 with fail
    change Code.wp _ _ _ _ ((w.alloc (.cells (dfB A N c B M1 d) 38)).alloc (.cells (dfB A' M c' B' M2 d') 38))
    generalize (w.alloc (.cells (dfB A N c B M1 d) 38)).alloc (.cells (dfB A' M c' B' M2 d') 38) = W at *
    obtain ⟨q0, q1, -, -, hin⟩ := (H0.box 1).two
    obtain ⟨r0, r1, -, -, hin2⟩ := (H0.box 0).two
    go_wp2
    go_ret
    exact ⟨rfl, H0.below⟩
end Go.Proofs.YtmflhodiibjpnaaGreatDoor
/-
  The guards of layer 13's laws, walked.
-/
namespace Go.Proofs.YtmflhodiibjpnaaGreatDoor
set_option linter.unusedVariables false
set_option linter.unusedSimpArgs false
set_option maxRecDepth 10000
open Go.RowKit

def lngL (x : Lf) : Bool := decide (300 < x.id.size) || decide (300 < x.salt.size)
def lngN (l : List Nd) : Bool := decide (2100 < l.length) || l.any (fun n => decide (40 < n.hash.size))
def lngE (x : EnP) : Bool := lngL x.leaf || lngN x.sides
def lngR (x : RgP) : Bool := lngN x.ins || lngN x.outs
def lngD (x : DfP) : Bool := (decide (2100 < x.chs.length) || lngN x.fr) || x.chs.any (fun c => lngL c.old || lngL c.new)
theorem lngL_no {x : Lf} (h : lngL x = false) : x.id.size ≤ 300 ∧ x.salt.size ≤ 300 := by
  unfold lngL at h
  rw [Bool.or_eq_false_iff] at h
  have h1 := of_decide_eq_false h.1
  have h2 := of_decide_eq_false h.2
  omega
theorem lngN_no {l : List Nd} (h : lngN l = false) : l.length ≤ 2100 ∧ ∀ y ∈ l, y.hash.size ≤ 40 := by
  unfold lngN at h
  rw [Bool.or_eq_false_iff] at h
  have h1 := of_decide_eq_false h.1
  refine ⟨by omega, fun y hy => ?_⟩
  have h2 := h.2
  rw [List.any_eq_false] at h2
  have := h2 y hy
  simp at this
  exact this
theorem lngE_no {x : EnP} (h : lngE x = false) : (x.leaf.id.size ≤ 300 ∧ x.leaf.salt.size ≤ 300) ∧ x.sides.length ≤ 2100 ∧ ∀ y ∈ x.sides, y.hash.size ≤ 40 := by
  unfold lngE at h
  rw [Bool.or_eq_false_iff] at h
  exact ⟨lngL_no h.1, lngN_no h.2⟩
theorem lngR_no {x : RgP} (h : lngR x = false) : (x.ins.length ≤ 2100 ∧ ∀ y ∈ x.ins, y.hash.size ≤ 40) ∧ x.outs.length ≤ 2100 ∧ ∀ y ∈ x.outs, y.hash.size ≤ 40 := by
  unfold lngR at h
  rw [Bool.or_eq_false_iff] at h
  exact ⟨lngN_no h.1, lngN_no h.2⟩
theorem lngD_no {x : DfP} (h : lngD x = false) : (x.chs.length ≤ 2100 ∧ ∀ c ∈ x.chs, (c.old.id.size ≤ 300 ∧ c.old.salt.size ≤ 300) ∧ c.new.id.size ≤ 300 ∧ c.new.salt.size ≤ 300) ∧ x.fr.length ≤ 2100 ∧ ∀ y ∈ x.fr, y.hash.size ≤ 40 := by
  unfold lngD at h
  rw [Bool.or_eq_false_iff, Bool.or_eq_false_iff] at h
  have h1 := of_decide_eq_false h.1.1
  refine ⟨⟨by omega, fun c hc => ?_⟩, lngN_no h.1.2⟩
  have h2 := h.2
  rw [List.any_eq_false] at h2
  have h3 := h2 c hc
  rw [Bool.not_eq_true, Bool.or_eq_false_iff] at h3
  exact ⟨lngL_no h3.1, lngL_no h3.2⟩
set_option maxHeartbeats 1000000 in
theorem lngL_any (x : Lf) (h1 : x.id.size ≤ 9223372036854775807) (h2 : x.salt.size ≤ 9223372036854775807) (w : World) : Calls Tryz.prog 50 #[x.val] w (Tells (.bool (lngL x)) w.heap.size w) := by
  obtain ⟨p, i, s, h, l⟩ := x
  simp only at h1 h2
  have B0 : Box (w.alloc (.cells (lfB p i s h l) 28)) w.heap.size 28 (lfB p i s h l) := Box.made w _ _
  have L0 : Below w.heap.size w (w.alloc (.cells (lfB p i s h l) 28)) := by repeat (first | exact Below.refl _ _ | apply Below.drew | apply below_drewN | refine Below.alloc ?_ (by simp; try omega) _ | refine Below.setCell ?_ (by simp; try omega) _)
  show Calls _ _ #[.agg (lfB p i s h l)] _ _
  obtain ⟨A, hA⟩ : ∃ A, lngL ⟨p, i, s, h, l⟩ = A := ⟨_, rfl⟩
  rw [hA]
  have HA : Hid ((decide (300 < i.size) || decide (300 < s.size)) = A) := hideIt hA
  clear hA
  go_enter Tryz.func50, Tryz.ntmps50
  go_upto_region 1 with fail
  change Code.wp _ _ _ _ (w.alloc (.cells (lfB p i s h l) 28))
  generalize w.alloc (.cells (lfB p i s h l) 28) = W at *
  obtain ⟨⟨y0, y1, y2, y3, y4⟩, -, hin1⟩ := B0.five0
  by_cases a1 : (300 : Int) < (i.size : Int)
  · have e := HA.out
    rw [decide_eq_true (show 300 < i.size by omega), Bool.true_or] at e
    subst e
    go_wp2
    go_ret
    exact ⟨rfl, L0⟩
  · have e := HA.out
    rw [decide_eq_false (show ¬ 300 < i.size by omega), Bool.false_or] at e
    have e2 : decide ((300 : Int) < (s.size : Int)) = A := by rw [← e]; exact decide_eq_decide.2 (by omega)
    clear e HA
    go_wp2
    go_ret
    exact ⟨rfl, L0⟩
set_option maxHeartbeats 2000000 in
theorem lngN_any (A : Option Addr) (c : Nat) (l : List Nd) (hl : l.length ≤ 9223372036854775807) (w : World) (hR : ndS.Row w w.heap.size A l) : Calls Tryz.prog 51 #[.slice A l.length c] w (Plain (.bool (lngN l)) w) := by
  obtain ⟨V, hV⟩ : ∃ V, lngN l = V := ⟨_, rfl⟩
  rw [hV]
  have HV := hideIt hV
  clear hV
  obtain ⟨N, hN⟩ : ∃ N, l.length = N := ⟨_, rfl⟩
  rw [hN]
  by_cases h2 : 2100 < N
  · have h2i : (2100 : Int) < (N : Int) := by omega
    have e := HV.out
    unfold lngN at e
    rw [decide_eq_true (by omega), Bool.true_or] at e
    subst e
    go_enter Tryz.func51, Tryz.ntmps51
    go_wp2
    go_ret
    exact ⟨rfl, rfl⟩
  · have h2i : ¬ ((2100 : Int) < (N : Int)) := by omega
    have e := HV.out
    unfold lngN at e
    rw [decide_eq_false (by omega), Bool.false_or] at e
    have HV2 := hideIt e
    clear e HV
    go_enter Tryz.func51, Tryz.ntmps51
    go_wp2
    go_loopg [3] N (fun gk i wr => ∃ k : Nat, k ≤ N ∧ N - k ≤ gk ∧ i = .int .i64 k ∧ (∀ j x, j < k → l[j]? = some x → x.hash.size ≤ 40) ∧ wr = w)
    case atStart => exact ⟨0, Nat.zero_le _, by omega, rfl, fun j x hj => absurd hj (Nat.not_lt_zero _), rfl⟩
    case round =>
      obtain ⟨k, hk, hgk, rfl, hall, rfl⟩ := hrel
      have HG := hideIt hgk
      have HA := hideIt hall
      clear hgk hall
      by_cases hlt : k < N
      · obtain ⟨x, hx⟩ : ∃ x, l[k]? = some x := ⟨_, List.getElem?_eq_getElem (by omega)⟩
        have hlti : (k : Int) < (N : Int) := by omega
        obtain ⟨ad, hA, hin, p0, -, -⟩ := nd_get hR hx
        subst hA
        have HX := hideIt hx
        clear hx
        by_cases hz : 40 < x.hash.size
        · have hzi : (40 : Int) < (x.hash.size : Int) := by omega
          have e := HV2.out
          rw [List.any_eq_true.2 ⟨x, List.mem_of_getElem? HX.out, decide_eq_true hz⟩] at e
          subst e
          go_wp2
          go_ret
          exact ⟨rfl, rfl⟩
        · have hzi : ¬ ((40 : Int) < (x.hash.size : Int)) := by omega
          go_wp2
          go_roundg (N - (k + 1))
          case measure => have := HG.out; omega
          case rel => exact ⟨k + 1, by omega, Nat.le_refl _, by go_num, fun j y hj hy => by
            by_cases e : j = k
            · subst e
              rw [HX.out] at hy
              injection hy with hy
              subst hy
              omega
            · exact HA.out j y (by omega) hy, rfl⟩
      · have e : k = N := by omega
        subst e
        have e := HV2.out
        rw [List.any_eq_false.2 fun x hx => by
          obtain ⟨i, hi, rfl⟩ := List.getElem_of_mem hx
          have := HA.out i _ (by omega) (List.getElem?_eq_getElem hi)
          simp
          omega] at e
        subst e
        go_wp2
        go_ret
        exact ⟨rfl, rfl⟩
set_option maxHeartbeats 2000000 in
theorem lngE_any (x : EnP) (A : Option Addr) (c : Nat) (h1 : x.leaf.id.size ≤ 9223372036854775807) (h2 : x.leaf.salt.size ≤ 9223372036854775807) (hl : x.sides.length ≤ 9223372036854775807) (w : World) (hR : ndS.Row w w.heap.size A x.sides) :
    Calls Tryz.prog 8 #[.agg (enB x.leaf.pad x.leaf.id x.leaf.salt x.leaf.h x.leaf.l x.pos A x.sides.length c)] w (Tells (.bool (lngE x)) w.heap.size w) := by
  have cL := fun u => lngL_any x.leaf h1 h2 u
  have cN := fun u hu => lngN_any A c x.sides hl u hu
  obtain ⟨V, hV⟩ : ∃ V, lngE x = V := ⟨_, rfl⟩
  rw [hV]
  unfold lngE at hV
  obtain ⟨⟨p, i, s, h, l⟩, q, sd⟩ := x
  simp only [Lf.val] at *
  obtain ⟨b1, e1⟩ : ∃ b, lngL ⟨p, i, s, h, l⟩ = b := ⟨_, rfl⟩
  obtain ⟨b2, e2⟩ : ∃ b, lngN sd = b := ⟨_, rfl⟩
  rw [e1] at cL
  rw [e2] at cN
  rw [e1, e2] at hV
  obtain ⟨N, hN⟩ : ∃ N, sd.length = N := ⟨_, rfl⟩
  rw [hN] at cN ⊢
  have H0 := (Has.start w).add 33 (enB p i s h l q A N c)
  clear e1 e2
  go_enter Tryz.func8, Tryz.ntmps8
  go_upto_region 1 with fail
  change Code.wp _ _ _ _ (w.alloc (.cells (enB p i s h l q A N c) 33))
  generalize w.alloc (.cells (enB p i s h l q A N c) 33) = W at *
  have q0 := (H0.box 0).read 0
  have q1 := (H0.box 0).read 1
  have q2 := (H0.box 0).read 2
  have q3 := (H0.box 0).read 3
  have q4 := (H0.box 0).read 4
  have hin := (H0.box 0).inside
  cases b1 with
  | true =>
    rw [Bool.true_or] at hV
    subst hV
    go_wp2_with (first | (go_at_call 50; refine (cL _).mono ?_; rintro e v1 ⟨rfl, j1⟩) | fail)
    go_ret
    exact ⟨rfl, (H0.call j1).below⟩
  | false =>
    rw [Bool.false_or] at hV
    subst hV
    go_wp2_with (first
      | (go_at_call 50; refine (cL _).mono ?_; rintro e v1 ⟨rfl, j1⟩; have H1 := H0.call j1; have q6 := (H1.box 0).read 6; have hin1 := (H1.box 0).inside; have RA := hR.on H1.below)
      | (go_at_call 51; refine (cN _ RA).mono ?_; rintro e v2 ⟨rfl, rfl⟩)
      | fail)
    go_ret
    exact ⟨rfl, H1.below⟩
set_option maxHeartbeats 2000000 in
theorem lngR_any (x : RgP) (A B : Option Addr) (c d : Nat) (hl : x.ins.length ≤ 9223372036854775807) (gl : x.outs.length ≤ 9223372036854775807) (w : World) (hR : ndS.Row w w.heap.size A x.ins) (hS : ndS.Row w w.heap.size B x.outs) :
    Calls Tryz.prog 9 #[.agg (rgB x.a x.b A x.ins.length c B x.outs.length d)] w (Tells (.bool (lngR x)) w.heap.size w) := by
  have cN := fun u hu => lngN_any A c x.ins hl u hu
  have cM := fun u hu => lngN_any B d x.outs gl u hu
  obtain ⟨V, hV⟩ : ∃ V, lngR x = V := ⟨_, rfl⟩
  rw [hV]
  unfold lngR at hV
  obtain ⟨a, b, ins, outs⟩ := x
  simp only at *
  obtain ⟨b1, e1⟩ : ∃ b, lngN ins = b := ⟨_, rfl⟩
  obtain ⟨b2, e2⟩ : ∃ b, lngN outs = b := ⟨_, rfl⟩
  rw [e1] at cN
  rw [e2] at cM
  rw [e1, e2] at hV
  obtain ⟨N, hN⟩ : ∃ N, ins.length = N := ⟨_, rfl⟩
  obtain ⟨M, hM⟩ : ∃ N, outs.length = N := ⟨_, rfl⟩
  rw [hN] at cN
  rw [hM] at cM
  rw [hN, hM]
  have H0 := (Has.start w).add 35 (rgB a b A N c B M d)
  clear e1 e2
  go_enter Tryz.func9, Tryz.ntmps9
  go_upto_region 1 with fail
  change Code.wp _ _ _ _ (w.alloc (.cells (rgB a b A N c B M d) 35))
  generalize w.alloc (.cells (rgB a b A N c B M d) 35) = W at *
  obtain ⟨⟨q0, q1, q2, q3⟩, hin⟩ := (H0.box 0).four0
  have RA := hR.on H0.below
  have RB := hS.on H0.below
  cases b1 with
  | true =>
    rw [Bool.true_or] at hV
    subst hV
    go_wp2_with (first | (go_at_call 51; (with_reducible refine (cN _ RA).mono ?_); rintro e v2 ⟨rfl, rfl⟩) | fail)
    go_ret
    exact ⟨rfl, H0.below⟩
  | false =>
    rw [Bool.false_or] at hV
    subst hV
    go_wp2_with (first
      | (go_at_call 51; (with_reducible refine (cN _ RA).mono ?_); rintro e v2 ⟨rfl, rfl⟩)
      | (go_at_call 51; (with_reducible refine (cM _ RB).mono ?_); rintro e v2 ⟨rfl, rfl⟩)
      | fail)
    go_ret
    exact ⟨rfl, H0.below⟩
set_option maxRecDepth 20000 in
set_option maxHeartbeats 4000000 in
theorem lngD_any (x : DfP) (A B : Option Addr) (c d : Nat) (hl : x.chs.length ≤ 9223372036854775807) (hc : ∀ y ∈ x.chs, (y.old.id.size ≤ 9223372036854775807 ∧ y.old.salt.size ≤ 9223372036854775807) ∧ y.new.id.size ≤ 9223372036854775807 ∧ y.new.salt.size ≤ 9223372036854775807) (gl : x.fr.length ≤ 9223372036854775807) (w : World) (hR : chS.Row w w.heap.size A x.chs) (hS : ndS.Row w w.heap.size B x.fr) :
    Calls Tryz.prog 10 #[.agg (dfB A x.chs.length c B x.fr.length d)] w (Tells (.bool (lngD x)) w.heap.size w) := by
  have cM := fun u hu => lngN_any B d x.fr gl u hu
  obtain ⟨V, hV⟩ : ∃ V, lngD x = V := ⟨_, rfl⟩
  rw [hV]
  unfold lngD at hV
  obtain ⟨chs, fr⟩ := x
  simp only at *
  obtain ⟨b2, e2⟩ : ∃ b, lngN fr = b := ⟨_, rfl⟩
  rw [e2] at cM hV
  obtain ⟨N, hN⟩ : ∃ N, chs.length = N := ⟨_, rfl⟩
  obtain ⟨M, hM⟩ : ∃ N, fr.length = N := ⟨_, rfl⟩
  rw [hM] at cM
  rw [hN, hM]
  rw [hN] at hV
  have HV := hideIt hV
  have H0 := (Has.start w).add 38 (dfB A N c B M d)
  clear e2 hV
  go_enter Tryz.func10, Tryz.ntmps10
  go_upto_region 1 with fail
  change Code.wp _ _ _ _ (w.alloc (.cells (dfB A N c B M d) 38))
  generalize w.alloc (.cells (dfB A N c B M d) 38) = W at *
  obtain ⟨q0, q1, -, -, hin⟩ := (H0.box 0).two
  have RB := hS.on H0.below
  by_cases h2 : 2100 < N
  · have h2i : (2100 : Int) < (N : Int) := by omega
    have e := HV.out
    rw [decide_eq_true h2, Bool.true_or, Bool.true_or] at e
    subst e
    go_wp2
    go_ret
    exact ⟨rfl, H0.below⟩
  · have h2i : ¬ ((2100 : Int) < (N : Int)) := by omega
    cases b2 with
    | true =>
      have e := HV.out
      rw [Bool.or_true, Bool.true_or] at e
      subst e
      go_wp2_with (first | (go_at_call 51; refine (cM _ RB).mono ?_; rintro e v2 ⟨rfl, rfl⟩) | fail)
      go_ret
      exact ⟨rfl, H0.below⟩
    | false =>
      have e := HV.out
      rw [decide_eq_false h2, Bool.or_false, Bool.false_or] at e
      have HV2 := hideIt e
      clear e HV
      go_upto_region 4 with (first | (go_at_call 51; refine (cM _ RB).mono ?_; rintro e v2 ⟨rfl, rfl⟩) | fail)
      clear q0 q1 hin RB cM
      go_loopg [3] N (fun gk i wr => ∃ k : Nat, k ≤ N ∧ N - k ≤ gk ∧ i = .int .i64 k ∧ (∀ j x, j < k → chs[j]? = some x → lngL x.old = false ∧ lngL x.new = false) ∧ Has w [(w.heap.size, 38, dfB A N c B M d)] wr)
      case atStart => exact ⟨0, Nat.zero_le _, by omega, rfl, fun j x hj => absurd hj (Nat.not_lt_zero _), H0⟩
      case round =>
        clear H0
        obtain ⟨k, hk, hgk, rfl, hall, H⟩ := hrel
        have HG := hideIt hgk
        have HA := hideIt hall
        clear hgk hall
        obtain ⟨q0, q1, -, -, hin⟩ := (H.box 0).two
        by_cases hlt : k < N
        · obtain ⟨x, hx⟩ : ∃ x, chs[k]? = some x := ⟨_, List.getElem?_eq_getElem (by omega)⟩
          have hlti : (k : Int) < (N : Int) := by omega
          obtain ⟨ad, hA, hin2, r0, ⟨r1, r2, r3, r4, r5⟩, r6, r7, r8, r9, r10⟩ := ch_get (hR.on H.below) hx
          subst hA
          have hm := List.mem_of_getElem? hx
          obtain ⟨hz1, hz2⟩ := hc x hm
          have cA := fun u => lngL_any x.old hz1.1 hz1.2 u
          have cB := fun u => lngL_any x.new hz2.1 hz2.2 u
          have hyes : (lngL x.old || lngL x.new) = true → V = true := fun h => by
            rw [← HV2.out]
            exact List.any_eq_true.2 ⟨x, hm, h⟩
          have HY := hideIt hyes
          have HX := hideIt hx
          obtain ⟨m1, hm1⟩ : ∃ m, lngL x.old = m := ⟨_, rfl⟩
          obtain ⟨m2, hm2⟩ : ∃ m, lngL x.new = m := ⟨_, rfl⟩
          rw [hm1] at cA
          rw [hm2] at cB
          have HM1 := hideIt hm1
          have HM2 := hideIt hm2
          have hr2 := fun u hu => ch_get ((hR.on H.below).on (w' := u) hu) hx
          obtain ⟨xq, ⟨p, i, s, h, l⟩, ⟨p', i', s', h', l'⟩⟩ := x
          simp only [Lf.val] at cA cB r0 r1 r2 r3 r4 r5 r6 r7 r8 r9 r10
          clear hyes hx hm hm1 hm2 hz1 hz2 hlt
          cases m1 with
          | true =>
            obtain rfl := HY.out (by rw [HM1.out]; rfl)
            go_wp2_with (first | (go_at_call 50; (with_reducible refine (cA _).mono ?_); rintro e v2 ⟨rfl, j2⟩) | fail)
            go_ret
            exact ⟨rfl, (H.call j2).below⟩
          | false =>
            cases m2 with
            | true =>
              obtain rfl := HY.out (by rw [HM2.out, Bool.or_true])
              go_wp2_with (first
                | (go_at_call 50; (with_reducible refine (cA _).mono ?_); rintro e v2 ⟨rfl, j2⟩; have H2 := H.call j2; obtain ⟨t0, t1, -, -, hin3⟩ := (H2.box 0).two; obtain ⟨ae, hA, hin4, s0, ⟨s1, s2, s3, s4, s5⟩, s6, s7, s8, s9, s10⟩ := hr2 _ j2; cases hA; simp only at s6 s7 s8 s9 s10)
                | (go_at_call 50; (with_reducible refine (cB _).mono ?_); rintro e v3 ⟨rfl, j3⟩)
                | fail)
              go_ret
              exact ⟨rfl, (H2.call j3).below⟩
            | false =>
              go_wp2_with (first
                | (go_at_call 50; (with_reducible refine (cA _).mono ?_); rintro e v2 ⟨rfl, j2⟩; have H2 := H.call j2; obtain ⟨t0, t1, -, -, hin3⟩ := (H2.box 0).two; obtain ⟨ae, hA, hin4, s0, ⟨s1, s2, s3, s4, s5⟩, s6, s7, s8, s9, s10⟩ := hr2 _ j2; cases hA; simp only at s6 s7 s8 s9 s10)
                | (go_at_call 50; (with_reducible refine (cB _).mono ?_); rintro e v3 ⟨rfl, j3⟩)
                | fail)
              go_roundg (N - (k + 1))
              case measure => have := HG.out; omega
              case rel => exact ⟨k + 1, by omega, Nat.le_refl _, by go_num, fun j y hj hy => by
                by_cases e : j = k
                · subst e
                  rw [HX.out] at hy
                  injection hy with hy
                  subst hy
                  exact ⟨HM1.out, HM2.out⟩
                · exact HA.out j y (by omega) hy, H2.call j3⟩
        · have e : k = N := by omega
          subst e
          have e := HV2.out
          rw [List.any_eq_false.2 fun x hx => by
            obtain ⟨i, hi, rfl⟩ := List.getElem_of_mem hx
            obtain ⟨h1, h2⟩ := HA.out i _ (by omega) (List.getElem?_eq_getElem hi)
            simp [h1, h2]] at e
          subst e
          have hlti : ¬ ((k : Int) < (k : Int)) := by omega
          go_wp2
          go_ret
          exact ⟨rfl, H.below⟩
end Go.Proofs.YtmflhodiibjpnaaGreatDoor
/-
  Arguments opened: nodes, leaves, changes, roots, entries, ranges, diffs.
-/
namespace Go.Proofs.YtmflhodiibjpnaaGreatDoor
set_option linter.unusedVariables false
set_option linter.unusedSimpArgs false
set_option maxRecDepth 10000
open Go.ChangeShapes Go.WideShapes Go.ChangeAt Go.RowKit

section
variable {H : Type} {enc : TypeId × Value → H} {W : World}
/-- A slice, wherever it stands, of things that are opened one by one. -/
theorem Sh.slice_in {α : Type} {S : Sh α} {Q : α → Prop} (ts e : TypeId) (und : (Tryz.prog).underlying ts = some (.slice e)) (hC : (Tryz.prog).cellsOf e = S.k)
    (hone : ∀ (fuel : Nat) (cs : List Value) (y : DataW H × List MemPlace), DataW.trod enc Tryz.prog W 0 (fun _ => true) true fuel e cs = some y → ∃ x : α, cs = S.cells x ∧ Q x)
    {fuel : Nat} {v : Value} {y : DataW H × List MemPlace} (hf : DataW.trod enc Tryz.prog W 0 (fun _ => true) true fuel ts [v] = some y) :
    ∃ (A : Option Addr) (c : Nat) (xs : List α), v = .slice A xs.length c ∧ xs.length ≤ 9223372036854775807 ∧ (A = none → c = 0) ∧ (∀ x ∈ xs, Q x) ∧ S.Row W W.heap.size A xs := by
  rcases Go.Deep.open_slice und hf with ⟨hc, -⟩ | ⟨a, len', cap', m, n, D, Pl, hc, hb, hl, hm, hmm, -, hi⟩
  · injection hc with hc
    subst hc
    exact ⟨none, 0, [], rfl, Nat.zero_le _, fun _ => rfl, fun x hx => by simp at hx, fun i x hx => by simp at hx⟩
  · injection hc with hc
    subst hc
    simp only [if_true] at hmm
    have each : ∀ i, i < len' → ∃ x : α, Q x ∧ S.At W (a.add (i * S.k)) x := fun i hil => by
      obtain ⟨cs', hcs, ht⟩ := hi i (by rw [hmm]; omega)
      rw [hC] at hcs
      obtain ⟨_, hcl, hat⟩ := World.cells?_some hcs
      obtain ⟨x, rfl, hx⟩ := hone _ _ _ ht
      refine ⟨x, hx, fun j u hu => ?_⟩
      have hj : j < S.k := by have := (List.getElem?_eq_some_iff.1 hu).1; rw [S.len] at this; exact this
      exact (hat j hj).trans hu
    obtain ⟨xs, hxl, hxp⟩ := gen_choose len' each
    subst hxl
    unfold maxLen at hm
    refine ⟨some a, cap', xs, rfl, by omega, (fun h => nomatch h), fun x hx => ?_, fun i x hx => ?_⟩
    · obtain ⟨i, hi', rfl⟩ := List.getElem_of_mem hx
      exact (hxp i hi').1
    · obtain ⟨hi', e⟩ := List.getElem?_eq_some_iff.1 hx
      obtain ⟨-, h0⟩ := hxp i hi'
      rw [e] at h0
      obtain ⟨v0, hv0⟩ : ∃ v, (S.cells x)[0]? = some v := ⟨_, List.getElem?_eq_getElem (by rw [S.len]; exact S.pos)⟩
      have := World.block_lt_of_cell? _ _ (h0 0 v0 hv0)
      rw [gen_block, gen_block] at this
      exact ⟨a, rfl, this, h0⟩
def Nd.fine (x : Nd) : Prop := x.hash.size ≤ 9223372036854775807 ∧ x.words
def Lf.fine (x : Lf) : Prop := (x.id.size ≤ 9223372036854775807 ∧ x.salt.size ≤ 9223372036854775807) ∧ x.words
def ChP.fine (x : ChP) : Prop := Word x.pos ∧ x.old.fine ∧ x.new.fine
def Lf.list5 (x : Lf) : List Value := [.bool x.pad, .string x.id, .string x.salt, .int .u64 x.h, .int .u64 x.l]
theorem num_cells {fuel : Nat} {cs : List Value} {y : DataW H × List MemPlace} (hh : DataW.trod enc Tryz.prog W 0 (fun _ => true) true fuel 22 cs = some y) : ∃ n : Int, cs = [.int .u64 n] ∧ Word n := by
  obtain ⟨h, eh, -, wh⟩ := DataW.trod_int Tryz.underlying22 hh
  exact ⟨h, eh, word_of wh⟩
theorem wide_cells {fuel : Nat} {cs : List Value} {y : DataW H × List MemPlace} (hh : DataW.trod enc Tryz.prog W 0 (fun _ => true) true fuel 24 cs = some y) : ∃ h l : Int, cs = [.int .u64 h, .int .u64 l] ∧ Word h ∧ Word l := by
  obtain ⟨y0, y1, n, -, hl, t0, t1⟩ := trod_struct2 Tryz.underlying24 hh
  have h3 : cs.length = 2 := hl.trans (show Tryz.prog.cellsOf 24 = 2 by kernel_rfl)
  obtain ⟨c0, c1, rfl⟩ : ∃ c0 c1, cs = [c0, c1] := by
    match cs, h3 with
    | [c0, c1], _ => exact ⟨c0, c1, rfl⟩
  have o0 : Tryz.prog.cellsOf 22 = 1 := by kernel_rfl
  have t0' : DataW.trod enc Tryz.prog W 0 (fun _ => true) true n 22 [c0] = some y0 := by simpa [o0] using t0
  have t1' : DataW.trod enc Tryz.prog W 0 (fun _ => true) true n 22 [c1] = some y1 := by simpa [o0] using t1
  obtain ⟨h, e1, w1⟩ := num_cells t0'
  obtain ⟨l, e2, w2⟩ := num_cells t1'
  injection e1 with e1
  injection e2 with e2
  exact ⟨h, l, by rw [e1, e2], w1, w2⟩
theorem nd_cells {fuel : Nat} {cs : List Value} {y : DataW H × List MemPlace} (hh : DataW.trod enc Tryz.prog W 0 (fun _ => true) true fuel 143 cs = some y) : ∃ x : Nd, cs = ndS.cells x ∧ x.fine := by
  obtain ⟨y0, y1, n, -, hl, t0, t1⟩ := trod_struct2 Tryz.underlying143 hh
  have h3 : cs.length = 3 := hl.trans (show Tryz.prog.cellsOf 143 = 3 by kernel_rfl)
  obtain ⟨c0, c1, c2, rfl⟩ : ∃ c0 c1 c2, cs = [c0, c1, c2] := by
    match cs, h3 with
    | [c0, c1, c2], _ => exact ⟨c0, c1, c2, rfl⟩
  have o1 : Tryz.prog.cellsOf 24 = 2 := by kernel_rfl
  have o3 : Tryz.prog.cellsOf 9 = 1 := by kernel_rfl
  have t0' : DataW.trod enc Tryz.prog W 0 (fun _ => true) true n 9 [c0] = some y0 := by simpa [o3] using t0
  have t1' : DataW.trod enc Tryz.prog W 0 (fun _ => true) true n 24 [c1, c2] = some y1 := by simpa [o1] using t1
  obtain ⟨s, es, -, ws⟩ := DataW.trod_string Tryz.underlying9 t0'
  obtain ⟨h, l, e2, w1, w2⟩ := wide_cells t1'
  injection es with es
  injection e2 with e2 e3
  injection e3 with e3
  exact ⟨⟨s, h, l⟩, by rw [es, e2, e3]; rfl, ws, w1, w2⟩
theorem lf_cells {fuel : Nat} {cs : List Value} {y : DataW H × List MemPlace} (hh : DataW.trod enc Tryz.prog W 0 (fun _ => true) true fuel 28 cs = some y) : ∃ x : Lf, cs = x.list5 ∧ x.fine := by
  obtain ⟨y0, y1, y2, y3, n, -, hl, t0, t1, t2, t3⟩ := Go.Joins.trod_struct4 Tryz.underlying28 hh
  have h3 : cs.length = 5 := hl.trans (show Tryz.prog.cellsOf 28 = 5 by kernel_rfl)
  obtain ⟨c0, c1, c2, c3, c4, rfl⟩ : ∃ c0 c1 c2 c3 c4, cs = [c0, c1, c2, c3, c4] := by
    match cs, h3 with
    | [c0, c1, c2, c3, c4], _ => exact ⟨c0, c1, c2, c3, c4, rfl⟩
  have o1 : Tryz.prog.cellsOf 24 = 2 := by kernel_rfl
  have o2 : Tryz.prog.cellsOf 4 = 1 := by kernel_rfl
  have o3 : Tryz.prog.cellsOf 9 = 1 := by kernel_rfl
  have t0' : DataW.trod enc Tryz.prog W 0 (fun _ => true) true n 4 [c0] = some y0 := by simpa [o2] using t0
  have t1' : DataW.trod enc Tryz.prog W 0 (fun _ => true) true n 9 [c1] = some y1 := by simpa [o3] using t1
  have t2' : DataW.trod enc Tryz.prog W 0 (fun _ => true) true n 9 [c2] = some y2 := by simpa [o3] using t2
  have t3' : DataW.trod enc Tryz.prog W 0 (fun _ => true) true n 24 [c3, c4] = some y3 := by simpa [o1] using t3
  obtain ⟨b, eb, -⟩ := DataW.trod_bool Tryz.underlying4 t0'
  obtain ⟨i, ei, -, wi⟩ := DataW.trod_string Tryz.underlying9 t1'
  obtain ⟨s, es, -, ws⟩ := DataW.trod_string Tryz.underlying9 t2'
  obtain ⟨h, l, e2, w1, w2⟩ := wide_cells t3'
  injection eb with eb
  injection ei with ei
  injection es with es
  injection e2 with e2 e3
  injection e3 with e3
  exact ⟨⟨b, i, s, h, l⟩, by rw [eb, ei, es, e2, e3]; rfl, ⟨wi, ws⟩, w1, w2⟩
theorem ch_cells {fuel : Nat} {cs : List Value} {y : DataW H × List MemPlace} (hh : DataW.trod enc Tryz.prog W 0 (fun _ => true) true fuel 103 cs = some y) : ∃ x : ChP, cs = chS.cells x ∧ x.fine := by
  obtain ⟨y0, y1, y2, n, -, hl, t0, t1, t2⟩ := Go.Deep.trod_struct3 Tryz.underlying103 hh
  have h3 : cs.length = 11 := hl.trans (show Tryz.prog.cellsOf 103 = 11 by kernel_rfl)
  obtain ⟨c0, c1, c2, c3, c4, c5, c6, c7, c8, c9, c10, rfl⟩ : ∃ c0 c1 c2 c3 c4 c5 c6 c7 c8 c9 c10, cs = [c0, c1, c2, c3, c4, c5, c6, c7, c8, c9, c10] := by
    match cs, h3 with
    | [c0, c1, c2, c3, c4, c5, c6, c7, c8, c9, c10], _ => exact ⟨c0, c1, c2, c3, c4, c5, c6, c7, c8, c9, c10, rfl⟩
  have o0 : Tryz.prog.cellsOf 22 = 1 := by kernel_rfl
  have o1 : Tryz.prog.cellsOf 28 = 5 := by kernel_rfl
  have t0' : DataW.trod enc Tryz.prog W 0 (fun _ => true) true n 22 [c0] = some y0 := by simpa [o0] using t0
  have t1' : DataW.trod enc Tryz.prog W 0 (fun _ => true) true n 28 [c1, c2, c3, c4, c5] = some y1 := by simpa [o1] using t1
  have t2' : DataW.trod enc Tryz.prog W 0 (fun _ => true) true n 28 [c6, c7, c8, c9, c10] = some y2 := by simpa [o1] using t2
  obtain ⟨q, e0, w0⟩ := num_cells t0'
  obtain ⟨x1, e1, w1⟩ := lf_cells t1'
  obtain ⟨x2, e2, w2⟩ := lf_cells t2'
  refine ⟨⟨q, x1, x2⟩, ?_, w0, w1, w2⟩
  have e : [c0, c1, c2, c3, c4, c5, c6, c7, c8, c9, c10] = [c0] ++ [c1, c2, c3, c4, c5] ++ [c6, c7, c8, c9, c10] := rfl
  rw [e, e0, e1, e2]
  rfl
theorem nds_in {fuel : Nat} {v : Value} {y : DataW H × List MemPlace} (hf : DataW.trod enc Tryz.prog W 0 (fun _ => true) true fuel 29 [v] = some y) :
    ∃ (A : Option Addr) (c : Nat) (xs : List Nd), v = .slice A xs.length c ∧ xs.length ≤ 9223372036854775807 ∧ (A = none → c = 0) ∧ (∀ x ∈ xs, x.fine) ∧ ndS.Row W W.heap.size A xs :=
  Sh.slice_in (S := ndS) 29 143 Tryz.underlying29 (show Tryz.prog.cellsOf 143 = 3 by kernel_rfl) (fun _ _ _ h => nd_cells h) hf
end
theorem open_root {H : Type} {enc : TypeId × Value → H} {W : World} {base : Nat} {v : Value} {d : DataW H} {p : List MemPlace} (hval : Value.okWide Tryz.prog W .any base 26 v)
    (h : DataW.Trod enc Tryz.prog W 0 (fun _ => true) true 26 v d p) : ∃ x : RtP, v = x.val ∧ x.hash.size ≤ 9223372036854775807 ∧ (Word x.h ∧ Word x.l) ∧ -9223372036854775808 ≤ x.n ∧ x.n < 9223372036854775808 := by
  obtain ⟨cs, rfl, hsz⟩ := okWide_struct Tryz.underlying26 hval
  obtain ⟨fuel, hf⟩ := h
  obtain ⟨y0, y1, y2, n, -, hl, t0, t1, t2⟩ := Go.Deep.trod_struct3 Tryz.underlying26 hf
  have h4 : cs.toList.length = 4 := hl.trans (show Tryz.prog.cellsOf 26 = 4 by kernel_rfl)
  obtain ⟨c0, c1, c2, c3, hc⟩ : ∃ c0 c1 c2 c3, cs.toList = [c0, c1, c2, c3] := by
    match cs.toList, h4 with
    | [c0, c1, c2, c3], _ => exact ⟨c0, c1, c2, c3, rfl⟩
  have hcs : cs = #[c0, c1, c2, c3] := Array.ext' hc
  subst hcs
  have o0 : Tryz.prog.cellsOf 3 = 1 := by kernel_rfl
  have o1 : Tryz.prog.cellsOf 24 = 2 := by kernel_rfl
  have o3 : Tryz.prog.cellsOf 9 = 1 := by kernel_rfl
  have t0' : DataW.trod enc Tryz.prog W 0 (fun _ => true) true n 9 [c0] = some y0 := by simpa [Value.cells, o3] using t0
  have t1' : DataW.trod enc Tryz.prog W 0 (fun _ => true) true n 24 [c1, c2] = some y1 := by simpa [Value.cells, o1] using t1
  have t2' : DataW.trod enc Tryz.prog W 0 (fun _ => true) true n 3 [c3] = some y2 := by simpa [Value.cells, o0] using t2
  obtain ⟨s, es, -, ws⟩ := DataW.trod_string Tryz.underlying9 t0'
  obtain ⟨h, l, e2, w1, w2⟩ := wide_cells t1'
  obtain ⟨m, em, -, wm⟩ := DataW.trod_int Tryz.underlying3 t2'
  injection es with es
  injection e2 with e2 e3
  injection e3 with e3
  injection em with em
  subst es e2 e3 em
  refine ⟨⟨s, h, l, m⟩, rfl, ws, ⟨w1, w2⟩, ?_⟩
  simp [Lit.wf, IntKind.min, IntKind.max, IntKind.signed, IntKind.bits] at wm
  simp only
  omega
theorem open_entry {H : Type} {enc : TypeId × Value → H} {W : World} {base : Nat} {v : Value} {d : DataW H} {p : List MemPlace} (hval : Value.okWide Tryz.prog W .any base 33 v)
    (h : DataW.Trod enc Tryz.prog W 0 (fun _ => true) true 33 v d p) : ∃ (x : EnP) (A : Option Addr) (c : Nat), v = .agg (enB x.leaf.pad x.leaf.id x.leaf.salt x.leaf.h x.leaf.l x.pos A x.sides.length c) ∧ x.leaf.fine ∧ Word x.pos ∧ x.sides.length ≤ 9223372036854775807 ∧ (A = none → c = 0) ∧ (∀ y ∈ x.sides, y.fine) ∧ ndS.Row W W.heap.size A x.sides := by
  obtain ⟨cs, rfl, hsz⟩ := okWide_struct Tryz.underlying33 hval
  obtain ⟨fuel, hf⟩ := h
  obtain ⟨y0, y1, n, -, hl, t0, t1⟩ := trod_struct2 Tryz.underlying33 hf
  have h4 : cs.toList.length = 7 := hl.trans (show Tryz.prog.cellsOf 33 = 7 by kernel_rfl)
  obtain ⟨c0, c1, c2, c3, c4, c5, c6, hc⟩ : ∃ c0 c1 c2 c3 c4 c5 c6, cs.toList = [c0, c1, c2, c3, c4, c5, c6] := by
    match cs.toList, h4 with
    | [c0, c1, c2, c3, c4, c5, c6], _ => exact ⟨c0, c1, c2, c3, c4, c5, c6, rfl⟩
  have hcs : cs = #[c0, c1, c2, c3, c4, c5, c6] := Array.ext' hc
  subst hcs
  have o0 : Tryz.prog.cellsOf 22 = 1 := by kernel_rfl
  have o1 : Tryz.prog.cellsOf 28 = 5 := by kernel_rfl
  have o2 : Tryz.prog.cellsOf 31 = 2 := by kernel_rfl
  have o3 : Tryz.prog.cellsOf 29 = 1 := by kernel_rfl
  have t0' : DataW.trod enc Tryz.prog W 0 (fun _ => true) true n 28 [c0, c1, c2, c3, c4] = some y0 := by simpa [Value.cells, o1] using t0
  have t1' : DataW.trod enc Tryz.prog W 0 (fun _ => true) true n 31 [c5, c6] = some y1 := by simpa [Value.cells, o2] using t1
  obtain ⟨z0, z1, k, -, -, s0, s1⟩ := trod_struct2 Tryz.underlying31 t1'
  have s0' : DataW.trod enc Tryz.prog W 0 (fun _ => true) true k 22 [c5] = some z0 := by simpa [o0] using s0
  have s1' : DataW.trod enc Tryz.prog W 0 (fun _ => true) true k 29 [c6] = some z1 := by simpa [o3] using s1
  obtain ⟨x, e0, w0⟩ := lf_cells t0'
  obtain ⟨q, e1, w1⟩ := num_cells s0'
  obtain ⟨A, c, xs, rfl, w2, w3, w4, w5⟩ := nds_in s1'
  unfold Lf.list5 at e0
  injection e0 with e0 f0
  injection f0 with f0 f1
  injection f1 with f1 f2
  injection f2 with f2 f3
  injection f3 with f3 f4
  injection e1 with e1
  subst e0 f0 f1 f2 f3 e1
  exact ⟨⟨x, q, xs⟩, A, c, rfl, w0, w1, w2, w3, w4, w5⟩
theorem open_range {H : Type} {enc : TypeId × Value → H} {W : World} {base : Nat} {v : Value} {d : DataW H} {p : List MemPlace} (hval : Value.okWide Tryz.prog W .any base 35 v)
    (h : DataW.Trod enc Tryz.prog W 0 (fun _ => true) true 35 v d p) : ∃ (x : RgP) (A : Option Addr) (c : Nat) (B : Option Addr) (d : Nat), v = .agg (rgB x.a x.b A x.ins.length c B x.outs.length d) ∧ (Word x.a ∧ Word x.b) ∧ (x.ins.length ≤ 9223372036854775807 ∧ (A = none → c = 0) ∧ (∀ y ∈ x.ins, y.fine) ∧ ndS.Row W W.heap.size A x.ins) ∧
      x.outs.length ≤ 9223372036854775807 ∧ (B = none → d = 0) ∧ (∀ y ∈ x.outs, y.fine) ∧ ndS.Row W W.heap.size B x.outs := by
  obtain ⟨cs, rfl, hsz⟩ := okWide_struct Tryz.underlying35 hval
  obtain ⟨fuel, hf⟩ := h
  obtain ⟨y0, y1, y2, y3, n, -, hl, t0, t1, t2, t3⟩ := Go.Joins.trod_struct4 Tryz.underlying35 hf
  have h4 : cs.toList.length = 4 := hl.trans (show Tryz.prog.cellsOf 35 = 4 by kernel_rfl)
  obtain ⟨c0, c1, c2, c3, hc⟩ : ∃ c0 c1 c2 c3, cs.toList = [c0, c1, c2, c3] := by
    match cs.toList, h4 with
    | [c0, c1, c2, c3], _ => exact ⟨c0, c1, c2, c3, rfl⟩
  have hcs : cs = #[c0, c1, c2, c3] := Array.ext' hc
  subst hcs
  have o0 : Tryz.prog.cellsOf 22 = 1 := by kernel_rfl
  have o3 : Tryz.prog.cellsOf 29 = 1 := by kernel_rfl
  have t0' : DataW.trod enc Tryz.prog W 0 (fun _ => true) true n 22 [c0] = some y0 := by simpa [Value.cells, o0] using t0
  have t1' : DataW.trod enc Tryz.prog W 0 (fun _ => true) true n 22 [c1] = some y1 := by simpa [Value.cells, o0] using t1
  have t2' : DataW.trod enc Tryz.prog W 0 (fun _ => true) true n 29 [c2] = some y2 := by simpa [Value.cells, o3] using t2
  have t3' : DataW.trod enc Tryz.prog W 0 (fun _ => true) true n 29 [c3] = some y3 := by simpa [Value.cells, o3] using t3
  obtain ⟨a, e0, w0⟩ := num_cells t0'
  obtain ⟨b, e1, w1⟩ := num_cells t1'
  obtain ⟨A, c, xs, rfl, u2, u3, u4, u5⟩ := nds_in t2'
  obtain ⟨B, d, ys, rfl, v2, v3, v4, v5⟩ := nds_in t3'
  injection e0 with e0
  injection e1 with e1
  subst e0 e1
  exact ⟨⟨a, b, xs, ys⟩, A, c, B, d, rfl, ⟨w0, w1⟩, ⟨u2, u3, u4, u5⟩, v2, v3, v4, v5⟩
theorem open_diff {H : Type} {enc : TypeId × Value → H} {W : World} {base : Nat} {v : Value} {d : DataW H} {p : List MemPlace} (hval : Value.okWide Tryz.prog W .any base 38 v)
    (h : DataW.Trod enc Tryz.prog W 0 (fun _ => true) true 38 v d p) : ∃ (x : DfP) (A : Option Addr) (c : Nat) (B : Option Addr) (d : Nat), v = .agg (dfB A x.chs.length c B x.fr.length d) ∧ (x.chs.length ≤ 9223372036854775807 ∧ (A = none → c = 0) ∧ (∀ y ∈ x.chs, y.fine) ∧ chS.Row W W.heap.size A x.chs) ∧
      x.fr.length ≤ 9223372036854775807 ∧ (B = none → d = 0) ∧ (∀ y ∈ x.fr, y.fine) ∧ ndS.Row W W.heap.size B x.fr := by
  obtain ⟨cs, rfl, hsz⟩ := okWide_struct Tryz.underlying38 hval
  obtain ⟨fuel, hf⟩ := h
  obtain ⟨y0, y1, n, -, hl, t0, t1⟩ := trod_struct2 Tryz.underlying38 hf
  have h4 : cs.toList.length = 2 := hl.trans (show Tryz.prog.cellsOf 38 = 2 by kernel_rfl)
  obtain ⟨c0, c1, hc⟩ : ∃ c0 c1, cs.toList = [c0, c1] := by
    match cs.toList, h4 with
    | [c0, c1], _ => exact ⟨c0, c1, rfl⟩
  have hcs : cs = #[c0, c1] := Array.ext' hc
  subst hcs
  have o3 : Tryz.prog.cellsOf 29 = 1 := by kernel_rfl
  have o4 : Tryz.prog.cellsOf 36 = 1 := by kernel_rfl
  have t0' : DataW.trod enc Tryz.prog W 0 (fun _ => true) true n 36 [c0] = some y0 := by simpa [Value.cells, o4] using t0
  have t1' : DataW.trod enc Tryz.prog W 0 (fun _ => true) true n 29 [c1] = some y1 := by simpa [Value.cells, o3] using t1
  obtain ⟨A, c, xs, rfl, u2, u3, u4, u5⟩ := Sh.slice_in (S := chS) (Q := ChP.fine) 36 103 Tryz.underlying36 (show Tryz.prog.cellsOf 103 = 11 by kernel_rfl) (fun _ _ _ h => ch_cells h) t0'
  obtain ⟨B, d, ys, rfl, v2, v3, v4, v5⟩ := nds_in t1'
  exact ⟨⟨xs, ys⟩, A, c, B, d, rfl, ⟨u2, u3, u4, u5⟩, v2, v3, v4, v5⟩
end Go.Proofs.YtmflhodiibjpnaaGreatDoor
