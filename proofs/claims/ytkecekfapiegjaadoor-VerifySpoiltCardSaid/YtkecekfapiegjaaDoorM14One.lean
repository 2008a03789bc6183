/- Several of my texts, laid as one. -/
import Derived.Test.YtkecekfapiegjaaDoorM7Wrd
import Derived.Test.YtkecekfapiegjaaDoorM13Nod
import Derived.Test.YtkecekfapiegjaaDoorM14Pln
/-
  tag.MayWidth, walked.
-/
namespace Go.Proofs.YtkecekfapiegjaaDoor
set_option linter.unusedVariables false
set_option linter.unusedSimpArgs false
set_option maxRecDepth 10000
open Go.RowKit

set_option maxHeartbeats 1000000 in
theorem mayWidth_any (n : Int) (w : World) : Calls Tryd.prog 51 #[.int .i64 n] w (Plain (.bool (mayW n)) w) := by
  unfold mayW
  by_cases h1 : 1 ≤ n
  · obtain ⟨A, hA⟩ : ∃ A, decide (1 ≤ n ∧ n ≤ 32) = A := ⟨_, rfl⟩
    have e : decide (n ≤ 32) = A := by rw [← hA]; exact decide_eq_decide.2 ⟨fun h => ⟨h1, h⟩, fun h => h.2⟩
    rw [hA]
    clear hA
    go_enter Tryd.func51, Tryd.ntmps51
    go_wp2
    go_ret
    exact ⟨rfl, rfl⟩
  · rw [decide_eq_false (show ¬ (1 ≤ n ∧ n ≤ 32) from fun h => h1 h.1)]
    go_enter Tryd.func51, Tryd.ntmps51
    go_wp2
    go_ret
    exact ⟨rfl, rfl⟩
end Go.Proofs.YtkecekfapiegjaaDoor
/-
  Package node's Of, walked.
-/
namespace Go.Proofs.YtkecekfapiegjaaDoor
set_option linter.unusedVariables false
set_option linter.unusedSimpArgs false
set_option maxRecDepth 10000
open Go.RowKit

theorem Nd.of_size (n : Int) (s : ByteArray) (h l : Int) : Nd.of n ⟨s, h, l⟩ = (mayW n && ((s.size : Int) == n)) := by
  unfold Nd.of
  congr 1
set_option maxHeartbeats 1000000 in
theorem of14_any (n : Int) (x : Nd) (w : World) : Calls Tryd.prog 100 #[.int .i64 n, x.val] w (Tells (.bool (x.of n)) w.heap.size w) := by
  have cW := fun u => mayWidth_any n u
  obtain ⟨s, h, l⟩ := x
  rw [Nd.of_size]
  show Calls _ _ #[.int .i64 n, .agg #[.string s, .int .u64 h, .int .u64 l]] _ _
  obtain ⟨A, hA⟩ : ∃ A, ((s.size : Int) == n) = A := ⟨_, rfl⟩
  cases hw : mayW n with
  | true =>
    rw [hw] at cW
    rw [hA, Bool.true_and]
    go_enter Tryd.func100, Tryd.ntmps100
    go_wp2_with (first | (go_at_call 51; refine (cW _).mono ?_; rintro e w' ⟨rfl, rfl⟩) | fail)
    go_ret
    exact ⟨rfl, by repeat (first | exact Below.refl _ _ | apply Below.drew | apply below_drewN | refine Below.alloc ?_ (by simp; try omega) _ | refine Below.setCell ?_ (by simp; try omega) _)⟩
  | false =>
    rw [hw] at cW
    rw [Bool.false_and]
    go_enter Tryd.func100, Tryd.ntmps100
    go_wp2_with (first | (go_at_call 51; refine (cW _).mono ?_; rintro e w' ⟨rfl, rfl⟩) | fail)
    go_ret
    exact ⟨rfl, by repeat (first | exact Below.refl _ _ | apply Below.drew | apply below_drewN | refine Below.alloc ?_ (by simp; try omega) _ | refine Below.setCell ?_ (by simp; try omega) _)⟩
end Go.Proofs.YtkecekfapiegjaaDoor
/-
  paymasterref14's Of, walked.
-/
namespace Go.Proofs.YtkecekfapiegjaaDoor
set_option linter.unusedVariables false
set_option linter.unusedSimpArgs false
set_option maxRecDepth 10000
open Go.RowKit

set_option maxHeartbeats 1000000 in
theorem rof14_any (n : Int) (x : Nd) (w : World) : Calls Tryd.prog 60 #[.int .i64 n, x.val] w (Tells (.bool (x.of n)) w.heap.size w) := by
  obtain ⟨s, h, l⟩ := x
  show Calls _ _ #[.int .i64 n, .agg #[.string s, .int .u64 h, .int .u64 l]] _ _
  unfold Nd.of mayW
  by_cases h1 : 1 ≤ n
  · by_cases h2 : n ≤ 32
    · obtain ⟨A, hA⟩ : ∃ A, ((s.size : Int) == n) = A := ⟨_, rfl⟩
      have e : (decide (1 ≤ n ∧ n ≤ 32) && decide (((Nd.mk s h l).hash.size : Int) = n)) = A := by
        rw [decide_eq_true (⟨h1, h2⟩ : 1 ≤ n ∧ n ≤ 32), Bool.true_and, ← hA]; rfl
      rw [e]
      clear e
      go_enter Tryd.func60, Tryd.ntmps60
      go_wp2
      go_ret
      exact ⟨rfl, by repeat (first | exact Below.refl _ _ | apply Below.drew | apply below_drewN | refine Below.alloc ?_ (by simp; try omega) _ | refine Below.setCell ?_ (by simp; try omega) _)⟩
    · rw [decide_eq_false (show ¬ (1 ≤ n ∧ n ≤ 32) from fun h => h2 h.2), Bool.false_and]
      go_enter Tryd.func60, Tryd.ntmps60
      go_wp2
      go_ret
      exact ⟨rfl, by repeat (first | exact Below.refl _ _ | apply Below.drew | apply below_drewN | refine Below.alloc ?_ (by simp; try omega) _ | refine Below.setCell ?_ (by simp; try omega) _)⟩
  · rw [decide_eq_false (show ¬ (1 ≤ n ∧ n ≤ 32) from fun h => h1 h.1), Bool.false_and]
    go_enter Tryd.func60, Tryd.ntmps60
    go_wp2
    go_ret
    exact ⟨rfl, by repeat (first | exact Below.refl _ _ | apply Below.drew | apply below_drewN | refine Below.alloc ?_ (by simp; try omega) _ | refine Below.setCell ?_ (by simp; try omega) _)⟩
end Go.Proofs.YtkecekfapiegjaaDoor
/-
  slices.Equal at nodes, walked.
-/
namespace Go.Proofs.YtkecekfapiegjaaDoor
set_option linter.unusedVariables false
set_option linter.unusedSimpArgs false
set_option maxRecDepth 10000
open Go.RowKit

set_option maxRecDepth 100000 in
set_option maxHeartbeats 2000000 in
theorem eqN_any (A B : Option Addr) (c d : Nat) (a b : List Nd) (ha : a.length ≤ 1000000000) (hb : b.length ≤ 1000000000) (w : World) (h1 : ndS.Row w w.heap.size A a) (h2 : ndS.Row w w.heap.size B b) :
    Calls Tryd.prog 48 #[.slice A a.length c, .slice B b.length d] w (Tells (.bool (decide (a = b))) w.heap.size w) := by
  obtain ⟨V, hV⟩ : ∃ V, decide (a = b) = V := ⟨_, rfl⟩
  rw [hV]
  have HV := hideIt hV
  clear hV
  obtain ⟨N, hN⟩ : ∃ N, a.length = N := ⟨_, rfl⟩
  obtain ⟨M, hM⟩ : ∃ M, b.length = M := ⟨_, rfl⟩
  rw [hN, hM]
  by_cases hl : N = M
  · subst hl
    have hq : (((N : Nat) : Int) != (N : Int)) = false := by simp
    go_enter Tryd.func48, Tryd.ntmps48
    go_wp2
    go_loopg [13] N (fun gk i wr => ∃ k : Nat, k ≤ N ∧ N - k ≤ gk ∧ i = .int .i64 k ∧ (∀ j x y, j < k → a[j]? = some x → b[j]? = some y → x = y) ∧ Below w.heap.size w wr)
    case atStart => exact ⟨0, Nat.zero_le _, by omega, rfl, fun j x y hj => absurd hj (Nat.not_lt_zero _), Below.refl _ _⟩
    case round =>
      obtain ⟨k, hk, hgk, rfl, hall, hb3⟩ := hrel
      have HG := hideIt hgk
      have HA := hideIt hall
      clear hgk hall
      by_cases hlt : k < N
      · obtain ⟨x, hx⟩ : ∃ x, a[k]? = some x := ⟨_, List.getElem?_eq_getElem (by omega)⟩
        obtain ⟨y, hy⟩ : ∃ y, b[k]? = some y := ⟨_, List.getElem?_eq_getElem (by omega)⟩
        have hlti : (k : Int) < (N : Int) := by omega
        obtain ⟨ad, rfl, g1, p0, p1, p2⟩ := nd_get (h1.on hb3) hx
        obtain ⟨ae, rfl, g2, q0, q1, q2⟩ := nd_get (h2.on hb3) hy
        have hq1 := run_neq_nd x y
        have hd := Nd.same_dec x y
        obtain ⟨t, ht⟩ : ∃ t, x.same y = t := ⟨_, rfl⟩
        rw [ht] at hq1 hd
        have HX := hideIt hx
        have HY := hideIt hy
        have HD := hideIt hd
        obtain ⟨xs, xh, xl⟩ := x
        obtain ⟨ys, yh, yl⟩ := y
        simp only [Nd.val] at hq1 p0 p1 p2 q0 q1 q2
        clear hx hy hd ht
        cases t with
        | true =>
          go_upto_region 6 with fail
          go_quiet (fail)
          go_wp2
          go_roundg (N - (k + 1))
          case measure => have := HG.out; omega
          case rel => exact ⟨k + 1, by omega, Nat.le_refl _, by go_num, fun j x y hj hx hy => by
            by_cases e : j = k
            · subst e
              rw [HX.out] at hx
              rw [HY.out] at hy
              injection hx with hx
              injection hy with hy
              subst hx hy
              exact of_decide_eq_true HD.out.symm
            · exact HA.out j x y (by omega) hx hy, below_drewN hb3 _⟩
        | false =>
          have hno : V = false := by
            rw [← HV.out]
            exact decide_eq_false (list_other HX.out HY.out (of_decide_eq_false HD.out.symm))
          subst hno
          go_upto_region 6 with fail
          go_quiet (fail)
          go_wp2
          go_ret
          exact ⟨rfl, below_drewN hb3 _⟩
      · have e : k = N := by omega
        subst e
        have hyes : V = true := by
          rw [← HV.out]
          refine decide_eq_true (list_same (by omega) fun j x y hx hy => HA.out j x y ?_ hx hy)
          have := (List.getElem?_eq_some_iff.1 hx).1
          omega
        subst hyes
        go_wp2
        go_ret
        exact ⟨rfl, hb3⟩
  · have hli : ¬ ((N : Int) = (M : Int)) := by omega
    have hq : (((N : Nat) : Int) != (M : Int)) = true := by rw [bne, beq_false_of_ne hli]; rfl
    have hq2 : (((N : Nat) : Int) == (M : Int)) = false := beq_false_of_ne hli
    have hno : V = false := by
      rw [← HV.out]
      refine decide_eq_false fun e => hl ?_
      rw [← hN, ← hM, e]
    subst hno
    go_enter Tryd.func48, Tryd.ntmps48
    go_wp2
    go_ret
    exact ⟨rfl, Below.refl _ _⟩
end Go.Proofs.YtkecekfapiegjaaDoor
