/- Several of my texts, laid as one. -/
import Derived.Test.YtkecekfapiegjaaDoorM13Nod
import Derived.Test.YtkecekfapiegjaaDoorM14Pln
import Derived.Test.YtkecekfapiegjaaDoorM14One
import Derived.Test.YtkecekfapiegjaaDoorM7Rn
import Derived.Test.YtkecekfapiegjaaDoorM1Ref
import Derived.Test.YtkecekfapiegjaaDoorM14W
/-
  paymasterref14's Same, Of, all, walked.
-/
namespace Go.Proofs.YtkecekfapiegjaaDoor
set_option linter.unusedVariables false
set_option linter.unusedSimpArgs false
set_option maxRecDepth 10000
open Go.RowKit

set_option maxHeartbeats 2000000 in
theorem rall14_any (n : Int) (A : Option Addr) (c : Nat) (l : List Nd) (hl : l.length ≤ 1000000000) (w : World) (h : ndS.Row w w.heap.size A l) :
    Calls Tryd.prog 62 #[.int .i64 n, .slice A l.length c] w (Tells (.bool (allW n l)) w.heap.size w) := by
  have eV : allW n l = (mayW n && l.all (Nd.of n)) := rfl
  obtain ⟨V, hV⟩ : ∃ V, allW n l = V := ⟨_, rfl⟩
  rw [hV] at eV ⊢
  have HV := hideIt eV
  clear eV hV
  obtain ⟨N, hN⟩ : ∃ N, l.length = N := ⟨_, rfl⟩
  rw [hN]
  go_enter Tryd.func62, Tryd.ntmps62
  go_wp2
  go_loopg [5] N (fun gk i wr => ∃ k : Nat, k ≤ N ∧ N - k ≤ gk ∧ i = .int .i64 k ∧ (∀ j x, j < k → l[j]? = some x → x.of n = true) ∧ Below w.heap.size w wr)
  case atStart => exact ⟨0, Nat.zero_le _, by omega, rfl, fun j x hj => absurd hj (Nat.not_lt_zero _), Below.refl _ _⟩
  case round =>
    obtain ⟨k, hk, hgk, rfl, hall, hb3⟩ := hrel
    have HG := hideIt hgk
    have HA := hideIt hall
    clear hgk hall
    by_cases hlt : k < N
    · obtain ⟨x, hx⟩ : ∃ x, l[k]? = some x := ⟨_, List.getElem?_eq_getElem (by omega)⟩
      have hlti : (k : Int) < (N : Int) := by omega
      obtain ⟨ad, rfl, g1, p0, p1, p2⟩ := nd_get (h.on hb3) hx
      have cO := fun u => rof14_any n x u
      obtain ⟨t, ht⟩ : ∃ t, x.of n = t := ⟨_, rfl⟩
      rw [ht] at cO
      have HX := hideIt hx
      have HT := hideIt ht
      obtain ⟨xs, xh, xl⟩ := x
      simp only [Nd.val] at cO p0 p1 p2
      clear hx ht
      cases t with
      | true =>
        go_wp2_with (first | (go_at_call 60; refine (cO _).mono ?_; rintro e w2 ⟨rfl, b2⟩) | fail)
        go_roundg (N - (k + 1))
        case measure => have := HG.out; omega
        case rel => exact ⟨k + 1, by omega, Nat.le_refl _, by go_num, fun j x hj hx => by
            by_cases e : j = k
            · subst e
              rw [HX.out] at hx
              injection hx with hx
              rw [← hx]
              exact HT.out
            · exact HA.out j x (by omega) hx, chain hb3 b2⟩
      | false =>
        have hno : V = false := by
          rw [HV.out]
          have : l.all (Nd.of n) = false := by
            rw [Bool.eq_false_iff]
            intro e
            have := List.all_eq_true.1 e _ (List.mem_of_getElem? HX.out)
            rw [HT.out] at this
            cases this
          rw [this, Bool.and_false]
        subst hno
        go_wp2_with (first | (go_at_call 60; refine (cO _).mono ?_; rintro e w2 ⟨rfl, b2⟩) | fail)
        go_ret
        exact ⟨rfl, chain hb3 b2⟩
    · have e : k = N := by omega
      subst e
      have hyes : V = mayW n := by
        rw [HV.out]
        have : l.all (Nd.of n) = true := List.all_eq_true.2 fun x hx => by
          obtain ⟨j, hj⟩ := List.getElem?_of_mem hx
          exact HA.out j x (by have := (List.getElem?_eq_some_iff.1 hj).1; omega) hj
        rw [this, Bool.and_true]
      subst hyes
      by_cases h1 : 1 ≤ n
      · obtain ⟨B, hB⟩ : ∃ B, decide (1 ≤ n ∧ n ≤ 32) = B := ⟨_, rfl⟩
        have e : decide (n ≤ 32) = B := by rw [← hB]; exact decide_eq_decide.2 ⟨fun h => ⟨h1, h⟩, fun h => h.2⟩
        have HB := hideIt hB
        clear hB
        go_wp2
        go_ret
        exact ⟨congrArg (fun u => Ending.returned (.bool u)) HB.out.symm, hb3⟩
      · have HB := hideIt (decide_eq_false (show ¬ (1 ≤ n ∧ n ≤ 32) from fun h => h1 h.1))
        go_wp2
        go_ret
        exact ⟨congrArg (fun u => Ending.returned (.bool u)) HB.out.symm, hb3⟩
end Go.Proofs.YtkecekfapiegjaaDoor
/-
  paymasterref14's Join, walked.
-/
namespace Go.Proofs.YtkecekfapiegjaaDoor
set_option linter.unusedVariables false
set_option linter.unusedSimpArgs false
set_option maxRecDepth 10000
open Go.RowKit

set_option maxRecDepth 100000 in
set_option maxHeartbeats 2000000 in
theorem rjoin14_any (n : Int) (a b : Nd) (h1 : a.hash.size ≤ 1000000) (h2 : b.hash.size ≤ 1000000) (ha : a.halved) (hb : b.halved) (w : World) :
    Calls Tryd.prog 63 #[.int .i64 n, a.val, b.val] w (fun e w' => e = .returned (.tuple #[(joinN n a b).1.val, .int .i64 (joinN n a b).2]) ∧ Below w.heap.size w w') := by
  have cO1 := fun u => rof14_any n a u
  have cO2 := fun u => rof14_any n b u
  have cT := fun u => rnodeText_any a b h1 h2 ha.1 ha.2 hb.1 hb.2 u
  have cD := fun u => rdigestT_any n (ndText a b) (by rw [ndText_size]; omega) u
  have cA := fun u => radd_any a.h a.l b.h b.l ha.1 ha.2 hb.1 hb.2 u
  have e1 : joinN n a b = if (a.of n && b.of n) = true then joinS n a b else (Nd.zero, 70) := rfl
  have e2 : joinS n a b = if room (nv a.h a.l + nv b.h b.l) = true then (⟨dgB n (ndText a b), rh (nv a.h a.l + nv b.h b.l), rl (nv a.h a.l + nv b.h b.l)⟩, 0) else (Nd.zero, 10) := rfl
  obtain ⟨s, h, l⟩ := a
  obtain ⟨z, j, m⟩ := b
  simp only [Nd.val] at cO1 cO2 cT cA e2
  show Calls _ _ #[.int .i64 n, .agg (ndB s h l), .agg (ndB z j m)] _ _
  generalize dgB n (ndText ⟨s, h, l⟩ ⟨z, j, m⟩) = D at *
  generalize ndText ⟨s, h, l⟩ ⟨z, j, m⟩ = T at *
  generalize Nd.of n ⟨s, h, l⟩ = P at *
  generalize Nd.of n ⟨z, j, m⟩ = Q at *
  generalize joinN n ⟨s, h, l⟩ ⟨z, j, m⟩ = R at *
  generalize joinS n ⟨s, h, l⟩ ⟨z, j, m⟩ = J at *
  generalize nv h l + nv j m = S at *
  have HE := hideIt e1
  have HJ := hideIt e2
  clear e1 e2 h1 h2 ha hb
  have hl2 : ∀ x ∈ ([(w.heap.size + 1, 49, ndB z j m), (w.heap.size, 49, ndB s h l)] : List Blk), x.1 < w.heap.size + 1 + 1 := fun x hx => by
    simp only [List.mem_cons, List.not_mem_nil, or_false] at hx
    rcases hx with rfl | rfl
    · exact Nat.lt_succ_self _
    · exact Nat.lt_succ_of_lt (Nat.lt_succ_self _)
  have H0 := (((Has.start w).add 49 (ndB s h l)).addAt 49 (ndB z j m) (g := w.heap.size + 1) (by simp)).addAt 49 (ndB ⟨#[]⟩ 0 0) (g := w.heap.size + 1 + 1) (by simp)
  go_enter Tryd.func63, Tryd.ntmps63
  go_upto_region 1 with fail
  change Code.wp _ _ _ _ (((w.alloc (.cells (ndB s h l) 49)).alloc (.cells (ndB z j m) 49)).alloc (.cells (ndB ⟨#[]⟩ 0 0) 49))
  generalize ((w.alloc (.cells (ndB s h l) 49)).alloc (.cells (ndB z j m) 49)).alloc (.cells (ndB ⟨#[]⟩ 0 0) 49) = W0 at *
  obtain ⟨p0, p1, p2, -, -, -, hin1⟩ := (H0.box 2).three
  obtain ⟨q0, q1, q2, -, -, -, hin2⟩ := (H0.box 1).three
  obtain ⟨z0, z1, z2, f0, f1, f2, hin3⟩ := (H0.box 0).three
  cases P with
  | false =>
    have e := HE.out
    rw [Bool.false_and, if_neg (by decide)] at e
    subst e
    go_wp2_with (first
      | (go_at_call 60; refine (cO1 _).mono ?_; rintro e w1 ⟨rfl, b1⟩; clear cO1; have K1 := H0.call b1; obtain ⟨x0, x1, x2, g0, g1, g2, hin4⟩ := (K1.box 0).three; obtain ⟨y0, y1, y2, -, -, -, hin5⟩ := (K1.box 1).three; obtain ⟨v0, v1, v2, -, -, -, hin6⟩ := (K1.box 2).three)
      | fail)
    have E := told3 K1 (Nat.le_succ_of_le (Nat.le_succ _)) hl2 (.string ⟨#[]⟩) (.int .u64 0) (.int .u64 0)
    generalize World.setCell (World.setCell (World.setCell _ _ _) _ _) _ _ = W9 at *
    obtain ⟨y0, y1, y2, -, -, -, hin9⟩ := (E.box 0).three
    exact bodyPost_ret (v := .tuple #[Nd.zero.val, .int .i64 70]) (by simp [results, Tryd.results63, go_sem, Nd.val, Nd.zero, y0, y1, y2]) rfl ⟨rfl, E.below⟩
  | true =>
    cases Q with
    | false =>
      have e := HE.out
      rw [Bool.and_false, if_neg (by decide)] at e
      subst e
      go_wp2_with (first
        | (go_at_call 60; refine (cO1 _).mono ?_; rintro e w1 ⟨rfl, b1⟩; clear cO1; have K1 := H0.call b1; obtain ⟨x0, x1, x2, g0, g1, g2, hin4⟩ := (K1.box 0).three; obtain ⟨y0, y1, y2, -, -, -, hin5⟩ := (K1.box 1).three; obtain ⟨v0, v1, v2, -, -, -, hin6⟩ := (K1.box 2).three)
        | (go_at_call 60; refine (cO2 _).mono ?_; rintro e w2 ⟨rfl, b2⟩; clear cO2; have K2 := K1.call b2; obtain ⟨x0, x1, x2, g0, g1, g2, hin4⟩ := (K2.box 0).three; obtain ⟨y0, y1, y2, -, -, -, hin5⟩ := (K2.box 1).three; obtain ⟨v0, v1, v2, -, -, -, hin6⟩ := (K2.box 2).three)
        | fail)
      have E := told3 K2 (Nat.le_succ_of_le (Nat.le_succ _)) hl2 (.string ⟨#[]⟩) (.int .u64 0) (.int .u64 0)
      generalize World.setCell (World.setCell (World.setCell _ _ _) _ _) _ _ = W9 at *
      obtain ⟨y0, y1, y2, -, -, -, hin9⟩ := (E.box 0).three
      exact bodyPost_ret (v := .tuple #[Nd.zero.val, .int .i64 70]) (by simp [results, Tryd.results63, go_sem, Nd.val, Nd.zero, y0, y1, y2]) rfl ⟨rfl, E.below⟩
    | true =>
      have e := HE.out
      rw [Bool.and_true, if_pos rfl] at e
      subst e
      have e := HJ.out
      cases hr : room S with
      | false =>
        rw [if_neg (by rw [hr]; decide)] at e
        subst e
        have cA := fun u => (cA u).mono (fun e w' hf => Fit.no hr hf)
        clear HE HJ hr
        go_wp2_with (first
          | (go_at_call 60; refine (cO1 _).mono ?_; rintro e w1 ⟨rfl, b1⟩; clear cO1; have K1 := H0.call b1; obtain ⟨x0, x1, x2, g0, g1, g2, hin4⟩ := (K1.box 0).three; obtain ⟨y0, y1, y2, -, -, -, hin5⟩ := (K1.box 1).three; obtain ⟨v0, v1, v2, -, -, -, hin6⟩ := (K1.box 2).three)
          | (go_at_call 60; refine (cO2 _).mono ?_; rintro e w2 ⟨rfl, b2⟩; clear cO2; have K2 := K1.call b2; obtain ⟨x0, x1, x2, g0, g1, g2, hin4⟩ := (K2.box 0).three; obtain ⟨y0, y1, y2, -, -, -, hin5⟩ := (K2.box 1).three; obtain ⟨v0, v1, v2, -, -, -, hin6⟩ := (K2.box 2).three)
          | (go_at_call 85; refine (cA _).mono ?_; rintro e w3 ⟨rfl, b3⟩; have K3 := (K2.call b3).add 24 #[.int .u64 0, .int .u64 0]; obtain ⟨x0, x1, x2, g0, g1, g2, hin4⟩ := (K3.box 1).three)
          | fail)
        have E := told3 K3.tail (Nat.le_succ_of_le (Nat.le_succ _)) hl2 (.string ⟨#[]⟩) (.int .u64 0) (.int .u64 0)
        generalize World.setCell (World.setCell (World.setCell _ _ _) _ _) _ _ = W9 at *
        obtain ⟨y0, y1, y2, -, -, -, hin9⟩ := (E.box 0).three
        exact bodyPost_ret (v := .tuple #[Nd.zero.val, .int .i64 10]) (by simp [results, Tryd.results63, go_sem, Nd.val, Nd.zero, y0, y1, y2]) rfl ⟨rfl, E.below⟩
      | true =>
        rw [if_pos hr] at e
        subst e
        have rS := re_yes hr
        obtain ⟨X, hX⟩ : ∃ X, rh S = X := ⟨_, rfl⟩
        obtain ⟨Y, hY⟩ : ∃ Y, rl S = Y := ⟨_, rfl⟩
        have cA := fun u => (cA u).mono (fun e w' hf => show e = .returned (.tuple #[.agg #[.int .u64 X, .int .u64 Y], .int .i64 0]) ∧ Below u.heap.size u w' from by obtain ⟨q, r⟩ := hf; rw [rS, hX, hY] at q; exact ⟨q, r⟩)
        have HX := hideIt hX
        have HY := hideIt hY
        clear HE HJ hr rS hX hY
        go_upto_region 6 with (first
          | (go_at_call 60; refine (cO1 _).mono ?_; rintro e w1 ⟨rfl, b1⟩; clear cO1; have K1 := H0.call b1; obtain ⟨x0, x1, x2, g0, g1, g2, hin4⟩ := (K1.box 0).three; obtain ⟨y0, y1, y2, -, -, -, hin5⟩ := (K1.box 1).three; obtain ⟨v0, v1, v2, -, -, -, hin6⟩ := (K1.box 2).three)
          | (go_at_call 60; refine (cO2 _).mono ?_; rintro e w2 ⟨rfl, b2⟩; clear cO2; have K2 := K1.call b2; obtain ⟨x0, x1, x2, g0, g1, g2, hin4⟩ := (K2.box 0).three; obtain ⟨y0, y1, y2, -, -, -, hin5⟩ := (K2.box 1).three; obtain ⟨v0, v1, v2, -, -, -, hin6⟩ := (K2.box 2).three)
          | (go_at_call 85; refine (cA _).mono ?_; rintro e w3 ⟨rfl, b3⟩; have K3 := (K2.call b3).add 24 #[.int .u64 X, .int .u64 Y]; obtain ⟨x0, x1, x2, g0, g1, g2, hin4⟩ := (K3.box 1).three; have hz := (K3.box 0).read 0)
          | fail)
        clear x0 x1 x2 g0 g1 g2 hin4 hz
        have hbg : w.heap.size + 1 + 1 < w3.heap.size := Nat.lt_of_lt_of_le ((K2.box 0).inside) b3.size
        obtain ⟨b, hb⟩ : ∃ b, w3.heap.size = b := ⟨_, rfl⟩
        rw [hb] at K3 hbg ⊢
        change Code.wp _ _ _ _ (w3.alloc (.cells #[.int .u64 X, .int .u64 Y] 24))
        generalize w3.alloc (.cells #[.int .u64 X, .int .u64 Y] 24) = W1 at *
        have fact : ∀ u, Has w [(b, 24, #[.int .u64 X, .int .u64 Y]), (w.heap.size + 1 + 1, 49, ndB ⟨#[]⟩ 0 0), (w.heap.size + 1, 49, ndB z j m), (w.heap.size, 49, ndB s h l)] u → Below w.heap.size w u ∧ (u.cell? ⟨w.heap.size, 0, none⟩ = some (.string s) ∧ u.cell? ⟨w.heap.size, 1, none⟩ = some (.int .u64 h) ∧ u.cell? ⟨w.heap.size, 2, none⟩ = some (.int .u64 l) ∧ u.cell? ⟨w.heap.size + 1, 0, none⟩ = some (.string z) ∧ u.cell? ⟨w.heap.size + 1, 1, none⟩ = some (.int .u64 j) ∧ u.cell? ⟨w.heap.size + 1, 2, none⟩ = some (.int .u64 m) ∧ u.cell? ⟨b, 0, none⟩ = some (.int .u64 X) ∧ u.cell? ⟨b, 1, none⟩ = some (.int .u64 Y)) := fun u H =>
          ⟨H.below, (H.box 3).read 0, (H.box 3).read 1, (H.box 3).read 2, (H.box 2).read 0, (H.box 2).read 1, (H.box 2).read 2, (H.box 0).read 0, (H.box 0).read 1⟩
        have fact2 : ∀ u, Has w [(b, 24, #[.int .u64 X, .int .u64 Y]), (w.heap.size + 1 + 1, 49, ndB D X Y), (w.heap.size + 1, 49, ndB z j m), (w.heap.size, 49, ndB s h l)] u → Below w.heap.size w u ∧ (u.cell? ⟨w.heap.size, 0, none⟩ = some (.string s) ∧ u.cell? ⟨w.heap.size, 1, none⟩ = some (.int .u64 h) ∧ u.cell? ⟨w.heap.size, 2, none⟩ = some (.int .u64 l) ∧ u.cell? ⟨w.heap.size + 1, 0, none⟩ = some (.string z) ∧ u.cell? ⟨w.heap.size + 1, 1, none⟩ = some (.int .u64 j) ∧ u.cell? ⟨w.heap.size + 1, 2, none⟩ = some (.int .u64 m) ∧ u.cell? ⟨b, 0, none⟩ = some (.int .u64 X) ∧ u.cell? ⟨b, 1, none⟩ = some (.int .u64 Y)) := fun u H =>
          ⟨H.below, (H.box 3).read 0, (H.box 3).read 1, (H.box 3).read 2, (H.box 2).read 0, (H.box 2).read 1, (H.box 2).read 2, (H.box 0).read 0, (H.box 0).read 1⟩
        have K4 := K3.drew
        have f0 := fact _ K4
        refine wp_region_held_drew (S := fun u => Below w.heap.size w u ∧ (u.cell? ⟨w.heap.size, 0, none⟩ = some (.string s) ∧ u.cell? ⟨w.heap.size, 1, none⟩ = some (.int .u64 h) ∧ u.cell? ⟨w.heap.size, 2, none⟩ = some (.int .u64 l) ∧ u.cell? ⟨w.heap.size + 1, 0, none⟩ = some (.string z) ∧ u.cell? ⟨w.heap.size + 1, 1, none⟩ = some (.int .u64 j) ∧ u.cell? ⟨w.heap.size + 1, 2, none⟩ = some (.int .u64 m) ∧ u.cell? ⟨b, 0, none⟩ = some (.int .u64 X) ∧ u.cell? ⟨b, 1, none⟩ = some (.int .u64 Y))) (by kernel_rfl) f0 (fun hHeld => ?_)
        refine wpAnyH_take (i := 0) (v := ?_) rfl (by kernel_rfl) (by kernel_rfl) (by kernel_rfl) (fun _ _ _ h => h) (Or.inl ⟨by rfl, ?_⟩) (by assumption) ?_
        rotate_left 1
        · intro w hSw; (try dsimp only at hSw); go_simp; try with_reducible rfl
        try simp only [Act.put, List.getElem_toArray, List.getElem_cons_succ, List.getElem_cons_zero, List.setIfInBounds_toArray, List.set_cons_zero, List.set_cons_succ]
        refine wpAnyH_take (i := 1) (v := ?_) rfl (by kernel_rfl) (by kernel_rfl) (by kernel_rfl) (fun _ _ _ h => h) (Or.inl ⟨by rfl, ?_⟩) (by assumption) ?_
        rotate_left 1
        · intro w hSw; (try dsimp only at hSw); go_simp; try with_reducible rfl
        try simp only [Act.put, List.getElem_toArray, List.getElem_cons_succ, List.getElem_cons_zero, List.setIfInBounds_toArray, List.set_cons_zero, List.set_cons_succ]
        refine wpAnyH_take (i := 2) (v := ?_) rfl (by kernel_rfl) (by kernel_rfl) (by kernel_rfl) (fun _ _ _ h => h) (Or.inl ⟨by rfl, ?_⟩) (by assumption) ?_
        rotate_left 1
        · intro w hSw; (try dsimp only at hSw); go_simp; try with_reducible rfl
        try simp only [Act.put, List.getElem_toArray, List.getElem_cons_succ, List.getElem_cons_zero, List.setIfInBounds_toArray, List.set_cons_zero, List.set_cons_succ]
        refine wpAnyH_take (i := 5) (v := ?_) rfl (by kernel_rfl) (by kernel_rfl) (by kernel_rfl) (fun _ _ _ h => h) (Or.inl ⟨by rfl, ?_⟩) (by assumption) ?_
        rotate_left 1
        · intro w hSw; (try dsimp only at hSw); go_simp; try with_reducible rfl
        try simp only [Act.put, List.getElem_toArray, List.getElem_cons_succ, List.getElem_cons_zero, List.setIfInBounds_toArray, List.set_cons_zero, List.set_cons_succ]
        refine wpAnyH_ready (rs := [3]) (by kernel_rfl) (by simp) (AllReadyH.cons rfl (fun K hK => ?_) AllReadyH.nil)
        go_simp
        go_at_call 86
        refine (cT _).mono ?_
        rintro e w4 ⟨rfl, b4⟩
        have K5 := K4.call b4
        have F5 := fact _ K5
        try simp only []
        refine hK.out _ _ (F5) (fun hHeld => ?_)
        clear hK K
        try simp only [Act.put, List.getElem_toArray, List.getElem_cons_succ, List.getElem_cons_zero, List.setIfInBounds_toArray, List.set_cons_zero, List.set_cons_succ]
        refine wpAnyH_ready (rs := [4]) (by kernel_rfl) (by simp) (AllReadyH.cons rfl (fun K hK => ?_) AllReadyH.nil)
        go_simp
        go_at_call 65
        refine (cD _).mono ?_
        rintro e w5 ⟨rfl, b5⟩
        have K6 := K5.call b5
        have F6 := fact _ K6
        try simp only []
        refine hK.out _ _ (F6) (fun hHeld => ?_)
        clear hK K
        try simp only [Act.put, List.getElem_toArray, List.getElem_cons_succ, List.getElem_cons_zero, List.setIfInBounds_toArray, List.set_cons_zero, List.set_cons_succ]
        refine wpAnyH_take (i := 6) (v := ?_) rfl (by kernel_rfl) (by kernel_rfl) (by kernel_rfl) (fun _ _ _ h => h) (Or.inl ⟨by rfl, ?_⟩) (by assumption) ?_
        rotate_left 1
        · intro w hSw; (try dsimp only at hSw); go_simp; try with_reducible rfl
        try simp only [Act.put, List.getElem_toArray, List.getElem_cons_succ, List.getElem_cons_zero, List.setIfInBounds_toArray, List.set_cons_zero, List.set_cons_succ]
        obtain ⟨x0, x1, x2, g0, g1, g2, hin4⟩ := (K6.box 1).three
        refine wpAnyH_ready (rs := [7]) (by kernel_rfl) (by simp) (AllReadyH.cons rfl (fun K hK => ?_) AllReadyH.nil)
        go_simp
        have E := told4 K6 (Nat.le_succ_of_le (Nat.le_succ _)) hbg hl2 (.string D) (.int .u64 X) (.int .u64 Y)
        generalize World.setCell (World.setCell (World.setCell w5 _ _) _ _) _ _ = W9 at *
        have FX := fact2 _ E
        obtain ⟨r0, r1, r2, -, -, -, hin9⟩ := (E.box 1).three
        refine hK.out _ _ (FX) (fun hHeld => ?_)
        clear hK K
        try simp only [Act.put, List.getElem_toArray, List.getElem_cons_succ, List.getElem_cons_zero, List.setIfInBounds_toArray, List.set_cons_zero, List.set_cons_succ]
        refine wpAnyH_take (i := 8) (v := ?_) rfl (by kernel_rfl) (by kernel_rfl) (by kernel_rfl) (fun _ _ _ h => h) (Or.inl ⟨by rfl, ?_⟩) (by assumption) ?_
        rotate_left 1
        · intro w hSw; (try dsimp only at hSw); go_simp; try with_reducible rfl
        try simp only [Act.put, List.getElem_toArray, List.getElem_cons_succ, List.getElem_cons_zero, List.setIfInBounds_toArray, List.set_cons_zero, List.set_cons_succ]
        refine wpAnyH_done (by kernel_rfl) ?_ _
        clear x0 x1 x2 g0 g1 g2 hin4 F5 F6 fact fact2
        go_wp2
        exact bodyPost_ret (v := .tuple #[Nd.val ⟨D, X, Y⟩, .int .i64 0]) (by simp [results, Tryd.results63, go_sem, Nd.val, r0, r1, r2]) rfl ⟨by rw [HX.out, HY.out], E.below⟩
end Go.Proofs.YtkecekfapiegjaaDoor
/-
  paymasterref14's Climb, walked.
-/
namespace Go.Proofs.YtkecekfapiegjaaDoor
set_option linter.unusedVariables false
set_option linter.unusedSimpArgs false
set_option maxRecDepth 10000
open Go.RowKit

theorem Code.wp_mono' {P : Program} {c : Code} {Q Q' : Exit → Act → World → Prop} {a : Act} {w : World} (h : c.wp P Q a w) (hq : ∀ e a w, Q e a w → Q' e a w) : c.wp P Q' a w := Code.wp_mono hq h
set_option maxRecDepth 100000 in
set_option maxHeartbeats 4000000 in
theorem rclimb14_good (n : Int) (nd : Nd) (p : Nat) (hp : p < 18446744073709551616) (A : Option Addr) (c : Nat) (ys : List Nd) (hm : ys.length ≤ 63) (hn : nd.of n = true) (hh : nd.halved) (hy : ∀ x ∈ ys, x.of n = true ∧ x.halved)
    (w : World) (hR : ndS.Row w w.heap.size A ys) :
    Calls Tryd.prog 34 #[.int .i64 n, nd.val, .int .u64 p, .slice A ys.length c] w (fun e w' => e = .returned (.tuple #[(climbS n nd p ys).1.val, .int .i64 (climbS n nd p ys).2]) ∧ Below w.heap.size w w') := by
  have hmw : mayW n = true := by rw [Nd.of, Bool.and_eq_true] at hn; exact hn.1
  have hall : allW n ys = true := by rw [allW, hmw, Bool.true_and]; exact List.all_eq_true.2 fun x hx => (hy x hx).1
  have cO := fun u => rof14_any n nd u
  have cA := fun u hu => rall14_any n A c ys (by omega) u hu
  rw [hn] at cO
  rw [hall] at cA
  obtain ⟨R, hRR⟩ : ∃ R, climbS n nd p ys = R := ⟨_, rfl⟩
  rw [hRR]
  have HR := hideIt hRR
  obtain ⟨N, hN⟩ : ∃ N, ys.length = N := ⟨_, rfl⟩
  rw [hN] at cA hm ⊢
  have hN63 : (N : Int) ≤ 63 := by omega
  obtain ⟨s, h, l⟩ := nd
  simp only [Nd.val] at cO
  show Calls _ _ #[.int .i64 n, .agg (ndB s h l), .int .u64 p, .slice A N c] _ _
  have H0 := ((Has.start w).add 49 (ndB s h l)).addAt 49 (ndB ⟨#[]⟩ 0 0) (g := w.heap.size + 1) (by simp)
  clear hRR
  go_enter Tryd.func34, Tryd.ntmps34
  go_upto_region 1 with fail
  change Code.wp _ _ _ _ ((w.alloc (.cells (ndB s h l) 49)).alloc (.cells (ndB ⟨#[]⟩ 0 0) 49))
  generalize (w.alloc (.cells (ndB s h l) 49)).alloc (.cells (ndB ⟨#[]⟩ 0 0) 49) = W0 at *
  obtain ⟨p0, p1, p2, -, -, -, hin1⟩ := (H0.box 1).three
  go_wp2_with (first
    | (go_at_call 60; refine (cO _).mono ?_; rintro e w1 ⟨rfl, b1⟩; have K1 := H0.call b1)
    | (go_at_call 62; refine (cA _ (hR.on K1.below)).mono ?_; rintro e w2 ⟨rfl, b2⟩; have K2 := K1.call b2)
    | fail)
  clear p0 p1 p2 hin1
  go_loopg [2, 10] N (fun gk q i wr => ∃ (k qq : Nat) (x : Nd), k ≤ N ∧ N - k ≤ gk ∧ i = .int .i64 k ∧ q = .int .u64 qq ∧ qq < 18446744073709551616 ∧ climbS n x qq (ys.drop k) = R ∧ x.of n = true ∧ x.halved ∧
    Has w [(w.heap.size + 1, 49, ndB ⟨#[]⟩ 0 0), (w.heap.size, 49, ndB x.hash x.h x.l)] wr)
  case atStart => exact ⟨0, p, _, Nat.zero_le _, by omega, rfl, rfl, hp, by rw [List.drop_zero]; exact HR.out, hn, hh, K2⟩
  case round =>
    obtain ⟨k, qq, ⟨ts, th, tl⟩, hk, hgk, rfl, rfl, hqq, hcl, hxo, hxh, K3⟩ := hrel
    have HG := hideIt hgk
    clear hgk K2 K1 H0
    obtain ⟨c0, c1, c2, cf0, cf1, cf2, ci⟩ := (K3.box 1).three
    by_cases hlt : k < N
    · obtain ⟨⟨xs, xh, xl⟩, hx⟩ : ∃ x, ys[k]? = some x := ⟨_, List.getElem?_eq_getElem (by omega)⟩
      have hdr : ys.drop k = ⟨xs, xh, xl⟩ :: ys.drop (k + 1) := by
        obtain ⟨hk', e⟩ := List.getElem?_eq_some_iff.1 hx
        rw [List.drop_eq_getElem_cons hk', e]
      have hlti : (k : Int) < (N : Int) := by omega
      obtain ⟨ad, rfl, g1, q0, q1, q2⟩ := nd_get (hR.on K3.below) hx
      obtain ⟨hqo, hqh⟩ := hy _ (List.mem_of_getElem? hx)
      rw [hdr, climbS] at hcl
      have HC := hideIt hcl
      clear hcl hdr hx
      go_upto_region 8 with fail
      have hs2 := hideIt (show w.heap.size + 2 ≤ wr.heap.size by have := (K3.box 0).inside; omega)
      refine Code.wp_mono' (Q := fun e a' w' => e = .normal ∧ ∃ L R', w.heap.size + 2 ≤ L ∧ w.heap.size + 2 ≤ R' ∧ L ≠ R' ∧ Box w' L 49 (ndB ts th tl) ∧ Box w' R' 49 (ndB xs xh xl) ∧ Has w [(w.heap.size + 1, 49, ndB ⟨#[]⟩ 0 0), (w.heap.size, 49, ndB ts th tl)] w' ∧
        a' = { tmps := #[.int .i64 n, .agg (ndB s h l), .int .u64 qq, .slice (some ad) N c, undef, .pointer (some ⟨w.heap.size, 0, none⟩), undef, undef, .pointer (some ⟨w.heap.size + 1, 0, none⟩), u9, .int .i64 k, .pointer (some ⟨L, 0, none⟩), .pointer (some ⟨R', 0, none⟩), u13, u14, .int .i64 n, .agg (ndB s h l), .bool true, .bool false, .bool false, .int .i64 n, .slice (some ad) N c, .bool true, .bool false, .bool false, undef, .slice (some ad) N c, .int .i64 N, .bool (decide ((63 : Int) < (N : Int))), undef, .int .i64 k, .slice (some ad) N c, .int .i64 N, .bool true, u34, u35, .agg (ndB ts th tl), .slice (some ad) N c, .int .i64 k, .pointer (some (ad.add (k * 3))), .agg (ndB xs xh xl), u41, u42, u43, u44, u45, u46, u47, u48, u49, u50, u51, u52, u53, u54, u55, u56, u57, u58, u59, undef], defers := [] }) ?reg ?fin
      case reg =>
        go_region
        all_goals have hs : w.heap.size + 2 ≤ wr.heap.size := hs2.out
        all_goals first
          | exact ⟨rfl, wr.heap.size, wr.heap.size + 1, hs, Nat.le_succ_of_le hs, by omega, (two_new wr _ _ _).1, (two_new wr _ _ _).2, K3.call (two_below _ _ _), rfl⟩
          | exact ⟨rfl, wr.heap.size + 1, wr.heap.size, Nat.le_succ_of_le hs, hs, by omega, (two_new wr _ _ _).2, (two_new wr _ _ _).1, K3.call (two_below _ _ _), rfl⟩
      case fin =>
        rintro e a1 W1 ⟨rfl, L, R', hL, hL2, hne, bL, bR, K4, rfl⟩
        clear c0 c1 c2 cf0 cf1 cf2 ci q0 q1 q2 g1 hs2 K3
        obtain ⟨l0, l1, l2, lf0, lf1, lf2, li⟩ := bL.three
        obtain ⟨r0, r1, r2, rf0, rf1, rf2, ri⟩ := bR.three
        have hq2 : ((qq / 2 : Nat) : Int) = (qq : Int) / 2 := by omega
        have hqq2 : qq / 2 < 18446744073709551616 := by omega
        by_cases hpar : qq % 2 = 1
        · have hp1 : ((qq : Int) % 2 == 1) = true := by rw [show (qq : Int) % 2 = 1 by omega]; rfl
          have hp2 : (qq : Int) % 2 = 1 := by omega
          have hc := HC.out
          rw [if_pos hpar, if_pos hpar] at hc
          have HC := hideIt hc
          clear hc
          have cJ := fun u => rjoin14_any n ⟨xs, xh, xl⟩ ⟨ts, th, tl⟩ (Nat.le_trans (of_size hqo) (by decide)) (Nat.le_trans (of_size hxo) (by decide)) hqh hxh u
          have hjn : joinN n ⟨xs, xh, xl⟩ ⟨ts, th, tl⟩ = joinS n ⟨xs, xh, xl⟩ ⟨ts, th, tl⟩ := by rw [joinN, hqo, hxo]; rfl
          have hjf : (joinS n ⟨xs, xh, xl⟩ ⟨ts, th, tl⟩).2 = 0 → (joinS n ⟨xs, xh, xl⟩ ⟨ts, th, tl⟩).1.of n = true ∧ (joinS n ⟨xs, xh, xl⟩ ⟨ts, th, tl⟩).1.halved := fun h0 => by
            have hj := join_yes hmw (join_zero h0)
            exact ⟨hj.2.1, hj.2.2.1⟩
          have hjc := join_code n ⟨xs, xh, xl⟩ ⟨ts, th, tl⟩
          go_upto_region 11 with fail
          have K5 := two_putN K4 bL bR hne (by omega) (by omega) (fun x hx => by
            simp only [List.mem_cons, List.not_mem_nil, or_false] at hx
            rcases hx with rfl | rfl <;> simp only <;> omega) (.string xs) (.int .u64 xh) (.int .u64 xl) (.string ts) (.int .u64 th) (.int .u64 tl)
          generalize World.setCell (World.setCell (World.setCell (World.setCell (World.setCell (World.setCell _ _ _) _ _) _ _) _ _) _ _) _ _ = W2 at *
          clear l0 l1 l2 lf0 lf1 lf2 li r0 r1 r2 rf0 rf1 rf2 ri bL bR K4
          obtain ⟨l0, l1, l2, lf0, lf1, lf2, li⟩ := (K5.box 1).three
          obtain ⟨r0, r1, r2, rf0, rf1, rf2, ri⟩ := (K5.box 0).three
          have K6 := K5.tail.tail
          obtain ⟨⟨⟨js, jh, jl⟩, je⟩, hJ⟩ : ∃ V, joinS n ⟨xs, xh, xl⟩ ⟨ts, th, tl⟩ = V := ⟨_, rfl⟩
          rw [hjn, hJ] at cJ
          rw [hJ] at hjf hjc
          have hc := HC.out
          rw [hJ] at hc
          have HC := hideIt hc
          simp only [Nd.val] at cJ
          clear hc hJ hjn
          rcases hjc with h0 | h0
          · simp only at h0
            subst h0
            obtain ⟨f1, f2⟩ := hjf rfl
            simp only at f1 f2
            have HC2 := hideIt ((if_pos rfl).symm.trans HC.out)
            go_wp2_with (first
              | (go_at_call 63; refine (cJ _).mono ?_; rintro e w6 ⟨rfl, b6⟩; have K7 := (K6.call b6).past (.cells (ndB js jh jl) 49); obtain ⟨z0, z1, z2, zf0, zf1, zf2, zi⟩ := (K7.box 1).three)
              | fail)
            have E := told4 K7 (Nat.le_refl _) (Nat.lt_succ_self _) (fun x hx => by simp at hx) (.string js) (.int .u64 jh) (.int .u64 jl)
            generalize World.setCell (World.setCell (World.setCell _ _ _) _ _) _ _ = W9 at *
            go_roundg (N - (k + 1))
            case measure => have := HG.out; omega
            case rel => exact ⟨k + 1, qq / 2, _, by omega, Nat.le_refl _, by go_num, by rw [hq2], hqq2, HC2.out, f1, f2, E⟩
          · injection h0 with h0 h1
            simp only [Nd.zero, Nd.mk.injEq] at h0
            obtain ⟨rfl, rfl, rfl⟩ := h0
            subst h1
            have HC2 := hideIt ((if_neg (by decide)).symm.trans HC.out)
            go_wp2_with (first
              | (go_at_call 63; refine (cJ _).mono ?_; rintro e w6 ⟨rfl, b6⟩; have K7 := (K6.call b6).past (.cells (ndB ⟨#[]⟩ 0 0) 49); obtain ⟨z0, z1, z2, zf0, zf1, zf2, zi⟩ := (K7.box 0).three)
              | fail)
            have E := told3 K7 (Nat.le_succ _) (fun x hx => by
              simp only [List.mem_cons, List.not_mem_nil, or_false] at hx
              rcases hx with rfl
              exact Nat.lt_succ_self _) (.string ⟨#[]⟩) (.int .u64 0) (.int .u64 0)
            generalize World.setCell (World.setCell (World.setCell _ _ _) _ _) _ _ = W9 at *
            obtain ⟨v0, v1, v2, -, -, -, hin9⟩ := (E.box 0).three
            exact bodyPost_ret (v := .tuple #[Nd.zero.val, .int .i64 10]) (by simp [results, Tryd.results34, go_sem, Nd.val, Nd.zero, v0, v1, v2]) rfl ⟨by rw [← HC2.out], E.below⟩
        · have hp1 : ((qq : Int) % 2 == 1) = false := by rw [show (qq : Int) % 2 = 0 by omega]; rfl
          have hp2 : ¬ (qq : Int) % 2 = 1 := by omega
          have hc := HC.out
          rw [if_neg hpar, if_neg hpar] at hc
          have HC := hideIt hc
          clear hc
          have cJ := fun u => rjoin14_any n ⟨ts, th, tl⟩ ⟨xs, xh, xl⟩ (Nat.le_trans (of_size hxo) (by decide)) (Nat.le_trans (of_size hqo) (by decide)) hxh hqh u
          have hjn : joinN n ⟨ts, th, tl⟩ ⟨xs, xh, xl⟩ = joinS n ⟨ts, th, tl⟩ ⟨xs, xh, xl⟩ := by rw [joinN, hxo, hqo]; rfl
          have hjf : (joinS n ⟨ts, th, tl⟩ ⟨xs, xh, xl⟩).2 = 0 → (joinS n ⟨ts, th, tl⟩ ⟨xs, xh, xl⟩).1.of n = true ∧ (joinS n ⟨ts, th, tl⟩ ⟨xs, xh, xl⟩).1.halved := fun h0 => by
            have hj := join_yes hmw (join_zero h0)
            exact ⟨hj.2.1, hj.2.2.1⟩
          have hjc := join_code n ⟨ts, th, tl⟩ ⟨xs, xh, xl⟩
          have K6 := K4
          obtain ⟨⟨⟨js, jh, jl⟩, je⟩, hJ⟩ : ∃ V, joinS n ⟨ts, th, tl⟩ ⟨xs, xh, xl⟩ = V := ⟨_, rfl⟩
          rw [hjn, hJ] at cJ
          rw [hJ] at hjf hjc
          have hc := HC.out
          rw [hJ] at hc
          have HC := hideIt hc
          simp only [Nd.val] at cJ
          clear hc hJ hjn
          rcases hjc with h0 | h0
          · simp only at h0
            subst h0
            obtain ⟨f1, f2⟩ := hjf rfl
            simp only at f1 f2
            have HC2 := hideIt ((if_pos rfl).symm.trans HC.out)
            go_wp2_with (first
              | (go_at_call 63; refine (cJ _).mono ?_; rintro e w6 ⟨rfl, b6⟩; have K7 := (K6.call b6).past (.cells (ndB js jh jl) 49); obtain ⟨z0, z1, z2, zf0, zf1, zf2, zi⟩ := (K7.box 1).three)
              | fail)
            have E := told4 K7 (Nat.le_refl _) (Nat.lt_succ_self _) (fun x hx => by simp at hx) (.string js) (.int .u64 jh) (.int .u64 jl)
            generalize World.setCell (World.setCell (World.setCell _ _ _) _ _) _ _ = W9 at *
            go_roundg (N - (k + 1))
            case measure => have := HG.out; omega
            case rel => exact ⟨k + 1, qq / 2, _, by omega, Nat.le_refl _, by go_num, by rw [hq2], hqq2, HC2.out, f1, f2, E⟩
          · injection h0 with h0 h1
            simp only [Nd.zero, Nd.mk.injEq] at h0
            obtain ⟨rfl, rfl, rfl⟩ := h0
            subst h1
            have HC2 := hideIt ((if_neg (by decide)).symm.trans HC.out)
            go_wp2_with (first
              | (go_at_call 63; refine (cJ _).mono ?_; rintro e w6 ⟨rfl, b6⟩; have K7 := (K6.call b6).past (.cells (ndB ⟨#[]⟩ 0 0) 49); obtain ⟨z0, z1, z2, zf0, zf1, zf2, zi⟩ := (K7.box 0).three)
              | fail)
            have E := told3 K7 (Nat.le_succ _) (fun x hx => by
              simp only [List.mem_cons, List.not_mem_nil, or_false] at hx
              rcases hx with rfl
              exact Nat.lt_succ_self _) (.string ⟨#[]⟩) (.int .u64 0) (.int .u64 0)
            generalize World.setCell (World.setCell (World.setCell _ _ _) _ _) _ _ = W9 at *
            obtain ⟨v0, v1, v2, -, -, -, hin9⟩ := (E.box 0).three
            exact bodyPost_ret (v := .tuple #[Nd.zero.val, .int .i64 10]) (by simp [results, Tryd.results34, go_sem, Nd.val, Nd.zero, v0, v1, v2]) rfl ⟨by rw [← HC2.out], E.below⟩
    · have e : k = N := by omega
      subst e
      obtain ⟨z0, z1, z2, zf0, zf1, zf2, zi⟩ := (K3.box 0).three
      have hlti : ¬ ((k : Int) < (k : Int)) := by omega
      rw [List.drop_eq_nil_of_le (by omega), climbS] at hcl
      have HC := hideIt hcl
      clear hcl
      go_wp2
      have E := told3 K3 (Nat.le_succ _) (fun x hx => by
        simp only [List.mem_cons, List.not_mem_nil, or_false] at hx
        rcases hx with rfl
        exact Nat.lt_succ_self _) (.string ts) (.int .u64 th) (.int .u64 tl)
      generalize World.setCell (World.setCell (World.setCell _ _ _) _ _) _ _ = W9 at *
      obtain ⟨v0, v1, v2, -, -, -, hin9⟩ := (E.box 0).three
      exact bodyPost_ret (v := .tuple #[Nd.val ⟨ts, th, tl⟩, .int .i64 0]) (by simp [results, Tryd.results34, go_sem, Nd.val, v0, v1, v2]) rfl ⟨by rw [← HC.out], E.below⟩
end Go.Proofs.YtkecekfapiegjaaDoor
/-
  paymasterref14's Climb, whole; its Fold, whole.
-/
namespace Go.Proofs.YtkecekfapiegjaaDoor
set_option linter.unusedVariables false
set_option linter.unusedSimpArgs false
set_option maxRecDepth 10000
open Go.RowKit

set_option maxRecDepth 100000 in
set_option maxHeartbeats 4000000 in
theorem rclimb14_bad (n : Int) (nd : Nd) (p : Nat) (A : Option Addr) (c : Nat) (ys : List Nd) (hm : ys.length ≤ 1000000000) (hb : (nd.of n && allW n ys) = false ∨ 63 < ys.length)
    (w : World) (hR : ndS.Row w w.heap.size A ys) :
    Calls Tryd.prog 34 #[.int .i64 n, nd.val, .int .u64 p, .slice A ys.length c] w (fun e w' => e = .returned (.tuple #[(climbN n nd p ys).1.val, .int .i64 (climbN n nd p ys).2]) ∧ Below w.heap.size w w') := by
  have cO := fun u => rof14_any n nd u
  have cA := fun u hu => rall14_any n A c ys (by omega) u hu
  have hc : climbN n nd p ys = if (nd.of n && allW n ys) = true then (if ys.length ≤ 63 then climbS n nd p ys else (Nd.zero, 2)) else (Nd.zero, 70) := rfl
  obtain ⟨N, hN⟩ : ∃ N, ys.length = N := ⟨_, rfl⟩
  rw [hN] at cA hm hb hc ⊢
  obtain ⟨R, hRR⟩ : ∃ R, climbN n nd p ys = R := ⟨_, rfl⟩
  rw [hRR] at hc ⊢
  generalize climbS n nd p ys = X at *
  obtain ⟨s, h, l⟩ := nd
  simp only [Nd.val] at cO
  generalize Nd.of n ⟨s, h, l⟩ = P at *
  generalize allW n ys = V at *
  show Calls _ _ #[.int .i64 n, .agg (ndB s h l), .int .u64 p, .slice A N c] _ _
  have H0 := ((Has.start w).add 49 (ndB s h l)).addAt 49 (ndB ⟨#[]⟩ 0 0) (g := w.heap.size + 1) (by simp)
  clear hRR
  go_enter Tryd.func34, Tryd.ntmps34
  go_upto_region 1 with fail
  change Code.wp _ _ _ _ ((w.alloc (.cells (ndB s h l) 49)).alloc (.cells (ndB ⟨#[]⟩ 0 0) 49))
  generalize (w.alloc (.cells (ndB s h l) 49)).alloc (.cells (ndB ⟨#[]⟩ 0 0) 49) = W0 at *
  obtain ⟨p0, p1, p2, -, -, -, hin1⟩ := (H0.box 1).three
  cases P with
  | false =>
    rw [Bool.false_and, if_neg (by decide)] at hc
    have HR := hideIt hc
    clear hc hb
    go_wp2_with (first
      | (go_at_call 60; refine (cO _).mono ?_; rintro e w1 ⟨rfl, b1⟩; have K1 := H0.call b1; obtain ⟨z0, z1, z2, zf0, zf1, zf2, zi⟩ := (K1.box 0).three)
      | fail)
    have E := told3 K1 (Nat.le_succ _) (fun x hx => by
      simp only [List.mem_cons, List.not_mem_nil, or_false] at hx
      rcases hx with rfl
      exact Nat.lt_succ_self _) (.string ⟨#[]⟩) (.int .u64 0) (.int .u64 0)
    generalize World.setCell (World.setCell (World.setCell _ _ _) _ _) _ _ = W9 at *
    obtain ⟨x0, x1, x2, -, -, -, xi⟩ := (E.box 0).three
    exact bodyPost_ret (v := .tuple #[Nd.zero.val, .int .i64 70]) (by simp [results, Tryd.results34, go_sem, Nd.val, Nd.zero, x0, x1, x2]) rfl ⟨by rw [HR.out], E.below⟩
  | true =>
    cases V with
    | false =>
      rw [Bool.and_false, if_neg (by decide)] at hc
      have HR := hideIt hc
      clear hc hb
      go_wp2_with (first
        | (go_at_call 60; refine (cO _).mono ?_; rintro e w1 ⟨rfl, b1⟩; have K1 := H0.call b1)
        | (go_at_call 62; refine (cA _ (hR.on K1.below)).mono ?_; rintro e w2 ⟨rfl, b2⟩; have K2 := K1.call b2; obtain ⟨z0, z1, z2, zf0, zf1, zf2, zi⟩ := (K2.box 0).three)
        | fail)
      have E := told3 K2 (Nat.le_succ _) (fun x hx => by
        simp only [List.mem_cons, List.not_mem_nil, or_false] at hx
        rcases hx with rfl
        exact Nat.lt_succ_self _) (.string ⟨#[]⟩) (.int .u64 0) (.int .u64 0)
      generalize World.setCell (World.setCell (World.setCell _ _ _) _ _) _ _ = W9 at *
      obtain ⟨x0, x1, x2, -, -, -, xi⟩ := (E.box 0).three
      exact bodyPost_ret (v := .tuple #[Nd.zero.val, .int .i64 70]) (by simp [results, Tryd.results34, go_sem, Nd.val, Nd.zero, x0, x1, x2]) rfl ⟨by rw [HR.out], E.below⟩
    | true =>
      have hN63 : ¬ N ≤ 63 := by rcases hb with hb | hb; · cases hb
                                 · omega
      rw [Bool.and_true, if_pos rfl, if_neg hN63] at hc
      have hNi : (63 : Int) < N := by omega
      have HR := hideIt hc
      clear hc hb hN63
      go_wp2_with (first
        | (go_at_call 60; refine (cO _).mono ?_; rintro e w1 ⟨rfl, b1⟩; have K1 := H0.call b1)
        | (go_at_call 62; refine (cA _ (hR.on K1.below)).mono ?_; rintro e w2 ⟨rfl, b2⟩; have K2 := K1.call b2; obtain ⟨z0, z1, z2, zf0, zf1, zf2, zi⟩ := (K2.box 0).three)
        | fail)
      have E := told3 K2 (Nat.le_succ _) (fun x hx => by
        simp only [List.mem_cons, List.not_mem_nil, or_false] at hx
        rcases hx with rfl
        exact Nat.lt_succ_self _) (.string ⟨#[]⟩) (.int .u64 0) (.int .u64 0)
      generalize World.setCell (World.setCell (World.setCell _ _ _) _ _) _ _ = W9 at *
      obtain ⟨x0, x1, x2, -, -, -, xi⟩ := (E.box 0).three
      exact bodyPost_ret (v := .tuple #[Nd.zero.val, .int .i64 2]) (by simp [results, Tryd.results34, go_sem, Nd.val, Nd.zero, x0, x1, x2]) rfl ⟨by rw [HR.out], E.below⟩
/-- Climb of anything. -/
theorem rclimb14_any (n : Int) (nd : Nd) (p : Nat) (hp : p < 18446744073709551616) (A : Option Addr) (c : Nat) (ys : List Nd) (hm : ys.length ≤ 1000000000) (hh : nd.halved) (hy : ∀ x ∈ ys, x.halved)
    (w : World) (hR : ndS.Row w w.heap.size A ys) :
    Calls Tryd.prog 34 #[.int .i64 n, nd.val, .int .u64 p, .slice A ys.length c] w (fun e w' => e = .returned (.tuple #[(climbN n nd p ys).1.val, .int .i64 (climbN n nd p ys).2]) ∧ Below w.heap.size w w') := by
  by_cases hb : (nd.of n && allW n ys) = false ∨ 63 < ys.length
  · exact rclimb14_bad n nd p A c ys hm hb w hR
  · have h1 : (nd.of n && allW n ys) = true := by
      cases h : (nd.of n && allW n ys) with
      | true => rfl
      | false => exact absurd (Or.inl h) hb
    have h2 : ys.length ≤ 63 := by omega
    have h3 : nd.of n = true ∧ allW n ys = true := by simpa using h1
    have e : climbN n nd p ys = climbS n nd p ys := by rw [climbN, if_pos h1, if_pos h2]
    rw [e]
    exact rclimb14_good n nd p hp A c ys h2 h3.1 hh (fun x hx => ⟨(allW_mem h3.2).2 x hx, hy x hx⟩) w hR
end Go.Proofs.YtkecekfapiegjaaDoor
