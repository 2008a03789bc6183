/- Several of my texts, laid as one. -/
import Derived.Test.YtjndabnegmecmaaGreatDoorM13Nod
import Derived.Test.YtjndabnegmecmaaGreatDoorM14Pln
import Derived.Test.YtjndabnegmecmaaGreatDoorM14One
import Derived.Test.YtjndabnegmecmaaGreatDoorM7Rn
import Derived.Test.YtjndabnegmecmaaGreatDoorM1Ref
import Derived.Test.YtjndabnegmecmaaGreatDoorM14W
/-
  paymasterref14's Same, Of, all, walked.
-/
namespace Go.Proofs.YtjndabnegmecmaaGreatDoor
set_option linter.unusedVariables false
set_option linter.unusedSimpArgs false
set_option maxRecDepth 10000
open Go.RowKit

set_option maxHeartbeats 2000000 in
theorem rall14_any (n : Int) (A : Option Addr) (c : Nat) (l : List Nd) (hl : l.length ≤ 1000000000) (w : World) (h : ndS.Row w w.heap.size A l) :
    Calls Tryz.prog 33 #[.int .i64 n, .slice A l.length c] w (Tells (.bool (allW n l)) w.heap.size w) := by
  have eV : allW n l = (mayW n && l.all (Nd.of n)) := rfl
  obtain ⟨V, hV⟩ : ∃ V, allW n l = V := ⟨_, rfl⟩
  rw [hV] at eV ⊢
  have HV := hideIt eV
  clear eV hV
  obtain ⟨N, hN⟩ : ∃ N, l.length = N := ⟨_, rfl⟩
  rw [hN]
  go_enter Tryz.func33, Tryz.ntmps33
  go_wp2
  go_loopg [5] N (fun gk i wr => ∃ k : Nat, k ≤ N ∧ N - k ≤ gk ∧ i = .int .i64 k ∧ (∀ j x, j < k → l[j]? = some x → x.of n = true) ∧ Below w.heap.size w wr)
  case atStart => exact ⟨0, Nat.zero_le _, by omega, rfl, fun j x hj => absurd hj (Nat.not_lt_zero _), Below.refl _ _⟩
  case round =>
    obtain ⟨k, hk, hgk, rfl, hall, hb3⟩ := hrel
    have HG := hideIt hgk
    have HA := hideIt hall
    clear hgk hall
    by_cases hlt : k < N
    · obtain ⟨x, hx⟩ : ∃ x, l[k]? = some x := ⟨_, List.getElem?_eq_getElem (by omega)⟩
      have hlti : (k : Int) < (N : Int) := by omega
      obtain ⟨ad, rfl, g1, p0, p1, p2⟩ := nd_get (h.on hb3) hx
      have cO := fun u => rof14_any n x u
      obtain ⟨t, ht⟩ : ∃ t, x.of n = t := ⟨_, rfl⟩
      rw [ht] at cO
      have HX := hideIt hx
      have HT := hideIt ht
      obtain ⟨xs, xh, xl⟩ := x
      simp only [Nd.val] at cO p0 p1 p2
      clear hx ht
      cases t with
      | true =>
        go_wp2_with (first | (go_at_call 50; refine (cO _).mono ?_; rintro e w2 ⟨rfl, b2⟩) | fail)
        go_roundg (N - (k + 1))
        case measure => have := HG.out; omega
        case rel => exact ⟨k + 1, by omega, Nat.le_refl _, by go_num, fun j x hj hx => by
            by_cases e : j = k
            · subst e
              rw [HX.out] at hx
              injection hx with hx
              rw [← hx]
              exact HT.out
            · exact HA.out j x (by omega) hx, chain hb3 b2⟩
      | false =>
        have hno : V = false := by
          rw [HV.out]
          have : l.all (Nd.of n) = false := by
            rw [Bool.eq_false_iff]
            intro e
            have := List.all_eq_true.1 e _ (List.mem_of_getElem? HX.out)
            rw [HT.out] at this
            cases this
          rw [this, Bool.and_false]
        subst hno
        go_wp2_with (first | (go_at_call 50; refine (cO _).mono ?_; rintro e w2 ⟨rfl, b2⟩) | fail)
        go_ret
        exact ⟨rfl, chain hb3 b2⟩
    · have e : k = N := by omega
      subst e
      have hyes : V = mayW n := by
        rw [HV.out]
        have : l.all (Nd.of n) = true := List.all_eq_true.2 fun x hx => by
          obtain ⟨j, hj⟩ := List.getElem?_of_mem hx
          exact HA.out j x (by have := (List.getElem?_eq_some_iff.1 hj).1; omega) hj
        rw [this, Bool.and_true]
      subst hyes
      by_cases h1 : 1 ≤ n
      · obtain ⟨B, hB⟩ : ∃ B, decide (1 ≤ n ∧ n ≤ 32) = B := ⟨_, rfl⟩
        have e : decide (n ≤ 32) = B := by rw [← hB]; exact decide_eq_decide.2 ⟨fun h => ⟨h1, h⟩, fun h => h.2⟩
        have HB := hideIt hB
        clear hB
        go_wp2
        go_ret
        exact ⟨congrArg (fun u => Ending.returned (.bool u)) HB.out.symm, hb3⟩
      · have HB := hideIt (decide_eq_false (show ¬ (1 ≤ n ∧ n ≤ 32) from fun h => h1 h.1))
        go_wp2
        go_ret
        exact ⟨congrArg (fun u => Ending.returned (.bool u)) HB.out.symm, hb3⟩
end Go.Proofs.YtjndabnegmecmaaGreatDoor
/-
  paymasterref14's Join, walked.
-/
namespace Go.Proofs.YtjndabnegmecmaaGreatDoor
set_option linter.unusedVariables false
set_option linter.unusedSimpArgs false
set_option maxRecDepth 10000
open Go.RowKit

set_option maxRecDepth 100000 in
set_option maxHeartbeats 2000000 in
theorem rjoin14_any (n : Int) (a b : Nd) (h1 : a.hash.size ≤ 1000000) (h2 : b.hash.size ≤ 1000000) (ha : a.halved) (hb : b.halved) (w : World) :
    Calls Tryz.prog 34 #[.int .i64 n, a.val, b.val] w (fun e w' => e = .returned (.tuple #[(joinN n a b).1.val, .int .i64 (joinN n a b).2]) ∧ Below w.heap.size w w') := by
  have cO1 := fun u => rof14_any n a u
  have cO2 := fun u => rof14_any n b u
  have cT := fun u => rnodeText_any a b h1 h2 ha.1 ha.2 hb.1 hb.2 u
  have cD := fun u => rdigestT_any n (ndText a b) (by rw [ndText_size]; omega) u
  have cA := fun u => radd_any a.h a.l b.h b.l ha.1 ha.2 hb.1 hb.2 u
  have e1 : joinN n a b = if (a.of n && b.of n) = true then joinS n a b else (Nd.zero, 70) := rfl
  have e2 : joinS n a b = if room (nv a.h a.l + nv b.h b.l) = true then (⟨dgB n (ndText a b), rh (nv a.h a.l + nv b.h b.l), rl (nv a.h a.l + nv b.h b.l)⟩, 0) else (Nd.zero, 10) := rfl
  obtain ⟨s, h, l⟩ := a
  obtain ⟨z, j, m⟩ := b
  simp only [Nd.val] at cO1 cO2 cT cA e2
  show Calls _ _ #[.int .i64 n, .agg (ndB s h l), .agg (ndB z j m)] _ _
  generalize dgB n (ndText ⟨s, h, l⟩ ⟨z, j, m⟩) = D at *
  generalize ndText ⟨s, h, l⟩ ⟨z, j, m⟩ = T at *
  generalize Nd.of n ⟨s, h, l⟩ = P at *
  generalize Nd.of n ⟨z, j, m⟩ = Q at *
  generalize joinN n ⟨s, h, l⟩ ⟨z, j, m⟩ = R at *
  generalize joinS n ⟨s, h, l⟩ ⟨z, j, m⟩ = J at *
  generalize nv h l + nv j m = S at *
  have HE := hideIt e1
  have HJ := hideIt e2
  clear e1 e2 h1 h2 ha hb
  have hl2 : ∀ x ∈ ([(w.heap.size + 1, 47, ndB z j m), (w.heap.size, 47, ndB s h l)] : List Blk), x.1 < w.heap.size + 1 + 1 := fun x hx => by
    simp only [List.mem_cons, List.not_mem_nil, or_false] at hx
    rcases hx with rfl | rfl
    · exact Nat.lt_succ_self _
    · exact Nat.lt_succ_of_lt (Nat.lt_succ_self _)
  have H0 := (((Has.start w).add 47 (ndB s h l)).addAt 47 (ndB z j m) (g := w.heap.size + 1) (by simp)).addAt 47 (ndB ⟨#[]⟩ 0 0) (g := w.heap.size + 1 + 1) (by simp)
  go_enter Tryz.func34, Tryz.ntmps34
  go_upto_region 1 with fail
  change Code.wp _ _ _ _ (((w.alloc (.cells (ndB s h l) 47)).alloc (.cells (ndB z j m) 47)).alloc (.cells (ndB ⟨#[]⟩ 0 0) 47))
  generalize ((w.alloc (.cells (ndB s h l) 47)).alloc (.cells (ndB z j m) 47)).alloc (.cells (ndB ⟨#[]⟩ 0 0) 47) = W0 at *
  obtain ⟨p0, p1, p2, -, -, -, hin1⟩ := (H0.box 2).three
  obtain ⟨q0, q1, q2, -, -, -, hin2⟩ := (H0.box 1).three
  obtain ⟨z0, z1, z2, f0, f1, f2, hin3⟩ := (H0.box 0).three
  cases P with
  | false =>
    have e := HE.out
    rw [Bool.false_and, if_neg (by decide)] at e
    subst e
    go_wp2_with (first
      | (go_at_call 50; refine (cO1 _).mono ?_; rintro e w1 ⟨rfl, b1⟩; clear cO1; have K1 := H0.call b1; obtain ⟨x0, x1, x2, g0, g1, g2, hin4⟩ := (K1.box 0).three; obtain ⟨y0, y1, y2, -, -, -, hin5⟩ := (K1.box 1).three; obtain ⟨v0, v1, v2, -, -, -, hin6⟩ := (K1.box 2).three)
      | fail)
    have E := told3 K1 (Nat.le_succ_of_le (Nat.le_succ _)) hl2 (.string ⟨#[]⟩) (.int .u64 0) (.int .u64 0)
    generalize World.setCell (World.setCell (World.setCell _ _ _) _ _) _ _ = W9 at *
    obtain ⟨y0, y1, y2, -, -, -, hin9⟩ := (E.box 0).three
    exact bodyPost_ret (v := .tuple #[Nd.zero.val, .int .i64 70]) (by simp [results, Tryz.results34, go_sem, Nd.val, Nd.zero, y0, y1, y2]) rfl ⟨rfl, E.below⟩
  | true =>
    cases Q with
    | false =>
      have e := HE.out
      rw [Bool.and_false, if_neg (by decide)] at e
      subst e
      go_wp2_with (first
        | (go_at_call 50; refine (cO1 _).mono ?_; rintro e w1 ⟨rfl, b1⟩; clear cO1; have K1 := H0.call b1; obtain ⟨x0, x1, x2, g0, g1, g2, hin4⟩ := (K1.box 0).three; obtain ⟨y0, y1, y2, -, -, -, hin5⟩ := (K1.box 1).three; obtain ⟨v0, v1, v2, -, -, -, hin6⟩ := (K1.box 2).three)
        | (go_at_call 50; refine (cO2 _).mono ?_; rintro e w2 ⟨rfl, b2⟩; clear cO2; have K2 := K1.call b2; obtain ⟨x0, x1, x2, g0, g1, g2, hin4⟩ := (K2.box 0).three; obtain ⟨y0, y1, y2, -, -, -, hin5⟩ := (K2.box 1).three; obtain ⟨v0, v1, v2, -, -, -, hin6⟩ := (K2.box 2).three)
        | fail)
      have E := told3 K2 (Nat.le_succ_of_le (Nat.le_succ _)) hl2 (.string ⟨#[]⟩) (.int .u64 0) (.int .u64 0)
      generalize World.setCell (World.setCell (World.setCell _ _ _) _ _) _ _ = W9 at *
      obtain ⟨y0, y1, y2, -, -, -, hin9⟩ := (E.box 0).three
      exact bodyPost_ret (v := .tuple #[Nd.zero.val, .int .i64 70]) (by simp [results, Tryz.results34, go_sem, Nd.val, Nd.zero, y0, y1, y2]) rfl ⟨rfl, E.below⟩
    | true =>
      have e := HE.out
      rw [Bool.and_true, if_pos rfl] at e
      subst e
      have e := HJ.out
      cases hr : room S with
      | false =>
        rw [if_neg (by rw [hr]; decide)] at e
        subst e
        have cA := fun u => (cA u).mono (fun e w' hf => Fit.no hr hf)
        clear HE HJ hr
        go_wp2_with (first
          | (go_at_call 50; refine (cO1 _).mono ?_; rintro e w1 ⟨rfl, b1⟩; clear cO1; have K1 := H0.call b1; obtain ⟨x0, x1, x2, g0, g1, g2, hin4⟩ := (K1.box 0).three; obtain ⟨y0, y1, y2, -, -, -, hin5⟩ := (K1.box 1).three; obtain ⟨v0, v1, v2, -, -, -, hin6⟩ := (K1.box 2).three)
          | (go_at_call 50; refine (cO2 _).mono ?_; rintro e w2 ⟨rfl, b2⟩; clear cO2; have K2 := K1.call b2; obtain ⟨x0, x1, x2, g0, g1, g2, hin4⟩ := (K2.box 0).three; obtain ⟨y0, y1, y2, -, -, -, hin5⟩ := (K2.box 1).three; obtain ⟨v0, v1, v2, -, -, -, hin6⟩ := (K2.box 2).three)
          | (go_at_call 51; refine (cA _).mono ?_; rintro e w3 ⟨rfl, b3⟩; have K3 := (K2.call b3).add 33 #[.int .u64 0, .int .u64 0]; obtain ⟨x0, x1, x2, g0, g1, g2, hin4⟩ := (K3.box 1).three)
          | fail)
        have E := told3 K3.tail (Nat.le_succ_of_le (Nat.le_succ _)) hl2 (.string ⟨#[]⟩) (.int .u64 0) (.int .u64 0)
        generalize World.setCell (World.setCell (World.setCell _ _ _) _ _) _ _ = W9 at *
        obtain ⟨y0, y1, y2, -, -, -, hin9⟩ := (E.box 0).three
        exact bodyPost_ret (v := .tuple #[Nd.zero.val, .int .i64 10]) (by simp [results, Tryz.results34, go_sem, Nd.val, Nd.zero, y0, y1, y2]) rfl ⟨rfl, E.below⟩
      | true =>
        rw [if_pos hr] at e
        subst e
        have rS := re_yes hr
        obtain ⟨X, hX⟩ : ∃ X, rh S = X := ⟨_, rfl⟩
        obtain ⟨Y, hY⟩ : ∃ Y, rl S = Y := ⟨_, rfl⟩
        have cA := fun u => (cA u).mono (fun e w' hf => show e = .returned (.tuple #[.agg #[.int .u64 X, .int .u64 Y], .int .i64 0]) ∧ Below u.heap.size u w' from by obtain ⟨q, r⟩ := hf; rw [rS, hX, hY] at q; exact ⟨q, r⟩)
        have HX := hideIt hX
        have HY := hideIt hY
        clear HE HJ hr rS hX hY
        go_upto_region 6 with (first
          | (go_at_call 50; refine (cO1 _).mono ?_; rintro e w1 ⟨rfl, b1⟩; clear cO1; have K1 := H0.call b1; obtain ⟨x0, x1, x2, g0, g1, g2, hin4⟩ := (K1.box 0).three; obtain ⟨y0, y1, y2, -, -, -, hin5⟩ := (K1.box 1).three; obtain ⟨v0, v1, v2, -, -, -, hin6⟩ := (K1.box 2).three)
          | (go_at_call 50; refine (cO2 _).mono ?_; rintro e w2 ⟨rfl, b2⟩; clear cO2; have K2 := K1.call b2; obtain ⟨x0, x1, x2, g0, g1, g2, hin4⟩ := (K2.box 0).three; obtain ⟨y0, y1, y2, -, -, -, hin5⟩ := (K2.box 1).three; obtain ⟨v0, v1, v2, -, -, -, hin6⟩ := (K2.box 2).three)
          | (go_at_call 51; refine (cA _).mono ?_; rintro e w3 ⟨rfl, b3⟩; have K3 := (K2.call b3).add 33 #[.int .u64 X, .int .u64 Y]; obtain ⟨x0, x1, x2, g0, g1, g2, hin4⟩ := (K3.box 1).three; have hz := (K3.box 0).read 0)
          | fail)
        clear x0 x1 x2 g0 g1 g2 hin4 hz
        have hbg : w.heap.size + 1 + 1 < w3.heap.size := Nat.lt_of_lt_of_le ((K2.box 0).inside) b3.size
        obtain ⟨b, hb⟩ : ∃ b, w3.heap.size = b := ⟨_, rfl⟩
        rw [hb] at K3 hbg ⊢
        change Code.wp _ _ _ _ (w3.alloc (.cells #[.int .u64 X, .int .u64 Y] 33))
        generalize w3.alloc (.cells #[.int .u64 X, .int .u64 Y] 33) = W1 at *
        have fact : ∀ u, Has w [(b, 33, #[.int .u64 X, .int .u64 Y]), (w.heap.size + 1 + 1, 47, ndB ⟨#[]⟩ 0 0), (w.heap.size + 1, 47, ndB z j m), (w.heap.size, 47, ndB s h l)] u → Below w.heap.size w u ∧ (u.cell? ⟨w.heap.size, 0, none⟩ = some (.string s) ∧ u.cell? ⟨w.heap.size, 1, none⟩ = some (.int .u64 h) ∧ u.cell? ⟨w.heap.size, 2, none⟩ = some (.int .u64 l) ∧ u.cell? ⟨w.heap.size + 1, 0, none⟩ = some (.string z) ∧ u.cell? ⟨w.heap.size + 1, 1, none⟩ = some (.int .u64 j) ∧ u.cell? ⟨w.heap.size + 1, 2, none⟩ = some (.int .u64 m) ∧ u.cell? ⟨b, 0, none⟩ = some (.int .u64 X) ∧ u.cell? ⟨b, 1, none⟩ = some (.int .u64 Y)) := fun u H =>
          ⟨H.below, (H.box 3).read 0, (H.box 3).read 1, (H.box 3).read 2, (H.box 2).read 0, (H.box 2).read 1, (H.box 2).read 2, (H.box 0).read 0, (H.box 0).read 1⟩
        have fact2 : ∀ u, Has w [(b, 33, #[.int .u64 X, .int .u64 Y]), (w.heap.size + 1 + 1, 47, ndB D X Y), (w.heap.size + 1, 47, ndB z j m), (w.heap.size, 47, ndB s h l)] u → Below w.heap.size w u ∧ (u.cell? ⟨w.heap.size, 0, none⟩ = some (.string s) ∧ u.cell? ⟨w.heap.size, 1, none⟩ = some (.int .u64 h) ∧ u.cell? ⟨w.heap.size, 2, none⟩ = some (.int .u64 l) ∧ u.cell? ⟨w.heap.size + 1, 0, none⟩ = some (.string z) ∧ u.cell? ⟨w.heap.size + 1, 1, none⟩ = some (.int .u64 j) ∧ u.cell? ⟨w.heap.size + 1, 2, none⟩ = some (.int .u64 m) ∧ u.cell? ⟨b, 0, none⟩ = some (.int .u64 X) ∧ u.cell? ⟨b, 1, none⟩ = some (.int .u64 Y)) := fun u H =>
          ⟨H.below, (H.box 3).read 0, (H.box 3).read 1, (H.box 3).read 2, (H.box 2).read 0, (H.box 2).read 1, (H.box 2).read 2, (H.box 0).read 0, (H.box 0).read 1⟩
        have K4 := K3.drew
        have f0 := fact _ K4
        refine wp_region_held_drew (S := fun u => Below w.heap.size w u ∧ (u.cell? ⟨w.heap.size, 0, none⟩ = some (.string s) ∧ u.cell? ⟨w.heap.size, 1, none⟩ = some (.int .u64 h) ∧ u.cell? ⟨w.heap.size, 2, none⟩ = some (.int .u64 l) ∧ u.cell? ⟨w.heap.size + 1, 0, none⟩ = some (.string z) ∧ u.cell? ⟨w.heap.size + 1, 1, none⟩ = some (.int .u64 j) ∧ u.cell? ⟨w.heap.size + 1, 2, none⟩ = some (.int .u64 m) ∧ u.cell? ⟨b, 0, none⟩ = some (.int .u64 X) ∧ u.cell? ⟨b, 1, none⟩ = some (.int .u64 Y))) (by kernel_rfl) f0 (fun hHeld => ?_)
        refine wpAnyH_take (i := 0) (v := ?_) rfl (by kernel_rfl) (by kernel_rfl) (by kernel_rfl) (fun _ _ _ h => h) (Or.inl ⟨by rfl, ?_⟩) (by assumption) ?_
        rotate_left 1
        · intro w hSw; (try dsimp only at hSw); go_simp; try with_reducible rfl
        try simp only [Act.put, List.getElem_toArray, List.getElem_cons_succ, List.getElem_cons_zero, List.setIfInBounds_toArray, List.set_cons_zero, List.set_cons_succ]
        refine wpAnyH_take (i := 1) (v := ?_) rfl (by kernel_rfl) (by kernel_rfl) (by kernel_rfl) (fun _ _ _ h => h) (Or.inl ⟨by rfl, ?_⟩) (by assumption) ?_
        rotate_left 1
        · intro w hSw; (try dsimp only at hSw); go_simp; try with_reducible rfl
        try simp only [Act.put, List.getElem_toArray, List.getElem_cons_succ, List.getElem_cons_zero, List.setIfInBounds_toArray, List.set_cons_zero, List.set_cons_succ]
        refine wpAnyH_take (i := 2) (v := ?_) rfl (by kernel_rfl) (by kernel_rfl) (by kernel_rfl) (fun _ _ _ h => h) (Or.inl ⟨by rfl, ?_⟩) (by assumption) ?_
        rotate_left 1
        · intro w hSw; (try dsimp only at hSw); go_simp; try with_reducible rfl
        try simp only [Act.put, List.getElem_toArray, List.getElem_cons_succ, List.getElem_cons_zero, List.setIfInBounds_toArray, List.set_cons_zero, List.set_cons_succ]
        refine wpAnyH_take (i := 5) (v := ?_) rfl (by kernel_rfl) (by kernel_rfl) (by kernel_rfl) (fun _ _ _ h => h) (Or.inl ⟨by rfl, ?_⟩) (by assumption) ?_
        rotate_left 1
        · intro w hSw; (try dsimp only at hSw); go_simp; try with_reducible rfl
        try simp only [Act.put, List.getElem_toArray, List.getElem_cons_succ, List.getElem_cons_zero, List.setIfInBounds_toArray, List.set_cons_zero, List.set_cons_succ]
        refine wpAnyH_ready (rs := [3]) (by kernel_rfl) (by simp) (AllReadyH.cons rfl (fun K hK => ?_) AllReadyH.nil)
        go_simp
        go_at_call 53
        refine (cT _).mono ?_
        rintro e w4 ⟨rfl, b4⟩
        have K5 := K4.call b4
        have F5 := fact _ K5
        try simp only []
        refine hK.out _ _ (F5) (fun hHeld => ?_)
        clear hK K
        try simp only [Act.put, List.getElem_toArray, List.getElem_cons_succ, List.getElem_cons_zero, List.setIfInBounds_toArray, List.set_cons_zero, List.set_cons_succ]
        refine wpAnyH_ready (rs := [4]) (by kernel_rfl) (by simp) (AllReadyH.cons rfl (fun K hK => ?_) AllReadyH.nil)
        go_simp
        go_at_call 52
        refine (cD _).mono ?_
        rintro e w5 ⟨rfl, b5⟩
        have K6 := K5.call b5
        have F6 := fact _ K6
        try simp only []
        refine hK.out _ _ (F6) (fun hHeld => ?_)
        clear hK K
        try simp only [Act.put, List.getElem_toArray, List.getElem_cons_succ, List.getElem_cons_zero, List.setIfInBounds_toArray, List.set_cons_zero, List.set_cons_succ]
        refine wpAnyH_take (i := 6) (v := ?_) rfl (by kernel_rfl) (by kernel_rfl) (by kernel_rfl) (fun _ _ _ h => h) (Or.inl ⟨by rfl, ?_⟩) (by assumption) ?_
        rotate_left 1
        · intro w hSw; (try dsimp only at hSw); go_simp; try with_reducible rfl
        try simp only [Act.put, List.getElem_toArray, List.getElem_cons_succ, List.getElem_cons_zero, List.setIfInBounds_toArray, List.set_cons_zero, List.set_cons_succ]
        obtain ⟨x0, x1, x2, g0, g1, g2, hin4⟩ := (K6.box 1).three
        refine wpAnyH_ready (rs := [7]) (by kernel_rfl) (by simp) (AllReadyH.cons rfl (fun K hK => ?_) AllReadyH.nil)
        go_simp
        have E := told4 K6 (Nat.le_succ_of_le (Nat.le_succ _)) hbg hl2 (.string D) (.int .u64 X) (.int .u64 Y)
        generalize World.setCell (World.setCell (World.setCell w5 _ _) _ _) _ _ = W9 at *
        have FX := fact2 _ E
        obtain ⟨r0, r1, r2, -, -, -, hin9⟩ := (E.box 1).three
        refine hK.out _ _ (FX) (fun hHeld => ?_)
        clear hK K
        try simp only [Act.put, List.getElem_toArray, List.getElem_cons_succ, List.getElem_cons_zero, List.setIfInBounds_toArray, List.set_cons_zero, List.set_cons_succ]
        refine wpAnyH_take (i := 8) (v := ?_) rfl (by kernel_rfl) (by kernel_rfl) (by kernel_rfl) (fun _ _ _ h => h) (Or.inl ⟨by rfl, ?_⟩) (by assumption) ?_
        rotate_left 1
        · intro w hSw; (try dsimp only at hSw); go_simp; try with_reducible rfl
        try simp only [Act.put, List.getElem_toArray, List.getElem_cons_succ, List.getElem_cons_zero, List.setIfInBounds_toArray, List.set_cons_zero, List.set_cons_succ]
        refine wpAnyH_done (by kernel_rfl) ?_ _
        clear x0 x1 x2 g0 g1 g2 hin4 F5 F6 fact fact2
        go_wp2
        exact bodyPost_ret (v := .tuple #[Nd.val ⟨D, X, Y⟩, .int .i64 0]) (by simp [results, Tryz.results34, go_sem, Nd.val, r0, r1, r2]) rfl ⟨by rw [HX.out, HY.out], E.below⟩
end Go.Proofs.YtjndabnegmecmaaGreatDoor
/-
  paymasterref14's Fold, walked.
-/
namespace Go.Proofs.YtjndabnegmecmaaGreatDoor
set_option linter.unusedVariables false
set_option linter.unusedSimpArgs false
set_option maxRecDepth 10000
open Go.RowKit

theorem Sh.Row.drop {α : Type} {S : Sh α} {w : World} {B : Nat} {a : Addr} {xs : List α} (h : S.Row w B (some a) xs) (n : Nat) : S.Row w B (some (a.add (n * S.k))) (xs.drop n) := fun i x hx => by
  rw [List.getElem?_drop] at hx
  obtain ⟨ad, e, hl, hc⟩ := h (n + i) x hx
  injection e with e
  subst e
  refine ⟨_, rfl, by rw [gen_block]; exact hl, ?_⟩
  rw [gen_add, ← Nat.add_mul]
  exact hc
set_option maxRecDepth 100000 in
set_option maxHeartbeats 2000000 in
theorem rfold14_pow (n : Int) (k : Nat) : k ≤ 20 → ∀ (A : Option Addr) (c : Nat) (l : List Nd) (w : World), l.length = 2 ^ k → l.length ≤ 1000000000 → l.length ≤ c → c ≤ 9223372036854775807 → (∀ x ∈ l, x.halved ∧ x.hash.size ≤ 1000000) → allW n l = true → ndS.Row w w.heap.size A l →
    Calls Tryz.prog 18 #[.int .i64 n, .slice A l.length c] w (fun e w' => e = .returned (.tuple #[(foldS n k l).1.val, .int .i64 (foldS n k l).2]) ∧ Below w.heap.size w w') := by
  induction k using Nat.strongRecOn with
  | _ k ih =>
  intro hk A c l w hl hlen hc hcm hx ho hr
  have cA := fun u hu => rall14_any n A c l (by omega) u hu
  rw [ho] at cA
  obtain ⟨N, hN⟩ : ∃ N, l.length = N := ⟨_, rfl⟩
  rw [hN] at cA hl hc hlen ⊢
  have HL := hideIt hl
  clear hl
  have H0 := (Has.start w).add 47 (ndB ⟨#[]⟩ 0 0)
  have hr0 := hr.on H0.below
  go_enter Tryz.func18, Tryz.ntmps18
  go_upto_region 1 with fail
  change Code.wp _ _ _ _ (w.alloc (.cells (ndB ⟨#[]⟩ 0 0) 47))
  generalize w.alloc (.cells (ndB ⟨#[]⟩ 0 0) 47) = W0 at *
  go_wp2_with (first | (go_at_call 33; refine (cA _ hr0).mono ?_; rintro e w1 ⟨rfl, b1⟩; have K1 := H0.call b1) | fail)
  go_loopg [6] (k + 1) (fun gk v wr => ∃ m i : Nat, i < gk ∧ m = 2 ^ i ∧ m ≤ N ∧ v = .int .i64 m ∧ Has w [(w.heap.size, 47, ndB ⟨#[]⟩ 0 0)] wr)
  case atStart => exact ⟨N, k, by omega, HL.out, Nat.le_refl _, rfl, K1⟩
  case round =>
    obtain ⟨m, i, hi, hm, hmN, rfl, K2⟩ := hrel
    have HI := hideIt hi
    have HM := hideIt hm
    clear hi hm
    by_cases h1 : i = 0
    · have e : m = 1 := by rw [HM.out, h1]
      subst e
      by_cases hk0 : k = 0
      · subst hk0
        have e : N = 1 := HL.out
        subst e
        obtain ⟨x, hx0⟩ := List.length_eq_one_iff.1 hN
        subst hx0
        obtain ⟨ad, rfl, g1, p0, p1, p2⟩ := nd_get (hr.on K2.below) (i := 0) (x := x) rfl
        obtain ⟨y0, y1, y2, f0, f1, f2, hin⟩ := (K2.box 0).three
        have ez : ad.add (0 * 3) = ad := by simp [Addr.add]
        rw [ez] at p0 p1 p2
        obtain ⟨xs, xh, xl⟩ := x
        simp only at p0 p1 p2
        clear HI HM g1 ez
        go_wp2
        have E := told3 K2 (Nat.le_refl _) (fun x hx => by simp at hx) (.string xs) (.int .u64 xh) (.int .u64 xl)
        generalize World.setCell (World.setCell (World.setCell _ _ _) _ _) _ _ = W9 at *
        obtain ⟨v0, v1, v2, -, -, -, hin9⟩ := (E.box 0).three
        exact bodyPost_ret (v := .tuple #[Nd.val ⟨xs, xh, xl⟩, .int .i64 0]) (by simp [results, Tryz.results18, go_sem, Nd.val, v0, v1, v2]) rfl ⟨rfl, E.below⟩
      · obtain ⟨kk, rfl⟩ : ∃ kk, k = kk + 1 := ⟨k - 1, by omega⟩
        obtain ⟨q, hqd⟩ : ∃ q, 2 ^ kk = q := ⟨_, rfl⟩
        have hq : N = q + q := by rw [HL.out, pow_two, hqd]
        have hq1 : 1 ≤ q := by rw [← hqd]; exact Nat.two_pow_pos kk
        obtain ⟨hmw, hof⟩ := allW_mem ho
        obtain ⟨x, hx0⟩ : ∃ x, l[0]? = some x := ⟨_, List.getElem?_eq_getElem (by omega)⟩
        obtain ⟨ad, rfl, -⟩ := hr 0 x hx0
        have t1 : (l.take q).length = q := by rw [List.length_take]; omega
        have t2 : (l.drop q).length = q := by rw [List.length_drop]; omega
        have a1 : allW n (l.take q) = true := by
          rw [allW, hmw, Bool.true_and]
          exact List.all_eq_true.2 fun y hy => hof y (List.mem_of_mem_take hy)
        have a2 : allW n (l.drop q) = true := by
          rw [allW, hmw, Bool.true_and]
          exact List.all_eq_true.2 fun y hy => hof y (List.mem_of_mem_drop hy)
        have c1 := fun u hu => ih kk (by omega) (by omega) (some ad) c (l.take q) u (by rw [t1, hqd]) (by omega) (by omega) hcm (fun y hy => hx y (List.mem_of_mem_take hy)) a1 hu
        have c2 := fun u hu => ih kk (by omega) (by omega) (some (ad.add (q * 3))) (c - q) (l.drop q) u (by rw [t2, hqd]) (by omega) (by omega) (by omega) (fun y hy => hx y (List.mem_of_mem_drop hy)) a2 hu
        rw [t1] at c1
        rw [t2] at c2
        have r1 := fun u (hb : Below w.heap.size w u) => (hr.on hb).take q
        have r2 := fun u (hb : Below w.heap.size w u) => (hr.on hb).drop q
        have ef : foldS n (kk + 1) l = if (foldS n kk (l.take q)).2 = 0 ∧ (foldS n kk (l.drop q)).2 = 0 then joinS n (foldS n kk (l.take q)).1 (foldS n kk (l.drop q)).1 else (Nd.zero, 10) := by rw [foldS, hqd]
        have g1 := fold_good hmw (t1.trans hqd.symm) (fun y hy => (hx y (List.mem_of_mem_take hy)).1) (fun y hy => hof y (List.mem_of_mem_take hy))
        have g2 := fold_good hmw (t2.trans hqd.symm) (fun y hy => (hx y (List.mem_of_mem_drop hy)).1) (fun y hy => hof y (List.mem_of_mem_drop hy))
        obtain ⟨R, hR⟩ : ∃ R, foldS n (kk + 1) l = R := ⟨_, rfl⟩
        rw [hR] at ef
        have HR := hideIt hR
        clear hR
        obtain ⟨⟨⟨fs, fh, fl⟩, fe⟩, hF⟩ : ∃ V, foldS n kk (l.take q) = V := ⟨_, rfl⟩
        obtain ⟨⟨⟨gs, gh, gl⟩, ge⟩, hG⟩ : ∃ V, foldS n kk (l.drop q) = V := ⟨_, rfl⟩
        rw [hF] at c1 ef g1
        rw [hG] at c2 ef g2
        simp only [Nd.val] at c1 c2 ef g1 g2
        have HF := hideIt ef
        clear ef hF hG ih HI HM cA
        subst hq
        have K2b := K2.below
        have eq2 : (q + q) / 2 = q := by omega
        have eq3 : q + q - q = q := by omega
        go_upto_region 12 with (first
          | (go_at_call 18; rw [eq2]; refine (c1 _ (r1 _ K2b)).mono ?_; rintro e w2 ⟨rfl, b2⟩; clear c1; have K3 := (K2.call b2).add 47 (ndB fs fh fl); have K3b := K3.below)
          | (go_at_call 18; rw [eq2]; rw [eq3]; refine (c2 _ (r2 _ K3b)).mono ?_; rintro e w3 ⟨rfl, b3⟩; have K4 := (K3.call b3).add 47 (ndB gs gh gl))
          | fail)
        change Code.wp _ _ _ _ (w3.alloc (.cells (ndB gs gh gl) 47))
        obtain ⟨d1, hd1⟩ : ∃ d, w2.heap.size = d := ⟨_, rfl⟩
        obtain ⟨d2, hd2⟩ : ∃ d, w3.heap.size = d := ⟨_, rfl⟩
        rw [hd1] at K4
        rw [hd2] at K4
        rw [hd1, hd2]
        generalize w3.alloc (.cells (ndB gs gh gl) 47) = W4 at *
        clear c2 r1 r2 K3 K3b K2b b2 b3 hd1 hd2 K2 b1 K1 H0 hr0
        obtain ⟨y0, y1, y2, f0, f1, f2, hin⟩ := (K4.box 2).three
        obtain ⟨u0, u1, u2, -, -, -, hin1⟩ := (K4.box 1).three
        obtain ⟨z0, z1, z2, -, -, -, hin2⟩ := (K4.box 0).three
        by_cases h1 : fe = 0
        · subst h1
          obtain ⟨o1, w1'⟩ := g1 rfl
          by_cases h2 : ge = 0
          · subst h2
            obtain ⟨o2, w2'⟩ := g2 rfl
            have e := HF.out
            rw [if_pos ⟨rfl, rfl⟩] at e
            have cJ := fun u => rjoin14_any n ⟨fs, fh, fl⟩ ⟨gs, gh, gl⟩ (Nat.le_trans (of_size o1) (by decide)) (Nat.le_trans (of_size o2) (by decide)) w1' w2' u
            rw [joinN, o1, o2, if_pos (by decide), ← e] at cJ
            simp only [Nd.val] at cJ
            clear e HF g1 g2
            obtain ⟨⟨js, jh, jl⟩, je⟩ := R
            simp only at cJ
            go_wp2_with (first
              | (go_at_call 34; refine (cJ _).mono ?_; rintro e w5 ⟨rfl, b5⟩; have K5 := K4.call b5; obtain ⟨x0, x1, x2, g0, g1, g2, hin4⟩ := (K5.box 2).three)
              | fail)
            have E := told3 K5.tail.tail (Nat.le_refl _) (fun x hx => by simp at hx) (.string js) (.int .u64 jh) (.int .u64 jl)
            generalize World.setCell (World.setCell (World.setCell _ _ _) _ _) _ _ = W9 at *
            obtain ⟨v0, v1, v2, -, -, -, hin9⟩ := (E.box 0).three
            exact bodyPost_ret (v := .tuple #[Nd.val ⟨js, jh, jl⟩, .int .i64 je]) (by simp [results, Tryz.results18, go_sem, Nd.val, v0, v1, v2]) rfl ⟨by rw [HR.out], E.below⟩
          · have hq1 : (ge != 0) = true := by simp [h2]
            have e := HF.out
            rw [if_neg (fun h => h2 h.2)] at e
            subst e
            go_wp2
            have E := told3 K4.tail.tail (Nat.le_refl _) (fun x hx => by simp at hx) (.string ⟨#[]⟩) (.int .u64 0) (.int .u64 0)
            generalize World.setCell (World.setCell (World.setCell _ _ _) _ _) _ _ = W9 at *
            obtain ⟨v0, v1, v2, -, -, -, hin9⟩ := (E.box 0).three
            exact bodyPost_ret (v := .tuple #[Nd.zero.val, .int .i64 10]) (by simp [results, Tryz.results18, go_sem, Nd.val, Nd.zero, v0, v1, v2]) rfl ⟨by rw [HR.out], E.below⟩
        · have hq1 : (fe != 0) = true := by simp [h1]
          have e := HF.out
          rw [if_neg (fun h => h1 h.1)] at e
          subst e
          go_wp2
          have E := told3 K4.tail.tail (Nat.le_refl _) (fun x hx => by simp at hx) (.string ⟨#[]⟩) (.int .u64 0) (.int .u64 0)
          generalize World.setCell (World.setCell (World.setCell _ _ _) _ _) _ _ = W9 at *
          obtain ⟨v0, v1, v2, -, -, -, hin9⟩ := (E.box 0).three
          exact bodyPost_ret (v := .tuple #[Nd.zero.val, .int .i64 10]) (by simp [results, Tryz.results18, go_sem, Nd.val, Nd.zero, v0, v1, v2]) rfl ⟨by rw [HR.out], E.below⟩
    · obtain ⟨q, hq⟩ : ∃ q, m = q + q := ⟨2 ^ (i - 1), by rw [HM.out, ← pow_two, show i - 1 + 1 = i by omega]⟩
      have q1 : 1 ≤ q := by
        have := HM.out
        have := Nat.two_pow_pos i
        omega
      subst hq
      go_wp2
      go_roundg i
      case measure => have := HI.out; omega
      case rel => exact ⟨q, i - 1, by omega, by
          have e := HM.out
          rw [show i = i - 1 + 1 by omega, pow_two] at e
          omega, by omega, by first | rfl | go_num, K2⟩
set_option maxHeartbeats 1000000 in
theorem rfold14_wide (n : Int) (A : Option Addr) (c : Nat) (l : List Nd) (w : World) (hlen : l.length ≤ 1000000000) (ho : allW n l = false) (hr : ndS.Row w w.heap.size A l) :
    Calls Tryz.prog 18 #[.int .i64 n, .slice A l.length c] w (fun e w' => e = .returned (.tuple #[Nd.zero.val, .int .i64 70]) ∧ Below w.heap.size w w') := by
  have cA := fun u hu => rall14_any n A c l hlen u hu
  rw [ho] at cA
  obtain ⟨N, hN⟩ : ∃ N, l.length = N := ⟨_, rfl⟩
  rw [hN] at cA hlen ⊢
  have H0 := (Has.start w).add 47 (ndB ⟨#[]⟩ 0 0)
  have hr0 := hr.on H0.below
  go_enter Tryz.func18, Tryz.ntmps18
  go_upto_region 1 with fail
  change Code.wp _ _ _ _ (w.alloc (.cells (ndB ⟨#[]⟩ 0 0) 47))
  generalize w.alloc (.cells (ndB ⟨#[]⟩ 0 0) 47) = W0 at *
  go_wp2_with (first | (go_at_call 33; refine (cA _ hr0).mono ?_; rintro e w1 ⟨rfl, b1⟩; have K2 := H0.call b1; obtain ⟨y0, y1, y2, f0, f1, f2, hin⟩ := (K2.box 0).three) | fail)
  have E := told3 K2 (Nat.le_refl _) (fun x hx => by simp at hx) (.string ⟨#[]⟩) (.int .u64 0) (.int .u64 0)
  generalize World.setCell (World.setCell (World.setCell _ _ _) _ _) _ _ = W9 at *
  obtain ⟨v0, v1, v2, -, -, -, hin9⟩ := (E.box 0).three
  exact bodyPost_ret (v := .tuple #[Nd.zero.val, .int .i64 70]) (by simp [results, Tryz.results18, go_sem, Nd.val, Nd.zero, v0, v1, v2]) rfl ⟨rfl, E.below⟩
set_option maxHeartbeats 1000000 in
theorem rfold14_odd (n : Int) (A : Option Addr) (c : Nat) (l : List Nd) (w : World) (hlen : l.length ≤ 1000000000) (ho : allW n l = true) (hk : ∀ k, l.length ≠ 2 ^ k) (hr : ndS.Row w w.heap.size A l) :
    Calls Tryz.prog 18 #[.int .i64 n, .slice A l.length c] w (fun e w' => e = .returned (.tuple #[Nd.zero.val, .int .i64 2]) ∧ Below w.heap.size w w') := by
  have cA := fun u hu => rall14_any n A c l hlen u hu
  rw [ho] at cA
  obtain ⟨N, hN⟩ : ∃ N, l.length = N := ⟨_, rfl⟩
  rw [hN] at cA hlen ⊢
  have H0 := (Has.start w).add 47 (ndB ⟨#[]⟩ 0 0)
  have hr0 := hr.on H0.below
  go_enter Tryz.func18, Tryz.ntmps18
  go_upto_region 1 with fail
  change Code.wp _ _ _ _ (w.alloc (.cells (ndB ⟨#[]⟩ 0 0) 47))
  generalize w.alloc (.cells (ndB ⟨#[]⟩ 0 0) 47) = W0 at *
  rw [hN] at hk
  go_wp2_with (first | (go_at_call 33; refine (cA _ hr0).mono ?_; rintro e w1 ⟨rfl, b1⟩; have K1 := H0.call b1) | fail)
  go_loopg [6] N (fun gk v wr => ∃ m i : Nat, m ≤ gk ∧ N = 2 ^ i * m ∧ m ≤ N ∧ v = .int .i64 m ∧ Has w [(w.heap.size, 47, ndB ⟨#[]⟩ 0 0)] wr)
  case atStart => exact ⟨N, 0, Nat.le_refl _, by simp, Nat.le_refl _, rfl, K1⟩
  case round =>
    obtain ⟨m, i, hi, hm, hmN, rfl, K2⟩ := hrel
    have h1 : m ≠ 1 := fun e => hk i (by rw [hm, e, Nat.mul_one])
    have HI := hideIt hi
    have HM := hideIt hm
    clear hi hm hk
    obtain ⟨y0, y1, y2, f0, f1, f2, hin⟩ := (K2.box 0).three
    by_cases h2 : m % 2 = 0 ∧ 1 < m
    · obtain ⟨q, hq⟩ : ∃ q, m = q + q := ⟨m / 2, by omega⟩
      have q1 : 1 ≤ q := by omega
      subst hq
      go_wp2
      go_roundg q
      case measure => have := HI.out; omega
      case rel => exact ⟨q, i + 1, Nat.le_refl _, by rw [HM.out, pow_two, Nat.add_mul, Nat.mul_add], by omega, by first | rfl | go_num, K2⟩
    · have hm1 : ¬ ((m : Int) = 1) := by omega
      have hq1 : ((m : Int) != 1) = true := by simp [hm1]
      by_cases h3 : 1 < m
      · have hi3 : (1 : Int) < (m : Int) := by omega
        have hm2 : ((m : Int) % 2 == 0) = false := beq_false_of_ne (by omega)
        go_wp2
        have E := told3 K2 (Nat.le_refl _) (fun x hx => by simp at hx) (.string ⟨#[]⟩) (.int .u64 0) (.int .u64 0)
        generalize World.setCell (World.setCell (World.setCell _ _ _) _ _) _ _ = W9 at *
        obtain ⟨v0, v1, v2, -, -, -, hin9⟩ := (E.box 0).three
        exact bodyPost_ret (v := .tuple #[Nd.zero.val, .int .i64 2]) (by simp [results, Tryz.results18, go_sem, Nd.val, Nd.zero, v0, v1, v2]) rfl ⟨rfl, E.below⟩
      · have hi3 : ¬ (1 : Int) < (m : Int) := by omega
        go_wp2
        have E := told3 K2 (Nat.le_refl _) (fun x hx => by simp at hx) (.string ⟨#[]⟩) (.int .u64 0) (.int .u64 0)
        generalize World.setCell (World.setCell (World.setCell _ _ _) _ _) _ _ = W9 at *
        obtain ⟨v0, v1, v2, -, -, -, hin9⟩ := (E.box 0).three
        exact bodyPost_ret (v := .tuple #[Nd.zero.val, .int .i64 2]) (by simp [results, Tryz.results18, go_sem, Nd.val, Nd.zero, v0, v1, v2]) rfl ⟨rfl, E.below⟩
/-- Fold of any row that is gone through. -/
theorem rfold14_any (n : Int) (A : Option Addr) (c : Nat) (l : List Nd) (hlen : l.length ≤ 300) (hc : l.length ≤ c) (hcm : c ≤ 9223372036854775807) (hh : ∀ x ∈ l, x.halved ∧ x.hash.size ≤ 1000000) (w : World) (hR : ndS.Row w w.heap.size A l) :
    Calls Tryz.prog 18 #[.int .i64 n, .slice A l.length c] w (fun e w' => e = .returned (.tuple #[(foldN n l).1.val, .int .i64 (foldN n l).2]) ∧ Below w.heap.size w w') := by
  cases hV : allW n l with
  | false =>
    rw [foldN, if_neg (by rw [hV]; decide)]
    exact rfold14_wide n A c l w (by omega) hV hR
  | true =>
    cases hP : powB l.length with
    | false =>
      rw [foldN, if_pos hV, if_neg (by rw [hP]; decide)]
      exact rfold14_odd n A c l w (by omega) hV (powB_no (by omega) hP) hR
    | true =>
      obtain ⟨h1, h2⟩ := powB_log l.length (by omega) hP
      rw [foldN, if_pos hV, if_pos hP]
      exact rfold14_pow n (Nat.log2 l.length) (by omega) A c l w h1 (by omega) hc hcm hh hV hR
end Go.Proofs.YtjndabnegmecmaaGreatDoor
