/- Several of my texts, laid as one. -/
import Derived.Test.YtkecekfapiegjaaDoorM13Nod
import Derived.Test.YtkecekfapiegjaaDoorM14Pln
import Derived.Test.YtkecekfapiegjaaDoorM7Fn
import Derived.Test.YtkecekfapiegjaaDoorM14One
import Derived.Test.YtkecekfapiegjaaDoorU5Clone
import Derived.Test.YtkecekfapiegjaaDoorM14W
/-
  Package node's Of, allOf, own, walked.
-/
namespace Go.Proofs.YtkecekfapiegjaaDoor
set_option linter.unusedVariables false
set_option linter.unusedSimpArgs false
set_option maxRecDepth 10000
open Go.RowKit

set_option maxHeartbeats 2000000 in
theorem allOf14_any (n : Int) (A : Option Addr) (c : Nat) (l : List Nd) (hl : l.length ≤ 1000000000) (w : World) (h : ndS.Row w w.heap.size A l) :
    Calls Tryd.prog 102 #[.int .i64 n, .slice A l.length c] w (Tells (.bool (allW n l)) w.heap.size w) := by
  have cW := fun u => mayWidth_any n u
  have eV : allW n l = (mayW n && l.all (Nd.of n)) := rfl
  obtain ⟨V, hV⟩ : ∃ V, allW n l = V := ⟨_, rfl⟩
  rw [hV] at eV ⊢
  have HV := hideIt eV
  clear eV hV
  obtain ⟨N, hN⟩ : ∃ N, l.length = N := ⟨_, rfl⟩
  rw [hN]
  generalize hW : mayW n = M at *
  go_enter Tryd.func102, Tryd.ntmps102
  go_wp2
  go_loopg [9] N (fun gk i wr => ∃ k : Nat, k ≤ N ∧ N - k ≤ gk ∧ i = .int .i64 k ∧ (∀ j x, j < k → l[j]? = some x → x.of n = true) ∧ Below w.heap.size w wr)
  case atStart => exact ⟨0, Nat.zero_le _, by omega, rfl, fun j x hj => absurd hj (Nat.not_lt_zero _), Below.refl _ _⟩
  case round =>
    obtain ⟨k, hk, hgk, rfl, hall, hb3⟩ := hrel
    have HG := hideIt hgk
    have HA := hideIt hall
    clear hgk hall
    by_cases hlt : k < N
    · obtain ⟨x, hx⟩ : ∃ x, l[k]? = some x := ⟨_, List.getElem?_eq_getElem (by omega)⟩
      have hlti : (k : Int) < (N : Int) := by omega
      obtain ⟨ad, rfl, g1, p0, p1, p2⟩ := nd_get (h.on hb3) hx
      have cO := fun u => of14_any n x u
      obtain ⟨t, ht⟩ : ∃ t, x.of n = t := ⟨_, rfl⟩
      rw [ht] at cO
      have HX := hideIt hx
      have HT := hideIt ht
      obtain ⟨xs, xh, xl⟩ := x
      simp only [Nd.val] at cO p0 p1 p2
      clear hx ht
      cases t with
      | true =>
        go_wp2_with (first | (go_at_call 100; refine (cO _).mono ?_; rintro e w2 ⟨rfl, b2⟩) | fail)
        go_roundg (N - (k + 1))
        case measure => have := HG.out; omega
        case rel => exact ⟨k + 1, by omega, Nat.le_refl _, by go_num, fun j x hj hx => by
            by_cases e : j = k
            · subst e
              rw [HX.out] at hx
              injection hx with hx
              rw [← hx]
              exact HT.out
            · exact HA.out j x (by omega) hx, (chainA hb3 _).trans (b2.mono (by simp; exact Nat.le_succ_of_le hb3.size))⟩
      | false =>
        have hno : V = false := by
          rw [HV.out]
          have : l.all (Nd.of n) = false := by
            rw [Bool.eq_false_iff]
            intro e
            have := List.all_eq_true.1 e _ (List.mem_of_getElem? HX.out)
            rw [HT.out] at this
            cases this
          rw [this, Bool.and_false]
        subst hno
        go_wp2_with (first | (go_at_call 100; refine (cO _).mono ?_; rintro e w2 ⟨rfl, b2⟩) | fail)
        go_ret
        exact ⟨rfl, (chainA hb3 _).trans (b2.mono (by simp; exact Nat.le_succ_of_le hb3.size))⟩
    · have e : k = N := by omega
      subst e
      have hyes : V = M := by
        rw [HV.out]
        have : l.all (Nd.of n) = true := List.all_eq_true.2 fun x hx => by
          obtain ⟨j, hj⟩ := List.getElem?_of_mem hx
          exact HA.out j x (by have := (List.getElem?_eq_some_iff.1 hj).1; omega) hj
        rw [this, Bool.and_true]
      subst hyes
      clear hW
      go_wp2_with (first | (go_at_call 51; refine (cW _).mono ?_; rintro e w' ⟨rfl, rfl⟩) | fail)
      go_ret
      exact ⟨rfl, hb3⟩
set_option maxRecDepth 100000 in
set_option maxHeartbeats 2000000 in
theorem own14_any (x : Nd) (hx : x.hash.size ≤ 1000000) (w : World) : Calls Tryd.prog 103 #[x.val] w (Tells x.val w.heap.size w) := by
  have cC := fun u => clone_any x.hash (by omega) u
  obtain ⟨s, h, l⟩ := x
  simp only at cC
  show Calls _ _ #[.agg (ndB s h l)] _ _
  have hl2 : ∀ x ∈ ([(w.heap.size, 49, ndB s h l)] : List Blk), x.1 < w.heap.size + 1 := fun x hx => by
    simp only [List.mem_cons, List.not_mem_nil, or_false] at hx
    rcases hx with rfl
    exact Nat.lt_succ_self _
  have H0 := ((Has.start w).add 49 (ndB s h l)).addAt 49 (ndB ⟨#[]⟩ 0 0) (g := w.heap.size + 1) (by simp)
  go_enter Tryd.func103, Tryd.ntmps103
  go_upto_region 1 with fail
  change Code.wp _ _ _ _ ((w.alloc (.cells (ndB s h l) 49)).alloc (.cells (ndB ⟨#[]⟩ 0 0) 49))
  generalize (w.alloc (.cells (ndB s h l) 49)).alloc (.cells (ndB ⟨#[]⟩ 0 0) 49) = W0 at *
  have fact : ∀ u, Has w [(w.heap.size + 1, 49, ndB ⟨#[]⟩ 0 0), (w.heap.size, 49, ndB s h l)] u → Below w.heap.size w u ∧ (u.cell? ⟨w.heap.size, 0, none⟩ = some (.string s) ∧ u.cell? ⟨w.heap.size, 1, none⟩ = some (.int .u64 h) ∧ u.cell? ⟨w.heap.size, 2, none⟩ = some (.int .u64 l)) := fun u H =>
    ⟨H.below, (H.box 1).read 0, (H.box 1).read 1, (H.box 1).read 2⟩
  have fact2 : ∀ u, Has w [(w.heap.size + 1, 49, ndB s h l), (w.heap.size, 49, ndB s h l)] u → Below w.heap.size w u ∧ (u.cell? ⟨w.heap.size, 0, none⟩ = some (.string s) ∧ u.cell? ⟨w.heap.size, 1, none⟩ = some (.int .u64 h) ∧ u.cell? ⟨w.heap.size, 2, none⟩ = some (.int .u64 l)) := fun u H =>
    ⟨H.below, (H.box 1).read 0, (H.box 1).read 1, (H.box 1).read 2⟩
  have K4 := H0.drew
  have f0 := fact _ K4
  refine wp_region_held_drew (S := fun u => Below w.heap.size w u ∧ (u.cell? ⟨w.heap.size, 0, none⟩ = some (.string s) ∧ u.cell? ⟨w.heap.size, 1, none⟩ = some (.int .u64 h) ∧ u.cell? ⟨w.heap.size, 2, none⟩ = some (.int .u64 l))) (by kernel_rfl) f0 (fun hHeld => ?_)
  refine wpAnyH_take (i := 0) (v := ?_) rfl (by kernel_rfl) (by kernel_rfl) (by kernel_rfl) (fun _ _ _ h => h) (Or.inl ⟨by rfl, ?_⟩) (by assumption) ?_
  rotate_left 1
  · intro w hSw; (try dsimp only at hSw); go_simp; try with_reducible rfl
  try simp only [Act.put, List.getElem_toArray, List.getElem_cons_succ, List.getElem_cons_zero, List.setIfInBounds_toArray, List.set_cons_zero, List.set_cons_succ]
  refine wpAnyH_take (i := 1) (v := ?_) rfl (by kernel_rfl) (by kernel_rfl) (by kernel_rfl) (fun _ _ _ h => h) (Or.inl ⟨by rfl, ?_⟩) (by assumption) ?_
  rotate_left 1
  · intro w hSw; (try dsimp only at hSw); go_simp; try with_reducible rfl
  try simp only [Act.put, List.getElem_toArray, List.getElem_cons_succ, List.getElem_cons_zero, List.setIfInBounds_toArray, List.set_cons_zero, List.set_cons_succ]
  refine wpAnyH_take (i := 3) (v := ?_) rfl (by kernel_rfl) (by kernel_rfl) (by kernel_rfl) (fun _ _ _ h => h) (Or.inl ⟨by rfl, ?_⟩) (by assumption) ?_
  rotate_left 1
  · intro w hSw; (try dsimp only at hSw); go_simp; try with_reducible rfl
  try simp only [Act.put, List.getElem_toArray, List.getElem_cons_succ, List.getElem_cons_zero, List.setIfInBounds_toArray, List.set_cons_zero, List.set_cons_succ]
  refine wpAnyH_take (i := 4) (v := ?_) rfl (by kernel_rfl) (by kernel_rfl) (by kernel_rfl) (fun _ _ _ h => h) (Or.inl ⟨by rfl, ?_⟩) (by assumption) ?_
  rotate_left 1
  · intro w hSw; (try dsimp only at hSw); go_simp; try with_reducible rfl
  try simp only [Act.put, List.getElem_toArray, List.getElem_cons_succ, List.getElem_cons_zero, List.setIfInBounds_toArray, List.set_cons_zero, List.set_cons_succ]
  refine wpAnyH_ready (rs := [2]) (by kernel_rfl) (by simp) (AllReadyH.cons rfl (fun K hK => ?_) AllReadyH.nil)
  go_simp
  go_at_call 70
  refine (cC _).mono ?_
  rintro e w4 ⟨rfl, b4⟩
  have K5 := K4.call b4
  have F5 := fact _ K5
  try simp only []
  refine hK.out _ _ (F5) (fun hHeld => ?_)
  clear hK K
  try simp only [Act.put, List.getElem_toArray, List.getElem_cons_succ, List.getElem_cons_zero, List.setIfInBounds_toArray, List.set_cons_zero, List.set_cons_succ]
  refine wpAnyH_take (i := 5) (v := ?_) rfl (by kernel_rfl) (by kernel_rfl) (by kernel_rfl) (fun _ _ _ h => h) (Or.inl ⟨by rfl, ?_⟩) (by assumption) ?_
  rotate_left 1
  · intro w hSw; (try dsimp only at hSw); go_simp; try with_reducible rfl
  try simp only [Act.put, List.getElem_toArray, List.getElem_cons_succ, List.getElem_cons_zero, List.setIfInBounds_toArray, List.set_cons_zero, List.set_cons_succ]
  obtain ⟨x0, x1, x2, g0, g1, g2, hin4⟩ := (K5.box 0).three
  refine wpAnyH_ready (rs := [6]) (by kernel_rfl) (by simp) (AllReadyH.cons rfl (fun K hK => ?_) AllReadyH.nil)
  go_simp
  have E := told3 K5 (Nat.le_succ _) hl2 (.string s) (.int .u64 h) (.int .u64 l)
  generalize World.setCell (World.setCell (World.setCell w4 _ _) _ _) _ _ = W9 at *
  have FX := fact2 _ E
  obtain ⟨r0, r1, r2, -, -, -, hin9⟩ := (E.box 0).three
  refine hK.out _ _ (FX) (fun hHeld => ?_)
  clear hK K
  try simp only [Act.put, List.getElem_toArray, List.getElem_cons_succ, List.getElem_cons_zero, List.setIfInBounds_toArray, List.set_cons_zero, List.set_cons_succ]
  refine wpAnyH_done (by kernel_rfl) ?_ _
  clear x0 x1 x2 g0 g1 g2 hin4 F5 fact fact2
  go_wp2
  exact bodyPost_ret (v := Nd.val ⟨s, h, l⟩) (by simp [results, Tryd.results103, go_sem, Nd.val, r0, r1, r2]) rfl ⟨rfl, E.below⟩
end Go.Proofs.YtkecekfapiegjaaDoor
/-
  Package node's join and Join, walked.
-/
namespace Go.Proofs.YtkecekfapiegjaaDoor
set_option linter.unusedVariables false
set_option linter.unusedSimpArgs false
set_option maxRecDepth 10000
open Go.RowKit

set_option maxRecDepth 100000 in
set_option maxHeartbeats 2000000 in
theorem join14_any (n : Int) (a b : Nd) (h1 : a.hash.size ≤ 1000000) (h2 : b.hash.size ≤ 1000000) (ha : a.halved) (hb : b.halved) (w : World) (hT : Tab w) :
    Calls Tryd.prog 105 #[.int .i64 n, a.val, b.val] w (fun e w' => e = .returned (.tuple #[(joinS n a b).1.val, .int .i64 (joinS n a b).2]) ∧ Below w.heap.size w w') := by
  have cT := fun u => nodeText_any a b h1 h2 ha.1 ha.2 hb.1 hb.2 u
  have cD := fun u hu => digestT_any n (ndText a b) (by rw [ndText_size]; omega) u hu
  have cA := fun u => add_any a.h a.l b.h b.l ha.1 ha.2 hb.1 hb.2 u
  have e2 : joinS n a b = if room (nv a.h a.l + nv b.h b.l) = true then (⟨dgB n (ndText a b), rh (nv a.h a.l + nv b.h b.l), rl (nv a.h a.l + nv b.h b.l)⟩, 0) else (Nd.zero, 10) := rfl
  obtain ⟨s, h, l⟩ := a
  obtain ⟨z, j, m⟩ := b
  simp only [Nd.val] at cT cA e2
  show Calls _ _ #[.int .i64 n, .agg (ndB s h l), .agg (ndB z j m)] _ _
  generalize dgB n (ndText ⟨s, h, l⟩ ⟨z, j, m⟩) = D at *
  generalize ndText ⟨s, h, l⟩ ⟨z, j, m⟩ = T at *
  generalize joinS n ⟨s, h, l⟩ ⟨z, j, m⟩ = J at *
  generalize nv h l + nv j m = S at *
  have HJ := hideIt e2
  clear e2 h1 h2 ha hb
  have hl2 : ∀ x ∈ ([(w.heap.size + 1, 49, ndB z j m), (w.heap.size, 49, ndB s h l)] : List Blk), x.1 < w.heap.size + 1 + 1 := fun x hx => by
    simp only [List.mem_cons, List.not_mem_nil, or_false] at hx
    rcases hx with rfl | rfl
    · exact Nat.lt_succ_self _
    · exact Nat.lt_succ_of_lt (Nat.lt_succ_self _)
  have H0 := (((Has.start w).add 49 (ndB s h l)).addAt 49 (ndB z j m) (g := w.heap.size + 1) (by simp)).addAt 49 (ndB ⟨#[]⟩ 0 0) (g := w.heap.size + 1 + 1) (by simp)
  go_enter Tryd.func105, Tryd.ntmps105
  go_upto_region 1 with fail
  change Code.wp _ _ _ _ (((w.alloc (.cells (ndB s h l) 49)).alloc (.cells (ndB z j m) 49)).alloc (.cells (ndB ⟨#[]⟩ 0 0) 49))
  generalize ((w.alloc (.cells (ndB s h l) 49)).alloc (.cells (ndB z j m) 49)).alloc (.cells (ndB ⟨#[]⟩ 0 0) 49) = W0 at *
  obtain ⟨p0, p1, p2, -, -, -, hin1⟩ := (H0.box 2).three
  obtain ⟨q0, q1, q2, -, -, -, hin2⟩ := (H0.box 1).three
  obtain ⟨z0, z1, z2, f0, f1, f2, hin3⟩ := (H0.box 0).three
  have e := HJ.out
  cases hr : room S with
  | false =>
    rw [if_neg (by rw [hr]; decide)] at e
    subst e
    have cA := fun u => (cA u).mono (fun e w' hf => Fit.no hr hf)
    clear HJ hr
    go_wp2_with (first
      | (go_at_call 121; refine (cA _).mono ?_; rintro e w3 ⟨rfl, b3⟩; have K3 := (H0.call b3).add 24 #[.int .u64 0, .int .u64 0]; obtain ⟨x0, x1, x2, g0, g1, g2, hin4⟩ := (K3.box 1).three)
      | fail)
    have E := told3 K3.tail (Nat.le_succ_of_le (Nat.le_succ _)) hl2 (.string ⟨#[]⟩) (.int .u64 0) (.int .u64 0)
    generalize World.setCell (World.setCell (World.setCell _ _ _) _ _) _ _ = W9 at *
    obtain ⟨y0, y1, y2, -, -, -, hin9⟩ := (E.box 0).three
    exact bodyPost_ret (v := .tuple #[Nd.zero.val, .int .i64 10]) (by simp [results, Tryd.results105, go_sem, Nd.val, Nd.zero, y0, y1, y2]) rfl ⟨rfl, E.below⟩
  | true =>
    rw [if_pos hr] at e
    subst e
    have rS := re_yes hr
    obtain ⟨X, hX⟩ : ∃ X, rh S = X := ⟨_, rfl⟩
    obtain ⟨Y, hY⟩ : ∃ Y, rl S = Y := ⟨_, rfl⟩
    have cA := fun u => (cA u).mono (fun e w' hf => show e = .returned (.tuple #[.agg #[.int .u64 X, .int .u64 Y], .int .i64 0]) ∧ Below u.heap.size u w' from by obtain ⟨q, r⟩ := hf; rw [rS, hX, hY] at q; exact ⟨q, r⟩)
    have HX := hideIt hX
    have HY := hideIt hY
    clear HJ hr rS hX hY
    go_upto_region 4 with (first
      | (go_at_call 121; refine (cA _).mono ?_; rintro e w3 ⟨rfl, b3⟩; have K3 := (H0.call b3).add 24 #[.int .u64 X, .int .u64 Y]; obtain ⟨x0, x1, x2, g0, g1, g2, hin4⟩ := (K3.box 1).three; have hz := (K3.box 0).read 0)
      | fail)
    clear x0 x1 x2 g0 g1 g2 hin4 hz
    have hbg : w.heap.size + 1 + 1 < w3.heap.size := Nat.lt_of_lt_of_le ((H0.box 0).inside) b3.size
    obtain ⟨b, hb⟩ : ∃ b, w3.heap.size = b := ⟨_, rfl⟩
    rw [hb] at K3 hbg ⊢
    change Code.wp _ _ _ _ (w3.alloc (.cells #[.int .u64 X, .int .u64 Y] 24))
    generalize w3.alloc (.cells #[.int .u64 X, .int .u64 Y] 24) = W1 at *
    have fact : ∀ u, Has w [(b, 24, #[.int .u64 X, .int .u64 Y]), (w.heap.size + 1 + 1, 49, ndB ⟨#[]⟩ 0 0), (w.heap.size + 1, 49, ndB z j m), (w.heap.size, 49, ndB s h l)] u → Below w.heap.size w u ∧ (u.cell? ⟨w.heap.size, 0, none⟩ = some (.string s) ∧ u.cell? ⟨w.heap.size, 1, none⟩ = some (.int .u64 h) ∧ u.cell? ⟨w.heap.size, 2, none⟩ = some (.int .u64 l) ∧ u.cell? ⟨w.heap.size + 1, 0, none⟩ = some (.string z) ∧ u.cell? ⟨w.heap.size + 1, 1, none⟩ = some (.int .u64 j) ∧ u.cell? ⟨w.heap.size + 1, 2, none⟩ = some (.int .u64 m) ∧ u.cell? ⟨b, 0, none⟩ = some (.int .u64 X) ∧ u.cell? ⟨b, 1, none⟩ = some (.int .u64 Y)) := fun u H =>
      ⟨H.below, (H.box 3).read 0, (H.box 3).read 1, (H.box 3).read 2, (H.box 2).read 0, (H.box 2).read 1, (H.box 2).read 2, (H.box 0).read 0, (H.box 0).read 1⟩
    have fact2 : ∀ u, Has w [(b, 24, #[.int .u64 X, .int .u64 Y]), (w.heap.size + 1 + 1, 49, ndB D X Y), (w.heap.size + 1, 49, ndB z j m), (w.heap.size, 49, ndB s h l)] u → Below w.heap.size w u ∧ (u.cell? ⟨w.heap.size, 0, none⟩ = some (.string s) ∧ u.cell? ⟨w.heap.size, 1, none⟩ = some (.int .u64 h) ∧ u.cell? ⟨w.heap.size, 2, none⟩ = some (.int .u64 l) ∧ u.cell? ⟨w.heap.size + 1, 0, none⟩ = some (.string z) ∧ u.cell? ⟨w.heap.size + 1, 1, none⟩ = some (.int .u64 j) ∧ u.cell? ⟨w.heap.size + 1, 2, none⟩ = some (.int .u64 m) ∧ u.cell? ⟨b, 0, none⟩ = some (.int .u64 X) ∧ u.cell? ⟨b, 1, none⟩ = some (.int .u64 Y)) := fun u H =>
      ⟨H.below, (H.box 3).read 0, (H.box 3).read 1, (H.box 3).read 2, (H.box 2).read 0, (H.box 2).read 1, (H.box 2).read 2, (H.box 0).read 0, (H.box 0).read 1⟩
    have K4 := K3.drew
    have f0 := fact _ K4
    refine wp_region_held_drew (S := fun u => Below w.heap.size w u ∧ (u.cell? ⟨w.heap.size, 0, none⟩ = some (.string s) ∧ u.cell? ⟨w.heap.size, 1, none⟩ = some (.int .u64 h) ∧ u.cell? ⟨w.heap.size, 2, none⟩ = some (.int .u64 l) ∧ u.cell? ⟨w.heap.size + 1, 0, none⟩ = some (.string z) ∧ u.cell? ⟨w.heap.size + 1, 1, none⟩ = some (.int .u64 j) ∧ u.cell? ⟨w.heap.size + 1, 2, none⟩ = some (.int .u64 m) ∧ u.cell? ⟨b, 0, none⟩ = some (.int .u64 X) ∧ u.cell? ⟨b, 1, none⟩ = some (.int .u64 Y))) (by kernel_rfl) f0 (fun hHeld => ?_)
    refine wpAnyH_take (i := 0) (v := ?_) rfl (by kernel_rfl) (by kernel_rfl) (by kernel_rfl) (fun _ _ _ h => h) (Or.inl ⟨by rfl, ?_⟩) (by assumption) ?_
    rotate_left 1
    · intro w hSw; (try dsimp only at hSw); go_simp; try with_reducible rfl
    try simp only [Act.put, List.getElem_toArray, List.getElem_cons_succ, List.getElem_cons_zero, List.setIfInBounds_toArray, List.set_cons_zero, List.set_cons_succ]
    refine wpAnyH_take (i := 1) (v := ?_) rfl (by kernel_rfl) (by kernel_rfl) (by kernel_rfl) (fun _ _ _ h => h) (Or.inl ⟨by rfl, ?_⟩) (by assumption) ?_
    rotate_left 1
    · intro w hSw; (try dsimp only at hSw); go_simp; try with_reducible rfl
    try simp only [Act.put, List.getElem_toArray, List.getElem_cons_succ, List.getElem_cons_zero, List.setIfInBounds_toArray, List.set_cons_zero, List.set_cons_succ]
    refine wpAnyH_take (i := 2) (v := ?_) rfl (by kernel_rfl) (by kernel_rfl) (by kernel_rfl) (fun _ _ _ h => h) (Or.inl ⟨by rfl, ?_⟩) (by assumption) ?_
    rotate_left 1
    · intro w hSw; (try dsimp only at hSw); go_simp; try with_reducible rfl
    try simp only [Act.put, List.getElem_toArray, List.getElem_cons_succ, List.getElem_cons_zero, List.setIfInBounds_toArray, List.set_cons_zero, List.set_cons_succ]
    refine wpAnyH_take (i := 5) (v := ?_) rfl (by kernel_rfl) (by kernel_rfl) (by kernel_rfl) (fun _ _ _ h => h) (Or.inl ⟨by rfl, ?_⟩) (by assumption) ?_
    rotate_left 1
    · intro w hSw; (try dsimp only at hSw); go_simp; try with_reducible rfl
    try simp only [Act.put, List.getElem_toArray, List.getElem_cons_succ, List.getElem_cons_zero, List.setIfInBounds_toArray, List.set_cons_zero, List.set_cons_succ]
    refine wpAnyH_ready (rs := [3]) (by kernel_rfl) (by simp) (AllReadyH.cons rfl (fun K hK => ?_) AllReadyH.nil)
    go_simp
    go_at_call 50
    refine (cT _).mono ?_
    rintro e w4 ⟨rfl, b4⟩
    have K5 := K4.call b4
    have F5 := fact _ K5
    try simp only []
    refine hK.out _ _ (F5) (fun hHeld => ?_)
    clear hK K
    try simp only [Act.put, List.getElem_toArray, List.getElem_cons_succ, List.getElem_cons_zero, List.setIfInBounds_toArray, List.set_cons_zero, List.set_cons_succ]
    refine wpAnyH_ready (rs := [4]) (by kernel_rfl) (by simp) (AllReadyH.cons rfl (fun K hK => ?_) AllReadyH.nil)
    go_simp
    go_at_call 27
    refine (cD _ (hT.call K5.below)).mono ?_
    rintro e w5 ⟨rfl, b5⟩
    have K6 := K5.call b5
    have F6 := fact _ K6
    try simp only []
    refine hK.out _ _ (F6) (fun hHeld => ?_)
    clear hK K
    try simp only [Act.put, List.getElem_toArray, List.getElem_cons_succ, List.getElem_cons_zero, List.setIfInBounds_toArray, List.set_cons_zero, List.set_cons_succ]
    refine wpAnyH_take (i := 6) (v := ?_) rfl (by kernel_rfl) (by kernel_rfl) (by kernel_rfl) (fun _ _ _ h => h) (Or.inl ⟨by rfl, ?_⟩) (by assumption) ?_
    rotate_left 1
    · intro w hSw; (try dsimp only at hSw); go_simp; try with_reducible rfl
    try simp only [Act.put, List.getElem_toArray, List.getElem_cons_succ, List.getElem_cons_zero, List.setIfInBounds_toArray, List.set_cons_zero, List.set_cons_succ]
    obtain ⟨x0, x1, x2, g0, g1, g2, hin4⟩ := (K6.box 1).three
    refine wpAnyH_ready (rs := [7]) (by kernel_rfl) (by simp) (AllReadyH.cons rfl (fun K hK => ?_) AllReadyH.nil)
    go_simp
    have E := told4 K6 (Nat.le_succ_of_le (Nat.le_succ _)) hbg hl2 (.string D) (.int .u64 X) (.int .u64 Y)
    generalize World.setCell (World.setCell (World.setCell w5 _ _) _ _) _ _ = W9 at *
    have FX := fact2 _ E
    obtain ⟨r0, r1, r2, -, -, -, hin9⟩ := (E.box 1).three
    refine hK.out _ _ (FX) (fun hHeld => ?_)
    clear hK K
    try simp only [Act.put, List.getElem_toArray, List.getElem_cons_succ, List.getElem_cons_zero, List.setIfInBounds_toArray, List.set_cons_zero, List.set_cons_succ]
    refine wpAnyH_take (i := 8) (v := ?_) rfl (by kernel_rfl) (by kernel_rfl) (by kernel_rfl) (fun _ _ _ h => h) (Or.inl ⟨by rfl, ?_⟩) (by assumption) ?_
    rotate_left 1
    · intro w hSw; (try dsimp only at hSw); go_simp; try with_reducible rfl
    try simp only [Act.put, List.getElem_toArray, List.getElem_cons_succ, List.getElem_cons_zero, List.setIfInBounds_toArray, List.set_cons_zero, List.set_cons_succ]
    refine wpAnyH_done (by kernel_rfl) ?_ _
    clear x0 x1 x2 g0 g1 g2 hin4 F5 F6 fact fact2
    go_wp2
    exact bodyPost_ret (v := .tuple #[Nd.val ⟨D, X, Y⟩, .int .i64 0]) (by simp [results, Tryd.results105, go_sem, Nd.val, r0, r1, r2]) rfl ⟨by rw [HX.out, HY.out], E.below⟩

end Go.Proofs.YtkecekfapiegjaaDoor
