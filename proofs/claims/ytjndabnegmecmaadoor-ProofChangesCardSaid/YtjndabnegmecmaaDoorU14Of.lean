/-
  Package node's Of, allOf, own, walked.
-/
import Derived.Test.YtjndabnegmecmaaDoorM13Nod
import Derived.Test.YtjndabnegmecmaaDoorM14Pln
import Derived.Test.YtjndabnegmecmaaDoorU7Node
import Derived.Test.YtjndabnegmecmaaDoorM14One
import Derived.Test.YtjndabnegmecmaaDoorU5Clone
import Derived.Test.YtjndabnegmecmaaDoorW14Told
namespace Go.Proofs.YtjndabnegmecmaaDoor
set_option linter.unusedVariables false
set_option linter.unusedSimpArgs false
set_option maxRecDepth 10000
open Go.RowKit

set_option maxHeartbeats 2000000 in
theorem allOf14_any (n : Int) (A : Option Addr) (c : Nat) (l : List Nd) (hl : l.length ≤ 1000000000) (w : World) (h : ndS.Row w w.heap.size A l) :
    Calls Tryd.prog 30 #[.int .i64 n, .slice A l.length c] w (Tells (.bool (allW n l)) w.heap.size w) := by
  have cW := fun u => mayWidth_any n u
  have eV : allW n l = (mayW n && l.all (Nd.of n)) := rfl
  obtain ⟨V, hV⟩ : ∃ V, allW n l = V := ⟨_, rfl⟩
  rw [hV] at eV ⊢
  have HV := hideIt eV
  clear eV hV
  obtain ⟨N, hN⟩ : ∃ N, l.length = N := ⟨_, rfl⟩
  rw [hN]
  generalize hW : mayW n = M at *
  go_enter Tryd.func30, Tryd.ntmps30
  go_wp2
  go_loopg [9] N (fun gk i wr => ∃ k : Nat, k ≤ N ∧ N - k ≤ gk ∧ i = .int .i64 k ∧ (∀ j x, j < k → l[j]? = some x → x.of n = true) ∧ Below w.heap.size w wr)
  case atStart => exact ⟨0, Nat.zero_le _, by omega, rfl, fun j x hj => absurd hj (Nat.not_lt_zero _), Below.refl _ _⟩
  case round =>
    obtain ⟨k, hk, hgk, rfl, hall, hb3⟩ := hrel
    have HG := hideIt hgk
    have HA := hideIt hall
    clear hgk hall
    by_cases hlt : k < N
    · obtain ⟨x, hx⟩ : ∃ x, l[k]? = some x := ⟨_, List.getElem?_eq_getElem (by omega)⟩
      have hlti : (k : Int) < (N : Int) := by omega
      obtain ⟨ad, rfl, g1, p0, p1, p2⟩ := nd_get (h.on hb3) hx
      have cO := fun u => of14_any n x u
      obtain ⟨t, ht⟩ : ∃ t, x.of n = t := ⟨_, rfl⟩
      rw [ht] at cO
      have HX := hideIt hx
      have HT := hideIt ht
      obtain ⟨xs, xh, xl⟩ := x
      simp only [Nd.val] at cO p0 p1 p2
      clear hx ht
      cases t with
      | true =>
        go_wp2_with (first | (go_at_call 28; refine (cO _).mono ?_; rintro e w2 ⟨rfl, b2⟩) | fail)
        go_roundg (N - (k + 1))
        case measure => have := HG.out; omega
        case rel => exact ⟨k + 1, by omega, Nat.le_refl _, by go_num, fun j x hj hx => by
            by_cases e : j = k
            · subst e
              rw [HX.out] at hx
              injection hx with hx
              rw [← hx]
              exact HT.out
            · exact HA.out j x (by omega) hx, (chainA hb3 _).trans (b2.mono (by simp; exact Nat.le_succ_of_le hb3.size))⟩
      | false =>
        have hno : V = false := by
          rw [HV.out]
          have : l.all (Nd.of n) = false := by
            rw [Bool.eq_false_iff]
            intro e
            have := List.all_eq_true.1 e _ (List.mem_of_getElem? HX.out)
            rw [HT.out] at this
            cases this
          rw [this, Bool.and_false]
        subst hno
        go_wp2_with (first | (go_at_call 28; refine (cO _).mono ?_; rintro e w2 ⟨rfl, b2⟩) | fail)
        go_ret
        exact ⟨rfl, (chainA hb3 _).trans (b2.mono (by simp; exact Nat.le_succ_of_le hb3.size))⟩
    · have e : k = N := by omega
      subst e
      have hyes : V = M := by
        rw [HV.out]
        have : l.all (Nd.of n) = true := List.all_eq_true.2 fun x hx => by
          obtain ⟨j, hj⟩ := List.getElem?_of_mem hx
          exact HA.out j x (by have := (List.getElem?_eq_some_iff.1 hj).1; omega) hj
        rw [this, Bool.and_true]
      subst hyes
      clear hW
      go_wp2_with (first | (go_at_call 34; refine (cW _).mono ?_; rintro e w' ⟨rfl, rfl⟩) | fail)
      go_ret
      exact ⟨rfl, hb3⟩
set_option maxRecDepth 100000 in
set_option maxHeartbeats 2000000 in
theorem own14_any (x : Nd) (hx : x.hash.size ≤ 1000000) (w : World) : Calls Tryd.prog 31 #[x.val] w (Tells x.val w.heap.size w) := by
  have cC := fun u => clone_any x.hash (by omega) u
  obtain ⟨s, h, l⟩ := x
  simp only at cC
  show Calls _ _ #[.agg (ndB s h l)] _ _
  have hl2 : ∀ x ∈ ([(w.heap.size, 46, ndB s h l)] : List Blk), x.1 < w.heap.size + 1 := fun x hx => by
    simp only [List.mem_cons, List.not_mem_nil, or_false] at hx
    rcases hx with rfl
    exact Nat.lt_succ_self _
  have H0 := ((Has.start w).add 46 (ndB s h l)).addAt 46 (ndB ⟨#[]⟩ 0 0) (g := w.heap.size + 1) (by simp)
  go_enter Tryd.func31, Tryd.ntmps31
  go_upto_region 1 with fail
  change Code.wp _ _ _ _ ((w.alloc (.cells (ndB s h l) 46)).alloc (.cells (ndB ⟨#[]⟩ 0 0) 46))
  generalize (w.alloc (.cells (ndB s h l) 46)).alloc (.cells (ndB ⟨#[]⟩ 0 0) 46) = W0 at *
  have fact : ∀ u, Has w [(w.heap.size + 1, 46, ndB ⟨#[]⟩ 0 0), (w.heap.size, 46, ndB s h l)] u → Below w.heap.size w u ∧ (u.cell? ⟨w.heap.size, 0, none⟩ = some (.string s) ∧ u.cell? ⟨w.heap.size, 1, none⟩ = some (.int .u64 h) ∧ u.cell? ⟨w.heap.size, 2, none⟩ = some (.int .u64 l)) := fun u H =>
    ⟨H.below, (H.box 1).read 0, (H.box 1).read 1, (H.box 1).read 2⟩
  have fact2 : ∀ u, Has w [(w.heap.size + 1, 46, ndB s h l), (w.heap.size, 46, ndB s h l)] u → Below w.heap.size w u ∧ (u.cell? ⟨w.heap.size, 0, none⟩ = some (.string s) ∧ u.cell? ⟨w.heap.size, 1, none⟩ = some (.int .u64 h) ∧ u.cell? ⟨w.heap.size, 2, none⟩ = some (.int .u64 l)) := fun u H =>
    ⟨H.below, (H.box 1).read 0, (H.box 1).read 1, (H.box 1).read 2⟩
  have K4 := H0.drew
  have f0 := fact _ K4
  refine wp_region_held_drew (S := fun u => Below w.heap.size w u ∧ (u.cell? ⟨w.heap.size, 0, none⟩ = some (.string s) ∧ u.cell? ⟨w.heap.size, 1, none⟩ = some (.int .u64 h) ∧ u.cell? ⟨w.heap.size, 2, none⟩ = some (.int .u64 l))) (by kernel_rfl) f0 (fun hHeld => ?_)
  refine wpAnyH_take (i := 0) (v := ?_) rfl (by kernel_rfl) (by kernel_rfl) (by kernel_rfl) (fun _ _ _ h => h) (Or.inl ⟨by rfl, ?_⟩) (by assumption) ?_
  rotate_left 1
  · intro w hSw; (try dsimp only at hSw); go_simp; try with_reducible rfl
  try simp only [Act.put, List.getElem_toArray, List.getElem_cons_succ, List.getElem_cons_zero, List.setIfInBounds_toArray, List.set_cons_zero, List.set_cons_succ]
  refine wpAnyH_take (i := 1) (v := ?_) rfl (by kernel_rfl) (by kernel_rfl) (by kernel_rfl) (fun _ _ _ h => h) (Or.inl ⟨by rfl, ?_⟩) (by assumption) ?_
  rotate_left 1
  · intro w hSw; (try dsimp only at hSw); go_simp; try with_reducible rfl
  try simp only [Act.put, List.getElem_toArray, List.getElem_cons_succ, List.getElem_cons_zero, List.setIfInBounds_toArray, List.set_cons_zero, List.set_cons_succ]
  refine wpAnyH_take (i := 3) (v := ?_) rfl (by kernel_rfl) (by kernel_rfl) (by kernel_rfl) (fun _ _ _ h => h) (Or.inl ⟨by rfl, ?_⟩) (by assumption) ?_
  rotate_left 1
  · intro w hSw; (try dsimp only at hSw); go_simp; try with_reducible rfl
  try simp only [Act.put, List.getElem_toArray, List.getElem_cons_succ, List.getElem_cons_zero, List.setIfInBounds_toArray, List.set_cons_zero, List.set_cons_succ]
  refine wpAnyH_take (i := 4) (v := ?_) rfl (by kernel_rfl) (by kernel_rfl) (by kernel_rfl) (fun _ _ _ h => h) (Or.inl ⟨by rfl, ?_⟩) (by assumption) ?_
  rotate_left 1
  · intro w hSw; (try dsimp only at hSw); go_simp; try with_reducible rfl
  try simp only [Act.put, List.getElem_toArray, List.getElem_cons_succ, List.getElem_cons_zero, List.setIfInBounds_toArray, List.set_cons_zero, List.set_cons_succ]
  refine wpAnyH_ready (rs := [2]) (by kernel_rfl) (by simp) (AllReadyH.cons rfl (fun K hK => ?_) AllReadyH.nil)
  go_simp
  go_at_call 48
  refine (cC _).mono ?_
  rintro e w4 ⟨rfl, b4⟩
  have K5 := K4.call b4
  have F5 := fact _ K5
  try simp only []
  refine hK.out _ _ (F5) (fun hHeld => ?_)
  clear hK K
  try simp only [Act.put, List.getElem_toArray, List.getElem_cons_succ, List.getElem_cons_zero, List.setIfInBounds_toArray, List.set_cons_zero, List.set_cons_succ]
  refine wpAnyH_take (i := 5) (v := ?_) rfl (by kernel_rfl) (by kernel_rfl) (by kernel_rfl) (fun _ _ _ h => h) (Or.inl ⟨by rfl, ?_⟩) (by assumption) ?_
  rotate_left 1
  · intro w hSw; (try dsimp only at hSw); go_simp; try with_reducible rfl
  try simp only [Act.put, List.getElem_toArray, List.getElem_cons_succ, List.getElem_cons_zero, List.setIfInBounds_toArray, List.set_cons_zero, List.set_cons_succ]
  obtain ⟨x0, x1, x2, g0, g1, g2, hin4⟩ := (K5.box 0).three
  refine wpAnyH_ready (rs := [6]) (by kernel_rfl) (by simp) (AllReadyH.cons rfl (fun K hK => ?_) AllReadyH.nil)
  go_simp
  have E := told3 K5 (Nat.le_succ _) hl2 (.string s) (.int .u64 h) (.int .u64 l)
  generalize World.setCell (World.setCell (World.setCell w4 _ _) _ _) _ _ = W9 at *
  have FX := fact2 _ E
  obtain ⟨r0, r1, r2, -, -, -, hin9⟩ := (E.box 0).three
  refine hK.out _ _ (FX) (fun hHeld => ?_)
  clear hK K
  try simp only [Act.put, List.getElem_toArray, List.getElem_cons_succ, List.getElem_cons_zero, List.setIfInBounds_toArray, List.set_cons_zero, List.set_cons_succ]
  refine wpAnyH_done (by kernel_rfl) ?_ _
  clear x0 x1 x2 g0 g1 g2 hin4 F5 fact fact2
  go_wp2
  exact bodyPost_ret (v := Nd.val ⟨s, h, l⟩) (by simp [results, Tryd.results31, go_sem, Nd.val, r0, r1, r2]) rfl ⟨rfl, E.below⟩
end Go.Proofs.YtjndabnegmecmaaDoor
