/- Several of my texts, laid as one. -/
import Derived.Test.YtngofpdpangajaaDoorM10Mem
import Derived.Test.YtngofpdpangajaaDoorM10Mer
import Derived.Deep.Cut
/-
  slices' symMergeCmpFunc at rows where the first half is one row, walked.
-/
namespace Go.Proofs.YtngofpdpangajaaDoor
set_option linter.unusedVariables false
set_option linter.unusedSimpArgs false
set_option maxRecDepth 10000
open Go.RowKit Go.Sort

set_option maxRecDepth 100000 in
set_option maxHeartbeats 4000000 in
theorem sym1_any (B g cap a b : Nat) (d : Array Rw) (w : World) (h : RowBox w g d) (hB : B ≤ g) (hab : a + 1 < b) (hb : b ≤ d.size) (hs : d.size ≤ 1000000000) (hr : Hid (Sl (sg d (a + 1) b))) :
    Calls Tryd.prog 97 #[.slice (some ⟨g, 0, none⟩) d.size cap, .int .i64 a, .int .i64 (a + 1 : Nat), .int .i64 b, .func (.func 67) #[] #[]] w fun e w' => e = .returned (.tuple #[]) ∧
      ∃ e', Ran B g w e' w' ∧ Mg d e' a b := by
  obtain ⟨N, hN⟩ : ∃ N, d.size = N := ⟨_, rfl⟩
  obtain ⟨M, hM⟩ : ∃ M, a + 1 = M := ⟨_, rfl⟩
  rw [hN, hM]
  have w1 : IntKind.i64.wrap ((M : Int) - (a : Int)) = 1 := by rw [IntKind.wrap_i64]; omega
  go_enter Tryd.func97, Tryd.ntmps97
  go_wp2
  go_loopg [10, 11] (b - M) (fun gk vi vj wr => ∃ (p q : Nat), vi = .int .i64 p ∧ vj = .int .i64 q ∧ M ≤ p ∧ p ≤ q ∧ q ≤ b ∧ q - p ≤ gk ∧ RowBox wr g d ∧ Below B w wr ∧ Hid (p = M ∨ LR d[p - 1]! d[a]!) ∧ Hid (q = b ∨ ¬ LR d[q]! d[a]!))
  case atStart => exact ⟨M, b, rfl, rfl, Nat.le_refl _, by omega, Nat.le_refl _, Nat.le_refl _, h, Below.refl _ _, Or.inl rfl, Or.inl rfl⟩
  case round =>
    obtain ⟨p, q, rfl, rfl, hmp, hpq, hqb, hgk, hR, hb', HA, HB⟩ := hrel
    by_cases hlt : p < q
    · have hlti : (p : Int) < (q : Int) := by omega
      obtain ⟨S, hS⟩ : ∃ S, p + q = S := ⟨_, rfl⟩
      obtain ⟨H, hH⟩ : ∃ H, S / 2 = H := ⟨_, rfl⟩
      have w2 : IntKind.i64.wrap ((p : Int) + (q : Int)) = (S : Int) := by rw [IntKind.wrap_i64]; omega
      have w3 : (S : Int) / 2 = (H : Int) := by omega
      have w5 : IntKind.i64.wrap ((H : Int) + 1) = ((H + 1 : Nat) : Int) := by rw [IntKind.wrap_i64]; omega
      have j1 : (H : Int) < (N : Int) := by omega
      have j2 : (a : Int) < (N : Int) := by omega
      have hBs : B ≤ wr.heap.size := by have := hR.inside; omega
      have hmx : Tryd.prog.follows .mixedOrders = true := by kernel_rfl
      have hRg := fun n os => RowBox.grown hR n os
      have hbg := fun n os => below_grow hb' hBs n os
      have L0 : ∀ n os, (grow (wr.drewN n) os).cell? ⟨g, H * 3, none⟩ = some (.string d[H]!.id) := fun n os => ((hRg n os).three H (by omega)).1
      have L1 : ∀ n os, (grow (wr.drewN n) os).cell? ⟨g, H * 3 + 1, none⟩ = some (.int .u64 d[H]!.h) := fun n os => ((hRg n os).three H (by omega)).2.1
      have L2 : ∀ n os, (grow (wr.drewN n) os).cell? ⟨g, H * 3 + 2, none⟩ = some (.int .u64 d[H]!.l) := fun n os => ((hRg n os).three H (by omega)).2.2
      have M0 : ∀ n os, (grow (wr.drewN n) os).cell? ⟨g, a * 3, none⟩ = some (.string d[a]!.id) := fun n os => ((hRg n os).three a (by omega)).1
      have M1 : ∀ n os, (grow (wr.drewN n) os).cell? ⟨g, a * 3 + 1, none⟩ = some (.int .u64 d[a]!.h) := fun n os => ((hRg n os).three a (by omega)).2.1
      have M2 : ∀ n os, (grow (wr.drewN n) os).cell? ⟨g, a * 3 + 2, none⟩ = some (.int .u64 d[a]!.l) := fun n os => ((hRg n os).three a (by omega)).2.2
      have hcg := fun n os => cmp10_grown d[H]! d[a]! wr n os
      simp only [Rw.val] at hcg
      have hlt0 : LR d[H]! d[a]! ↔ cfR d[H]! d[a]! < 0 := by unfold LR ltR ltOf; rw [decide_eq_true_eq]
      obtain ⟨C, hC⟩ : ∃ C, cfR d[H]! d[a]! = C := ⟨_, rfl⟩
      rw [hC] at hlt0 hcg
      have HLT := hideIt hlt0
      clear hC hlt0
      go_wp2_with fail
      by_cases hc : C < 0
      · go_quiet_grown (first | (go_at_call 67; refine Calls.grown_of (hcg _ _)))
        go_wp2
        go_roundg (q - (H + 1))
        case measure => omega
        case rel => exact ⟨H + 1, q, rfl, rfl, by omega, by omega, by omega, Nat.le_refl _, hRg nq osq, hbg nq osq, Or.inr (by rw [Nat.add_sub_cancel]; exact HLT.out.2 hc), HB⟩
      · go_quiet_grown (first | (go_at_call 67; refine Calls.grown_of (hcg _ _)))
        go_wp2
        go_roundg (H - p)
        case measure => omega
        case rel => exact ⟨p, H, rfl, rfl, by omega, by omega, by omega, Nat.le_refl _, hRg nq osq, hbg nq osq, HA, Or.inr (fun k => absurd (HLT.out.1 k) (by omega))⟩
    · have hlti : ¬ (p : Int) < (q : Int) := by omega
      have hpe : p = q := by omega
      subst hpe
      obtain ⟨I, hI⟩ : ∃ I, p - 1 = I := ⟨_, rfl⟩
      have w4 : IntKind.i64.wrap ((p : Int) - 1) = (I : Int) := by rw [IntKind.wrap_i64]; omega
      go_wp2
      go_loopg [13] (p - M) (fun g2 vk wr => ∃ (k : Nat) (e : Array Rw), vk = .int .i64 k ∧ a ≤ k ∧ k ≤ I ∧ I - k ≤ g2 ∧ RowBox wr g e ∧ Below B w wr ∧ e.size = N ∧ Hid (Rotd d e a (a + 1) (k + 1)))
      case atStart => exact ⟨a, d, rfl, Nat.le_refl _, by omega, by omega, hR, hb', hN, Rotd.none2 _ _ _⟩
      case round =>
        obtain ⟨k, e, rfl, hak, hki, hg2, hR, hb', hes, HR⟩ := hrel
        by_cases hlk : k < I
        · have hlki : (k : Int) < (I : Int) := by omega
          obtain ⟨J, hJ⟩ : ∃ J, k + 1 = J := ⟨_, rfl⟩
          have w6 : IntKind.i64.wrap ((k : Int) + 1) = (J : Int) := by rw [IntKind.wrap_i64]; omega
          have j1 : (k : Int) < (N : Int) := by omega
          have j2 : (J : Int) < (N : Int) := by omega
          have hH2 := hideIt (show Rotd d (swp e k J) a (a + 1) (J + 1) by rw [← hJ]; exact HR.out.up hak (by omega))
          go_wp2_with fail
          have hRZ := RowBox.draw hR
          have hBZ := Below.drew hb'
          have hin := hRZ.inside
          refine wp_region_held_drew (S := fun u => g < u.heap.size) (by kernel_rfl) hin (fun hHeld => ?_)
          generalize World.drew wr = Z at *
          obtain ⟨Z1, hZ1⟩ : ∃ Z1, ((Z.setCell ⟨g, k * 3, none⟩ (.string e[J]!.id)).setCell ⟨g, k * 3 + 1, none⟩ (.int .u64 e[J]!.h)).setCell ⟨g, k * 3 + 2, none⟩ (.int .u64 e[J]!.l) = Z1 := ⟨_, rfl⟩
          have hR1 : RowBox Z1 g (e.setIfInBounds k e[J]!) := by rw [← hZ1]; exact hRZ.put k e[J]! (by omega)
          have hB1 : Below B w Z1 := by rw [← hZ1]; exact below_put hBZ hB k _ _ _
          obtain ⟨Z2, hZ2⟩ : ∃ Z2, ((Z1.setCell ⟨g, J * 3, none⟩ (.string e[k]!.id)).setCell ⟨g, J * 3 + 1, none⟩ (.int .u64 e[k]!.h)).setCell ⟨g, J * 3 + 2, none⟩ (.int .u64 e[k]!.l) = Z2 := ⟨_, rfl⟩
          have hR2 : RowBox Z2 g (swp e k J) := by rw [← hZ2]; exact hR1.put J e[k]! (by rw [Array.size_setIfInBounds]; omega)
          have hB2 : Below B w Z2 := by rw [← hZ2]; exact below_put hB1 hB J _ _ _
          obtain ⟨p0, p1, p2⟩ := hRZ.three k (by omega)
          obtain ⟨q0, q1, q2⟩ := hRZ.three J (by omega)
          refine wpAnyH_take (i := 0) (v := ?_) rfl (by kernel_rfl) (by kernel_rfl) (by kernel_rfl) (fun _ _ _ h => h) (Or.inl ⟨by rfl, ?_⟩) (by assumption) ?_
          rotate_left 1
          · intro w hSw; (try dsimp only at hSw); go_simp; try with_reducible rfl
          try simp only [Act.put, List.getElem_toArray, List.getElem_cons_succ, List.getElem_cons_zero, List.setIfInBounds_toArray, List.set_cons_zero, List.set_cons_succ]
          refine wpAnyH_take (i := 1) (v := ?_) rfl (by kernel_rfl) (by kernel_rfl) (by kernel_rfl) (fun _ _ _ h => h) (Or.inl ⟨by rfl, ?_⟩) (by assumption) ?_
          rotate_left 1
          · intro w hSw; (try dsimp only at hSw); go_simp; try with_reducible rfl
          try simp only [Act.put, List.getElem_toArray, List.getElem_cons_succ, List.getElem_cons_zero, List.setIfInBounds_toArray, List.set_cons_zero, List.set_cons_succ]
          refine wpAnyH_take (i := 2) (v := ?_) rfl (by kernel_rfl) (by kernel_rfl) (by kernel_rfl) (fun _ _ _ h => h) (Or.inl ⟨by rfl, ?_⟩) (by assumption) ?_
          rotate_left 1
          · intro w hSw; (try dsimp only at hSw); go_simp; try with_reducible rfl
          try simp only [Act.put, List.getElem_toArray, List.getElem_cons_succ, List.getElem_cons_zero, List.setIfInBounds_toArray, List.set_cons_zero, List.set_cons_succ]
          refine wpAnyH_take (i := 3) (v := ?_) rfl (by kernel_rfl) (by kernel_rfl) (by kernel_rfl) (fun _ _ _ h => h) (Or.inl ⟨by rfl, ?_⟩) (by assumption) ?_
          rotate_left 1
          · intro w hSw; (try dsimp only at hSw); go_simp; try with_reducible rfl
          try simp only [Act.put, List.getElem_toArray, List.getElem_cons_succ, List.getElem_cons_zero, List.setIfInBounds_toArray, List.set_cons_zero, List.set_cons_succ]
          refine wpAnyH_take (i := 4) (v := ?_) rfl (by kernel_rfl) (by kernel_rfl) (by kernel_rfl) (fun _ _ _ h => h) (Or.inl ⟨by rfl, ?_⟩) (by assumption) ?_
          rotate_left 1
          · intro w hSw; (try dsimp only at hSw); go_simp; try with_reducible rfl
          try simp only [Act.put, List.getElem_toArray, List.getElem_cons_succ, List.getElem_cons_zero, List.setIfInBounds_toArray, List.set_cons_zero, List.set_cons_succ]
          refine wpAnyH_take (i := 5) (v := ?_) rfl (by kernel_rfl) (by kernel_rfl) (by kernel_rfl) (fun _ _ _ h => h) (Or.inl ⟨by rfl, ?_⟩) (by assumption) ?_
          rotate_left 1
          · intro w hSw; (try dsimp only at hSw); go_simp; try with_reducible rfl
          try simp only [Act.put, List.getElem_toArray, List.getElem_cons_succ, List.getElem_cons_zero, List.setIfInBounds_toArray, List.set_cons_zero, List.set_cons_succ]
          refine wpAnyH_take (i := 6) (v := ?_) rfl (by kernel_rfl) (by kernel_rfl) (by kernel_rfl) (fun _ _ _ h => h) (Or.inl ⟨by rfl, ?_⟩) (by assumption) ?_
          rotate_left 1
          · intro w hSw; (try dsimp only at hSw); go_simp; try with_reducible rfl
          try simp only [Act.put, List.getElem_toArray, List.getElem_cons_succ, List.getElem_cons_zero, List.setIfInBounds_toArray, List.set_cons_zero, List.set_cons_succ]
          refine wpAnyH_take (i := 7) (v := ?_) rfl (by kernel_rfl) (by kernel_rfl) (by kernel_rfl) (fun _ _ _ h => h) (Or.inl ⟨by rfl, ?_⟩) (by assumption) ?_
          rotate_left 1
          · intro w hSw; (try dsimp only at hSw); go_simp; try with_reducible rfl
          try simp only [Act.put, List.getElem_toArray, List.getElem_cons_succ, List.getElem_cons_zero, List.setIfInBounds_toArray, List.set_cons_zero, List.set_cons_succ]
          refine wpAnyH_take (i := 8) (v := ?_) rfl (by kernel_rfl) (by kernel_rfl) (by kernel_rfl) (fun _ _ _ h => h) (Or.inl ⟨by rfl, ?_⟩) (by assumption) ?_
          rotate_left 1
          · intro w hSw; (try dsimp only at hSw); go_simp; try with_reducible rfl
          try simp only [Act.put, List.getElem_toArray, List.getElem_cons_succ, List.getElem_cons_zero, List.setIfInBounds_toArray, List.set_cons_zero, List.set_cons_succ]
          refine wpAnyH_take (i := 10) (v := ?_) rfl (by kernel_rfl) (by kernel_rfl) (by kernel_rfl) (fun _ _ _ h => h) (Or.inl ⟨by rfl, ?_⟩) (by assumption) ?_
          rotate_left 1
          · intro w hSw; (try dsimp only at hSw); go_simp; try with_reducible rfl
          try simp only [Act.put, List.getElem_toArray, List.getElem_cons_succ, List.getElem_cons_zero, List.setIfInBounds_toArray, List.set_cons_zero, List.set_cons_succ]
          refine wpAnyH_take (i := 11) (v := ?_) rfl (by kernel_rfl) (by kernel_rfl) (by kernel_rfl) (fun _ _ _ h => h) (Or.inl ⟨by rfl, ?_⟩) (by assumption) ?_
          rotate_left 1
          · intro w hSw; (try dsimp only at hSw); go_simp; try with_reducible rfl
          try simp only [Act.put, List.getElem_toArray, List.getElem_cons_succ, List.getElem_cons_zero, List.setIfInBounds_toArray, List.set_cons_zero, List.set_cons_succ]
          refine wpAnyH_take (i := 12) (v := ?_) rfl (by kernel_rfl) (by kernel_rfl) (by kernel_rfl) (fun _ _ _ h => h) (Or.inl ⟨by rfl, ?_⟩) (by assumption) ?_
          rotate_left 1
          · intro w hSw; (try dsimp only at hSw); go_simp; try with_reducible rfl
          try simp only [Act.put, List.getElem_toArray, List.getElem_cons_succ, List.getElem_cons_zero, List.setIfInBounds_toArray, List.set_cons_zero, List.set_cons_succ]
          refine wpAnyH_ready (rs := [9, 13]) (by kernel_rfl) (by simp) (AllReadyH.cons rfl (fun K hK => ?_) (AllReadyH.cons rfl (fun K hK => ?_) AllReadyH.nil))
          · go_simp
            refine hK.out _ _ (hRZ.inside) (fun hHeld => ?_)
            clear hK K
            try simp only [Act.put, List.getElem_toArray, List.getElem_cons_succ, List.getElem_cons_zero, List.setIfInBounds_toArray, List.set_cons_zero, List.set_cons_succ]
            refine wpAnyH_ready (rs := [13]) (by kernel_rfl) (by simp) (AllReadyH.cons rfl (fun K hK => ?_) AllReadyH.nil)
            go_simp
            refine hK.out _ _ (hRZ.inside) (fun hHeld => ?_)
            clear hK K
            try simp only [Act.put, List.getElem_toArray, List.getElem_cons_succ, List.getElem_cons_zero, List.setIfInBounds_toArray, List.set_cons_zero, List.set_cons_succ]
            clear p0 p1 p2 q0 q1 q2
            refine wpAnyH_take (i := 14) (v := ?_) rfl (by kernel_rfl) (by kernel_rfl) (by kernel_rfl) (fun _ _ _ h => h) (Or.inl ⟨by rfl, ?_⟩) (by assumption) ?_
            rotate_left 1
            · intro w hSw; (try dsimp only at hSw); go_simp; try with_reducible rfl
            try simp only [Act.put, List.getElem_toArray, List.getElem_cons_succ, List.getElem_cons_zero, List.setIfInBounds_toArray, List.set_cons_zero, List.set_cons_succ]
            obtain ⟨v0, v1, v2⟩ := hRZ.three k (by omega)
            have u0 := hRZ.free (k * 3)
            have u1 := hRZ.free (k * 3 + 1)
            have u2 := hRZ.free (k * 3 + 2)
            refine wpAnyH_ready (rs := [15]) (by kernel_rfl) (by simp) (AllReadyH.cons rfl (fun K hK => ?_) AllReadyH.nil)
            go_simp
            try rw [hZ1]
            refine hK.out _ _ (hR1.inside) (fun hHeld => ?_)
            clear hK K
            try simp only [Act.put, List.getElem_toArray, List.getElem_cons_succ, List.getElem_cons_zero, List.setIfInBounds_toArray, List.set_cons_zero, List.set_cons_succ]
            clear v0 v1 v2 u0 u1 u2
            refine wpAnyH_take (i := 16) (v := ?_) rfl (by kernel_rfl) (by kernel_rfl) (by kernel_rfl) (fun _ _ _ h => h) (Or.inl ⟨by rfl, ?_⟩) (by assumption) ?_
            rotate_left 1
            · intro w hSw; (try dsimp only at hSw); go_simp; try with_reducible rfl
            try simp only [Act.put, List.getElem_toArray, List.getElem_cons_succ, List.getElem_cons_zero, List.setIfInBounds_toArray, List.set_cons_zero, List.set_cons_succ]
            obtain ⟨v0, v1, v2⟩ := hR1.three J (by rw [Array.size_setIfInBounds]; omega)
            have u0 := hR1.free (J * 3)
            have u1 := hR1.free (J * 3 + 1)
            have u2 := hR1.free (J * 3 + 2)
            have hin1 := hR1.inside
            refine wpAnyH_ready (rs := [17]) (by kernel_rfl) (by simp) (AllReadyH.cons rfl (fun K hK => ?_) AllReadyH.nil)
            go_simp
            try rw [hZ2]
            refine hK.out _ _ (hR2.inside) (fun hHeld => ?_)
            clear hK K
            try simp only [Act.put, List.getElem_toArray, List.getElem_cons_succ, List.getElem_cons_zero, List.setIfInBounds_toArray, List.set_cons_zero, List.set_cons_succ]
            refine wpAnyH_done (by kernel_rfl) ?_ _
            go_wp2
            go_roundg (I - J)
            case measure => omega
            case rel => exact ⟨J, swp e k J, by go_num, by omega, by omega, Nat.le_refl _, hR2, hB2, by rw [size_swp]; exact hes, hH2⟩
          · go_simp
            refine hK.out _ _ (hRZ.inside) (fun hHeld => ?_)
            clear hK K
            try simp only [Act.put, List.getElem_toArray, List.getElem_cons_succ, List.getElem_cons_zero, List.setIfInBounds_toArray, List.set_cons_zero, List.set_cons_succ]
            refine wpAnyH_ready (rs := [9]) (by kernel_rfl) (by simp) (AllReadyH.cons rfl (fun K hK => ?_) AllReadyH.nil)
            go_simp
            refine hK.out _ _ (hRZ.inside) (fun hHeld => ?_)
            clear hK K
            try simp only [Act.put, List.getElem_toArray, List.getElem_cons_succ, List.getElem_cons_zero, List.setIfInBounds_toArray, List.set_cons_zero, List.set_cons_succ]
            clear p0 p1 p2 q0 q1 q2
            refine wpAnyH_take (i := 14) (v := ?_) rfl (by kernel_rfl) (by kernel_rfl) (by kernel_rfl) (fun _ _ _ h => h) (Or.inl ⟨by rfl, ?_⟩) (by assumption) ?_
            rotate_left 1
            · intro w hSw; (try dsimp only at hSw); go_simp; try with_reducible rfl
            try simp only [Act.put, List.getElem_toArray, List.getElem_cons_succ, List.getElem_cons_zero, List.setIfInBounds_toArray, List.set_cons_zero, List.set_cons_succ]
            obtain ⟨v0, v1, v2⟩ := hRZ.three k (by omega)
            have u0 := hRZ.free (k * 3)
            have u1 := hRZ.free (k * 3 + 1)
            have u2 := hRZ.free (k * 3 + 2)
            refine wpAnyH_ready (rs := [15]) (by kernel_rfl) (by simp) (AllReadyH.cons rfl (fun K hK => ?_) AllReadyH.nil)
            go_simp
            try rw [hZ1]
            refine hK.out _ _ (hR1.inside) (fun hHeld => ?_)
            clear hK K
            try simp only [Act.put, List.getElem_toArray, List.getElem_cons_succ, List.getElem_cons_zero, List.setIfInBounds_toArray, List.set_cons_zero, List.set_cons_succ]
            clear v0 v1 v2 u0 u1 u2
            refine wpAnyH_take (i := 16) (v := ?_) rfl (by kernel_rfl) (by kernel_rfl) (by kernel_rfl) (fun _ _ _ h => h) (Or.inl ⟨by rfl, ?_⟩) (by assumption) ?_
            rotate_left 1
            · intro w hSw; (try dsimp only at hSw); go_simp; try with_reducible rfl
            try simp only [Act.put, List.getElem_toArray, List.getElem_cons_succ, List.getElem_cons_zero, List.setIfInBounds_toArray, List.set_cons_zero, List.set_cons_succ]
            obtain ⟨v0, v1, v2⟩ := hR1.three J (by rw [Array.size_setIfInBounds]; omega)
            have u0 := hR1.free (J * 3)
            have u1 := hR1.free (J * 3 + 1)
            have u2 := hR1.free (J * 3 + 2)
            have hin1 := hR1.inside
            refine wpAnyH_ready (rs := [17]) (by kernel_rfl) (by simp) (AllReadyH.cons rfl (fun K hK => ?_) AllReadyH.nil)
            go_simp
            try rw [hZ2]
            refine hK.out _ _ (hR2.inside) (fun hHeld => ?_)
            clear hK K
            try simp only [Act.put, List.getElem_toArray, List.getElem_cons_succ, List.getElem_cons_zero, List.setIfInBounds_toArray, List.set_cons_zero, List.set_cons_succ]
            refine wpAnyH_done (by kernel_rfl) ?_ _
            go_wp2
            go_roundg (I - J)
            case measure => omega
            case rel => exact ⟨J, swp e k J, by go_num, by omega, by omega, Nat.le_refl _, hR2, hB2, by rw [size_swp]; exact hes, hH2⟩
        · have hlki : ¬ (k : Int) < (I : Int) := by omega
          go_wp2
          first | go_end0 | refine bodyPost_ret (results_none rfl _ _ _) rfl ?_
          refine ⟨rfl, e, ⟨hR, hb'⟩, merge_first d e a p b (by omega) (by omega) hr.out ?_ (by rw [hM]; exact HA.out) HB.out⟩
          have e1 : k + 1 = p := by omega
          have hq := HR.out
          rw [e1] at hq
          exact hq
end Go.Proofs.YtngofpdpangajaaDoor
/-
  slices' symMergeCmpFunc at rows where the second half is one row, walked.
-/
namespace Go.Proofs.YtngofpdpangajaaDoor
set_option linter.unusedVariables false
set_option linter.unusedSimpArgs false
set_option maxRecDepth 10000
open Go.RowKit Go.Sort

set_option maxRecDepth 100000 in
set_option maxHeartbeats 4000000 in
theorem sym2_any (B g cap a m : Nat) (d : Array Rw) (w : World) (h : RowBox w g d) (hB : B ≤ g) (ham : a + 1 < m) (hb : m + 1 ≤ d.size) (hs : d.size ≤ 1000000000) (hl : Hid (Sl (sg d a m))) :
    Calls Tryd.prog 97 #[.slice (some ⟨g, 0, none⟩) d.size cap, .int .i64 a, .int .i64 m, .int .i64 (m + 1 : Nat), .func (.func 67) #[] #[]] w fun e w' => e = .returned (.tuple #[]) ∧
      ∃ e', Ran B g w e' w' ∧ Mg d e' a (m + 1) := by
  obtain ⟨N, hN⟩ : ∃ N, d.size = N := ⟨_, rfl⟩
  obtain ⟨b, hM⟩ : ∃ b, m + 1 = b := ⟨_, rfl⟩
  rw [hN, hM]
  obtain ⟨D, hD⟩ : ∃ D, m - a = D := ⟨_, rfl⟩
  have w0 : IntKind.i64.wrap ((m : Int) - (a : Int)) = (D : Int) := by rw [IntKind.wrap_i64]; omega
  have hD1 : ((D : Int) == 1) = false := beq_false_of_ne (by omega)
  have hD2 : ¬ D = 1 := by omega
  have w1 : IntKind.i64.wrap ((b : Int) - (m : Int)) = 1 := by rw [IntKind.wrap_i64]; omega
  go_enter Tryd.func97, Tryd.ntmps97
  go_wp2
  go_loopg [14, 15] (m - a) (fun gk vi vj wr => ∃ (p q : Nat), vi = .int .i64 p ∧ vj = .int .i64 q ∧ a ≤ p ∧ p ≤ q ∧ q ≤ m ∧ q - p ≤ gk ∧ RowBox wr g d ∧ Below B w wr ∧ Hid (p = a ∨ ¬ LR d[m]! d[p - 1]!) ∧ Hid (q = m ∨ LR d[m]! d[q]!))
  case atStart => exact ⟨a, m, rfl, rfl, Nat.le_refl _, by omega, Nat.le_refl _, Nat.le_refl _, h, Below.refl _ _, Or.inl rfl, Or.inl rfl⟩
  case round =>
    obtain ⟨p, q, rfl, rfl, hmp, hpq, hqb, hgk, hR, hb', HA, HB⟩ := hrel
    by_cases hlt : p < q
    · have hlti : (p : Int) < (q : Int) := by omega
      obtain ⟨S, hS⟩ : ∃ S, p + q = S := ⟨_, rfl⟩
      obtain ⟨H, hH⟩ : ∃ H, S / 2 = H := ⟨_, rfl⟩
      have w2 : IntKind.i64.wrap ((p : Int) + (q : Int)) = (S : Int) := by rw [IntKind.wrap_i64]; omega
      have w3 : (S : Int) / 2 = (H : Int) := by omega
      have w5 : IntKind.i64.wrap ((H : Int) + 1) = ((H + 1 : Nat) : Int) := by rw [IntKind.wrap_i64]; omega
      have j1 : (H : Int) < (N : Int) := by omega
      have j2 : (m : Int) < (N : Int) := by omega
      have hBs : B ≤ wr.heap.size := by have := hR.inside; omega
      have hmx : Tryd.prog.follows .mixedOrders = true := by kernel_rfl
      have hRg := fun n os => RowBox.grown hR n os
      have hbg := fun n os => below_grow hb' hBs n os
      have L0 : ∀ n os, (grow (wr.drewN n) os).cell? ⟨g, m * 3, none⟩ = some (.string d[m]!.id) := fun n os => ((hRg n os).three m (by omega)).1
      have L1 : ∀ n os, (grow (wr.drewN n) os).cell? ⟨g, m * 3 + 1, none⟩ = some (.int .u64 d[m]!.h) := fun n os => ((hRg n os).three m (by omega)).2.1
      have L2 : ∀ n os, (grow (wr.drewN n) os).cell? ⟨g, m * 3 + 2, none⟩ = some (.int .u64 d[m]!.l) := fun n os => ((hRg n os).three m (by omega)).2.2
      have M0 : ∀ n os, (grow (wr.drewN n) os).cell? ⟨g, H * 3, none⟩ = some (.string d[H]!.id) := fun n os => ((hRg n os).three H (by omega)).1
      have M1 : ∀ n os, (grow (wr.drewN n) os).cell? ⟨g, H * 3 + 1, none⟩ = some (.int .u64 d[H]!.h) := fun n os => ((hRg n os).three H (by omega)).2.1
      have M2 : ∀ n os, (grow (wr.drewN n) os).cell? ⟨g, H * 3 + 2, none⟩ = some (.int .u64 d[H]!.l) := fun n os => ((hRg n os).three H (by omega)).2.2
      have hcg := fun n os => cmp10_grown d[m]! d[H]! wr n os
      simp only [Rw.val] at hcg
      have hlt0 : LR d[m]! d[H]! ↔ cfR d[m]! d[H]! < 0 := by unfold LR ltR ltOf; rw [decide_eq_true_eq]
      obtain ⟨C, hC⟩ : ∃ C, cfR d[m]! d[H]! = C := ⟨_, rfl⟩
      rw [hC] at hlt0 hcg
      have HLT := hideIt hlt0
      clear hC hlt0
      go_wp2_with fail
      by_cases hc : C < 0
      · go_quiet_grown (first | (go_at_call 67; refine Calls.grown_of (hcg _ _)))
        go_wp2
        go_roundg (H - p)
        case measure => omega
        case rel => exact ⟨p, H, rfl, rfl, by omega, by omega, by omega, Nat.le_refl _, hRg nq osq, hbg nq osq, HA, Or.inr (HLT.out.2 hc)⟩
      · go_quiet_grown (first | (go_at_call 67; refine Calls.grown_of (hcg _ _)))
        go_wp2
        go_roundg (q - (H + 1))
        case measure => omega
        case rel => exact ⟨H + 1, q, rfl, rfl, by omega, by omega, by omega, Nat.le_refl _, hRg nq osq, hbg nq osq, Or.inr (by rw [Nat.add_sub_cancel]; exact fun k => absurd (HLT.out.1 k) (by omega)), HB⟩
    · have hlti : ¬ (p : Int) < (q : Int) := by omega
      have hpe : p = q := by omega
      subst hpe
      go_wp2
      go_loopg [17] (m - p) (fun g2 vk wr => ∃ (k : Nat) (e : Array Rw), vk = .int .i64 k ∧ p ≤ k ∧ k ≤ m ∧ k - p ≤ g2 ∧ RowBox wr g e ∧ Below B w wr ∧ e.size = N ∧ Hid (Rotd d e k m (m + 1)))
      case atStart => exact ⟨m, d, rfl, hqb, Nat.le_refl _, Nat.le_refl _, hR, hb', hN, Rotd.none1 _ _ _⟩
      case round =>
        obtain ⟨k, e, rfl, hak, hki, hg2, hR, hb', hes, HR⟩ := hrel
        by_cases hlk : p < k
        · have hlki : (p : Int) < (k : Int) := by omega
          obtain ⟨J, hJ⟩ : ∃ J, k - 1 = J := ⟨_, rfl⟩
          have w6 : IntKind.i64.wrap ((k : Int) - 1) = (J : Int) := by rw [IntKind.wrap_i64]; omega
          have j1 : (k : Int) < (N : Int) := by omega
          have j2 : (J : Int) < (N : Int) := by omega
          have hkJ : k = J + 1 := by omega
          have hH2 := hideIt (show Rotd d (swp e k J) J m (m + 1) by
            have hq := HR.out
            rw [hkJ] at hq ⊢
            exact hq.down (by omega) (by omega))
          have hJn : J + 1 = k := by omega
          clear hkJ
          go_wp2_with fail
          have hRZ := RowBox.draw hR
          have hBZ := Below.drew hb'
          have hin := hRZ.inside
          refine wp_region_held_drew (S := fun u => g < u.heap.size) (by kernel_rfl) hin (fun hHeld => ?_)
          generalize World.drew wr = Z at *
          obtain ⟨Z1, hZ1⟩ : ∃ Z1, ((Z.setCell ⟨g, k * 3, none⟩ (.string e[J]!.id)).setCell ⟨g, k * 3 + 1, none⟩ (.int .u64 e[J]!.h)).setCell ⟨g, k * 3 + 2, none⟩ (.int .u64 e[J]!.l) = Z1 := ⟨_, rfl⟩
          have hR1 : RowBox Z1 g (e.setIfInBounds k e[J]!) := by rw [← hZ1]; exact hRZ.put k e[J]! (by omega)
          have hB1 : Below B w Z1 := by rw [← hZ1]; exact below_put hBZ hB k _ _ _
          obtain ⟨Z2, hZ2⟩ : ∃ Z2, ((Z1.setCell ⟨g, J * 3, none⟩ (.string e[k]!.id)).setCell ⟨g, J * 3 + 1, none⟩ (.int .u64 e[k]!.h)).setCell ⟨g, J * 3 + 2, none⟩ (.int .u64 e[k]!.l) = Z2 := ⟨_, rfl⟩
          have hR2 : RowBox Z2 g (swp e k J) := by rw [← hZ2]; exact hR1.put J e[k]! (by rw [Array.size_setIfInBounds]; omega)
          have hB2 : Below B w Z2 := by rw [← hZ2]; exact below_put hB1 hB J _ _ _
          obtain ⟨p0, p1, p2⟩ := hRZ.three k (by omega)
          obtain ⟨q0, q1, q2⟩ := hRZ.three J (by omega)
          refine wpAnyH_take (i := 0) (v := ?_) rfl (by kernel_rfl) (by kernel_rfl) (by kernel_rfl) (fun _ _ _ h => h) (Or.inl ⟨by rfl, ?_⟩) (by assumption) ?_
          rotate_left 1
          · intro w hSw; (try dsimp only at hSw); go_simp; try with_reducible rfl
          try simp only [Act.put, List.getElem_toArray, List.getElem_cons_succ, List.getElem_cons_zero, List.setIfInBounds_toArray, List.set_cons_zero, List.set_cons_succ]
          refine wpAnyH_take (i := 1) (v := ?_) rfl (by kernel_rfl) (by kernel_rfl) (by kernel_rfl) (fun _ _ _ h => h) (Or.inl ⟨by rfl, ?_⟩) (by assumption) ?_
          rotate_left 1
          · intro w hSw; (try dsimp only at hSw); go_simp; try with_reducible rfl
          try simp only [Act.put, List.getElem_toArray, List.getElem_cons_succ, List.getElem_cons_zero, List.setIfInBounds_toArray, List.set_cons_zero, List.set_cons_succ]
          refine wpAnyH_take (i := 2) (v := ?_) rfl (by kernel_rfl) (by kernel_rfl) (by kernel_rfl) (fun _ _ _ h => h) (Or.inl ⟨by rfl, ?_⟩) (by assumption) ?_
          rotate_left 1
          · intro w hSw; (try dsimp only at hSw); go_simp; try with_reducible rfl
          try simp only [Act.put, List.getElem_toArray, List.getElem_cons_succ, List.getElem_cons_zero, List.setIfInBounds_toArray, List.set_cons_zero, List.set_cons_succ]
          refine wpAnyH_take (i := 3) (v := ?_) rfl (by kernel_rfl) (by kernel_rfl) (by kernel_rfl) (fun _ _ _ h => h) (Or.inl ⟨by rfl, ?_⟩) (by assumption) ?_
          rotate_left 1
          · intro w hSw; (try dsimp only at hSw); go_simp; try with_reducible rfl
          try simp only [Act.put, List.getElem_toArray, List.getElem_cons_succ, List.getElem_cons_zero, List.setIfInBounds_toArray, List.set_cons_zero, List.set_cons_succ]
          refine wpAnyH_take (i := 4) (v := ?_) rfl (by kernel_rfl) (by kernel_rfl) (by kernel_rfl) (fun _ _ _ h => h) (Or.inl ⟨by rfl, ?_⟩) (by assumption) ?_
          rotate_left 1
          · intro w hSw; (try dsimp only at hSw); go_simp; try with_reducible rfl
          try simp only [Act.put, List.getElem_toArray, List.getElem_cons_succ, List.getElem_cons_zero, List.setIfInBounds_toArray, List.set_cons_zero, List.set_cons_succ]
          refine wpAnyH_take (i := 5) (v := ?_) rfl (by kernel_rfl) (by kernel_rfl) (by kernel_rfl) (fun _ _ _ h => h) (Or.inl ⟨by rfl, ?_⟩) (by assumption) ?_
          rotate_left 1
          · intro w hSw; (try dsimp only at hSw); go_simp; try with_reducible rfl
          try simp only [Act.put, List.getElem_toArray, List.getElem_cons_succ, List.getElem_cons_zero, List.setIfInBounds_toArray, List.set_cons_zero, List.set_cons_succ]
          refine wpAnyH_take (i := 6) (v := ?_) rfl (by kernel_rfl) (by kernel_rfl) (by kernel_rfl) (fun _ _ _ h => h) (Or.inl ⟨by rfl, ?_⟩) (by assumption) ?_
          rotate_left 1
          · intro w hSw; (try dsimp only at hSw); go_simp; try with_reducible rfl
          try simp only [Act.put, List.getElem_toArray, List.getElem_cons_succ, List.getElem_cons_zero, List.setIfInBounds_toArray, List.set_cons_zero, List.set_cons_succ]
          refine wpAnyH_take (i := 7) (v := ?_) rfl (by kernel_rfl) (by kernel_rfl) (by kernel_rfl) (fun _ _ _ h => h) (Or.inl ⟨by rfl, ?_⟩) (by assumption) ?_
          rotate_left 1
          · intro w hSw; (try dsimp only at hSw); go_simp; try with_reducible rfl
          try simp only [Act.put, List.getElem_toArray, List.getElem_cons_succ, List.getElem_cons_zero, List.setIfInBounds_toArray, List.set_cons_zero, List.set_cons_succ]
          refine wpAnyH_take (i := 8) (v := ?_) rfl (by kernel_rfl) (by kernel_rfl) (by kernel_rfl) (fun _ _ _ h => h) (Or.inl ⟨by rfl, ?_⟩) (by assumption) ?_
          rotate_left 1
          · intro w hSw; (try dsimp only at hSw); go_simp; try with_reducible rfl
          try simp only [Act.put, List.getElem_toArray, List.getElem_cons_succ, List.getElem_cons_zero, List.setIfInBounds_toArray, List.set_cons_zero, List.set_cons_succ]
          refine wpAnyH_take (i := 10) (v := ?_) rfl (by kernel_rfl) (by kernel_rfl) (by kernel_rfl) (fun _ _ _ h => h) (Or.inl ⟨by rfl, ?_⟩) (by assumption) ?_
          rotate_left 1
          · intro w hSw; (try dsimp only at hSw); go_simp; try with_reducible rfl
          try simp only [Act.put, List.getElem_toArray, List.getElem_cons_succ, List.getElem_cons_zero, List.setIfInBounds_toArray, List.set_cons_zero, List.set_cons_succ]
          refine wpAnyH_take (i := 11) (v := ?_) rfl (by kernel_rfl) (by kernel_rfl) (by kernel_rfl) (fun _ _ _ h => h) (Or.inl ⟨by rfl, ?_⟩) (by assumption) ?_
          rotate_left 1
          · intro w hSw; (try dsimp only at hSw); go_simp; try with_reducible rfl
          try simp only [Act.put, List.getElem_toArray, List.getElem_cons_succ, List.getElem_cons_zero, List.setIfInBounds_toArray, List.set_cons_zero, List.set_cons_succ]
          refine wpAnyH_take (i := 12) (v := ?_) rfl (by kernel_rfl) (by kernel_rfl) (by kernel_rfl) (fun _ _ _ h => h) (Or.inl ⟨by rfl, ?_⟩) (by assumption) ?_
          rotate_left 1
          · intro w hSw; (try dsimp only at hSw); go_simp; try with_reducible rfl
          try simp only [Act.put, List.getElem_toArray, List.getElem_cons_succ, List.getElem_cons_zero, List.setIfInBounds_toArray, List.set_cons_zero, List.set_cons_succ]
          refine wpAnyH_ready (rs := [9, 13]) (by kernel_rfl) (by simp) (AllReadyH.cons rfl (fun K hK => ?_) (AllReadyH.cons rfl (fun K hK => ?_) AllReadyH.nil))
          · go_simp
            refine hK.out _ _ (hRZ.inside) (fun hHeld => ?_)
            clear hK K
            try simp only [Act.put, List.getElem_toArray, List.getElem_cons_succ, List.getElem_cons_zero, List.setIfInBounds_toArray, List.set_cons_zero, List.set_cons_succ]
            refine wpAnyH_ready (rs := [13]) (by kernel_rfl) (by simp) (AllReadyH.cons rfl (fun K hK => ?_) AllReadyH.nil)
            go_simp
            refine hK.out _ _ (hRZ.inside) (fun hHeld => ?_)
            clear hK K
            try simp only [Act.put, List.getElem_toArray, List.getElem_cons_succ, List.getElem_cons_zero, List.setIfInBounds_toArray, List.set_cons_zero, List.set_cons_succ]
            clear p0 p1 p2 q0 q1 q2
            refine wpAnyH_take (i := 14) (v := ?_) rfl (by kernel_rfl) (by kernel_rfl) (by kernel_rfl) (fun _ _ _ h => h) (Or.inl ⟨by rfl, ?_⟩) (by assumption) ?_
            rotate_left 1
            · intro w hSw; (try dsimp only at hSw); go_simp; try with_reducible rfl
            try simp only [Act.put, List.getElem_toArray, List.getElem_cons_succ, List.getElem_cons_zero, List.setIfInBounds_toArray, List.set_cons_zero, List.set_cons_succ]
            obtain ⟨v0, v1, v2⟩ := hRZ.three k (by omega)
            have u0 := hRZ.free (k * 3)
            have u1 := hRZ.free (k * 3 + 1)
            have u2 := hRZ.free (k * 3 + 2)
            refine wpAnyH_ready (rs := [15]) (by kernel_rfl) (by simp) (AllReadyH.cons rfl (fun K hK => ?_) AllReadyH.nil)
            go_simp
            try rw [hZ1]
            refine hK.out _ _ (hR1.inside) (fun hHeld => ?_)
            clear hK K
            try simp only [Act.put, List.getElem_toArray, List.getElem_cons_succ, List.getElem_cons_zero, List.setIfInBounds_toArray, List.set_cons_zero, List.set_cons_succ]
            clear v0 v1 v2 u0 u1 u2
            refine wpAnyH_take (i := 16) (v := ?_) rfl (by kernel_rfl) (by kernel_rfl) (by kernel_rfl) (fun _ _ _ h => h) (Or.inl ⟨by rfl, ?_⟩) (by assumption) ?_
            rotate_left 1
            · intro w hSw; (try dsimp only at hSw); go_simp; try with_reducible rfl
            try simp only [Act.put, List.getElem_toArray, List.getElem_cons_succ, List.getElem_cons_zero, List.setIfInBounds_toArray, List.set_cons_zero, List.set_cons_succ]
            obtain ⟨v0, v1, v2⟩ := hR1.three J (by rw [Array.size_setIfInBounds]; omega)
            have u0 := hR1.free (J * 3)
            have u1 := hR1.free (J * 3 + 1)
            have u2 := hR1.free (J * 3 + 2)
            have hin1 := hR1.inside
            refine wpAnyH_ready (rs := [17]) (by kernel_rfl) (by simp) (AllReadyH.cons rfl (fun K hK => ?_) AllReadyH.nil)
            go_simp
            try rw [hZ2]
            refine hK.out _ _ (hR2.inside) (fun hHeld => ?_)
            clear hK K
            try simp only [Act.put, List.getElem_toArray, List.getElem_cons_succ, List.getElem_cons_zero, List.setIfInBounds_toArray, List.set_cons_zero, List.set_cons_succ]
            refine wpAnyH_done (by kernel_rfl) ?_ _
            go_wp2
            go_roundg (J - p)
            case measure => omega
            case rel => exact ⟨J, swp e k J, by go_num, by omega, by omega, Nat.le_refl _, hR2, hB2, by rw [size_swp]; exact hes, hH2⟩
          · go_simp
            refine hK.out _ _ (hRZ.inside) (fun hHeld => ?_)
            clear hK K
            try simp only [Act.put, List.getElem_toArray, List.getElem_cons_succ, List.getElem_cons_zero, List.setIfInBounds_toArray, List.set_cons_zero, List.set_cons_succ]
            refine wpAnyH_ready (rs := [9]) (by kernel_rfl) (by simp) (AllReadyH.cons rfl (fun K hK => ?_) AllReadyH.nil)
            go_simp
            refine hK.out _ _ (hRZ.inside) (fun hHeld => ?_)
            clear hK K
            try simp only [Act.put, List.getElem_toArray, List.getElem_cons_succ, List.getElem_cons_zero, List.setIfInBounds_toArray, List.set_cons_zero, List.set_cons_succ]
            clear p0 p1 p2 q0 q1 q2
            refine wpAnyH_take (i := 14) (v := ?_) rfl (by kernel_rfl) (by kernel_rfl) (by kernel_rfl) (fun _ _ _ h => h) (Or.inl ⟨by rfl, ?_⟩) (by assumption) ?_
            rotate_left 1
            · intro w hSw; (try dsimp only at hSw); go_simp; try with_reducible rfl
            try simp only [Act.put, List.getElem_toArray, List.getElem_cons_succ, List.getElem_cons_zero, List.setIfInBounds_toArray, List.set_cons_zero, List.set_cons_succ]
            obtain ⟨v0, v1, v2⟩ := hRZ.three k (by omega)
            have u0 := hRZ.free (k * 3)
            have u1 := hRZ.free (k * 3 + 1)
            have u2 := hRZ.free (k * 3 + 2)
            refine wpAnyH_ready (rs := [15]) (by kernel_rfl) (by simp) (AllReadyH.cons rfl (fun K hK => ?_) AllReadyH.nil)
            go_simp
            try rw [hZ1]
            refine hK.out _ _ (hR1.inside) (fun hHeld => ?_)
            clear hK K
            try simp only [Act.put, List.getElem_toArray, List.getElem_cons_succ, List.getElem_cons_zero, List.setIfInBounds_toArray, List.set_cons_zero, List.set_cons_succ]
            clear v0 v1 v2 u0 u1 u2
            refine wpAnyH_take (i := 16) (v := ?_) rfl (by kernel_rfl) (by kernel_rfl) (by kernel_rfl) (fun _ _ _ h => h) (Or.inl ⟨by rfl, ?_⟩) (by assumption) ?_
            rotate_left 1
            · intro w hSw; (try dsimp only at hSw); go_simp; try with_reducible rfl
            try simp only [Act.put, List.getElem_toArray, List.getElem_cons_succ, List.getElem_cons_zero, List.setIfInBounds_toArray, List.set_cons_zero, List.set_cons_succ]
            obtain ⟨v0, v1, v2⟩ := hR1.three J (by rw [Array.size_setIfInBounds]; omega)
            have u0 := hR1.free (J * 3)
            have u1 := hR1.free (J * 3 + 1)
            have u2 := hR1.free (J * 3 + 2)
            have hin1 := hR1.inside
            refine wpAnyH_ready (rs := [17]) (by kernel_rfl) (by simp) (AllReadyH.cons rfl (fun K hK => ?_) AllReadyH.nil)
            go_simp
            try rw [hZ2]
            refine hK.out _ _ (hR2.inside) (fun hHeld => ?_)
            clear hK K
            try simp only [Act.put, List.getElem_toArray, List.getElem_cons_succ, List.getElem_cons_zero, List.setIfInBounds_toArray, List.set_cons_zero, List.set_cons_succ]
            refine wpAnyH_done (by kernel_rfl) ?_ _
            go_wp2
            go_roundg (J - p)
            case measure => omega
            case rel => exact ⟨J, swp e k J, by go_num, by omega, by omega, Nat.le_refl _, hR2, hB2, by rw [size_swp]; exact hes, hH2⟩
        · have hlki : ¬ (p : Int) < (k : Int) := by omega
          have e1 : k = p := by omega
          go_wp2
          first | go_end0 | refine bodyPost_ret (results_none rfl _ _ _) rfl ?_
          refine ⟨rfl, e, ⟨hR, hb'⟩, ?_⟩
          rw [← hM]
          have hq := HR.out
          rw [e1] at hq
          exact merge_last d e a p m (by omega) (by omega) hl.out hq HA.out HB.out
end Go.Proofs.YtngofpdpangajaaDoor
/-
  slices' symMergeCmpFunc at rows, where both halves are more than one row, walked: the halves by the contract of the fewer rows.
-/
namespace Go.Proofs.YtngofpdpangajaaDoor
set_option linter.unusedVariables false
set_option linter.unusedSimpArgs false
set_option maxRecDepth 10000
open Go.RowKit Go.Sort

/-- What symMergeCmpFunc does for a segment. -/
def SymDoes (B g cap : Nat) (a m b : Nat) (d : Array Rw) (w : World) : Prop :=
  Calls Tryd.prog 97 #[.slice (some ⟨g, 0, none⟩) d.size cap, .int .i64 a, .int .i64 m, .int .i64 b, .func (.func 67) #[] #[]] w fun e w' => e = .returned (.tuple #[]) ∧
      ∃ e', Ran B g w e' w' ∧ Mg d e' a b
theorem Ran.trans {B g : Nat} {a b c : World} {d e : Array Rw} (h1 : Below B a b) (h2 : Ran B g b e c) : Ran B g a e c := ⟨h2.1, h1.trans h2.2⟩
set_option maxRecDepth 100000 in
set_option maxHeartbeats 4000000 in
/-- From the search's end on: where the halves start, where they end. -/
theorem sym3_any (B g cap a m b : Nat) (d : Array Rw) (w : World) (h : RowBox w g d) (hB : B ≤ g) (ham : a + 1 < m) (hmb : m + 1 < b) (hb : b ≤ d.size) (hs : d.size ≤ 1000000000) (hl : Hid (Sl (sg d a m))) (hr : Hid (Sl (sg d m b)))
    (ih : ∀ (a' m' b' : Nat) (d' : Array Rw) (w' : World), d'.size = d.size → RowBox w' g d' → a' < m' → m' < b' → b' ≤ d.size → b' - a' < b - a → Sl (sg d' a' m') → Sl (sg d' m' b') → SymDoes B g cap a' m' b' d' w') :
    SymDoes B g cap a m b d w := by
  unfold SymDoes at ih ⊢
  obtain ⟨N, hN⟩ : ∃ N, d.size = N := ⟨_, rfl⟩
  rw [hN] at ih ⊢
  obtain ⟨D, hD⟩ : ∃ D, m - a = D := ⟨_, rfl⟩
  have w0 : IntKind.i64.wrap ((m : Int) - (a : Int)) = (D : Int) := by rw [IntKind.wrap_i64]; omega
  have hD1 : ((D : Int) == 1) = false := beq_false_of_ne (by omega)
  have hD2 : ¬ D = 1 := by omega
  obtain ⟨E, hE⟩ : ∃ E, b - m = E := ⟨_, rfl⟩
  have w1 : IntKind.i64.wrap ((b : Int) - (m : Int)) = (E : Int) := by rw [IntKind.wrap_i64]; omega
  have hE1 : ((E : Int) == 1) = false := beq_false_of_ne (by omega)
  have hE2 : ¬ E = 1 := by omega
  obtain ⟨AB, hAB⟩ : ∃ AB, a + b = AB := ⟨_, rfl⟩
  have w2 : IntKind.i64.wrap ((a : Int) + (b : Int)) = (AB : Int) := by rw [IntKind.wrap_i64]; omega
  obtain ⟨c, hc⟩ : ∃ c, AB / 2 = c := ⟨_, rfl⟩
  have w3 : (AB : Int) / 2 = (c : Int) := by omega
  obtain ⟨n, hn⟩ : ∃ n, c + m = n := ⟨_, rfl⟩
  have w4 : IntKind.i64.wrap ((c : Int) + (m : Int)) = (n : Int) := by rw [IntKind.wrap_i64]; omega
  obtain ⟨P, hP⟩ : ∃ P, n - 1 = P := ⟨_, rfl⟩
  have w5 : IntKind.i64.wrap ((n : Int) - 1) = (P : Int) := by rw [IntKind.wrap_i64]; omega
  obtain ⟨s0, r0, hs0, hr0, hsr, hpath⟩ : ∃ s0 r0 : Nat, (if c < m then n - b else a) = s0 ∧ (if c < m then c else m) = r0 ∧ s0 ≤ r0 ∧ (c < m → s0 = n - b ∧ b ≤ n ∧ r0 = c) ∧ (¬ c < m → s0 = a ∧ r0 = m) := by
    refine ⟨_, _, rfl, rfl, ?_, ?_, ?_⟩
    · split <;> omega
    · intro k; rw [if_pos k, if_pos k]; omega
    · intro k; rw [if_neg k, if_neg k]; omega
  clear hs0 hr0
  have hpath1 := hpath.1
  have hpath2 := hpath.2
  have HP := hideIt (show s0 ≤ r0 ∧ a ≤ s0 ∧ n - s0 ≤ b ∧ r0 ≤ m ∧ r0 ≤ c ∧ (s0 = a ∨ n - s0 = b) ∧ (r0 = m ∨ n - r0 = m) by by_cases k : c < m <;> omega)
  have HM := hideIt hpath
  clear hpath hpath1 hpath2
  go_enter Tryd.func97, Tryd.ntmps97
  go_upto_if 140 with fail
  go_cut [20, 21] from 138 (fun s20 s21 wx => s20 = .int .i64 s0 ∧ s21 = .int .i64 r0 ∧ wx = w)
  case first =>
    have hM := HM.out
    by_cases k : c < m
    · have ki : (c : Int) < (m : Int) := by omega
      obtain ⟨e1, e2, e3⟩ := hM.1 k
      have w6 : IntKind.i64.wrap ((n : Int) - (b : Int)) = (s0 : Int) := by rw [IntKind.wrap_i64]; omega
      have E3 := hideIt e3
      clear hM e1 e2 e3
      go_wp2_with fail
      go_meet
      exact ⟨rfl, by rw [E3.out], rfl⟩
    · have ki : ¬ (c : Int) < (m : Int) := by omega
      obtain ⟨e1, e3⟩ := hM.2 k
      have E1 := hideIt e1
      have E3 := hideIt e3
      clear hM e1 e3
      go_wp2_with fail
      go_meet
      exact ⟨by rw [E1.out], by rw [E3.out], rfl⟩
  case rest =>
    obtain ⟨rfl, rfl, hwc⟩ := hcut
    have hwc' := hwc.symm
    clear hwc
    subst hwc'
    go_wp2
    go_loopg [20, 21] (r0 - s0) (fun gk vi vj wr => ∃ (p q : Nat), vi = .int .i64 p ∧ vj = .int .i64 q ∧ s0 ≤ p ∧ p ≤ q ∧ q ≤ r0 ∧ q - p ≤ gk ∧ RowBox wr g d ∧ Below B w wr ∧ Hid (p = s0 ∨ ¬ LR d[n - p]! d[p - 1]!) ∧ Hid (q = r0 ∨ LR d[n - q - 1]! d[q]!))
    case atStart => exact ⟨s0, r0, rfl, rfl, Nat.le_refl _, HP.out.1, Nat.le_refl _, Nat.le_refl _, h, Below.refl _ _, Or.inl rfl, Or.inl rfl⟩
    case round =>
      obtain ⟨p, q, rfl, rfl, hmp, hpq, hqb, hgk, hR, hb', HA, HB⟩ := hrel
      obtain ⟨P1, P2, P3, P4, P5, P6, P7⟩ := HP.out
      by_cases hlt : p < q
      · have hlti : (p : Int) < (q : Int) := by omega
        obtain ⟨S, hS⟩ : ∃ S, p + q = S := ⟨_, rfl⟩
        obtain ⟨H, hH⟩ : ∃ H, S / 2 = H := ⟨_, rfl⟩
        have w7 : IntKind.i64.wrap ((p : Int) + (q : Int)) = (S : Int) := by rw [IntKind.wrap_i64]; omega
        have w8 : (S : Int) / 2 = (H : Int) := by omega
        have w9 : IntKind.i64.wrap ((H : Int) + 1) = ((H + 1 : Nat) : Int) := by rw [IntKind.wrap_i64]; omega
        obtain ⟨PH, hPH⟩ : ∃ PH, P - H = PH := ⟨_, rfl⟩
        have w10 : IntKind.i64.wrap ((P : Int) - (H : Int)) = (PH : Int) := by rw [IntKind.wrap_i64]; omega
        have j1 : (H : Int) < (N : Int) := by omega
        have j2 : (PH : Int) < (N : Int) := by omega
        have q1 : n - (H + 1) = PH := by omega
        have q2 : n - H - 1 = PH := by omega
        have hBs : B ≤ wr.heap.size := by have := hR.inside; omega
        have hmx : Tryd.prog.follows .mixedOrders = true := by kernel_rfl
        have Q1 := hideIt q1
        have Q2 := hideIt q2
        clear q1 q2 P6 P7
        have hRg := fun n os => RowBox.grown hR n os
        have hbg := fun n os => below_grow hb' hBs n os
        have L0 : ∀ n os, (grow (wr.drewN n) os).cell? ⟨g, PH * 3, none⟩ = some (.string d[PH]!.id) := fun n os => ((hRg n os).three PH (by omega)).1
        have L1 : ∀ n os, (grow (wr.drewN n) os).cell? ⟨g, PH * 3 + 1, none⟩ = some (.int .u64 d[PH]!.h) := fun n os => ((hRg n os).three PH (by omega)).2.1
        have L2 : ∀ n os, (grow (wr.drewN n) os).cell? ⟨g, PH * 3 + 2, none⟩ = some (.int .u64 d[PH]!.l) := fun n os => ((hRg n os).three PH (by omega)).2.2
        have M0 : ∀ n os, (grow (wr.drewN n) os).cell? ⟨g, H * 3, none⟩ = some (.string d[H]!.id) := fun n os => ((hRg n os).three H (by omega)).1
        have M1 : ∀ n os, (grow (wr.drewN n) os).cell? ⟨g, H * 3 + 1, none⟩ = some (.int .u64 d[H]!.h) := fun n os => ((hRg n os).three H (by omega)).2.1
        have M2 : ∀ n os, (grow (wr.drewN n) os).cell? ⟨g, H * 3 + 2, none⟩ = some (.int .u64 d[H]!.l) := fun n os => ((hRg n os).three H (by omega)).2.2
        have hcg := fun n os => cmp10_grown d[PH]! d[H]! wr n os
        simp only [Rw.val] at hcg
        have hlt0 : LR d[PH]! d[H]! ↔ cfR d[PH]! d[H]! < 0 := by unfold LR ltR ltOf; rw [decide_eq_true_eq]
        obtain ⟨C, hC⟩ : ∃ C, cfR d[PH]! d[H]! = C := ⟨_, rfl⟩
        rw [hC] at hlt0 hcg
        have HLT := hideIt hlt0
        clear hC hlt0
        go_wp2_with fail
        by_cases hc : C < 0
        · go_quiet_grown (first | (go_at_call 67; refine Calls.grown_of (hcg _ _)))
          go_wp2
          go_roundg (H - p)
          case measure => omega
          case rel => exact ⟨p, H, rfl, rfl, by omega, by omega, by omega, Nat.le_refl _, hRg nq osq, hbg nq osq, HA, Or.inr (by rw [Q2.out]; exact HLT.out.2 hc)⟩
        · go_quiet_grown (first | (go_at_call 67; refine Calls.grown_of (hcg _ _)))
          go_wp2
          go_roundg (q - (H + 1))
          case measure => omega
          case rel => exact ⟨H + 1, q, rfl, rfl, by omega, by omega, by omega, Nat.le_refl _, hRg nq osq, hbg nq osq, Or.inr (by rw [Nat.add_sub_cancel, Q1.out]; exact fun k => absurd (HLT.out.1 k) (by omega)), HB⟩
      · have hlti : ¬ (p : Int) < (q : Int) := by omega
        have hpe : p = q := by omega
        subst hpe
        obtain ⟨F, hF⟩ : ∃ F, n - p = F := ⟨_, rfl⟩
        have w7 : IntKind.i64.wrap ((n : Int) - (p : Int)) = (F : Int) := by rw [IntKind.wrap_i64]; omega
        have f1 : a ≤ p := by omega
        have f2 : p ≤ m := by omega
        have f3 : m ≤ F := by rcases P7 with k | k <;> omega
        have f4 : F ≤ b := by omega
        have f5 : p + (F - m) = c := by omega
        have hA : p = a ∨ F = b ∨ ¬ LR d[F]! d[p - 1]! := by
          rcases HA.out with k | k
          · rcases P6 with k2 | k2
            · exact Or.inl (by omega)
            · exact Or.inr (Or.inl (by omega))
          · rw [hF] at k
            exact Or.inr (Or.inr k)
        have hB2 : p = m ∨ F = m ∨ LR d[F - 1]! d[p]! := by
          rcases HB.out with k | k
          · rcases P7 with k2 | k2
            · exact Or.inl (by omega)
            · exact Or.inr (Or.inl (by omega))
          · rw [hF] at k
            exact Or.inr (Or.inr k)
        have HT := hideIt (fun e (hq : Rotd d e p m F) => turned10 d e a p m F b f1 f2 f3 f4 hl.out hr.out hq hA hB2)
        rw [f5] at HT
        have HG := hideIt f5
        clear hA hB2 P6 P7 f5 HA HB
        obtain ⟨b1, hb1⟩ : ∃ b1, decide (p < m ∧ m < F) = b1 := ⟨_, rfl⟩
        obtain ⟨b2, hb2⟩ : ∃ b2, decide (a < p ∧ p < c) = b2 := ⟨_, rfl⟩
        obtain ⟨b3, hb3⟩ : ∃ b3, decide (c < F ∧ F < b) = b3 := ⟨_, rfl⟩
        have HB1 := hideIt hb1
        have HB2 := hideIt hb2
        have HB3 := hideIt hb3
        clear hb1 hb2 hb3
        go_upto_region 39 with fail
        go_cut [185] from 178 (fun s185 wx => s185 = .bool b1 ∧ wx = wr)
        case first =>
          by_cases k1 : p < m
          · have k1i : (p : Int) < (m : Int) := by omega
            by_cases k2 : m < F
            · have k2i : (m : Int) < (F : Int) := by omega
              go_wp2_with fail
              go_meet
              exact ⟨by rw [← HB1.out]; simp [k1, k2], rfl⟩
            · have k2i : ¬ (m : Int) < (F : Int) := by omega
              go_wp2_with fail
              go_meet
              exact ⟨by rw [← HB1.out]; simp [k1, k2], rfl⟩
          · have k1i : ¬ (p : Int) < (m : Int) := by omega
            go_wp2_with fail
            go_meet
            exact ⟨by rw [← HB1.out]; simp [k1], rfl⟩
        case rest =>
          obtain ⟨rfl, hwc⟩ := hcut
          have hwc' := hwc.symm
          clear hwc
          subst hwc'
          go_upto_if 185 with fail
          go_cut [] from 178 (fun wx => ∃ e, RowBox wx g e ∧ Below B w wx ∧ e.size = N ∧ Hid (Rotd d e p m F))
          case first =>
            cases b1 with
            | true =>
              obtain ⟨k1, k2⟩ := of_decide_eq_true HB1.out
              have cR := rotate_any B g cap p m F d (.func (.func 67) #[] #[]) wr hR hB k1 k2 (by omega) (by omega)
              rw [hN] at cR
              go_wp2_with (first | (go_at_call 109; refine cR.mono ?_; rintro e v2 ⟨rfl, d2, ⟨hR2, hB2⟩, hd2, hsp⟩) | fail)
              go_meet
              exact ⟨d2, hR2, hb'.trans hB2, hd2, ⟨by rw [hN]; exact hd2, hsp⟩⟩
            | false =>
              have kk := of_decide_eq_false HB1.out
              go_wp2_with fail
              go_meet
              refine ⟨d, hR, hb', hN, ?_⟩
              show Rotd d d p m F
              by_cases k1 : p < m
              · have k2 : F = m := by
                  by_cases k3 : m < F
                  · exact absurd ⟨k1, k3⟩ kk
                  · omega
                rw [k2]; exact Rotd.none2 _ _ _
              · have k2 : p = m := by omega
                rw [k2]; exact Rotd.none1 _ _ _
          case rest =>
            obtain ⟨e, hRe, hbe, hes, HR⟩ := hcut
            generalize wc = W1 at *
            have f5 := HG.out
            obtain ⟨T1, o1, p1, p2, o2, T3⟩ := HT.out e HR.out
            have hL0 := half_left d e a p m F b f1 f2 f3 f4 hl.out hr.out o1 (by rw [f5]; exact p1)
            have hR0 := half_right d e a p m F b f1 f2 f3 f4 hl.out hr.out (by rw [f5]; exact p2) o2
            rw [f5] at hL0 hR0
            have HL := hideIt hL0
            have HRt := hideIt hR0
            have HK := hideIt T1
            have H3 := hideIt T3
            clear T1 T3 o1 p1 p2 o2 hL0 hR0 f5 HT
            go_upto_region 41 with fail
            go_cut [199] from 178 (fun s199 wx => s199 = .bool b2 ∧ wx = W1)
            case first =>
              by_cases k1 : a < p
              · have k1i : (a : Int) < (p : Int) := by omega
                by_cases k2 : p < c
                · have k2i : (p : Int) < (c : Int) := by omega
                  go_wp2_with fail
                  go_meet
                  exact ⟨by rw [← HB2.out]; simp [k1, k2], rfl⟩
                · have k2i : ¬ (p : Int) < (c : Int) := by omega
                  go_wp2_with fail
                  go_meet
                  exact ⟨by rw [← HB2.out]; simp [k1, k2], rfl⟩
              · have k1i : ¬ (a : Int) < (p : Int) := by omega
                go_wp2_with fail
                go_meet
                exact ⟨by rw [← HB2.out]; simp [k1], rfl⟩
            case rest =>
              obtain ⟨rfl, hwc⟩ := hcut
              have hwc' := hwc.symm
              clear hwc
              subst hwc'
              go_upto_if 199 with fail
              go_cut [] from 178 (fun wx => ∃ e1, RowBox wx g e1 ∧ Below B w wx ∧ e1.size = N ∧ Hid (Mg e e1 a c))
              case first =>
                cases b2 with
                | true =>
                  obtain ⟨k1, k2⟩ := of_decide_eq_true HB2.out
                  have cR := ih a p c e W1 hes hRe k1 k2 (by omega) (by omega) HL.out.1 HL.out.2.1
                  rw [hes] at cR
                  go_wp2_with (first | (go_at_call 97; refine cR.mono ?_; rintro z v2 ⟨rfl, d2, ⟨hR2, hB2⟩, hm2⟩) | fail)
                  go_meet
                  exact ⟨d2, hR2, hbe.trans hB2, hm2.size.trans hes, hm2⟩
                | false =>
                  have kk := of_decide_eq_false HB2.out
                  go_wp2_with fail
                  go_meet
                  refine ⟨e, hRe, hbe, hes, ?_⟩
                  have f5 := HG.out
                  exact Mg.none (HL.out.2.2 (by
                    by_cases k1 : a < p
                    · have k3 : ¬ p < c := fun k3 => kk ⟨k1, k3⟩
                      exact Or.inr (by omega)
                    · exact Or.inl (by omega)))
              case rest =>
                obtain ⟨e1, hRe1, hbe1, hes1, HM1⟩ := hcut
                generalize wc = W2 at *
                have q1 : sg e1 c F = sg e c F := HM1.out.1.out (Or.inr (Nat.le_refl _))
                have q2 : sg e1 F b = sg e F b := HM1.out.1.out (Or.inr (by have := HG.out; omega))
                have q3 : sg e1 c b = sg e c b := HM1.out.1.out (Or.inr (Nat.le_refl _))
                have hr1 := HRt.out
                rw [← q1, ← q2, ← q3] at hr1
                have HRq := hideIt hr1
                clear hr1 q1 q2 q3 HRt
                go_upto_region 43 with fail
                go_cut [213] from 178 (fun s213 wx => s213 = .bool b3 ∧ wx = W2)
                case first =>
                  by_cases k1 : c < F
                  · have k1i : (c : Int) < (F : Int) := by omega
                    by_cases k2 : F < b
                    · have k2i : (F : Int) < (b : Int) := by omega
                      go_wp2_with fail
                      go_meet
                      exact ⟨by rw [← HB3.out]; simp [k1, k2], rfl⟩
                    · have k2i : ¬ (F : Int) < (b : Int) := by omega
                      go_wp2_with fail
                      go_meet
                      exact ⟨by rw [← HB3.out]; simp [k1, k2], rfl⟩
                  · have k1i : ¬ (c : Int) < (F : Int) := by omega
                    go_wp2_with fail
                    go_meet
                    exact ⟨by rw [← HB3.out]; simp [k1], rfl⟩
                case rest =>
                  obtain ⟨rfl, hwc⟩ := hcut
                  have hwc' := hwc.symm
                  clear hwc
                  subst hwc'
                  cases b3 with
                  | true =>
                    obtain ⟨k1, k2⟩ := of_decide_eq_true HB3.out
                    have cR := ih c F b e1 W2 hes1 hRe1 k1 k2 (by omega) (by omega) HRq.out.1 HRq.out.2.1
                    rw [hes1] at cR
                    go_wp2_with (first | (go_at_call 97; refine cR.mono ?_; rintro z v2 ⟨rfl, d2, ⟨hR2, hB2⟩, hm2⟩) | fail)
                    first | go_end0 | refine bodyPost_ret (results_none rfl _ _ _) rfl ?_
                    exact ⟨rfl, d2, ⟨hR2, hbe1.trans hB2⟩, halvesR d e e1 d2 a c b (by omega) (by omega) HK.out H3.out HM1.out hm2⟩
                  | false =>
                    have kk := of_decide_eq_false HB3.out
                    go_wp2_with fail
                    first | go_end0 | refine bodyPost_ret (results_none rfl _ _ _) rfl ?_
                    have f5 := HG.out
                    exact ⟨rfl, e1, ⟨hRe1, hbe1⟩, halvesR d e e1 e1 a c b (by omega) (by omega) HK.out H3.out HM1.out (Mg.none (HRq.out.2.2 (by
                      by_cases k1 : c < F
                      · have k3 : ¬ F < b := fun k3 => kk ⟨k1, k3⟩
                        exact Or.inr (by omega)
                      · exact Or.inl (by omega))))⟩
end Go.Proofs.YtngofpdpangajaaDoor
