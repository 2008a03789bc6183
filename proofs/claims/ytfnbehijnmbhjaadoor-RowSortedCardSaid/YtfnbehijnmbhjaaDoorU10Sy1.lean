/-
  slices' symMergeCmpFunc at rows where the first half is one row, walked.
-/
import Derived.Test.YtfnbehijnmbhjaaDoorU10Ins
import Derived.Test.YtfnbehijnmbhjaaDoorU10Rot
import Derived.Test.YtfnbehijnmbhjaaDoorD10Merge
namespace Go.Proofs.YtfnbehijnmbhjaaDoor
set_option linter.unusedVariables false
set_option linter.unusedSimpArgs false
set_option maxRecDepth 10000
open Go.RowKit Go.Sort

set_option maxRecDepth 100000 in
set_option maxHeartbeats 4000000 in
theorem sym1_any (B g cap a b : Nat) (d : Array Rw) (w : World) (h : RowBox w g d) (hB : B ≤ g) (hab : a + 1 < b) (hb : b ≤ d.size) (hs : d.size ≤ 1000000000) (hr : Hid (Sl (sg d (a + 1) b))) :
    Calls Tryd.prog 80 #[.slice (some ⟨g, 0, none⟩) d.size cap, .int .i64 a, .int .i64 (a + 1 : Nat), .int .i64 b, .func (.func 42) #[] #[]] w fun e w' => e = .returned (.tuple #[]) ∧
      ∃ e', Ran B g w e' w' ∧ Mg d e' a b := by
  obtain ⟨N, hN⟩ : ∃ N, d.size = N := ⟨_, rfl⟩
  obtain ⟨M, hM⟩ : ∃ M, a + 1 = M := ⟨_, rfl⟩
  rw [hN, hM]
  have w1 : IntKind.i64.wrap ((M : Int) - (a : Int)) = 1 := by rw [IntKind.wrap_i64]; omega
  go_enter Tryd.func80, Tryd.ntmps80
  go_wp2
  go_loopg [10, 11] (b - M) (fun gk vi vj wr => ∃ (p q : Nat), vi = .int .i64 p ∧ vj = .int .i64 q ∧ M ≤ p ∧ p ≤ q ∧ q ≤ b ∧ q - p ≤ gk ∧ RowBox wr g d ∧ Below B w wr ∧ Hid (p = M ∨ LR d[p - 1]! d[a]!) ∧ Hid (q = b ∨ ¬ LR d[q]! d[a]!))
  case atStart => exact ⟨M, b, rfl, rfl, Nat.le_refl _, by omega, Nat.le_refl _, Nat.le_refl _, h, Below.refl _ _, Or.inl rfl, Or.inl rfl⟩
  case round =>
    obtain ⟨p, q, rfl, rfl, hmp, hpq, hqb, hgk, hR, hb', HA, HB⟩ := hrel
    by_cases hlt : p < q
    · have hlti : (p : Int) < (q : Int) := by omega
      obtain ⟨S, hS⟩ : ∃ S, p + q = S := ⟨_, rfl⟩
      obtain ⟨H, hH⟩ : ∃ H, S / 2 = H := ⟨_, rfl⟩
      have w2 : IntKind.i64.wrap ((p : Int) + (q : Int)) = (S : Int) := by rw [IntKind.wrap_i64]; omega
      have w3 : (S : Int) / 2 = (H : Int) := by omega
      have w5 : IntKind.i64.wrap ((H : Int) + 1) = ((H + 1 : Nat) : Int) := by rw [IntKind.wrap_i64]; omega
      have j1 : (H : Int) < (N : Int) := by omega
      have j2 : (a : Int) < (N : Int) := by omega
      have hBs : B ≤ wr.heap.size := by have := hR.inside; omega
      have hmx : Tryd.prog.follows .mixedOrders = true := by kernel_rfl
      have hRg := fun n os => RowBox.grown hR n os
      have hbg := fun n os => below_grow hb' hBs n os
      have L0 : ∀ n os, (grow (wr.drewN n) os).cell? ⟨g, H * 3, none⟩ = some (.string d[H]!.id) := fun n os => ((hRg n os).three H (by omega)).1
      have L1 : ∀ n os, (grow (wr.drewN n) os).cell? ⟨g, H * 3 + 1, none⟩ = some (.int .u64 d[H]!.h) := fun n os => ((hRg n os).three H (by omega)).2.1
      have L2 : ∀ n os, (grow (wr.drewN n) os).cell? ⟨g, H * 3 + 2, none⟩ = some (.int .u64 d[H]!.l) := fun n os => ((hRg n os).three H (by omega)).2.2
      have M0 : ∀ n os, (grow (wr.drewN n) os).cell? ⟨g, a * 3, none⟩ = some (.string d[a]!.id) := fun n os => ((hRg n os).three a (by omega)).1
      have M1 : ∀ n os, (grow (wr.drewN n) os).cell? ⟨g, a * 3 + 1, none⟩ = some (.int .u64 d[a]!.h) := fun n os => ((hRg n os).three a (by omega)).2.1
      have M2 : ∀ n os, (grow (wr.drewN n) os).cell? ⟨g, a * 3 + 2, none⟩ = some (.int .u64 d[a]!.l) := fun n os => ((hRg n os).three a (by omega)).2.2
      have hcg := fun n os => cmp10_grown d[H]! d[a]! wr n os
      simp only [Rw.val] at hcg
      have hlt0 : LR d[H]! d[a]! ↔ cfR d[H]! d[a]! < 0 := by unfold LR ltR ltOf; rw [decide_eq_true_eq]
      obtain ⟨C, hC⟩ : ∃ C, cfR d[H]! d[a]! = C := ⟨_, rfl⟩
      rw [hC] at hlt0 hcg
      have HLT := hideIt hlt0
      clear hC hlt0
      go_wp2_with fail
      by_cases hc : C < 0
      · go_quiet_grown (first | (go_at_call 42; refine Calls.grown_of (hcg _ _)))
        go_wp2
        go_roundg (q - (H + 1))
        case measure => omega
        case rel => exact ⟨H + 1, q, rfl, rfl, by omega, by omega, by omega, Nat.le_refl _, hRg nq osq, hbg nq osq, Or.inr (by rw [Nat.add_sub_cancel]; exact HLT.out.2 hc), HB⟩
      · go_quiet_grown (first | (go_at_call 42; refine Calls.grown_of (hcg _ _)))
        go_wp2
        go_roundg (H - p)
        case measure => omega
        case rel => exact ⟨p, H, rfl, rfl, by omega, by omega, by omega, Nat.le_refl _, hRg nq osq, hbg nq osq, HA, Or.inr (fun k => absurd (HLT.out.1 k) (by omega))⟩
    · have hlti : ¬ (p : Int) < (q : Int) := by omega
      have hpe : p = q := by omega
      subst hpe
      obtain ⟨I, hI⟩ : ∃ I, p - 1 = I := ⟨_, rfl⟩
      have w4 : IntKind.i64.wrap ((p : Int) - 1) = (I : Int) := by rw [IntKind.wrap_i64]; omega
      go_wp2
      go_loopg [13] (p - M) (fun g2 vk wr => ∃ (k : Nat) (e : Array Rw), vk = .int .i64 k ∧ a ≤ k ∧ k ≤ I ∧ I - k ≤ g2 ∧ RowBox wr g e ∧ Below B w wr ∧ e.size = N ∧ Hid (Rotd d e a (a + 1) (k + 1)))
      case atStart => exact ⟨a, d, rfl, Nat.le_refl _, by omega, by omega, hR, hb', hN, Rotd.none2 _ _ _⟩
      case round =>
        obtain ⟨k, e, rfl, hak, hki, hg2, hR, hb', hes, HR⟩ := hrel
        by_cases hlk : k < I
        · have hlki : (k : Int) < (I : Int) := by omega
          obtain ⟨J, hJ⟩ : ∃ J, k + 1 = J := ⟨_, rfl⟩
          have w6 : IntKind.i64.wrap ((k : Int) + 1) = (J : Int) := by rw [IntKind.wrap_i64]; omega
          have j1 : (k : Int) < (N : Int) := by omega
          have j2 : (J : Int) < (N : Int) := by omega
          have hH2 := hideIt (show Rotd d (swp e k J) a (a + 1) (J + 1) by rw [← hJ]; exact HR.out.up hak (by omega))
          go_wp2_with fail
          have hRZ := RowBox.draw hR
          have hBZ := Below.drew hb'
          have hin := hRZ.inside
          refine wp_region_held_drew (S := fun u => g < u.heap.size) (by kernel_rfl) hin (fun hHeld => ?_)
          generalize World.drew wr = Z at *
          obtain ⟨Z1, hZ1⟩ : ∃ Z1, ((Z.setCell ⟨g, k * 3, none⟩ (.string e[J]!.id)).setCell ⟨g, k * 3 + 1, none⟩ (.int .u64 e[J]!.h)).setCell ⟨g, k * 3 + 2, none⟩ (.int .u64 e[J]!.l) = Z1 := ⟨_, rfl⟩
          have hR1 : RowBox Z1 g (e.setIfInBounds k e[J]!) := by rw [← hZ1]; exact hRZ.put k e[J]! (by omega)
          have hB1 : Below B w Z1 := by rw [← hZ1]; exact below_put hBZ hB k _ _ _
          obtain ⟨Z2, hZ2⟩ : ∃ Z2, ((Z1.setCell ⟨g, J * 3, none⟩ (.string e[k]!.id)).setCell ⟨g, J * 3 + 1, none⟩ (.int .u64 e[k]!.h)).setCell ⟨g, J * 3 + 2, none⟩ (.int .u64 e[k]!.l) = Z2 := ⟨_, rfl⟩
          have hR2 : RowBox Z2 g (swp e k J) := by rw [← hZ2]; exact hR1.put J e[k]! (by rw [Array.size_setIfInBounds]; omega)
          have hB2 : Below B w Z2 := by rw [← hZ2]; exact below_put hB1 hB J _ _ _
          obtain ⟨p0, p1, p2⟩ := hRZ.three k (by omega)
          obtain ⟨q0, q1, q2⟩ := hRZ.three J (by omega)
          refine wpAnyH_take (i := 0) (v := ?_) rfl (by kernel_rfl) (by kernel_rfl) (by kernel_rfl) (fun _ _ _ h => h) (Or.inl ⟨by rfl, ?_⟩) (by assumption) ?_
          rotate_left 1
          · intro w hSw; (try dsimp only at hSw); go_simp; try with_reducible rfl
          try simp only [Act.put, List.getElem_toArray, List.getElem_cons_succ, List.getElem_cons_zero, List.setIfInBounds_toArray, List.set_cons_zero, List.set_cons_succ]
          refine wpAnyH_take (i := 1) (v := ?_) rfl (by kernel_rfl) (by kernel_rfl) (by kernel_rfl) (fun _ _ _ h => h) (Or.inl ⟨by rfl, ?_⟩) (by assumption) ?_
          rotate_left 1
          · intro w hSw; (try dsimp only at hSw); go_simp; try with_reducible rfl
          try simp only [Act.put, List.getElem_toArray, List.getElem_cons_succ, List.getElem_cons_zero, List.setIfInBounds_toArray, List.set_cons_zero, List.set_cons_succ]
          refine wpAnyH_take (i := 2) (v := ?_) rfl (by kernel_rfl) (by kernel_rfl) (by kernel_rfl) (fun _ _ _ h => h) (Or.inl ⟨by rfl, ?_⟩) (by assumption) ?_
          rotate_left 1
          · intro w hSw; (try dsimp only at hSw); go_simp; try with_reducible rfl
          try simp only [Act.put, List.getElem_toArray, List.getElem_cons_succ, List.getElem_cons_zero, List.setIfInBounds_toArray, List.set_cons_zero, List.set_cons_succ]
          refine wpAnyH_take (i := 3) (v := ?_) rfl (by kernel_rfl) (by kernel_rfl) (by kernel_rfl) (fun _ _ _ h => h) (Or.inl ⟨by rfl, ?_⟩) (by assumption) ?_
          rotate_left 1
          · intro w hSw; (try dsimp only at hSw); go_simp; try with_reducible rfl
          try simp only [Act.put, List.getElem_toArray, List.getElem_cons_succ, List.getElem_cons_zero, List.setIfInBounds_toArray, List.set_cons_zero, List.set_cons_succ]
          refine wpAnyH_take (i := 4) (v := ?_) rfl (by kernel_rfl) (by kernel_rfl) (by kernel_rfl) (fun _ _ _ h => h) (Or.inl ⟨by rfl, ?_⟩) (by assumption) ?_
          rotate_left 1
          · intro w hSw; (try dsimp only at hSw); go_simp; try with_reducible rfl
          try simp only [Act.put, List.getElem_toArray, List.getElem_cons_succ, List.getElem_cons_zero, List.setIfInBounds_toArray, List.set_cons_zero, List.set_cons_succ]
          refine wpAnyH_take (i := 5) (v := ?_) rfl (by kernel_rfl) (by kernel_rfl) (by kernel_rfl) (fun _ _ _ h => h) (Or.inl ⟨by rfl, ?_⟩) (by assumption) ?_
          rotate_left 1
          · intro w hSw; (try dsimp only at hSw); go_simp; try with_reducible rfl
          try simp only [Act.put, List.getElem_toArray, List.getElem_cons_succ, List.getElem_cons_zero, List.setIfInBounds_toArray, List.set_cons_zero, List.set_cons_succ]
          refine wpAnyH_take (i := 6) (v := ?_) rfl (by kernel_rfl) (by kernel_rfl) (by kernel_rfl) (fun _ _ _ h => h) (Or.inl ⟨by rfl, ?_⟩) (by assumption) ?_
          rotate_left 1
          · intro w hSw; (try dsimp only at hSw); go_simp; try with_reducible rfl
          try simp only [Act.put, List.getElem_toArray, List.getElem_cons_succ, List.getElem_cons_zero, List.setIfInBounds_toArray, List.set_cons_zero, List.set_cons_succ]
          refine wpAnyH_take (i := 7) (v := ?_) rfl (by kernel_rfl) (by kernel_rfl) (by kernel_rfl) (fun _ _ _ h => h) (Or.inl ⟨by rfl, ?_⟩) (by assumption) ?_
          rotate_left 1
          · intro w hSw; (try dsimp only at hSw); go_simp; try with_reducible rfl
          try simp only [Act.put, List.getElem_toArray, List.getElem_cons_succ, List.getElem_cons_zero, List.setIfInBounds_toArray, List.set_cons_zero, List.set_cons_succ]
          refine wpAnyH_take (i := 8) (v := ?_) rfl (by kernel_rfl) (by kernel_rfl) (by kernel_rfl) (fun _ _ _ h => h) (Or.inl ⟨by rfl, ?_⟩) (by assumption) ?_
          rotate_left 1
          · intro w hSw; (try dsimp only at hSw); go_simp; try with_reducible rfl
          try simp only [Act.put, List.getElem_toArray, List.getElem_cons_succ, List.getElem_cons_zero, List.setIfInBounds_toArray, List.set_cons_zero, List.set_cons_succ]
          refine wpAnyH_take (i := 10) (v := ?_) rfl (by kernel_rfl) (by kernel_rfl) (by kernel_rfl) (fun _ _ _ h => h) (Or.inl ⟨by rfl, ?_⟩) (by assumption) ?_
          rotate_left 1
          · intro w hSw; (try dsimp only at hSw); go_simp; try with_reducible rfl
          try simp only [Act.put, List.getElem_toArray, List.getElem_cons_succ, List.getElem_cons_zero, List.setIfInBounds_toArray, List.set_cons_zero, List.set_cons_succ]
          refine wpAnyH_take (i := 11) (v := ?_) rfl (by kernel_rfl) (by kernel_rfl) (by kernel_rfl) (fun _ _ _ h => h) (Or.inl ⟨by rfl, ?_⟩) (by assumption) ?_
          rotate_left 1
          · intro w hSw; (try dsimp only at hSw); go_simp; try with_reducible rfl
          try simp only [Act.put, List.getElem_toArray, List.getElem_cons_succ, List.getElem_cons_zero, List.setIfInBounds_toArray, List.set_cons_zero, List.set_cons_succ]
          refine wpAnyH_take (i := 12) (v := ?_) rfl (by kernel_rfl) (by kernel_rfl) (by kernel_rfl) (fun _ _ _ h => h) (Or.inl ⟨by rfl, ?_⟩) (by assumption) ?_
          rotate_left 1
          · intro w hSw; (try dsimp only at hSw); go_simp; try with_reducible rfl
          try simp only [Act.put, List.getElem_toArray, List.getElem_cons_succ, List.getElem_cons_zero, List.setIfInBounds_toArray, List.set_cons_zero, List.set_cons_succ]
          refine wpAnyH_ready (rs := [9, 13]) (by kernel_rfl) (by simp) (AllReadyH.cons rfl (fun K hK => ?_) (AllReadyH.cons rfl (fun K hK => ?_) AllReadyH.nil))
          · go_simp
            refine hK.out _ _ (hRZ.inside) (fun hHeld => ?_)
            clear hK K
            try simp only [Act.put, List.getElem_toArray, List.getElem_cons_succ, List.getElem_cons_zero, List.setIfInBounds_toArray, List.set_cons_zero, List.set_cons_succ]
            refine wpAnyH_ready (rs := [13]) (by kernel_rfl) (by simp) (AllReadyH.cons rfl (fun K hK => ?_) AllReadyH.nil)
            go_simp
            refine hK.out _ _ (hRZ.inside) (fun hHeld => ?_)
            clear hK K
            try simp only [Act.put, List.getElem_toArray, List.getElem_cons_succ, List.getElem_cons_zero, List.setIfInBounds_toArray, List.set_cons_zero, List.set_cons_succ]
            clear p0 p1 p2 q0 q1 q2
            refine wpAnyH_take (i := 14) (v := ?_) rfl (by kernel_rfl) (by kernel_rfl) (by kernel_rfl) (fun _ _ _ h => h) (Or.inl ⟨by rfl, ?_⟩) (by assumption) ?_
            rotate_left 1
            · intro w hSw; (try dsimp only at hSw); go_simp; try with_reducible rfl
            try simp only [Act.put, List.getElem_toArray, List.getElem_cons_succ, List.getElem_cons_zero, List.setIfInBounds_toArray, List.set_cons_zero, List.set_cons_succ]
            obtain ⟨v0, v1, v2⟩ := hRZ.three k (by omega)
            have u0 := hRZ.free (k * 3)
            have u1 := hRZ.free (k * 3 + 1)
            have u2 := hRZ.free (k * 3 + 2)
            refine wpAnyH_ready (rs := [15]) (by kernel_rfl) (by simp) (AllReadyH.cons rfl (fun K hK => ?_) AllReadyH.nil)
            go_simp
            try rw [hZ1]
            refine hK.out _ _ (hR1.inside) (fun hHeld => ?_)
            clear hK K
            try simp only [Act.put, List.getElem_toArray, List.getElem_cons_succ, List.getElem_cons_zero, List.setIfInBounds_toArray, List.set_cons_zero, List.set_cons_succ]
            clear v0 v1 v2 u0 u1 u2
            refine wpAnyH_take (i := 16) (v := ?_) rfl (by kernel_rfl) (by kernel_rfl) (by kernel_rfl) (fun _ _ _ h => h) (Or.inl ⟨by rfl, ?_⟩) (by assumption) ?_
            rotate_left 1
            · intro w hSw; (try dsimp only at hSw); go_simp; try with_reducible rfl
            try simp only [Act.put, List.getElem_toArray, List.getElem_cons_succ, List.getElem_cons_zero, List.setIfInBounds_toArray, List.set_cons_zero, List.set_cons_succ]
            obtain ⟨v0, v1, v2⟩ := hR1.three J (by rw [Array.size_setIfInBounds]; omega)
            have u0 := hR1.free (J * 3)
            have u1 := hR1.free (J * 3 + 1)
            have u2 := hR1.free (J * 3 + 2)
            have hin1 := hR1.inside
            refine wpAnyH_ready (rs := [17]) (by kernel_rfl) (by simp) (AllReadyH.cons rfl (fun K hK => ?_) AllReadyH.nil)
            go_simp
            try rw [hZ2]
            refine hK.out _ _ (hR2.inside) (fun hHeld => ?_)
            clear hK K
            try simp only [Act.put, List.getElem_toArray, List.getElem_cons_succ, List.getElem_cons_zero, List.setIfInBounds_toArray, List.set_cons_zero, List.set_cons_succ]
            refine wpAnyH_done (by kernel_rfl) ?_ _
            go_wp2
            go_roundg (I - J)
            case measure => omega
            case rel => exact ⟨J, swp e k J, by go_num, by omega, by omega, Nat.le_refl _, hR2, hB2, by rw [size_swp]; exact hes, hH2⟩
          · go_simp
            refine hK.out _ _ (hRZ.inside) (fun hHeld => ?_)
            clear hK K
            try simp only [Act.put, List.getElem_toArray, List.getElem_cons_succ, List.getElem_cons_zero, List.setIfInBounds_toArray, List.set_cons_zero, List.set_cons_succ]
            refine wpAnyH_ready (rs := [9]) (by kernel_rfl) (by simp) (AllReadyH.cons rfl (fun K hK => ?_) AllReadyH.nil)
            go_simp
            refine hK.out _ _ (hRZ.inside) (fun hHeld => ?_)
            clear hK K
            try simp only [Act.put, List.getElem_toArray, List.getElem_cons_succ, List.getElem_cons_zero, List.setIfInBounds_toArray, List.set_cons_zero, List.set_cons_succ]
            clear p0 p1 p2 q0 q1 q2
            refine wpAnyH_take (i := 14) (v := ?_) rfl (by kernel_rfl) (by kernel_rfl) (by kernel_rfl) (fun _ _ _ h => h) (Or.inl ⟨by rfl, ?_⟩) (by assumption) ?_
            rotate_left 1
            · intro w hSw; (try dsimp only at hSw); go_simp; try with_reducible rfl
            try simp only [Act.put, List.getElem_toArray, List.getElem_cons_succ, List.getElem_cons_zero, List.setIfInBounds_toArray, List.set_cons_zero, List.set_cons_succ]
            obtain ⟨v0, v1, v2⟩ := hRZ.three k (by omega)
            have u0 := hRZ.free (k * 3)
            have u1 := hRZ.free (k * 3 + 1)
            have u2 := hRZ.free (k * 3 + 2)
            refine wpAnyH_ready (rs := [15]) (by kernel_rfl) (by simp) (AllReadyH.cons rfl (fun K hK => ?_) AllReadyH.nil)
            go_simp
            try rw [hZ1]
            refine hK.out _ _ (hR1.inside) (fun hHeld => ?_)
            clear hK K
            try simp only [Act.put, List.getElem_toArray, List.getElem_cons_succ, List.getElem_cons_zero, List.setIfInBounds_toArray, List.set_cons_zero, List.set_cons_succ]
            clear v0 v1 v2 u0 u1 u2
            refine wpAnyH_take (i := 16) (v := ?_) rfl (by kernel_rfl) (by kernel_rfl) (by kernel_rfl) (fun _ _ _ h => h) (Or.inl ⟨by rfl, ?_⟩) (by assumption) ?_
            rotate_left 1
            · intro w hSw; (try dsimp only at hSw); go_simp; try with_reducible rfl
            try simp only [Act.put, List.getElem_toArray, List.getElem_cons_succ, List.getElem_cons_zero, List.setIfInBounds_toArray, List.set_cons_zero, List.set_cons_succ]
            obtain ⟨v0, v1, v2⟩ := hR1.three J (by rw [Array.size_setIfInBounds]; omega)
            have u0 := hR1.free (J * 3)
            have u1 := hR1.free (J * 3 + 1)
            have u2 := hR1.free (J * 3 + 2)
            have hin1 := hR1.inside
            refine wpAnyH_ready (rs := [17]) (by kernel_rfl) (by simp) (AllReadyH.cons rfl (fun K hK => ?_) AllReadyH.nil)
            go_simp
            try rw [hZ2]
            refine hK.out _ _ (hR2.inside) (fun hHeld => ?_)
            clear hK K
            try simp only [Act.put, List.getElem_toArray, List.getElem_cons_succ, List.getElem_cons_zero, List.setIfInBounds_toArray, List.set_cons_zero, List.set_cons_succ]
            refine wpAnyH_done (by kernel_rfl) ?_ _
            go_wp2
            go_roundg (I - J)
            case measure => omega
            case rel => exact ⟨J, swp e k J, by go_num, by omega, by omega, Nat.le_refl _, hR2, hB2, by rw [size_swp]; exact hes, hH2⟩
        · have hlki : ¬ (k : Int) < (I : Int) := by omega
          go_wp2
          first | go_end0 | refine bodyPost_ret (results_none rfl _ _ _) rfl ?_
          refine ⟨rfl, e, ⟨hR, hb'⟩, merge_first d e a p b (by omega) (by omega) hr.out ?_ (by rw [hM]; exact HA.out) HB.out⟩
          have e1 : k + 1 = p := by omega
          have hq := HR.out
          rw [e1] at hq
          exact hq
end Go.Proofs.YtfnbehijnmbhjaaDoor
