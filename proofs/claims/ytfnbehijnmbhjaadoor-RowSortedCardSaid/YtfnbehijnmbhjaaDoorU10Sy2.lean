/-
  slices' symMergeCmpFunc at rows where the second half is one row, walked.
-/
import Derived.Test.YtfnbehijnmbhjaaDoorU10Ins
import Derived.Test.YtfnbehijnmbhjaaDoorD10Merge
namespace Go.Proofs.YtfnbehijnmbhjaaDoor
set_option linter.unusedVariables false
set_option linter.unusedSimpArgs false
set_option maxRecDepth 10000
open Go.RowKit Go.Sort

set_option maxRecDepth 100000 in
set_option maxHeartbeats 4000000 in
theorem sym2_any (B g cap a m : Nat) (d : Array Rw) (w : World) (h : RowBox w g d) (hB : B ≤ g) (ham : a + 1 < m) (hb : m + 1 ≤ d.size) (hs : d.size ≤ 1000000000) (hl : Hid (Sl (sg d a m))) :
    Calls Tryd.prog 80 #[.slice (some ⟨g, 0, none⟩) d.size cap, .int .i64 a, .int .i64 m, .int .i64 (m + 1 : Nat), .func (.func 42) #[] #[]] w fun e w' => e = .returned (.tuple #[]) ∧
      ∃ e', Ran B g w e' w' ∧ Mg d e' a (m + 1) := by
  obtain ⟨N, hN⟩ : ∃ N, d.size = N := ⟨_, rfl⟩
  obtain ⟨b, hM⟩ : ∃ b, m + 1 = b := ⟨_, rfl⟩
  rw [hN, hM]
  obtain ⟨D, hD⟩ : ∃ D, m - a = D := ⟨_, rfl⟩
  have w0 : IntKind.i64.wrap ((m : Int) - (a : Int)) = (D : Int) := by rw [IntKind.wrap_i64]; omega
  have hD1 : ((D : Int) == 1) = false := beq_false_of_ne (by omega)
  have hD2 : ¬ D = 1 := by omega
  have w1 : IntKind.i64.wrap ((b : Int) - (m : Int)) = 1 := by rw [IntKind.wrap_i64]; omega
  go_enter Tryd.func80, Tryd.ntmps80
  go_wp2
  go_loopg [14, 15] (m - a) (fun gk vi vj wr => ∃ (p q : Nat), vi = .int .i64 p ∧ vj = .int .i64 q ∧ a ≤ p ∧ p ≤ q ∧ q ≤ m ∧ q - p ≤ gk ∧ RowBox wr g d ∧ Below B w wr ∧ Hid (p = a ∨ ¬ LR d[m]! d[p - 1]!) ∧ Hid (q = m ∨ LR d[m]! d[q]!))
  case atStart => exact ⟨a, m, rfl, rfl, Nat.le_refl _, by omega, Nat.le_refl _, Nat.le_refl _, h, Below.refl _ _, Or.inl rfl, Or.inl rfl⟩
  case round =>
    obtain ⟨p, q, rfl, rfl, hmp, hpq, hqb, hgk, hR, hb', HA, HB⟩ := hrel
    by_cases hlt : p < q
    · have hlti : (p : Int) < (q : Int) := by omega
      obtain ⟨S, hS⟩ : ∃ S, p + q = S := ⟨_, rfl⟩
      obtain ⟨H, hH⟩ : ∃ H, S / 2 = H := ⟨_, rfl⟩
      have w2 : IntKind.i64.wrap ((p : Int) + (q : Int)) = (S : Int) := by rw [IntKind.wrap_i64]; omega
      have w3 : (S : Int) / 2 = (H : Int) := by omega
      have w5 : IntKind.i64.wrap ((H : Int) + 1) = ((H + 1 : Nat) : Int) := by rw [IntKind.wrap_i64]; omega
      have j1 : (H : Int) < (N : Int) := by omega
      have j2 : (m : Int) < (N : Int) := by omega
      have hBs : B ≤ wr.heap.size := by have := hR.inside; omega
      have hmx : Tryd.prog.follows .mixedOrders = true := by kernel_rfl
      have hRg := fun n os => RowBox.grown hR n os
      have hbg := fun n os => below_grow hb' hBs n os
      have L0 : ∀ n os, (grow (wr.drewN n) os).cell? ⟨g, m * 3, none⟩ = some (.string d[m]!.id) := fun n os => ((hRg n os).three m (by omega)).1
      have L1 : ∀ n os, (grow (wr.drewN n) os).cell? ⟨g, m * 3 + 1, none⟩ = some (.int .u64 d[m]!.h) := fun n os => ((hRg n os).three m (by omega)).2.1
      have L2 : ∀ n os, (grow (wr.drewN n) os).cell? ⟨g, m * 3 + 2, none⟩ = some (.int .u64 d[m]!.l) := fun n os => ((hRg n os).three m (by omega)).2.2
      have M0 : ∀ n os, (grow (wr.drewN n) os).cell? ⟨g, H * 3, none⟩ = some (.string d[H]!.id) := fun n os => ((hRg n os).three H (by omega)).1
      have M1 : ∀ n os, (grow (wr.drewN n) os).cell? ⟨g, H * 3 + 1, none⟩ = some (.int .u64 d[H]!.h) := fun n os => ((hRg n os).three H (by omega)).2.1
      have M2 : ∀ n os, (grow (wr.drewN n) os).cell? ⟨g, H * 3 + 2, none⟩ = some (.int .u64 d[H]!.l) := fun n os => ((hRg n os).three H (by omega)).2.2
      have hcg := fun n os => cmp10_grown d[m]! d[H]! wr n os
      simp only [Rw.val] at hcg
      have hlt0 : LR d[m]! d[H]! ↔ cfR d[m]! d[H]! < 0 := by unfold LR ltR ltOf; rw [decide_eq_true_eq]
      obtain ⟨C, hC⟩ : ∃ C, cfR d[m]! d[H]! = C := ⟨_, rfl⟩
      rw [hC] at hlt0 hcg
      have HLT := hideIt hlt0
      clear hC hlt0
      go_wp2_with fail
      by_cases hc : C < 0
      · go_quiet_grown (first | (go_at_call 42; refine Calls.grown_of (hcg _ _)))
        go_wp2
        go_roundg (H - p)
        case measure => omega
        case rel => exact ⟨p, H, rfl, rfl, by omega, by omega, by omega, Nat.le_refl _, hRg nq osq, hbg nq osq, HA, Or.inr (HLT.out.2 hc)⟩
      · go_quiet_grown (first | (go_at_call 42; refine Calls.grown_of (hcg _ _)))
        go_wp2
        go_roundg (q - (H + 1))
        case measure => omega
        case rel => exact ⟨H + 1, q, rfl, rfl, by omega, by omega, by omega, Nat.le_refl _, hRg nq osq, hbg nq osq, Or.inr (by rw [Nat.add_sub_cancel]; exact fun k => absurd (HLT.out.1 k) (by omega)), HB⟩
    · have hlti : ¬ (p : Int) < (q : Int) := by omega
      have hpe : p = q := by omega
      subst hpe
      go_wp2
      go_loopg [17] (m - p) (fun g2 vk wr => ∃ (k : Nat) (e : Array Rw), vk = .int .i64 k ∧ p ≤ k ∧ k ≤ m ∧ k - p ≤ g2 ∧ RowBox wr g e ∧ Below B w wr ∧ e.size = N ∧ Hid (Rotd d e k m (m + 1)))
      case atStart => exact ⟨m, d, rfl, hqb, Nat.le_refl _, Nat.le_refl _, hR, hb', hN, Rotd.none1 _ _ _⟩
      case round =>
        obtain ⟨k, e, rfl, hak, hki, hg2, hR, hb', hes, HR⟩ := hrel
        by_cases hlk : p < k
        · have hlki : (p : Int) < (k : Int) := by omega
          obtain ⟨J, hJ⟩ : ∃ J, k - 1 = J := ⟨_, rfl⟩
          have w6 : IntKind.i64.wrap ((k : Int) - 1) = (J : Int) := by rw [IntKind.wrap_i64]; omega
          have j1 : (k : Int) < (N : Int) := by omega
          have j2 : (J : Int) < (N : Int) := by omega
          have hkJ : k = J + 1 := by omega
          have hH2 := hideIt (show Rotd d (swp e k J) J m (m + 1) by
            have hq := HR.out
            rw [hkJ] at hq ⊢
            exact hq.down (by omega) (by omega))
          have hJn : J + 1 = k := by omega
          clear hkJ
          go_wp2_with fail
          have hRZ := RowBox.draw hR
          have hBZ := Below.drew hb'
          have hin := hRZ.inside
          refine wp_region_held_drew (S := fun u => g < u.heap.size) (by kernel_rfl) hin (fun hHeld => ?_)
          generalize World.drew wr = Z at *
          obtain ⟨Z1, hZ1⟩ : ∃ Z1, ((Z.setCell ⟨g, k * 3, none⟩ (.string e[J]!.id)).setCell ⟨g, k * 3 + 1, none⟩ (.int .u64 e[J]!.h)).setCell ⟨g, k * 3 + 2, none⟩ (.int .u64 e[J]!.l) = Z1 := ⟨_, rfl⟩
          have hR1 : RowBox Z1 g (e.setIfInBounds k e[J]!) := by rw [← hZ1]; exact hRZ.put k e[J]! (by omega)
          have hB1 : Below B w Z1 := by rw [← hZ1]; exact below_put hBZ hB k _ _ _
          obtain ⟨Z2, hZ2⟩ : ∃ Z2, ((Z1.setCell ⟨g, J * 3, none⟩ (.string e[k]!.id)).setCell ⟨g, J * 3 + 1, none⟩ (.int .u64 e[k]!.h)).setCell ⟨g, J * 3 + 2, none⟩ (.int .u64 e[k]!.l) = Z2 := ⟨_, rfl⟩
          have hR2 : RowBox Z2 g (swp e k J) := by rw [← hZ2]; exact hR1.put J e[k]! (by rw [Array.size_setIfInBounds]; omega)
          have hB2 : Below B w Z2 := by rw [← hZ2]; exact below_put hB1 hB J _ _ _
          obtain ⟨p0, p1, p2⟩ := hRZ.three k (by omega)
          obtain ⟨q0, q1, q2⟩ := hRZ.three J (by omega)
          refine wpAnyH_take (i := 0) (v := ?_) rfl (by kernel_rfl) (by kernel_rfl) (by kernel_rfl) (fun _ _ _ h => h) (Or.inl ⟨by rfl, ?_⟩) (by assumption) ?_
          rotate_left 1
          · intro w hSw; (try dsimp only at hSw); go_simp; try with_reducible rfl
          try simp only [Act.put, List.getElem_toArray, List.getElem_cons_succ, List.getElem_cons_zero, List.setIfInBounds_toArray, List.set_cons_zero, List.set_cons_succ]
          refine wpAnyH_take (i := 1) (v := ?_) rfl (by kernel_rfl) (by kernel_rfl) (by kernel_rfl) (fun _ _ _ h => h) (Or.inl ⟨by rfl, ?_⟩) (by assumption) ?_
          rotate_left 1
          · intro w hSw; (try dsimp only at hSw); go_simp; try with_reducible rfl
          try simp only [Act.put, List.getElem_toArray, List.getElem_cons_succ, List.getElem_cons_zero, List.setIfInBounds_toArray, List.set_cons_zero, List.set_cons_succ]
          refine wpAnyH_take (i := 2) (v := ?_) rfl (by kernel_rfl) (by kernel_rfl) (by kernel_rfl) (fun _ _ _ h => h) (Or.inl ⟨by rfl, ?_⟩) (by assumption) ?_
          rotate_left 1
          · intro w hSw; (try dsimp only at hSw); go_simp; try with_reducible rfl
          try simp only [Act.put, List.getElem_toArray, List.getElem_cons_succ, List.getElem_cons_zero, List.setIfInBounds_toArray, List.set_cons_zero, List.set_cons_succ]
          refine wpAnyH_take (i := 3) (v := ?_) rfl (by kernel_rfl) (by kernel_rfl) (by kernel_rfl) (fun _ _ _ h => h) (Or.inl ⟨by rfl, ?_⟩) (by assumption) ?_
          rotate_left 1
          · intro w hSw; (try dsimp only at hSw); go_simp; try with_reducible rfl
          try simp only [Act.put, List.getElem_toArray, List.getElem_cons_succ, List.getElem_cons_zero, List.setIfInBounds_toArray, List.set_cons_zero, List.set_cons_succ]
          refine wpAnyH_take (i := 4) (v := ?_) rfl (by kernel_rfl) (by kernel_rfl) (by kernel_rfl) (fun _ _ _ h => h) (Or.inl ⟨by rfl, ?_⟩) (by assumption) ?_
          rotate_left 1
          · intro w hSw; (try dsimp only at hSw); go_simp; try with_reducible rfl
          try simp only [Act.put, List.getElem_toArray, List.getElem_cons_succ, List.getElem_cons_zero, List.setIfInBounds_toArray, List.set_cons_zero, List.set_cons_succ]
          refine wpAnyH_take (i := 5) (v := ?_) rfl (by kernel_rfl) (by kernel_rfl) (by kernel_rfl) (fun _ _ _ h => h) (Or.inl ⟨by rfl, ?_⟩) (by assumption) ?_
          rotate_left 1
          · intro w hSw; (try dsimp only at hSw); go_simp; try with_reducible rfl
          try simp only [Act.put, List.getElem_toArray, List.getElem_cons_succ, List.getElem_cons_zero, List.setIfInBounds_toArray, List.set_cons_zero, List.set_cons_succ]
          refine wpAnyH_take (i := 6) (v := ?_) rfl (by kernel_rfl) (by kernel_rfl) (by kernel_rfl) (fun _ _ _ h => h) (Or.inl ⟨by rfl, ?_⟩) (by assumption) ?_
          rotate_left 1
          · intro w hSw; (try dsimp only at hSw); go_simp; try with_reducible rfl
          try simp only [Act.put, List.getElem_toArray, List.getElem_cons_succ, List.getElem_cons_zero, List.setIfInBounds_toArray, List.set_cons_zero, List.set_cons_succ]
          refine wpAnyH_take (i := 7) (v := ?_) rfl (by kernel_rfl) (by kernel_rfl) (by kernel_rfl) (fun _ _ _ h => h) (Or.inl ⟨by rfl, ?_⟩) (by assumption) ?_
          rotate_left 1
          · intro w hSw; (try dsimp only at hSw); go_simp; try with_reducible rfl
          try simp only [Act.put, List.getElem_toArray, List.getElem_cons_succ, List.getElem_cons_zero, List.setIfInBounds_toArray, List.set_cons_zero, List.set_cons_succ]
          refine wpAnyH_take (i := 8) (v := ?_) rfl (by kernel_rfl) (by kernel_rfl) (by kernel_rfl) (fun _ _ _ h => h) (Or.inl ⟨by rfl, ?_⟩) (by assumption) ?_
          rotate_left 1
          · intro w hSw; (try dsimp only at hSw); go_simp; try with_reducible rfl
          try simp only [Act.put, List.getElem_toArray, List.getElem_cons_succ, List.getElem_cons_zero, List.setIfInBounds_toArray, List.set_cons_zero, List.set_cons_succ]
          refine wpAnyH_take (i := 10) (v := ?_) rfl (by kernel_rfl) (by kernel_rfl) (by kernel_rfl) (fun _ _ _ h => h) (Or.inl ⟨by rfl, ?_⟩) (by assumption) ?_
          rotate_left 1
          · intro w hSw; (try dsimp only at hSw); go_simp; try with_reducible rfl
          try simp only [Act.put, List.getElem_toArray, List.getElem_cons_succ, List.getElem_cons_zero, List.setIfInBounds_toArray, List.set_cons_zero, List.set_cons_succ]
          refine wpAnyH_take (i := 11) (v := ?_) rfl (by kernel_rfl) (by kernel_rfl) (by kernel_rfl) (fun _ _ _ h => h) (Or.inl ⟨by rfl, ?_⟩) (by assumption) ?_
          rotate_left 1
          · intro w hSw; (try dsimp only at hSw); go_simp; try with_reducible rfl
          try simp only [Act.put, List.getElem_toArray, List.getElem_cons_succ, List.getElem_cons_zero, List.setIfInBounds_toArray, List.set_cons_zero, List.set_cons_succ]
          refine wpAnyH_take (i := 12) (v := ?_) rfl (by kernel_rfl) (by kernel_rfl) (by kernel_rfl) (fun _ _ _ h => h) (Or.inl ⟨by rfl, ?_⟩) (by assumption) ?_
          rotate_left 1
          · intro w hSw; (try dsimp only at hSw); go_simp; try with_reducible rfl
          try simp only [Act.put, List.getElem_toArray, List.getElem_cons_succ, List.getElem_cons_zero, List.setIfInBounds_toArray, List.set_cons_zero, List.set_cons_succ]
          refine wpAnyH_ready (rs := [9, 13]) (by kernel_rfl) (by simp) (AllReadyH.cons rfl (fun K hK => ?_) (AllReadyH.cons rfl (fun K hK => ?_) AllReadyH.nil))
          · go_simp
            refine hK.out _ _ (hRZ.inside) (fun hHeld => ?_)
            clear hK K
            try simp only [Act.put, List.getElem_toArray, List.getElem_cons_succ, List.getElem_cons_zero, List.setIfInBounds_toArray, List.set_cons_zero, List.set_cons_succ]
            refine wpAnyH_ready (rs := [13]) (by kernel_rfl) (by simp) (AllReadyH.cons rfl (fun K hK => ?_) AllReadyH.nil)
            go_simp
            refine hK.out _ _ (hRZ.inside) (fun hHeld => ?_)
            clear hK K
            try simp only [Act.put, List.getElem_toArray, List.getElem_cons_succ, List.getElem_cons_zero, List.setIfInBounds_toArray, List.set_cons_zero, List.set_cons_succ]
            clear p0 p1 p2 q0 q1 q2
            refine wpAnyH_take (i := 14) (v := ?_) rfl (by kernel_rfl) (by kernel_rfl) (by kernel_rfl) (fun _ _ _ h => h) (Or.inl ⟨by rfl, ?_⟩) (by assumption) ?_
            rotate_left 1
            · intro w hSw; (try dsimp only at hSw); go_simp; try with_reducible rfl
            try simp only [Act.put, List.getElem_toArray, List.getElem_cons_succ, List.getElem_cons_zero, List.setIfInBounds_toArray, List.set_cons_zero, List.set_cons_succ]
            obtain ⟨v0, v1, v2⟩ := hRZ.three k (by omega)
            have u0 := hRZ.free (k * 3)
            have u1 := hRZ.free (k * 3 + 1)
            have u2 := hRZ.free (k * 3 + 2)
            refine wpAnyH_ready (rs := [15]) (by kernel_rfl) (by simp) (AllReadyH.cons rfl (fun K hK => ?_) AllReadyH.nil)
            go_simp
            try rw [hZ1]
            refine hK.out _ _ (hR1.inside) (fun hHeld => ?_)
            clear hK K
            try simp only [Act.put, List.getElem_toArray, List.getElem_cons_succ, List.getElem_cons_zero, List.setIfInBounds_toArray, List.set_cons_zero, List.set_cons_succ]
            clear v0 v1 v2 u0 u1 u2
            refine wpAnyH_take (i := 16) (v := ?_) rfl (by kernel_rfl) (by kernel_rfl) (by kernel_rfl) (fun _ _ _ h => h) (Or.inl ⟨by rfl, ?_⟩) (by assumption) ?_
            rotate_left 1
            · intro w hSw; (try dsimp only at hSw); go_simp; try with_reducible rfl
            try simp only [Act.put, List.getElem_toArray, List.getElem_cons_succ, List.getElem_cons_zero, List.setIfInBounds_toArray, List.set_cons_zero, List.set_cons_succ]
            obtain ⟨v0, v1, v2⟩ := hR1.three J (by rw [Array.size_setIfInBounds]; omega)
            have u0 := hR1.free (J * 3)
            have u1 := hR1.free (J * 3 + 1)
            have u2 := hR1.free (J * 3 + 2)
            have hin1 := hR1.inside
            refine wpAnyH_ready (rs := [17]) (by kernel_rfl) (by simp) (AllReadyH.cons rfl (fun K hK => ?_) AllReadyH.nil)
            go_simp
            try rw [hZ2]
            refine hK.out _ _ (hR2.inside) (fun hHeld => ?_)
            clear hK K
            try simp only [Act.put, List.getElem_toArray, List.getElem_cons_succ, List.getElem_cons_zero, List.setIfInBounds_toArray, List.set_cons_zero, List.set_cons_succ]
            refine wpAnyH_done (by kernel_rfl) ?_ _
            go_wp2
            go_roundg (J - p)
            case measure => omega
            case rel => exact ⟨J, swp e k J, by go_num, by omega, by omega, Nat.le_refl _, hR2, hB2, by rw [size_swp]; exact hes, hH2⟩
          · go_simp
            refine hK.out _ _ (hRZ.inside) (fun hHeld => ?_)
            clear hK K
            try simp only [Act.put, List.getElem_toArray, List.getElem_cons_succ, List.getElem_cons_zero, List.setIfInBounds_toArray, List.set_cons_zero, List.set_cons_succ]
            refine wpAnyH_ready (rs := [9]) (by kernel_rfl) (by simp) (AllReadyH.cons rfl (fun K hK => ?_) AllReadyH.nil)
            go_simp
            refine hK.out _ _ (hRZ.inside) (fun hHeld => ?_)
            clear hK K
            try simp only [Act.put, List.getElem_toArray, List.getElem_cons_succ, List.getElem_cons_zero, List.setIfInBounds_toArray, List.set_cons_zero, List.set_cons_succ]
            clear p0 p1 p2 q0 q1 q2
            refine wpAnyH_take (i := 14) (v := ?_) rfl (by kernel_rfl) (by kernel_rfl) (by kernel_rfl) (fun _ _ _ h => h) (Or.inl ⟨by rfl, ?_⟩) (by assumption) ?_
            rotate_left 1
            · intro w hSw; (try dsimp only at hSw); go_simp; try with_reducible rfl
            try simp only [Act.put, List.getElem_toArray, List.getElem_cons_succ, List.getElem_cons_zero, List.setIfInBounds_toArray, List.set_cons_zero, List.set_cons_succ]
            obtain ⟨v0, v1, v2⟩ := hRZ.three k (by omega)
            have u0 := hRZ.free (k * 3)
            have u1 := hRZ.free (k * 3 + 1)
            have u2 := hRZ.free (k * 3 + 2)
            refine wpAnyH_ready (rs := [15]) (by kernel_rfl) (by simp) (AllReadyH.cons rfl (fun K hK => ?_) AllReadyH.nil)
            go_simp
            try rw [hZ1]
            refine hK.out _ _ (hR1.inside) (fun hHeld => ?_)
            clear hK K
            try simp only [Act.put, List.getElem_toArray, List.getElem_cons_succ, List.getElem_cons_zero, List.setIfInBounds_toArray, List.set_cons_zero, List.set_cons_succ]
            clear v0 v1 v2 u0 u1 u2
            refine wpAnyH_take (i := 16) (v := ?_) rfl (by kernel_rfl) (by kernel_rfl) (by kernel_rfl) (fun _ _ _ h => h) (Or.inl ⟨by rfl, ?_⟩) (by assumption) ?_
            rotate_left 1
            · intro w hSw; (try dsimp only at hSw); go_simp; try with_reducible rfl
            try simp only [Act.put, List.getElem_toArray, List.getElem_cons_succ, List.getElem_cons_zero, List.setIfInBounds_toArray, List.set_cons_zero, List.set_cons_succ]
            obtain ⟨v0, v1, v2⟩ := hR1.three J (by rw [Array.size_setIfInBounds]; omega)
            have u0 := hR1.free (J * 3)
            have u1 := hR1.free (J * 3 + 1)
            have u2 := hR1.free (J * 3 + 2)
            have hin1 := hR1.inside
            refine wpAnyH_ready (rs := [17]) (by kernel_rfl) (by simp) (AllReadyH.cons rfl (fun K hK => ?_) AllReadyH.nil)
            go_simp
            try rw [hZ2]
            refine hK.out _ _ (hR2.inside) (fun hHeld => ?_)
            clear hK K
            try simp only [Act.put, List.getElem_toArray, List.getElem_cons_succ, List.getElem_cons_zero, List.setIfInBounds_toArray, List.set_cons_zero, List.set_cons_succ]
            refine wpAnyH_done (by kernel_rfl) ?_ _
            go_wp2
            go_roundg (J - p)
            case measure => omega
            case rel => exact ⟨J, swp e k J, by go_num, by omega, by omega, Nat.le_refl _, hR2, hB2, by rw [size_swp]; exact hes, hH2⟩
        · have hlki : ¬ (p : Int) < (k : Int) := by omega
          have e1 : k = p := by omega
          go_wp2
          first | go_end0 | refine bodyPost_ret (results_none rfl _ _ _) rfl ?_
          refine ⟨rfl, e, ⟨hR, hb'⟩, ?_⟩
          rw [← hM]
          have hq := HR.out
          rw [e1] at hq
          exact merge_last d e a p m (by omega) (by omega) hl.out hq HA.out HB.out
end Go.Proofs.YtfnbehijnmbhjaaDoor
