/-
  slices' insertionSortCmpFunc at rows, by their Ids, walked.
-/
import Derived.Test.YthindbmgnkohhaaU10Mem
import Derived.Shelf.SlSortCmp.QuietGrown
namespace Go.Proofs.Ythindbmgnkohhaa
set_option linter.unusedVariables false
set_option linter.unusedSimpArgs false
set_option maxRecDepth 10000
open Go.RowKit Go.Sort

theorem below_grow {B : Nat} {a w : World} (h : Below B a w) (hB : B ≤ w.heap.size) (n : Nat) (os : Array Obj) : Below B a (grow (w.drewN n) os) :=
  ⟨h.os, h.tape, h.output, by rw [size_grow]; exact Nat.le_trans h.size (Nat.le_add_right _ _), fun k hk => by
    rw [heap_grow_old (w.drewN n) os (show k < w.heap.size by omega)]
    exact h.block k hk⟩
theorem RowBox.grown {w : World} {g : Nat} {d : Array Rw} (h : RowBox w g d) (n : Nat) (os : Array Obj) : RowBox (grow (w.drewN n) os) g d := by
  have hi := h.inside
  show (grow (w.drewN n) os).heap[g]? = _
  rw [heap_grow_old (w.drewN n) os (show g < w.heap.size from hi)]
  exact h
/-- What a comparison reads, and what it tells, in whatever world that draws and new blocks have made. -/
theorem cmp10_grown (x y : Rw) (W : World) (n : Nat) (os : Array Obj) : Calls Try.prog 16 #[x.val, y.val] (grow (W.drewN n) os) fun e w' => e = .returned (.int .i64 (cfR x y)) ∧ ∃ q os', w' = grow ((grow (W.drewN n) os).drewN q) os' :=
  (cmp10_any x y _).mono fun e w' h => by
    obtain ⟨h1, h2⟩ := h
    subst h2
    exact ⟨h1, 0, _, by rw [alloc_eq_grow, alloc_eq_grow, grow_grow]; rfl⟩
set_option maxRecDepth 100000 in
set_option maxHeartbeats 4000000 in
theorem insert_any (B g cap a b : Nat) (d0 : Array Rw) (w : World) (h : RowBox w g d0) (hB : B ≤ g) (hab : a ≤ b) (hb : b ≤ d0.size) (hs : d0.size ≤ 1000000000) :
    Calls Try.prog 20 #[.slice (some ⟨g, 0, none⟩) d0.size cap, .int .i64 a, .int .i64 b, .func (.func 16) #[] #[]] w fun e w' => e = .returned (.tuple #[]) ∧
      Ran B g w (Sort.insertionSort ltR d0 a b) w' := by
  obtain ⟨N, hN⟩ : ∃ N, d0.size = N := ⟨_, rfl⟩
  rw [hN]
  go_enter Try.func20, Try.ntmps20
  go_wp2
  go_loopg [8] (b - a) (fun gk vi wr => ∃ (i : Nat) (d : Array Rw), vi = .int .i64 i ∧ a < i ∧ i ≤ b + 1 ∧ b + 1 - i ≤ gk + 1 ∧ d.size = N ∧ RowBox wr g d ∧ Below B w wr ∧ Hid (insOuter ltR a b i d = insOuter ltR a b (a + 1) d0))
  case atStart => exact ⟨a + 1, d0, by go_num, by omega, by omega, by omega, hN, h, Below.refl _ _, rfl⟩
  case round =>
    obtain ⟨i, di, rfl, hai, hib, hgk, hdi, hRi, hbi, HO⟩ := hrel
    by_cases hlt : i < b
    · have hlti : (i : Int) < (b : Int) := by omega
      go_wp2
      go_loopg [9] i (fun g2 vj wr => ∃ (j : Nat) (d : Array Rw), vj = .int .i64 j ∧ a ≤ j ∧ j ≤ i ∧ j ≤ g2 ∧ d.size = N ∧ RowBox wr g d ∧ Below B w wr ∧ Hid (insInner ltR a j d = insInner ltR a i di))
      case atStart => exact ⟨i, di, rfl, by omega, Nat.le_refl _, Nat.le_refl _, hdi, hRi, hbi, rfl⟩
      case round =>
        obtain ⟨j, d, rfl, haj, hji, hg2, hds, hR, hb', HI⟩ := hrel
        have out : (j ≤ a ∨ ltR d[j]! d[j - 1]! = false) → insOuter ltR a b (i + 1) d = insOuter ltR a b (a + 1) d0 := fun hs => by
          rw [← HO.out, insOuter_go _ _ _ _ _ hlt, ← HI.out, insInner_stop _ _ _ _ hs]
        have OUT := hideIt out
        clear out
        by_cases hja : a < j
        · have hjai : (a : Int) < (j : Int) := by omega
          obtain ⟨J, hJ⟩ : ∃ J, j - 1 = J := ⟨_, rfl⟩
          have w3 : IntKind.i64.wrap ((j : Int) - 1) = (J : Int) := by rw [IntKind.wrap_i64]; omega
          have j1 : (j : Int) < (N : Int) := by omega
          have j2 : (J : Int) < (N : Int) := by omega
          have hBs : B ≤ wr.heap.size := by have := hR.inside; omega
          have hmx : Try.prog.follows .mixedOrders = true := by kernel_rfl
          have hRg := fun n os => RowBox.grown hR n os
          have hbg := fun n os => below_grow hb' hBs n os
          have L0 : ∀ n os, (grow (wr.drewN n) os).cell? ⟨g, j * 3, none⟩ = some (.string d[j]!.id) := fun n os => ((hRg n os).three j (by omega)).1
          have L1 : ∀ n os, (grow (wr.drewN n) os).cell? ⟨g, j * 3 + 1, none⟩ = some (.int .u64 d[j]!.h) := fun n os => ((hRg n os).three j (by omega)).2.1
          have L2 : ∀ n os, (grow (wr.drewN n) os).cell? ⟨g, j * 3 + 2, none⟩ = some (.int .u64 d[j]!.l) := fun n os => ((hRg n os).three j (by omega)).2.2
          have M0 : ∀ n os, (grow (wr.drewN n) os).cell? ⟨g, J * 3, none⟩ = some (.string d[J]!.id) := fun n os => ((hRg n os).three J (by omega)).1
          have M1 : ∀ n os, (grow (wr.drewN n) os).cell? ⟨g, J * 3 + 1, none⟩ = some (.int .u64 d[J]!.h) := fun n os => ((hRg n os).three J (by omega)).2.1
          have M2 : ∀ n os, (grow (wr.drewN n) os).cell? ⟨g, J * 3 + 2, none⟩ = some (.int .u64 d[J]!.l) := fun n os => ((hRg n os).three J (by omega)).2.2
          have hcg := fun n os => cmp10_grown d[j]! d[J]! wr n os
          simp only [Rw.val] at hcg
          have hlt0 : ltR d[j]! d[J]! = decide (cfR d[j]! d[J]! < 0) := rfl
          obtain ⟨C, hC⟩ : ∃ C, cfR d[j]! d[J]! = C := ⟨_, rfl⟩
          rw [hC] at hlt0 hcg
          have HLT := hideIt hlt0
          clear hC hlt0
          have HJ := hideIt hJ
          clear hJ
          by_cases hc : C < 0
          · go_wp2_with fail
            go_quiet_grown (first | (go_at_call 16; refine Calls.grown_of (hcg _ _)))
            go_wp2_with fail
            have hR3 := hRg nq osq
            have hb3 := hbg nq osq
            have hJ := HJ.out
            clear L0 L1 L2 M0 M1 M2 hcg hRg hbg
            generalize grow (wr.drewN nq) osq = wq at *
            have hin_ : insInner ltR a J (swp d j J) = insInner ltR a i di := by
              have h1 := insInner_go ltR a j d hja (by rw [hJ, HLT.out]; exact decide_eq_true hc)
              rw [hJ] at h1
              rw [← HI.out, h1]
            have HIN := hideIt hin_
            clear hin_
            have hRZ := RowBox.draw hR3
            have hBZ := Below.drew hb3
            have hin := hRZ.inside
            refine wp_region_held_drew (S := fun u => g < u.heap.size) (by kernel_rfl) hin (fun hHeld => ?_)
            generalize World.drew wq = Z at *
            obtain ⟨Z1, hZ1⟩ : ∃ Z1, ((Z.setCell ⟨g, j * 3, none⟩ (.string d[J]!.id)).setCell ⟨g, j * 3 + 1, none⟩ (.int .u64 d[J]!.h)).setCell ⟨g, j * 3 + 2, none⟩ (.int .u64 d[J]!.l) = Z1 := ⟨_, rfl⟩
            have hR1 : RowBox Z1 g (d.setIfInBounds j d[J]!) := by rw [← hZ1]; exact hRZ.put j d[J]! (by omega)
            have hB1 : Below B w Z1 := by rw [← hZ1]; exact below_put hBZ hB j _ _ _
            obtain ⟨Z2, hZ2⟩ : ∃ Z2, ((Z1.setCell ⟨g, J * 3, none⟩ (.string d[j]!.id)).setCell ⟨g, J * 3 + 1, none⟩ (.int .u64 d[j]!.h)).setCell ⟨g, J * 3 + 2, none⟩ (.int .u64 d[j]!.l) = Z2 := ⟨_, rfl⟩
            have hR2 : RowBox Z2 g (swp d j J) := by rw [← hZ2]; exact hR1.put J d[j]! (by rw [Array.size_setIfInBounds]; omega)
            have hB2 : Below B w Z2 := by rw [← hZ2]; exact below_put hB1 hB J _ _ _
            obtain ⟨p0, p1, p2⟩ := hRZ.three j (by omega)
            obtain ⟨q0, q1, q2⟩ := hRZ.three J (by omega)
            refine wpAnyH_take (i := 0) (v := ?_) rfl (by kernel_rfl) (by kernel_rfl) (by kernel_rfl) (fun _ _ _ h => h) (Or.inl ⟨by rfl, ?_⟩) (by assumption) ?_
            rotate_left 1
            · intro w hSw; (try dsimp only at hSw); go_simp; try with_reducible rfl
            try simp only [Act.put, List.getElem_toArray, List.getElem_cons_succ, List.getElem_cons_zero, List.setIfInBounds_toArray, List.set_cons_zero, List.set_cons_succ]
            refine wpAnyH_take (i := 1) (v := ?_) rfl (by kernel_rfl) (by kernel_rfl) (by kernel_rfl) (fun _ _ _ h => h) (Or.inl ⟨by rfl, ?_⟩) (by assumption) ?_
            rotate_left 1
            · intro w hSw; (try dsimp only at hSw); go_simp; try with_reducible rfl
            try simp only [Act.put, List.getElem_toArray, List.getElem_cons_succ, List.getElem_cons_zero, List.setIfInBounds_toArray, List.set_cons_zero, List.set_cons_succ]
            refine wpAnyH_take (i := 2) (v := ?_) rfl (by kernel_rfl) (by kernel_rfl) (by kernel_rfl) (fun _ _ _ h => h) (Or.inl ⟨by rfl, ?_⟩) (by assumption) ?_
            rotate_left 1
            · intro w hSw; (try dsimp only at hSw); go_simp; try with_reducible rfl
            try simp only [Act.put, List.getElem_toArray, List.getElem_cons_succ, List.getElem_cons_zero, List.setIfInBounds_toArray, List.set_cons_zero, List.set_cons_succ]
            refine wpAnyH_take (i := 3) (v := ?_) rfl (by kernel_rfl) (by kernel_rfl) (by kernel_rfl) (fun _ _ _ h => h) (Or.inl ⟨by rfl, ?_⟩) (by assumption) ?_
            rotate_left 1
            · intro w hSw; (try dsimp only at hSw); go_simp; try with_reducible rfl
            try simp only [Act.put, List.getElem_toArray, List.getElem_cons_succ, List.getElem_cons_zero, List.setIfInBounds_toArray, List.set_cons_zero, List.set_cons_succ]
            refine wpAnyH_take (i := 4) (v := ?_) rfl (by kernel_rfl) (by kernel_rfl) (by kernel_rfl) (fun _ _ _ h => h) (Or.inl ⟨by rfl, ?_⟩) (by assumption) ?_
            rotate_left 1
            · intro w hSw; (try dsimp only at hSw); go_simp; try with_reducible rfl
            try simp only [Act.put, List.getElem_toArray, List.getElem_cons_succ, List.getElem_cons_zero, List.setIfInBounds_toArray, List.set_cons_zero, List.set_cons_succ]
            refine wpAnyH_take (i := 5) (v := ?_) rfl (by kernel_rfl) (by kernel_rfl) (by kernel_rfl) (fun _ _ _ h => h) (Or.inl ⟨by rfl, ?_⟩) (by assumption) ?_
            rotate_left 1
            · intro w hSw; (try dsimp only at hSw); go_simp; try with_reducible rfl
            try simp only [Act.put, List.getElem_toArray, List.getElem_cons_succ, List.getElem_cons_zero, List.setIfInBounds_toArray, List.set_cons_zero, List.set_cons_succ]
            refine wpAnyH_take (i := 6) (v := ?_) rfl (by kernel_rfl) (by kernel_rfl) (by kernel_rfl) (fun _ _ _ h => h) (Or.inl ⟨by rfl, ?_⟩) (by assumption) ?_
            rotate_left 1
            · intro w hSw; (try dsimp only at hSw); go_simp; try with_reducible rfl
            try simp only [Act.put, List.getElem_toArray, List.getElem_cons_succ, List.getElem_cons_zero, List.setIfInBounds_toArray, List.set_cons_zero, List.set_cons_succ]
            refine wpAnyH_take (i := 7) (v := ?_) rfl (by kernel_rfl) (by kernel_rfl) (by kernel_rfl) (fun _ _ _ h => h) (Or.inl ⟨by rfl, ?_⟩) (by assumption) ?_
            rotate_left 1
            · intro w hSw; (try dsimp only at hSw); go_simp; try with_reducible rfl
            try simp only [Act.put, List.getElem_toArray, List.getElem_cons_succ, List.getElem_cons_zero, List.setIfInBounds_toArray, List.set_cons_zero, List.set_cons_succ]
            refine wpAnyH_take (i := 8) (v := ?_) rfl (by kernel_rfl) (by kernel_rfl) (by kernel_rfl) (fun _ _ _ h => h) (Or.inl ⟨by rfl, ?_⟩) (by assumption) ?_
            rotate_left 1
            · intro w hSw; (try dsimp only at hSw); go_simp; try with_reducible rfl
            try simp only [Act.put, List.getElem_toArray, List.getElem_cons_succ, List.getElem_cons_zero, List.setIfInBounds_toArray, List.set_cons_zero, List.set_cons_succ]
            refine wpAnyH_take (i := 10) (v := ?_) rfl (by kernel_rfl) (by kernel_rfl) (by kernel_rfl) (fun _ _ _ h => h) (Or.inl ⟨by rfl, ?_⟩) (by assumption) ?_
            rotate_left 1
            · intro w hSw; (try dsimp only at hSw); go_simp; try with_reducible rfl
            try simp only [Act.put, List.getElem_toArray, List.getElem_cons_succ, List.getElem_cons_zero, List.setIfInBounds_toArray, List.set_cons_zero, List.set_cons_succ]
            refine wpAnyH_take (i := 11) (v := ?_) rfl (by kernel_rfl) (by kernel_rfl) (by kernel_rfl) (fun _ _ _ h => h) (Or.inl ⟨by rfl, ?_⟩) (by assumption) ?_
            rotate_left 1
            · intro w hSw; (try dsimp only at hSw); go_simp; try with_reducible rfl
            try simp only [Act.put, List.getElem_toArray, List.getElem_cons_succ, List.getElem_cons_zero, List.setIfInBounds_toArray, List.set_cons_zero, List.set_cons_succ]
            refine wpAnyH_take (i := 12) (v := ?_) rfl (by kernel_rfl) (by kernel_rfl) (by kernel_rfl) (fun _ _ _ h => h) (Or.inl ⟨by rfl, ?_⟩) (by assumption) ?_
            rotate_left 1
            · intro w hSw; (try dsimp only at hSw); go_simp; try with_reducible rfl
            try simp only [Act.put, List.getElem_toArray, List.getElem_cons_succ, List.getElem_cons_zero, List.setIfInBounds_toArray, List.set_cons_zero, List.set_cons_succ]
            refine wpAnyH_ready (rs := [9, 13]) (by kernel_rfl) (by simp) (AllReadyH.cons rfl (fun K hK => ?_) (AllReadyH.cons rfl (fun K hK => ?_) AllReadyH.nil))
            · go_simp
              refine hK.out _ _ (hRZ.inside) (fun hHeld => ?_)
              clear hK K
              try simp only [Act.put, List.getElem_toArray, List.getElem_cons_succ, List.getElem_cons_zero, List.setIfInBounds_toArray, List.set_cons_zero, List.set_cons_succ]
              refine wpAnyH_ready (rs := [13]) (by kernel_rfl) (by simp) (AllReadyH.cons rfl (fun K hK => ?_) AllReadyH.nil)
              go_simp
              refine hK.out _ _ (hRZ.inside) (fun hHeld => ?_)
              clear hK K
              try simp only [Act.put, List.getElem_toArray, List.getElem_cons_succ, List.getElem_cons_zero, List.setIfInBounds_toArray, List.set_cons_zero, List.set_cons_succ]
              clear p0 p1 p2 q0 q1 q2
              refine wpAnyH_take (i := 14) (v := ?_) rfl (by kernel_rfl) (by kernel_rfl) (by kernel_rfl) (fun _ _ _ h => h) (Or.inl ⟨by rfl, ?_⟩) (by assumption) ?_
              rotate_left 1
              · intro w hSw; (try dsimp only at hSw); go_simp; try with_reducible rfl
              try simp only [Act.put, List.getElem_toArray, List.getElem_cons_succ, List.getElem_cons_zero, List.setIfInBounds_toArray, List.set_cons_zero, List.set_cons_succ]
              obtain ⟨v0, v1, v2⟩ := hRZ.three j (by omega)
              have u0 := hRZ.free (j * 3)
              have u1 := hRZ.free (j * 3 + 1)
              have u2 := hRZ.free (j * 3 + 2)
              refine wpAnyH_ready (rs := [15]) (by kernel_rfl) (by simp) (AllReadyH.cons rfl (fun K hK => ?_) AllReadyH.nil)
              go_simp
              try rw [hZ1]
              refine hK.out _ _ (hR1.inside) (fun hHeld => ?_)
              clear hK K
              try simp only [Act.put, List.getElem_toArray, List.getElem_cons_succ, List.getElem_cons_zero, List.setIfInBounds_toArray, List.set_cons_zero, List.set_cons_succ]
              clear v0 v1 v2 u0 u1 u2
              refine wpAnyH_take (i := 16) (v := ?_) rfl (by kernel_rfl) (by kernel_rfl) (by kernel_rfl) (fun _ _ _ h => h) (Or.inl ⟨by rfl, ?_⟩) (by assumption) ?_
              rotate_left 1
              · intro w hSw; (try dsimp only at hSw); go_simp; try with_reducible rfl
              try simp only [Act.put, List.getElem_toArray, List.getElem_cons_succ, List.getElem_cons_zero, List.setIfInBounds_toArray, List.set_cons_zero, List.set_cons_succ]
              obtain ⟨v0, v1, v2⟩ := hR1.three J (by rw [Array.size_setIfInBounds]; omega)
              have u0 := hR1.free (J * 3)
              have u1 := hR1.free (J * 3 + 1)
              have u2 := hR1.free (J * 3 + 2)
              have hin1 := hR1.inside
              refine wpAnyH_ready (rs := [17]) (by kernel_rfl) (by simp) (AllReadyH.cons rfl (fun K hK => ?_) AllReadyH.nil)
              go_simp
              try rw [hZ2]
              refine hK.out _ _ (hR2.inside) (fun hHeld => ?_)
              clear hK K
              try simp only [Act.put, List.getElem_toArray, List.getElem_cons_succ, List.getElem_cons_zero, List.setIfInBounds_toArray, List.set_cons_zero, List.set_cons_succ]
              refine wpAnyH_done (by kernel_rfl) ?_ _
              go_wp2
              go_roundg J
              case measure => omega
              case rel => exact ⟨J, swp d j J, by go_num, by omega, by omega, Nat.le_refl _, by rw [size_swp]; exact hds, hR2, hB2, HIN⟩
            · go_simp
              refine hK.out _ _ (hRZ.inside) (fun hHeld => ?_)
              clear hK K
              try simp only [Act.put, List.getElem_toArray, List.getElem_cons_succ, List.getElem_cons_zero, List.setIfInBounds_toArray, List.set_cons_zero, List.set_cons_succ]
              refine wpAnyH_ready (rs := [9]) (by kernel_rfl) (by simp) (AllReadyH.cons rfl (fun K hK => ?_) AllReadyH.nil)
              go_simp
              refine hK.out _ _ (hRZ.inside) (fun hHeld => ?_)
              clear hK K
              try simp only [Act.put, List.getElem_toArray, List.getElem_cons_succ, List.getElem_cons_zero, List.setIfInBounds_toArray, List.set_cons_zero, List.set_cons_succ]
              clear p0 p1 p2 q0 q1 q2
              refine wpAnyH_take (i := 14) (v := ?_) rfl (by kernel_rfl) (by kernel_rfl) (by kernel_rfl) (fun _ _ _ h => h) (Or.inl ⟨by rfl, ?_⟩) (by assumption) ?_
              rotate_left 1
              · intro w hSw; (try dsimp only at hSw); go_simp; try with_reducible rfl
              try simp only [Act.put, List.getElem_toArray, List.getElem_cons_succ, List.getElem_cons_zero, List.setIfInBounds_toArray, List.set_cons_zero, List.set_cons_succ]
              obtain ⟨v0, v1, v2⟩ := hRZ.three j (by omega)
              have u0 := hRZ.free (j * 3)
              have u1 := hRZ.free (j * 3 + 1)
              have u2 := hRZ.free (j * 3 + 2)
              refine wpAnyH_ready (rs := [15]) (by kernel_rfl) (by simp) (AllReadyH.cons rfl (fun K hK => ?_) AllReadyH.nil)
              go_simp
              try rw [hZ1]
              refine hK.out _ _ (hR1.inside) (fun hHeld => ?_)
              clear hK K
              try simp only [Act.put, List.getElem_toArray, List.getElem_cons_succ, List.getElem_cons_zero, List.setIfInBounds_toArray, List.set_cons_zero, List.set_cons_succ]
              clear v0 v1 v2 u0 u1 u2
              refine wpAnyH_take (i := 16) (v := ?_) rfl (by kernel_rfl) (by kernel_rfl) (by kernel_rfl) (fun _ _ _ h => h) (Or.inl ⟨by rfl, ?_⟩) (by assumption) ?_
              rotate_left 1
              · intro w hSw; (try dsimp only at hSw); go_simp; try with_reducible rfl
              try simp only [Act.put, List.getElem_toArray, List.getElem_cons_succ, List.getElem_cons_zero, List.setIfInBounds_toArray, List.set_cons_zero, List.set_cons_succ]
              obtain ⟨v0, v1, v2⟩ := hR1.three J (by rw [Array.size_setIfInBounds]; omega)
              have u0 := hR1.free (J * 3)
              have u1 := hR1.free (J * 3 + 1)
              have u2 := hR1.free (J * 3 + 2)
              have hin1 := hR1.inside
              refine wpAnyH_ready (rs := [17]) (by kernel_rfl) (by simp) (AllReadyH.cons rfl (fun K hK => ?_) AllReadyH.nil)
              go_simp
              try rw [hZ2]
              refine hK.out _ _ (hR2.inside) (fun hHeld => ?_)
              clear hK K
              try simp only [Act.put, List.getElem_toArray, List.getElem_cons_succ, List.getElem_cons_zero, List.setIfInBounds_toArray, List.set_cons_zero, List.set_cons_succ]
              refine wpAnyH_done (by kernel_rfl) ?_ _
              go_wp2
              go_roundg J
              case measure => omega
              case rel => exact ⟨J, swp d j J, by go_num, by omega, by omega, Nat.le_refl _, by rw [size_swp]; exact hds, hR2, hB2, HIN⟩
          · go_wp2_with fail
            go_quiet_grown (first | (go_at_call 16; refine Calls.grown_of (hcg _ _)))
            go_wp2
            go_roundg (b - (i + 1))
            case measure => omega
            case rel => exact ⟨i + 1, d, by go_num, by omega, by omega, by omega, hds, hRg nq osq, hbg nq osq, OUT.out (Or.inr (by rw [HJ.out, HLT.out]; exact decide_eq_false (by omega)))⟩
        · have hjai : decide ((j : Int) > (a : Int)) = false := decide_eq_false (by omega)
          have hjai' : ¬ (a : Int) < (j : Int) := by omega
          go_wp2_with fail
          go_quiet (fail)
          go_wp2
          go_roundg (b - (i + 1))
          case measure => omega
          case rel => exact ⟨i + 1, d, by go_num, by omega, by omega, by omega, hds, hR, below_drewN hb' _, OUT.out (Or.inl (by omega))⟩
    · have hlti : ¬ (i : Int) < (b : Int) := by omega
      go_wp2
      go_end0
      have e : Sort.insertionSort ltR d0 a b = di := by unfold Sort.insertionSort; rw [← HO.out, insOuter_stop _ _ _ _ _ hlt]
      exact ⟨rfl, by rw [e]; exact ⟨hRi, hbi⟩⟩
end Go.Proofs.Ythindbmgnkohhaa
