/-
  Package slots' May, walked.
-/
import Derived.Test.YtngofpdpangajaaDoorD12May
import Derived.Test.YtngofpdpangajaaDoorU12Find
namespace Go.Proofs.YtngofpdpangajaaDoor
set_option linter.unusedVariables false
set_option linter.unusedSimpArgs false
set_option maxRecDepth 10000
open Go.RowKit Go.Sort

theorem und_ids12 : Tryd.prog.underlying 80 = some (.map 9 81) := Tryd.underlying80
set_option maxRecDepth 100000 in
set_option maxHeartbeats 4000000 in
theorem smay_any (A : Option Addr) (c : Nat) (xs : List Ac) (hm : xs.length ≤ 1000000) (ho : AllAc xs) (hz : ∀ x ∈ xs, x.id.size ≤ 1000000 ∧ x.salt.size ≤ 1000000) (h : Int) (w : World) (hR : AcRow w w.heap.size A xs) (hT : TabU w) :
    Calls Tryd.prog 22 #[.slice A xs.length c, .int .i64 h] w (Tells (.bool (mayA h xs)) w.heap.size w) := by
  have cMH := fun u => smayHeight_any h u
  unfold mayA
  cases hk : shOk h with
  | false =>
    rw [hk] at cMH
    rw [Bool.false_and]
    go_enter Tryd.func22, Tryd.ntmps22
    go_wp2_with (first | (go_at_call 51; refine (cMH _).mono ?_; rintro e v1 ⟨rfl, rfl⟩) | fail)
    go_ret
    exact ⟨rfl, Below.refl _ _⟩
  | true =>
    rw [hk] at cMH
    rw [Bool.true_and]
    have hb := of_decide_eq_true hk
    obtain ⟨n, rfl⟩ := Int.eq_ofNat_of_zero_le hb.1
    rw [Int.toNat_natCast]
    have cS := fun u => ssize_any n (by omega) u
    obtain ⟨P, hP⟩ : ∃ P, pw n = P := ⟨_, rfl⟩
    rw [hP] at cS ⊢
    obtain ⟨V, hV⟩ : ∃ V, decide (MayP P xs) = V := ⟨_, rfl⟩
    rw [hV]
    have HV := hideIt hV
    have HP0 := hideIt (mayP_nil P)
    clear hV hP hk hb
    have hmm := @run_makeMap Tryd.prog
    have M0 := (IdSet.made w).alloc (.map #[] 0)
    have S0 := SlotSet.made (w.alloc (.map #[] 0))
    rw [World.size_alloc] at S0
    have L0 := chainA (chainA (Below.refl w.heap.size w) (.map #[] 0)) (.map #[] 0)
    go_enter Tryd.func22, Tryd.ntmps22
    go_wp2_with (first | (go_at_call 51; refine (cMH _).mono ?_; rintro e v1 ⟨rfl, rfl⟩) | fail)
    clear cMH
    generalize (w.alloc (.map #[] 0)).alloc (.map #[] 0) = W at *
    go_loopg [18] xs.length (fun gk i wr => ∃ k : Nat, k ≤ xs.length ∧ xs.length - k ≤ gk ∧ i = .int .i64 k ∧ IdSet wr w.heap.size ((xs.take k).map keyA) ∧ SlotSet wr (w.heap.size + 1) ((xs.take k).map Ac.slot) ∧ Below w.heap.size w wr ∧ Hid (MayP P (xs.take k)))
    case atStart => exact ⟨0, Nat.zero_le _, by omega, rfl, M0, S0, L0, HP0⟩
    case round =>
      obtain ⟨k, hk, hgk, rfl, M, S, hb, HM⟩ := hrel
      have HG := hideIt hgk
      clear hgk M0 S0 L0
      by_cases hlt : k < xs.length
      · obtain ⟨x, hx⟩ : ∃ x, xs[k]? = some x := ⟨_, List.getElem?_eq_getElem hlt⟩
        obtain ⟨ad, rfl, had, p0, p1, p2, p3, p4⟩ := (hR.call hb) k x hx
        have hlti : (k : Int) < (xs.length : Int) := by omega
        have p5 : (ad.add (k * 5)).block < wr.heap.size := by rw [o10_block]; exact Nat.lt_of_lt_of_le had hb.size
        obtain ⟨z1, z2⟩ := hz x (List.mem_of_getElem? hx)
        have hok := ho x (List.mem_of_getElem? hx)
        have ht := take_more1 hx
        have HT := hideIt ht
        have HX := hideIt hx
        clear hx ht
        have hln : ((xs.take k).map keyA).length ≤ 1000000000 := by rw [List.length_map, List.length_take]; omega
        have hln2 : ((xs.take k).map Ac.slot).length ≤ 1000000000 := by rw [List.length_map, List.length_take]; omega
        have hsz := hb.size
        have hsl := S.lt
        have M1 := M.alloc (.cells (acB x.id x.h x.l x.salt x.slot) 38)
        have S1 := S.alloc (.cells (acB x.id x.h x.l x.salt x.slot) 38)
        have B1 := Box.made wr 38 (acB x.id x.h x.l x.salt x.slot)
        have L1 := chainA hb (.cells (acB x.id x.h x.l x.salt x.slot) 38)
        go_upto_region 7 with fail
        change Code.wp _ _ _ _ (wr.alloc (.cells (acB x.id x.h x.l x.salt x.slot) 38))
        generalize wr.alloc (.cells (acB x.id x.h x.l x.salt x.slot) 38) = W1 at *
        obtain ⟨q0, q1, q2, q3, q4, -, -, -, -, -, hin1⟩ := B1.five
        obtain ⟨t1, ht1⟩ : ∃ q, decide (keyA x ∈ (xs.take k).map keyA) = q := ⟨_, rfl⟩
        have HT1 := hideIt ht1
        go_upto_region 8 with (first
          | (at_lookup; refine wpl_idset_look rfl _ _ 80 rfl und_ids12 rfl M1 x.id rfl (by omega) t1 ht1 ?_)
          | fail)
        have M1 := M1.alloc (.cells #[] 81)
        have S1 := S1.alloc (.cells #[] 81)
        have B1 := B1.past (.cells #[] 81)
        have L1 := chainA L1 (.cells #[] 81)
        generalize W1.alloc (.cells #[] 81) = W1 at *
        obtain ⟨q0, q1, q2, q3, q4, -, -, -, -, -, hin1⟩ := B1.five
        clear ht1
        cases t1 with
        | true =>
          have hno : V = false := by
            rw [← HV.out]
            exact decide_eq_false fun hM => (mayP_at hM HX.out).2.1 (of_decide_eq_true HT1.out)
          subst hno
          go_quiet (fail)
          go_wp2
          go_ret
          exact ⟨rfl, below_drewN L1 _⟩
        | false =>
          have hkey := of_decide_eq_false HT1.out
          obtain ⟨t2, ht2⟩ : ∃ q, decide (x.slot ∈ (xs.take k).map Ac.slot) = q := ⟨_, rfl⟩
          have cH : ∀ u, Below W1.heap.size W1 u → _ := fun u hu => shas_any (w.heap.size + 1) _ x.slot hok.2.2 t2 ht2 u (S1.call hu)
          have cL := fun u => sleaf_any x z1 z2 u
          have hTW := hT.call L1
          have cM : ∀ u, Below W1.heap.size W1 u → _ := fun u hu => mayLeaf_any (lfA x) (by show x.id.size ≤ _; omega) (by show x.salt.size ≤ _; omega) u (hTW.call hu)
          have hma := lfA_may x
          have hdef := okA_def P x
          generalize (lfA x).may = t4 at *
          simp only [Lf.val, lfA] at cL cM
          have HD := hideIt hdef
          have HMA := hideIt hma
          have HK := hideIt hkey
          have HT2 := hideIt ht2
          clear hdef hma hkey ht2
          cases t2 with
          | true =>
            have hno : V = false := by
              rw [← HV.out]
              exact decide_eq_false fun hM => (mayP_at hM HX.out).2.2 (of_decide_eq_true HT2.out)
            subst hno
            have hS : ∀ u, Below W1.heap.size W1 u → (fun u => Below W1.heap.size W1 u ∧ u.cell? ⟨wr.heap.size, 0, none⟩ = some (.string x.id) ∧ u.cell? ⟨wr.heap.size, 1, none⟩ = some (.int .u64 x.h) ∧ u.cell? ⟨wr.heap.size, 2, none⟩ = some (.int .u64 x.l) ∧ u.cell? ⟨wr.heap.size, 3, none⟩ = some (.string x.salt) ∧ u.cell? ⟨wr.heap.size, 4, none⟩ = some (.int .u64 x.slot) ∧ wr.heap.size < u.heap.size) u := fun u hb => ⟨hb, (B1.call hb).read 0, (B1.call hb).read 1, (B1.call hb).read 2, (B1.call hb).read 3, (B1.call hb).read 4, (B1.call hb).inside⟩
            refine wp_region_held_drew (S := (fun u => Below W1.heap.size W1 u ∧ u.cell? ⟨wr.heap.size, 0, none⟩ = some (.string x.id) ∧ u.cell? ⟨wr.heap.size, 1, none⟩ = some (.int .u64 x.h) ∧ u.cell? ⟨wr.heap.size, 2, none⟩ = some (.int .u64 x.l) ∧ u.cell? ⟨wr.heap.size, 3, none⟩ = some (.string x.salt) ∧ u.cell? ⟨wr.heap.size, 4, none⟩ = some (.int .u64 x.slot) ∧ wr.heap.size < u.heap.size)) (by kernel_rfl) (hS _ (Below.refl _ _).drew) (fun hHeld => ?_)
            refine wpAnyH_take (i := 0) (v := ?_) rfl (by kernel_rfl) (by kernel_rfl) (by kernel_rfl) (fun _ _ _ h => h) (Or.inl ⟨by rfl, ?_⟩) (by assumption) ?_
            rotate_left 1
            · intro w hSw; (try dsimp only at hSw); go_simp; try with_reducible rfl
            try simp only [Act.put, List.getElem_toArray, List.getElem_cons_succ, List.getElem_cons_zero, List.setIfInBounds_toArray, List.set_cons_zero, List.set_cons_succ]
            refine wpAnyH_take (i := 1) (v := ?_) rfl (by kernel_rfl) (by kernel_rfl) (by kernel_rfl) (fun _ _ _ h => h) (Or.inl ⟨by rfl, ?_⟩) (by assumption) ?_
            rotate_left 1
            · intro w hSw; (try dsimp only at hSw); go_simp; try with_reducible rfl
            try simp only [Act.put, List.getElem_toArray, List.getElem_cons_succ, List.getElem_cons_zero, List.setIfInBounds_toArray, List.set_cons_zero, List.set_cons_succ]
            refine wpAnyH_take (i := 2) (v := ?_) rfl (by kernel_rfl) (by kernel_rfl) (by kernel_rfl) (fun _ _ _ h => h) (Or.inl ⟨by rfl, ?_⟩) (by assumption) ?_
            rotate_left 1
            · intro w hSw; (try dsimp only at hSw); go_simp; try with_reducible rfl
            try simp only [Act.put, List.getElem_toArray, List.getElem_cons_succ, List.getElem_cons_zero, List.setIfInBounds_toArray, List.set_cons_zero, List.set_cons_succ]
            refine wpAnyH_take (i := 3) (v := ?_) rfl (by kernel_rfl) (by kernel_rfl) (by kernel_rfl) (fun _ _ _ h => h) (Or.inl ⟨by rfl, ?_⟩) (by assumption) ?_
            rotate_left 1
            · intro w hSw; (try dsimp only at hSw); go_simp; try with_reducible rfl
            try simp only [Act.put, List.getElem_toArray, List.getElem_cons_succ, List.getElem_cons_zero, List.setIfInBounds_toArray, List.set_cons_zero, List.set_cons_succ]
            refine wpAnyH_take (i := 4) (v := ?_) rfl (by kernel_rfl) (by kernel_rfl) (by kernel_rfl) (fun _ _ _ h => h) (Or.inl ⟨by rfl, ?_⟩) (by assumption) ?_
            rotate_left 1
            · intro w hSw; (try dsimp only at hSw); go_simp; try with_reducible rfl
            try simp only [Act.put, List.getElem_toArray, List.getElem_cons_succ, List.getElem_cons_zero, List.setIfInBounds_toArray, List.set_cons_zero, List.set_cons_succ]
            refine wpAnyH_ready (rs := [5]) (by kernel_rfl) (by simp) (AllReadyH.cons rfl (fun K hK => ?_) AllReadyH.nil)
            go_simp
            go_at_call 54
            refine (cH _ (Below.refl _ _).drew).mono ?_
            rintro e v1 ⟨rfl, hv1⟩
            have hb1 := chain (Below.refl W1.heap.size W1).drew hv1
            try simp only []
            refine hK.out _ _ (hS _ hb1) (fun hHeld => ?_)
            clear hK K
            try simp only [Act.put, List.getElem_toArray, List.getElem_cons_succ, List.getElem_cons_zero, List.setIfInBounds_toArray, List.set_cons_zero, List.set_cons_succ]
            refine wpAnyH_take (i := 6) (v := ?_) rfl (by kernel_rfl) (by kernel_rfl) (by kernel_rfl) (fun _ _ _ h => h) (Or.inl ⟨by rfl, ?_⟩) (by assumption) ?_
            rotate_left 1
            · intro w hSw; (try dsimp only at hSw); go_simp; try with_reducible rfl
            try simp only [Act.put, List.getElem_toArray, List.getElem_cons_succ, List.getElem_cons_zero, List.setIfInBounds_toArray, List.set_cons_zero, List.set_cons_succ]
            refine wpAnyH_take (i := 7) (v := ?_) rfl (by kernel_rfl) (by kernel_rfl) (by kernel_rfl) (fun _ _ _ h => h) (Or.inl ⟨by rfl, ?_⟩) (by assumption) ?_
            rotate_left 1
            · intro w hSw; (try dsimp only at hSw); go_simp; try with_reducible rfl
            try simp only [Act.put, List.getElem_toArray, List.getElem_cons_succ, List.getElem_cons_zero, List.setIfInBounds_toArray, List.set_cons_zero, List.set_cons_succ]
            refine wpAnyH_take (i := 8) (v := undef) rfl (by kernel_rfl) (by kernel_rfl) (by kernel_rfl) (fun _ _ _ h => h) (Or.inr ⟨by rfl, rfl⟩) (by assumption) ?_
            try simp only [Act.put, List.getElem_toArray, List.getElem_cons_succ, List.getElem_cons_zero, List.setIfInBounds_toArray, List.set_cons_zero, List.set_cons_succ]
            refine wpAnyH_take (i := 9) (v := undef) rfl (by kernel_rfl) (by kernel_rfl) (by kernel_rfl) (fun _ _ _ h => h) (Or.inr ⟨by rfl, rfl⟩) (by assumption) ?_
            try simp only [Act.put, List.getElem_toArray, List.getElem_cons_succ, List.getElem_cons_zero, List.setIfInBounds_toArray, List.set_cons_zero, List.set_cons_succ]
            refine wpAnyH_take (i := 10) (v := undef) rfl (by kernel_rfl) (by kernel_rfl) (by kernel_rfl) (fun _ _ _ h => h) (Or.inr ⟨by rfl, rfl⟩) (by assumption) ?_
            try simp only [Act.put, List.getElem_toArray, List.getElem_cons_succ, List.getElem_cons_zero, List.setIfInBounds_toArray, List.set_cons_zero, List.set_cons_succ]
            refine wpAnyH_ready (rs := [11]) (by kernel_rfl) (by simp) (AllReadyH.cons rfl (fun K hK => ?_) AllReadyH.nil)
            go_simp
            refine hK.out _ _ (hS _ hb1) (fun hHeld => ?_)
            clear hK K
            try simp only [Act.put, List.getElem_toArray, List.getElem_cons_succ, List.getElem_cons_zero, List.setIfInBounds_toArray, List.set_cons_zero, List.set_cons_succ]
            refine wpAnyH_take (i := 12) (v := undef) rfl (by kernel_rfl) (by kernel_rfl) (by kernel_rfl) (fun _ _ _ h => h) (Or.inr ⟨by rfl, rfl⟩) (by assumption) ?_
            try simp only [Act.put, List.getElem_toArray, List.getElem_cons_succ, List.getElem_cons_zero, List.setIfInBounds_toArray, List.set_cons_zero, List.set_cons_succ]
            refine wpAnyH_take (i := 13) (v := ?_) rfl (by kernel_rfl) (by kernel_rfl) (by kernel_rfl) (fun _ _ _ h => h) (Or.inl ⟨by rfl, ?_⟩) (by assumption) ?_
            rotate_left 1
            · intro w hSw; (try dsimp only at hSw); go_simp; try with_reducible rfl
            try simp only [Act.put, List.getElem_toArray, List.getElem_cons_succ, List.getElem_cons_zero, List.setIfInBounds_toArray, List.set_cons_zero, List.set_cons_succ]
            refine wpAnyH_take (i := 14) (v := ?_) rfl (by kernel_rfl) (by kernel_rfl) (by kernel_rfl) (fun _ _ _ h => h) (Or.inl ⟨by rfl, ?_⟩) (by assumption) ?_
            rotate_left 1
            · intro w hSw; (try dsimp only at hSw); go_simp; try with_reducible rfl
            try simp only [Act.put, List.getElem_toArray, List.getElem_cons_succ, List.getElem_cons_zero, List.setIfInBounds_toArray, List.set_cons_zero, List.set_cons_succ]
            refine wpAnyH_take (i := 15) (v := undef) rfl (by kernel_rfl) (by kernel_rfl) (by kernel_rfl) (fun _ _ _ h => h) (Or.inr ⟨by rfl, rfl⟩) (by assumption) ?_
            try simp only [Act.put, List.getElem_toArray, List.getElem_cons_succ, List.getElem_cons_zero, List.setIfInBounds_toArray, List.set_cons_zero, List.set_cons_succ]
            refine wpAnyH_ready (rs := [16]) (by kernel_rfl) (by simp) (AllReadyH.cons rfl (fun K hK => ?_) AllReadyH.nil)
            go_simp
            refine hK.out _ _ (hS _ hb1) (fun hHeld => ?_)
            clear hK K
            try simp only [Act.put, List.getElem_toArray, List.getElem_cons_succ, List.getElem_cons_zero, List.setIfInBounds_toArray, List.set_cons_zero, List.set_cons_succ]
            refine wpAnyH_ready (rs := [17]) (by kernel_rfl) (by simp) (AllReadyH.cons rfl (fun K hK => ?_) AllReadyH.nil)
            go_simp
            refine hK.out _ _ (hS _ hb1) (fun hHeld => ?_)
            clear hK K
            try simp only [Act.put, List.getElem_toArray, List.getElem_cons_succ, List.getElem_cons_zero, List.setIfInBounds_toArray, List.set_cons_zero, List.set_cons_succ]
            refine wpAnyH_take (i := 18) (v := undef) rfl (by kernel_rfl) (by kernel_rfl) (by kernel_rfl) (fun _ _ _ h => h) (Or.inr ⟨by rfl, rfl⟩) (by assumption) ?_
            try simp only [Act.put, List.getElem_toArray, List.getElem_cons_succ, List.getElem_cons_zero, List.setIfInBounds_toArray, List.set_cons_zero, List.set_cons_succ]
            refine wpAnyH_take (i := 19) (v := ?_) rfl (by kernel_rfl) (by kernel_rfl) (by kernel_rfl) (fun _ _ _ h => h) (Or.inl ⟨by rfl, ?_⟩) (by assumption) ?_
            rotate_left 1
            · intro w hSw; (try dsimp only at hSw); go_simp; try with_reducible rfl
            try simp only [Act.put, List.getElem_toArray, List.getElem_cons_succ, List.getElem_cons_zero, List.setIfInBounds_toArray, List.set_cons_zero, List.set_cons_succ]
            refine wpAnyH_done (by kernel_rfl) ?_ _
            go_wp2
            go_ret
            exact ⟨rfl, chain L1 hb1⟩
          | false =>
            by_cases hs : x.slot < P
            · have hs1 : ¬ (P ≤ x.slot) := by omega
              have hs2 : decide (P ≤ x.slot) = false := decide_eq_false hs1
              cases t4 with
              | false =>
                have hno : V = false := by
                  rw [← HV.out]
                  refine decide_eq_false fun hM => ?_
                  have h1 := (mayP_at hM HX.out).1
                  rw [HD.out, Bool.and_eq_true, Bool.and_eq_true] at h1
                  have h2 := HMA.out
                  rw [h1.1, h1.2.1] at h2
                  cases h2
                subst hno
                have hS : ∀ u, Below W1.heap.size W1 u → (fun u => Below W1.heap.size W1 u ∧ u.cell? ⟨wr.heap.size, 0, none⟩ = some (.string x.id) ∧ u.cell? ⟨wr.heap.size, 1, none⟩ = some (.int .u64 x.h) ∧ u.cell? ⟨wr.heap.size, 2, none⟩ = some (.int .u64 x.l) ∧ u.cell? ⟨wr.heap.size, 3, none⟩ = some (.string x.salt) ∧ u.cell? ⟨wr.heap.size, 4, none⟩ = some (.int .u64 x.slot) ∧ wr.heap.size < u.heap.size) u := fun u hb => ⟨hb, (B1.call hb).read 0, (B1.call hb).read 1, (B1.call hb).read 2, (B1.call hb).read 3, (B1.call hb).read 4, (B1.call hb).inside⟩
                refine wp_region_held_drew (S := (fun u => Below W1.heap.size W1 u ∧ u.cell? ⟨wr.heap.size, 0, none⟩ = some (.string x.id) ∧ u.cell? ⟨wr.heap.size, 1, none⟩ = some (.int .u64 x.h) ∧ u.cell? ⟨wr.heap.size, 2, none⟩ = some (.int .u64 x.l) ∧ u.cell? ⟨wr.heap.size, 3, none⟩ = some (.string x.salt) ∧ u.cell? ⟨wr.heap.size, 4, none⟩ = some (.int .u64 x.slot) ∧ wr.heap.size < u.heap.size)) (by kernel_rfl) (hS _ (Below.refl _ _).drew) (fun hHeld => ?_)
                refine wpAnyH_take (i := 0) (v := ?_) rfl (by kernel_rfl) (by kernel_rfl) (by kernel_rfl) (fun _ _ _ h => h) (Or.inl ⟨by rfl, ?_⟩) (by assumption) ?_
                rotate_left 1
                · intro w hSw; (try dsimp only at hSw); go_simp; try with_reducible rfl
                try simp only [Act.put, List.getElem_toArray, List.getElem_cons_succ, List.getElem_cons_zero, List.setIfInBounds_toArray, List.set_cons_zero, List.set_cons_succ]
                refine wpAnyH_take (i := 1) (v := ?_) rfl (by kernel_rfl) (by kernel_rfl) (by kernel_rfl) (fun _ _ _ h => h) (Or.inl ⟨by rfl, ?_⟩) (by assumption) ?_
                rotate_left 1
                · intro w hSw; (try dsimp only at hSw); go_simp; try with_reducible rfl
                try simp only [Act.put, List.getElem_toArray, List.getElem_cons_succ, List.getElem_cons_zero, List.setIfInBounds_toArray, List.set_cons_zero, List.set_cons_succ]
                refine wpAnyH_take (i := 2) (v := ?_) rfl (by kernel_rfl) (by kernel_rfl) (by kernel_rfl) (fun _ _ _ h => h) (Or.inl ⟨by rfl, ?_⟩) (by assumption) ?_
                rotate_left 1
                · intro w hSw; (try dsimp only at hSw); go_simp; try with_reducible rfl
                try simp only [Act.put, List.getElem_toArray, List.getElem_cons_succ, List.getElem_cons_zero, List.setIfInBounds_toArray, List.set_cons_zero, List.set_cons_succ]
                refine wpAnyH_take (i := 3) (v := ?_) rfl (by kernel_rfl) (by kernel_rfl) (by kernel_rfl) (fun _ _ _ h => h) (Or.inl ⟨by rfl, ?_⟩) (by assumption) ?_
                rotate_left 1
                · intro w hSw; (try dsimp only at hSw); go_simp; try with_reducible rfl
                try simp only [Act.put, List.getElem_toArray, List.getElem_cons_succ, List.getElem_cons_zero, List.setIfInBounds_toArray, List.set_cons_zero, List.set_cons_succ]
                refine wpAnyH_take (i := 4) (v := ?_) rfl (by kernel_rfl) (by kernel_rfl) (by kernel_rfl) (fun _ _ _ h => h) (Or.inl ⟨by rfl, ?_⟩) (by assumption) ?_
                rotate_left 1
                · intro w hSw; (try dsimp only at hSw); go_simp; try with_reducible rfl
                try simp only [Act.put, List.getElem_toArray, List.getElem_cons_succ, List.getElem_cons_zero, List.setIfInBounds_toArray, List.set_cons_zero, List.set_cons_succ]
                refine wpAnyH_ready (rs := [5]) (by kernel_rfl) (by simp) (AllReadyH.cons rfl (fun K hK => ?_) AllReadyH.nil)
                go_simp
                go_at_call 54
                refine (cH _ (Below.refl _ _).drew).mono ?_
                rintro e v1 ⟨rfl, hv1⟩
                have hb1 := chain (Below.refl W1.heap.size W1).drew hv1
                try simp only []
                refine hK.out _ _ (hS _ hb1) (fun hHeld => ?_)
                clear hK K
                try simp only [Act.put, List.getElem_toArray, List.getElem_cons_succ, List.getElem_cons_zero, List.setIfInBounds_toArray, List.set_cons_zero, List.set_cons_succ]
                refine wpAnyH_take (i := 6) (v := ?_) rfl (by kernel_rfl) (by kernel_rfl) (by kernel_rfl) (fun _ _ _ h => h) (Or.inl ⟨by rfl, ?_⟩) (by assumption) ?_
                rotate_left 1
                · intro w hSw; (try dsimp only at hSw); go_simp; try with_reducible rfl
                try simp only [Act.put, List.getElem_toArray, List.getElem_cons_succ, List.getElem_cons_zero, List.setIfInBounds_toArray, List.set_cons_zero, List.set_cons_succ]
                refine wpAnyH_take (i := 7) (v := ?_) rfl (by kernel_rfl) (by kernel_rfl) (by kernel_rfl) (fun _ _ _ h => h) (Or.inl ⟨by rfl, ?_⟩) (by assumption) ?_
                rotate_left 1
                · intro w hSw; (try dsimp only at hSw); go_simp; try with_reducible rfl
                try simp only [Act.put, List.getElem_toArray, List.getElem_cons_succ, List.getElem_cons_zero, List.setIfInBounds_toArray, List.set_cons_zero, List.set_cons_succ]
                refine wpAnyH_take (i := 8) (v := ?_) rfl (by kernel_rfl) (by kernel_rfl) (by kernel_rfl) (fun _ _ _ h => h) (Or.inl ⟨by rfl, ?_⟩) (by assumption) ?_
                rotate_left 1
                · intro w hSw; (try dsimp only at hSw); go_simp; try with_reducible rfl
                try simp only [Act.put, List.getElem_toArray, List.getElem_cons_succ, List.getElem_cons_zero, List.setIfInBounds_toArray, List.set_cons_zero, List.set_cons_succ]
                refine wpAnyH_take (i := 9) (v := ?_) rfl (by kernel_rfl) (by kernel_rfl) (by kernel_rfl) (fun _ _ _ h => h) (Or.inl ⟨by rfl, ?_⟩) (by assumption) ?_
                rotate_left 1
                · intro w hSw; (try dsimp only at hSw); go_simp; try with_reducible rfl
                try simp only [Act.put, List.getElem_toArray, List.getElem_cons_succ, List.getElem_cons_zero, List.setIfInBounds_toArray, List.set_cons_zero, List.set_cons_succ]
                refine wpAnyH_take (i := 10) (v := ?_) rfl (by kernel_rfl) (by kernel_rfl) (by kernel_rfl) (fun _ _ _ h => h) (Or.inl ⟨by rfl, ?_⟩) (by assumption) ?_
                rotate_left 1
                · intro w hSw; (try dsimp only at hSw); go_simp; try with_reducible rfl
                try simp only [Act.put, List.getElem_toArray, List.getElem_cons_succ, List.getElem_cons_zero, List.setIfInBounds_toArray, List.set_cons_zero, List.set_cons_succ]
                refine wpAnyH_ready (rs := [11]) (by kernel_rfl) (by simp) (AllReadyH.cons rfl (fun K hK => ?_) AllReadyH.nil)
                go_simp
                go_at_call 38
                refine (cS _).mono ?_
                rintro e v2 ⟨rfl, rfl⟩
                try simp only []
                refine hK.out _ _ (hS _ hb1) (fun hHeld => ?_)
                clear hK K
                try simp only [Act.put, List.getElem_toArray, List.getElem_cons_succ, List.getElem_cons_zero, List.setIfInBounds_toArray, List.set_cons_zero, List.set_cons_succ]
                refine wpAnyH_take (i := 12) (v := ?_) rfl (by kernel_rfl) (by kernel_rfl) (by kernel_rfl) (fun _ _ _ h => h) (Or.inl ⟨by rfl, ?_⟩) (by assumption) ?_
                rotate_left 1
                · intro w hSw; (try dsimp only at hSw); go_simp; try with_reducible rfl
                try simp only [Act.put, List.getElem_toArray, List.getElem_cons_succ, List.getElem_cons_zero, List.setIfInBounds_toArray, List.set_cons_zero, List.set_cons_succ]
                refine wpAnyH_take (i := 13) (v := ?_) rfl (by kernel_rfl) (by kernel_rfl) (by kernel_rfl) (fun _ _ _ h => h) (Or.inl ⟨by rfl, ?_⟩) (by assumption) ?_
                rotate_left 1
                · intro w hSw; (try dsimp only at hSw); go_simp; try with_reducible rfl
                try simp only [Act.put, List.getElem_toArray, List.getElem_cons_succ, List.getElem_cons_zero, List.setIfInBounds_toArray, List.set_cons_zero, List.set_cons_succ]
                refine wpAnyH_take (i := 14) (v := ?_) rfl (by kernel_rfl) (by kernel_rfl) (by kernel_rfl) (fun _ _ _ h => h) (Or.inl ⟨by rfl, ?_⟩) (by assumption) ?_
                rotate_left 1
                · intro w hSw; (try dsimp only at hSw); go_simp; try with_reducible rfl
                try simp only [Act.put, List.getElem_toArray, List.getElem_cons_succ, List.getElem_cons_zero, List.setIfInBounds_toArray, List.set_cons_zero, List.set_cons_succ]
                refine wpAnyH_take (i := 15) (v := ?_) rfl (by kernel_rfl) (by kernel_rfl) (by kernel_rfl) (fun _ _ _ h => h) (Or.inl ⟨by rfl, ?_⟩) (by assumption) ?_
                rotate_left 1
                · intro w hSw; (try dsimp only at hSw); go_simp; try with_reducible rfl
                try simp only [Act.put, List.getElem_toArray, List.getElem_cons_succ, List.getElem_cons_zero, List.setIfInBounds_toArray, List.set_cons_zero, List.set_cons_succ]
                refine wpAnyH_ready (rs := [16]) (by kernel_rfl) (by simp) (AllReadyH.cons rfl (fun K hK => ?_) AllReadyH.nil)
                go_simp
                go_at_call 24
                refine (cL _).mono ?_
                rintro e v3 ⟨rfl, hv3⟩
                have hb3 := chain hb1 hv3
                try simp only []
                refine hK.out _ _ (hS _ hb3) (fun hHeld => ?_)
                clear hK K
                try simp only [Act.put, List.getElem_toArray, List.getElem_cons_succ, List.getElem_cons_zero, List.setIfInBounds_toArray, List.set_cons_zero, List.set_cons_succ]
                refine wpAnyH_ready (rs := [17]) (by kernel_rfl) (by simp) (AllReadyH.cons rfl (fun K hK => ?_) AllReadyH.nil)
                go_simp
                go_at_call 32
                refine (cM _ hb3).mono ?_
                rintro e v4 ⟨rfl, hv4⟩
                have hb4 := chain hb3 hv4
                try simp only []
                refine hK.out _ _ (hS _ hb4) (fun hHeld => ?_)
                clear hK K
                try simp only [Act.put, List.getElem_toArray, List.getElem_cons_succ, List.getElem_cons_zero, List.setIfInBounds_toArray, List.set_cons_zero, List.set_cons_succ]
                refine wpAnyH_take (i := 18) (v := ?_) rfl (by kernel_rfl) (by kernel_rfl) (by kernel_rfl) (fun _ _ _ h => h) (Or.inl ⟨by rfl, ?_⟩) (by assumption) ?_
                rotate_left 1
                · intro w hSw; (try dsimp only at hSw); go_simp; try with_reducible rfl
                try simp only [Act.put, List.getElem_toArray, List.getElem_cons_succ, List.getElem_cons_zero, List.setIfInBounds_toArray, List.set_cons_zero, List.set_cons_succ]
                refine wpAnyH_take (i := 19) (v := ?_) rfl (by kernel_rfl) (by kernel_rfl) (by kernel_rfl) (fun _ _ _ h => h) (Or.inl ⟨by rfl, ?_⟩) (by assumption) ?_
                rotate_left 1
                · intro w hSw; (try dsimp only at hSw); go_simp; try with_reducible rfl
                try simp only [Act.put, List.getElem_toArray, List.getElem_cons_succ, List.getElem_cons_zero, List.setIfInBounds_toArray, List.set_cons_zero, List.set_cons_succ]
                refine wpAnyH_done (by kernel_rfl) ?_ _
                go_wp2
                go_ret
                exact ⟨rfl, chain L1 hb4⟩
              | true =>
                have hok1 : okA P x = true := by
                  have h2 := HMA.out.symm
                  rw [Bool.and_eq_true] at h2
                  rw [HD.out, h2.1, h2.2, decide_eq_true hs]
                  rfl
                have HM2 := hideIt (mayP_step HM.out HX.out hok1 HK.out (of_decide_eq_false HT2.out))
                clear hok1
                go_cut [48] from 29 to 48 (fun s48 wx => s48 = .bool false ∧ Below W1.heap.size W1 wx)
                case first =>
                  have hS : ∀ u, Below W1.heap.size W1 u → (fun u => Below W1.heap.size W1 u ∧ u.cell? ⟨wr.heap.size, 0, none⟩ = some (.string x.id) ∧ u.cell? ⟨wr.heap.size, 1, none⟩ = some (.int .u64 x.h) ∧ u.cell? ⟨wr.heap.size, 2, none⟩ = some (.int .u64 x.l) ∧ u.cell? ⟨wr.heap.size, 3, none⟩ = some (.string x.salt) ∧ u.cell? ⟨wr.heap.size, 4, none⟩ = some (.int .u64 x.slot) ∧ wr.heap.size < u.heap.size) u := fun u hb => ⟨hb, (B1.call hb).read 0, (B1.call hb).read 1, (B1.call hb).read 2, (B1.call hb).read 3, (B1.call hb).read 4, (B1.call hb).inside⟩
                  refine wp_region_held_drew (S := (fun u => Below W1.heap.size W1 u ∧ u.cell? ⟨wr.heap.size, 0, none⟩ = some (.string x.id) ∧ u.cell? ⟨wr.heap.size, 1, none⟩ = some (.int .u64 x.h) ∧ u.cell? ⟨wr.heap.size, 2, none⟩ = some (.int .u64 x.l) ∧ u.cell? ⟨wr.heap.size, 3, none⟩ = some (.string x.salt) ∧ u.cell? ⟨wr.heap.size, 4, none⟩ = some (.int .u64 x.slot) ∧ wr.heap.size < u.heap.size)) (by kernel_rfl) (hS _ (Below.refl _ _).drew) (fun hHeld => ?_)
                  refine wpAnyH_take (i := 0) (v := ?_) rfl (by kernel_rfl) (by kernel_rfl) (by kernel_rfl) (fun _ _ _ h => h) (Or.inl ⟨by rfl, ?_⟩) (by assumption) ?_
                  rotate_left 1
                  · intro w hSw; (try dsimp only at hSw); go_simp; try with_reducible rfl
                  try simp only [Act.put, List.getElem_toArray, List.getElem_cons_succ, List.getElem_cons_zero, List.setIfInBounds_toArray, List.set_cons_zero, List.set_cons_succ]
                  refine wpAnyH_take (i := 1) (v := ?_) rfl (by kernel_rfl) (by kernel_rfl) (by kernel_rfl) (fun _ _ _ h => h) (Or.inl ⟨by rfl, ?_⟩) (by assumption) ?_
                  rotate_left 1
                  · intro w hSw; (try dsimp only at hSw); go_simp; try with_reducible rfl
                  try simp only [Act.put, List.getElem_toArray, List.getElem_cons_succ, List.getElem_cons_zero, List.setIfInBounds_toArray, List.set_cons_zero, List.set_cons_succ]
                  refine wpAnyH_take (i := 2) (v := ?_) rfl (by kernel_rfl) (by kernel_rfl) (by kernel_rfl) (fun _ _ _ h => h) (Or.inl ⟨by rfl, ?_⟩) (by assumption) ?_
                  rotate_left 1
                  · intro w hSw; (try dsimp only at hSw); go_simp; try with_reducible rfl
                  try simp only [Act.put, List.getElem_toArray, List.getElem_cons_succ, List.getElem_cons_zero, List.setIfInBounds_toArray, List.set_cons_zero, List.set_cons_succ]
                  refine wpAnyH_take (i := 3) (v := ?_) rfl (by kernel_rfl) (by kernel_rfl) (by kernel_rfl) (fun _ _ _ h => h) (Or.inl ⟨by rfl, ?_⟩) (by assumption) ?_
                  rotate_left 1
                  · intro w hSw; (try dsimp only at hSw); go_simp; try with_reducible rfl
                  try simp only [Act.put, List.getElem_toArray, List.getElem_cons_succ, List.getElem_cons_zero, List.setIfInBounds_toArray, List.set_cons_zero, List.set_cons_succ]
                  refine wpAnyH_take (i := 4) (v := ?_) rfl (by kernel_rfl) (by kernel_rfl) (by kernel_rfl) (fun _ _ _ h => h) (Or.inl ⟨by rfl, ?_⟩) (by assumption) ?_
                  rotate_left 1
                  · intro w hSw; (try dsimp only at hSw); go_simp; try with_reducible rfl
                  try simp only [Act.put, List.getElem_toArray, List.getElem_cons_succ, List.getElem_cons_zero, List.setIfInBounds_toArray, List.set_cons_zero, List.set_cons_succ]
                  refine wpAnyH_ready (rs := [5]) (by kernel_rfl) (by simp) (AllReadyH.cons rfl (fun K hK => ?_) AllReadyH.nil)
                  go_simp
                  go_at_call 54
                  refine (cH _ (Below.refl _ _).drew).mono ?_
                  rintro e v1 ⟨rfl, hv1⟩
                  have hb1 := chain (Below.refl W1.heap.size W1).drew hv1
                  try simp only []
                  refine hK.out _ _ (hS _ hb1) (fun hHeld => ?_)
                  clear hK K
                  try simp only [Act.put, List.getElem_toArray, List.getElem_cons_succ, List.getElem_cons_zero, List.setIfInBounds_toArray, List.set_cons_zero, List.set_cons_succ]
                  refine wpAnyH_take (i := 6) (v := ?_) rfl (by kernel_rfl) (by kernel_rfl) (by kernel_rfl) (fun _ _ _ h => h) (Or.inl ⟨by rfl, ?_⟩) (by assumption) ?_
                  rotate_left 1
                  · intro w hSw; (try dsimp only at hSw); go_simp; try with_reducible rfl
                  try simp only [Act.put, List.getElem_toArray, List.getElem_cons_succ, List.getElem_cons_zero, List.setIfInBounds_toArray, List.set_cons_zero, List.set_cons_succ]
                  refine wpAnyH_take (i := 7) (v := ?_) rfl (by kernel_rfl) (by kernel_rfl) (by kernel_rfl) (fun _ _ _ h => h) (Or.inl ⟨by rfl, ?_⟩) (by assumption) ?_
                  rotate_left 1
                  · intro w hSw; (try dsimp only at hSw); go_simp; try with_reducible rfl
                  try simp only [Act.put, List.getElem_toArray, List.getElem_cons_succ, List.getElem_cons_zero, List.setIfInBounds_toArray, List.set_cons_zero, List.set_cons_succ]
                  refine wpAnyH_take (i := 8) (v := ?_) rfl (by kernel_rfl) (by kernel_rfl) (by kernel_rfl) (fun _ _ _ h => h) (Or.inl ⟨by rfl, ?_⟩) (by assumption) ?_
                  rotate_left 1
                  · intro w hSw; (try dsimp only at hSw); go_simp; try with_reducible rfl
                  try simp only [Act.put, List.getElem_toArray, List.getElem_cons_succ, List.getElem_cons_zero, List.setIfInBounds_toArray, List.set_cons_zero, List.set_cons_succ]
                  refine wpAnyH_take (i := 9) (v := ?_) rfl (by kernel_rfl) (by kernel_rfl) (by kernel_rfl) (fun _ _ _ h => h) (Or.inl ⟨by rfl, ?_⟩) (by assumption) ?_
                  rotate_left 1
                  · intro w hSw; (try dsimp only at hSw); go_simp; try with_reducible rfl
                  try simp only [Act.put, List.getElem_toArray, List.getElem_cons_succ, List.getElem_cons_zero, List.setIfInBounds_toArray, List.set_cons_zero, List.set_cons_succ]
                  refine wpAnyH_take (i := 10) (v := ?_) rfl (by kernel_rfl) (by kernel_rfl) (by kernel_rfl) (fun _ _ _ h => h) (Or.inl ⟨by rfl, ?_⟩) (by assumption) ?_
                  rotate_left 1
                  · intro w hSw; (try dsimp only at hSw); go_simp; try with_reducible rfl
                  try simp only [Act.put, List.getElem_toArray, List.getElem_cons_succ, List.getElem_cons_zero, List.setIfInBounds_toArray, List.set_cons_zero, List.set_cons_succ]
                  refine wpAnyH_ready (rs := [11]) (by kernel_rfl) (by simp) (AllReadyH.cons rfl (fun K hK => ?_) AllReadyH.nil)
                  go_simp
                  go_at_call 38
                  refine (cS _).mono ?_
                  rintro e v2 ⟨rfl, rfl⟩
                  try simp only []
                  refine hK.out _ _ (hS _ hb1) (fun hHeld => ?_)
                  clear hK K
                  try simp only [Act.put, List.getElem_toArray, List.getElem_cons_succ, List.getElem_cons_zero, List.setIfInBounds_toArray, List.set_cons_zero, List.set_cons_succ]
                  refine wpAnyH_take (i := 12) (v := ?_) rfl (by kernel_rfl) (by kernel_rfl) (by kernel_rfl) (fun _ _ _ h => h) (Or.inl ⟨by rfl, ?_⟩) (by assumption) ?_
                  rotate_left 1
                  · intro w hSw; (try dsimp only at hSw); go_simp; try with_reducible rfl
                  try simp only [Act.put, List.getElem_toArray, List.getElem_cons_succ, List.getElem_cons_zero, List.setIfInBounds_toArray, List.set_cons_zero, List.set_cons_succ]
                  refine wpAnyH_take (i := 13) (v := ?_) rfl (by kernel_rfl) (by kernel_rfl) (by kernel_rfl) (fun _ _ _ h => h) (Or.inl ⟨by rfl, ?_⟩) (by assumption) ?_
                  rotate_left 1
                  · intro w hSw; (try dsimp only at hSw); go_simp; try with_reducible rfl
                  try simp only [Act.put, List.getElem_toArray, List.getElem_cons_succ, List.getElem_cons_zero, List.setIfInBounds_toArray, List.set_cons_zero, List.set_cons_succ]
                  refine wpAnyH_take (i := 14) (v := ?_) rfl (by kernel_rfl) (by kernel_rfl) (by kernel_rfl) (fun _ _ _ h => h) (Or.inl ⟨by rfl, ?_⟩) (by assumption) ?_
                  rotate_left 1
                  · intro w hSw; (try dsimp only at hSw); go_simp; try with_reducible rfl
                  try simp only [Act.put, List.getElem_toArray, List.getElem_cons_succ, List.getElem_cons_zero, List.setIfInBounds_toArray, List.set_cons_zero, List.set_cons_succ]
                  refine wpAnyH_take (i := 15) (v := ?_) rfl (by kernel_rfl) (by kernel_rfl) (by kernel_rfl) (fun _ _ _ h => h) (Or.inl ⟨by rfl, ?_⟩) (by assumption) ?_
                  rotate_left 1
                  · intro w hSw; (try dsimp only at hSw); go_simp; try with_reducible rfl
                  try simp only [Act.put, List.getElem_toArray, List.getElem_cons_succ, List.getElem_cons_zero, List.setIfInBounds_toArray, List.set_cons_zero, List.set_cons_succ]
                  refine wpAnyH_ready (rs := [16]) (by kernel_rfl) (by simp) (AllReadyH.cons rfl (fun K hK => ?_) AllReadyH.nil)
                  go_simp
                  go_at_call 24
                  refine (cL _).mono ?_
                  rintro e v3 ⟨rfl, hv3⟩
                  have hb3 := chain hb1 hv3
                  try simp only []
                  refine hK.out _ _ (hS _ hb3) (fun hHeld => ?_)
                  clear hK K
                  try simp only [Act.put, List.getElem_toArray, List.getElem_cons_succ, List.getElem_cons_zero, List.setIfInBounds_toArray, List.set_cons_zero, List.set_cons_succ]
                  refine wpAnyH_ready (rs := [17]) (by kernel_rfl) (by simp) (AllReadyH.cons rfl (fun K hK => ?_) AllReadyH.nil)
                  go_simp
                  go_at_call 32
                  refine (cM _ hb3).mono ?_
                  rintro e v4 ⟨rfl, hv4⟩
                  have hb4 := chain hb3 hv4
                  try simp only []
                  refine hK.out _ _ (hS _ hb4) (fun hHeld => ?_)
                  clear hK K
                  try simp only [Act.put, List.getElem_toArray, List.getElem_cons_succ, List.getElem_cons_zero, List.setIfInBounds_toArray, List.set_cons_zero, List.set_cons_succ]
                  refine wpAnyH_take (i := 18) (v := ?_) rfl (by kernel_rfl) (by kernel_rfl) (by kernel_rfl) (fun _ _ _ h => h) (Or.inl ⟨by rfl, ?_⟩) (by assumption) ?_
                  rotate_left 1
                  · intro w hSw; (try dsimp only at hSw); go_simp; try with_reducible rfl
                  try simp only [Act.put, List.getElem_toArray, List.getElem_cons_succ, List.getElem_cons_zero, List.setIfInBounds_toArray, List.set_cons_zero, List.set_cons_succ]
                  refine wpAnyH_take (i := 19) (v := ?_) rfl (by kernel_rfl) (by kernel_rfl) (by kernel_rfl) (fun _ _ _ h => h) (Or.inl ⟨by rfl, ?_⟩) (by assumption) ?_
                  rotate_left 1
                  · intro w hSw; (try dsimp only at hSw); go_simp; try with_reducible rfl
                  try simp only [Act.put, List.getElem_toArray, List.getElem_cons_succ, List.getElem_cons_zero, List.setIfInBounds_toArray, List.set_cons_zero, List.set_cons_succ]
                  refine wpAnyH_done (by kernel_rfl) ?_ _
                  go_wp2_with fail
                  go_meet
                  exact ⟨rfl, hb4⟩
                case rest =>
                  obtain ⟨rfl, hbc⟩ := hcut
                  have M3 := M1.call hbc
                  have S3 := S1.call hbc
                  have B3 := B1.call hbc
                  have L3 := chain L1 hbc
                  clear M1 S1 B1 L1 q0 q1 q2 q3 q4 hin1 cH cL cM cS
                  obtain ⟨q0, q1, q2, q3, q4, -, -, -, -, -, hin1⟩ := B3.five
                  have cT := fun u hu => stake_any (w.heap.size + 1) ((xs.take k).map Ac.slot) x.slot hok.2.2 hln2 u hu
                  go_wp2_with (first
                    | (at_mapUpdate; refine wpl_idset_put rfl _ _ _ 80 rfl und_ids12 rfl M3 x.id rfl rfl (by omega) hln ?_; intro w4 M4 hg4
                       have B4 := B3.grown hg4 (fun e => by injection e with e; omega)
                       have S4 := S3.kept hg4 (fun e => by injection e with e; omega)
                       obtain ⟨r0, r1, r2, r3, r4, -, -, -, -, -, hin4⟩ := B4.five)
                    | (go_at_call 55; refine (cT _ S4).mono ?_; rintro e w5 ⟨rfl, S5, hg5⟩)
                    | fail)
                  have M5 := M4.kept hg5 (fun e => by injection e with e; omega)
                  go_roundg (xs.length - (k + 1))
                  case measure => have := HG.out; omega
                  case rel => exact ⟨k + 1, by omega, Nat.le_refl _, by go_num, by rw [HT.out, List.map_append]; exact M5, by rw [HT.out, List.map_append]; exact S5, (L3.grown hg4 (by omega) (fun j hj => by injection hj with hj; omega)).grown hg5 (by have := hg4.size; omega) (fun j hj => by injection hj with hj; omega), HM2⟩
            · have hs1 : P ≤ x.slot := by omega
              have hs2 : decide (P ≤ x.slot) = true := decide_eq_true hs1
              have hno : V = false := by
                rw [← HV.out]
                refine decide_eq_false fun hM => ?_
                have h1 := (mayP_at hM HX.out).1
                rw [HD.out, Bool.and_eq_true, Bool.and_eq_true] at h1
                exact hs (of_decide_eq_true h1.2.2)
              subst hno
              have hS : ∀ u, Below W1.heap.size W1 u → (fun u => Below W1.heap.size W1 u ∧ u.cell? ⟨wr.heap.size, 0, none⟩ = some (.string x.id) ∧ u.cell? ⟨wr.heap.size, 1, none⟩ = some (.int .u64 x.h) ∧ u.cell? ⟨wr.heap.size, 2, none⟩ = some (.int .u64 x.l) ∧ u.cell? ⟨wr.heap.size, 3, none⟩ = some (.string x.salt) ∧ u.cell? ⟨wr.heap.size, 4, none⟩ = some (.int .u64 x.slot) ∧ wr.heap.size < u.heap.size) u := fun u hb => ⟨hb, (B1.call hb).read 0, (B1.call hb).read 1, (B1.call hb).read 2, (B1.call hb).read 3, (B1.call hb).read 4, (B1.call hb).inside⟩
              refine wp_region_held_drew (S := (fun u => Below W1.heap.size W1 u ∧ u.cell? ⟨wr.heap.size, 0, none⟩ = some (.string x.id) ∧ u.cell? ⟨wr.heap.size, 1, none⟩ = some (.int .u64 x.h) ∧ u.cell? ⟨wr.heap.size, 2, none⟩ = some (.int .u64 x.l) ∧ u.cell? ⟨wr.heap.size, 3, none⟩ = some (.string x.salt) ∧ u.cell? ⟨wr.heap.size, 4, none⟩ = some (.int .u64 x.slot) ∧ wr.heap.size < u.heap.size)) (by kernel_rfl) (hS _ (Below.refl _ _).drew) (fun hHeld => ?_)
              refine wpAnyH_take (i := 0) (v := ?_) rfl (by kernel_rfl) (by kernel_rfl) (by kernel_rfl) (fun _ _ _ h => h) (Or.inl ⟨by rfl, ?_⟩) (by assumption) ?_
              rotate_left 1
              · intro w hSw; (try dsimp only at hSw); go_simp; try with_reducible rfl
              try simp only [Act.put, List.getElem_toArray, List.getElem_cons_succ, List.getElem_cons_zero, List.setIfInBounds_toArray, List.set_cons_zero, List.set_cons_succ]
              refine wpAnyH_take (i := 1) (v := ?_) rfl (by kernel_rfl) (by kernel_rfl) (by kernel_rfl) (fun _ _ _ h => h) (Or.inl ⟨by rfl, ?_⟩) (by assumption) ?_
              rotate_left 1
              · intro w hSw; (try dsimp only at hSw); go_simp; try with_reducible rfl
              try simp only [Act.put, List.getElem_toArray, List.getElem_cons_succ, List.getElem_cons_zero, List.setIfInBounds_toArray, List.set_cons_zero, List.set_cons_succ]
              refine wpAnyH_take (i := 2) (v := ?_) rfl (by kernel_rfl) (by kernel_rfl) (by kernel_rfl) (fun _ _ _ h => h) (Or.inl ⟨by rfl, ?_⟩) (by assumption) ?_
              rotate_left 1
              · intro w hSw; (try dsimp only at hSw); go_simp; try with_reducible rfl
              try simp only [Act.put, List.getElem_toArray, List.getElem_cons_succ, List.getElem_cons_zero, List.setIfInBounds_toArray, List.set_cons_zero, List.set_cons_succ]
              refine wpAnyH_take (i := 3) (v := ?_) rfl (by kernel_rfl) (by kernel_rfl) (by kernel_rfl) (fun _ _ _ h => h) (Or.inl ⟨by rfl, ?_⟩) (by assumption) ?_
              rotate_left 1
              · intro w hSw; (try dsimp only at hSw); go_simp; try with_reducible rfl
              try simp only [Act.put, List.getElem_toArray, List.getElem_cons_succ, List.getElem_cons_zero, List.setIfInBounds_toArray, List.set_cons_zero, List.set_cons_succ]
              refine wpAnyH_take (i := 4) (v := ?_) rfl (by kernel_rfl) (by kernel_rfl) (by kernel_rfl) (fun _ _ _ h => h) (Or.inl ⟨by rfl, ?_⟩) (by assumption) ?_
              rotate_left 1
              · intro w hSw; (try dsimp only at hSw); go_simp; try with_reducible rfl
              try simp only [Act.put, List.getElem_toArray, List.getElem_cons_succ, List.getElem_cons_zero, List.setIfInBounds_toArray, List.set_cons_zero, List.set_cons_succ]
              refine wpAnyH_ready (rs := [5]) (by kernel_rfl) (by simp) (AllReadyH.cons rfl (fun K hK => ?_) AllReadyH.nil)
              go_simp
              go_at_call 54
              refine (cH _ (Below.refl _ _).drew).mono ?_
              rintro e v1 ⟨rfl, hv1⟩
              have hb1 := chain (Below.refl W1.heap.size W1).drew hv1
              try simp only []
              refine hK.out _ _ (hS _ hb1) (fun hHeld => ?_)
              clear hK K
              try simp only [Act.put, List.getElem_toArray, List.getElem_cons_succ, List.getElem_cons_zero, List.setIfInBounds_toArray, List.set_cons_zero, List.set_cons_succ]
              refine wpAnyH_take (i := 6) (v := ?_) rfl (by kernel_rfl) (by kernel_rfl) (by kernel_rfl) (fun _ _ _ h => h) (Or.inl ⟨by rfl, ?_⟩) (by assumption) ?_
              rotate_left 1
              · intro w hSw; (try dsimp only at hSw); go_simp; try with_reducible rfl
              try simp only [Act.put, List.getElem_toArray, List.getElem_cons_succ, List.getElem_cons_zero, List.setIfInBounds_toArray, List.set_cons_zero, List.set_cons_succ]
              refine wpAnyH_take (i := 7) (v := ?_) rfl (by kernel_rfl) (by kernel_rfl) (by kernel_rfl) (fun _ _ _ h => h) (Or.inl ⟨by rfl, ?_⟩) (by assumption) ?_
              rotate_left 1
              · intro w hSw; (try dsimp only at hSw); go_simp; try with_reducible rfl
              try simp only [Act.put, List.getElem_toArray, List.getElem_cons_succ, List.getElem_cons_zero, List.setIfInBounds_toArray, List.set_cons_zero, List.set_cons_succ]
              refine wpAnyH_take (i := 8) (v := ?_) rfl (by kernel_rfl) (by kernel_rfl) (by kernel_rfl) (fun _ _ _ h => h) (Or.inl ⟨by rfl, ?_⟩) (by assumption) ?_
              rotate_left 1
              · intro w hSw; (try dsimp only at hSw); go_simp; try with_reducible rfl
              try simp only [Act.put, List.getElem_toArray, List.getElem_cons_succ, List.getElem_cons_zero, List.setIfInBounds_toArray, List.set_cons_zero, List.set_cons_succ]
              refine wpAnyH_take (i := 9) (v := ?_) rfl (by kernel_rfl) (by kernel_rfl) (by kernel_rfl) (fun _ _ _ h => h) (Or.inl ⟨by rfl, ?_⟩) (by assumption) ?_
              rotate_left 1
              · intro w hSw; (try dsimp only at hSw); go_simp; try with_reducible rfl
              try simp only [Act.put, List.getElem_toArray, List.getElem_cons_succ, List.getElem_cons_zero, List.setIfInBounds_toArray, List.set_cons_zero, List.set_cons_succ]
              refine wpAnyH_take (i := 10) (v := ?_) rfl (by kernel_rfl) (by kernel_rfl) (by kernel_rfl) (fun _ _ _ h => h) (Or.inl ⟨by rfl, ?_⟩) (by assumption) ?_
              rotate_left 1
              · intro w hSw; (try dsimp only at hSw); go_simp; try with_reducible rfl
              try simp only [Act.put, List.getElem_toArray, List.getElem_cons_succ, List.getElem_cons_zero, List.setIfInBounds_toArray, List.set_cons_zero, List.set_cons_succ]
              refine wpAnyH_ready (rs := [11]) (by kernel_rfl) (by simp) (AllReadyH.cons rfl (fun K hK => ?_) AllReadyH.nil)
              go_simp
              go_at_call 38
              refine (cS _).mono ?_
              rintro e v2 ⟨rfl, rfl⟩
              try simp only []
              refine hK.out _ _ (hS _ hb1) (fun hHeld => ?_)
              clear hK K
              try simp only [Act.put, List.getElem_toArray, List.getElem_cons_succ, List.getElem_cons_zero, List.setIfInBounds_toArray, List.set_cons_zero, List.set_cons_succ]
              refine wpAnyH_take (i := 12) (v := ?_) rfl (by kernel_rfl) (by kernel_rfl) (by kernel_rfl) (fun _ _ _ h => h) (Or.inl ⟨by rfl, ?_⟩) (by assumption) ?_
              rotate_left 1
              · intro w hSw; (try dsimp only at hSw); go_simp; try with_reducible rfl
              try simp only [Act.put, List.getElem_toArray, List.getElem_cons_succ, List.getElem_cons_zero, List.setIfInBounds_toArray, List.set_cons_zero, List.set_cons_succ]
              refine wpAnyH_take (i := 13) (v := ?_) rfl (by kernel_rfl) (by kernel_rfl) (by kernel_rfl) (fun _ _ _ h => h) (Or.inl ⟨by rfl, ?_⟩) (by assumption) ?_
              rotate_left 1
              · intro w hSw; (try dsimp only at hSw); go_simp; try with_reducible rfl
              try simp only [Act.put, List.getElem_toArray, List.getElem_cons_succ, List.getElem_cons_zero, List.setIfInBounds_toArray, List.set_cons_zero, List.set_cons_succ]
              refine wpAnyH_take (i := 14) (v := ?_) rfl (by kernel_rfl) (by kernel_rfl) (by kernel_rfl) (fun _ _ _ h => h) (Or.inl ⟨by rfl, ?_⟩) (by assumption) ?_
              rotate_left 1
              · intro w hSw; (try dsimp only at hSw); go_simp; try with_reducible rfl
              try simp only [Act.put, List.getElem_toArray, List.getElem_cons_succ, List.getElem_cons_zero, List.setIfInBounds_toArray, List.set_cons_zero, List.set_cons_succ]
              refine wpAnyH_take (i := 15) (v := undef) rfl (by kernel_rfl) (by kernel_rfl) (by kernel_rfl) (fun _ _ _ h => h) (Or.inr ⟨by rfl, rfl⟩) (by assumption) ?_
              try simp only [Act.put, List.getElem_toArray, List.getElem_cons_succ, List.getElem_cons_zero, List.setIfInBounds_toArray, List.set_cons_zero, List.set_cons_succ]
              refine wpAnyH_ready (rs := [16]) (by kernel_rfl) (by simp) (AllReadyH.cons rfl (fun K hK => ?_) AllReadyH.nil)
              go_simp
              refine hK.out _ _ (hS _ hb1) (fun hHeld => ?_)
              clear hK K
              try simp only [Act.put, List.getElem_toArray, List.getElem_cons_succ, List.getElem_cons_zero, List.setIfInBounds_toArray, List.set_cons_zero, List.set_cons_succ]
              refine wpAnyH_ready (rs := [17]) (by kernel_rfl) (by simp) (AllReadyH.cons rfl (fun K hK => ?_) AllReadyH.nil)
              go_simp
              refine hK.out _ _ (hS _ hb1) (fun hHeld => ?_)
              clear hK K
              try simp only [Act.put, List.getElem_toArray, List.getElem_cons_succ, List.getElem_cons_zero, List.setIfInBounds_toArray, List.set_cons_zero, List.set_cons_succ]
              refine wpAnyH_take (i := 18) (v := undef) rfl (by kernel_rfl) (by kernel_rfl) (by kernel_rfl) (fun _ _ _ h => h) (Or.inr ⟨by rfl, rfl⟩) (by assumption) ?_
              try simp only [Act.put, List.getElem_toArray, List.getElem_cons_succ, List.getElem_cons_zero, List.setIfInBounds_toArray, List.set_cons_zero, List.set_cons_succ]
              refine wpAnyH_take (i := 19) (v := ?_) rfl (by kernel_rfl) (by kernel_rfl) (by kernel_rfl) (fun _ _ _ h => h) (Or.inl ⟨by rfl, ?_⟩) (by assumption) ?_
              rotate_left 1
              · intro w hSw; (try dsimp only at hSw); go_simp; try with_reducible rfl
              try simp only [Act.put, List.getElem_toArray, List.getElem_cons_succ, List.getElem_cons_zero, List.setIfInBounds_toArray, List.set_cons_zero, List.set_cons_succ]
              refine wpAnyH_done (by kernel_rfl) ?_ _
              go_wp2
              go_ret
              exact ⟨rfl, chain L1 hb1⟩
      · have e : k = xs.length := by omega
        subst e
        have hM := HM.out
        rw [List.take_length] at hM
        have hv := HV.out
        rw [decide_eq_true hM] at hv
        subst hv
        go_wp2
        go_ret
        exact ⟨rfl, hb⟩
end Go.Proofs.YtngofpdpangajaaDoor
