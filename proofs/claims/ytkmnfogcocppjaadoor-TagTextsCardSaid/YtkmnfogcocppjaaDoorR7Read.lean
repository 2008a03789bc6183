/-
  paymasterref07.Read, walked: the leaf whose text it is.
-/
import Derived.Test.YtkmnfogcocppjaaDoorR7Leaf
import Derived.Test.YtkmnfogcocppjaaDoorU7Read
import Derived.Test.YtkmnfogcocppjaaDoorR1From
import Derived.Test.YtkmnfogcocppjaaDoorD7Read
namespace Go.Proofs.YtkmnfogcocppjaaDoor
set_option linter.unusedVariables false
set_option linter.unusedSimpArgs false
set_option maxRecDepth 10000
open Go.RowKit

theorem rdV_none (t : ByteArray) (h : rdR t = none) : rdV t = .tuple #[Lf.zero.val, .bool false] := by
  unfold rdV rdL
  rw [← rdR_eq, h]
  rfl
theorem rdV_some (t : ByteArray) (x : Lf) (h : rdR t = some x) : rdV t = .tuple #[x.val, .bool true] := by
  unfold rdV rdL
  rw [← rdR_eq, h]
  rfl
theorem rdR_small (t : ByteArray) (h : t.size < 2) : rdR t = none := by unfold rdR; rw [if_pos h]
theorem rdR_pad (t : ByteArray) (h : ¬ t.size < 2) (hb : bt t 0 = 2) : rdR t = if t.size = 2 + bt t 1 then (if (padP t).may = true then some (padP t) else none) else none := by unfold rdR; rw [if_neg h, if_pos hb]
theorem rdR_other (t : ByteArray) (h : ¬ t.size < 2) (hb : bt t 0 ≠ 2) (hc : bt t 0 ≠ 0 ∨ t.size < 3 + bt t 1) : rdR t = none := by unfold rdR; rw [if_neg h, if_neg hb, if_pos hc]
theorem rdR_acc (t : ByteArray) (h : ¬ t.size < 2) (hb : bt t 0 ≠ 2) (hc : ¬ (bt t 0 ≠ 0 ∨ t.size < 3 + bt t 1)) : rdR t =
    if t.size = 3 + bt t 1 + bt t (2 + bt t 1) + 16 then (if (accP t (bt t 1) (bt t (2 + bt t 1))).may = true then some (accP t (bt t 1) (bt t (2 + bt t 1))) else none) else none := by unfold rdR; rw [if_neg h, if_neg hb, if_neg hc]

set_option maxHeartbeats 4000000 in
theorem rread_any (t : ByteArray) (ht : t.size ≤ 1000000) (w : World) : Calls Tryd.prog 12 #[.string t] w (Tells (rdV t) w.heap.size w) := by
  have H0 : In2 w ((w.alloc (.cells (lfB false ⟨#[]⟩ ⟨#[]⟩ 0 0) 26)).alloc (.cells (lfB false ⟨#[]⟩ ⟨#[]⟩ 0 0) 26)) false ⟨#[]⟩ ⟨#[]⟩ 0 0 :=
    ((Has.start w).add 26 (lfB false ⟨#[]⟩ ⟨#[]⟩ 0 0)).addAt 26 (lfB false ⟨#[]⟩ ⟨#[]⟩ 0 0) (by simp)
  have n1 := fun h => rdV_none t (rdR_small t h)
  have n2 := rdR_pad t
  have n3 := fun h hb hc => rdV_none t (rdR_other t h hb hc)
  have n4 := rdR_acc t
  have l0 := bt_lt t 0
  have l1 := bt_lt t 1
  have at0 := bt_at t 0
  have at1 := bt_at t 1
  go_enter Tryd.func12, Tryd.ntmps12
  go_upto_region 2 with fail
  change Code.wp _ _ _ _ ((w.alloc (.cells (lfB false ⟨#[]⟩ ⟨#[]⟩ 0 0) 26)).alloc (.cells (lfB false ⟨#[]⟩ ⟨#[]⟩ 0 0) 26))
  generalize (w.alloc (.cells (lfB false ⟨#[]⟩ ⟨#[]⟩ 0 0) 26)).alloc (.cells (lfB false ⟨#[]⟩ ⟨#[]⟩ 0 0) 26) = W at *
  obtain ⟨⟨y0, y1, y2, y3, y4⟩, -, hin1⟩ := (Has.box H0 0).five0
  obtain ⟨⟨z0, z1, z2, z3, z4⟩, ⟨g0, g1, g2, g3, g4⟩, hin2⟩ := (Has.box H0 1).five0
  by_cases hs : t.size < 2
  · have er := hideIt (n1 hs)
    have hsi : (t.size : Int) < 2 := by omega
    clear n1 n2 n3 n4 at0 at1
    go_wp2
    obtain ⟨BX, LX⟩ := In2.told H0 Lf.zero
    try simp only [Lf.zero] at BX LX
    generalize World.setCell (World.setCell (World.setCell (World.setCell (World.setCell _ _ _) _ _) _ _) _ _) _ _ = Z at *
    obtain ⟨⟨x0, x1, x2, x3, x4⟩, -, hgx⟩ := BX.five0
    exact bodyPost_ret (v := .tuple #[Lf.val Lf.zero, .bool false]) (by simp [results, Tryd.results12, go_sem, Lf.val, Lf.zero, x0, x1, x2, x3, x4]) rfl ⟨by rw [er.out], LX⟩
  · have hsi : ¬ (t.size : Int) < 2 := by omega
    have q0 : 0 < t.size := by omega
    have q1 : 1 < t.size := by omega
    have a0 : t[0].toNat = bt t 0 := at0 q0
    have a1 : t[1].toNat = bt t 1 := at1 q1
    have s0 : (0 : Int) < (t.size : Int) := by omega
    have s1 : (1 : Int) < (t.size : Int) := by omega
    have p2 := n2 hs
    have p3 := n3 hs
    have p4 := n4 hs
    clear n1 n2 n3 n4 at0 at1 hs
    by_cases hb : bt t 0 = 2
    · have p5 := p2 hb
      clear p2 p3 p4
      rw [hb] at a0
      clear hb l0
      generalize bt t 1 = N at *
      obtain ⟨k2, hk2⟩ : ∃ k2, 2 + N = k2 := ⟨_, rfl⟩
      have e2 : (2 : Int) + (N : Int) = (k2 : Int) := by omega
      have kb : k2 < 1000 := by omega
      rw [hk2] at p5
      clear hk2
      by_cases hz : t.size = k2
      · rw [if_pos hz] at p5
        have hzi : (((t.size : Int) != (k2 : Int))) = false := by simp; omega
        clear hz
        have cM := fun u => rmayLeaf_any (padP t) (by show 0 ≤ _; omega) (by show (t.extract 2 t.size).size ≤ _; rw [ByteArray.size_extract]; omega) u
        have ev : Lf.val (padP t) = .agg (lfB true ⟨#[]⟩ (t.extract 2 t.size) 0 0) := rfl
        rw [ev] at cM
        clear ev
        have hs2 : (2 : Int) ≤ (t.size : Int) := by omega
        have H1 : Has w [(W.heap.size, 26, lfB true ⟨#[]⟩ (t.extract 2 t.size) 0 0), (w.heap.size + 1, 26, lfB false ⟨#[]⟩ ⟨#[]⟩ 0 0), (w.heap.size, 26, lfB false ⟨#[]⟩ ⟨#[]⟩ 0 0)] (W.alloc (.cells (lfB true ⟨#[]⟩ (t.extract 2 t.size) 0 0) 26)) := Has.add H0 _ _
        go_upto_region 9 with fail
        change Code.wp _ _ _ _ (W.alloc (.cells (lfB true ⟨#[]⟩ (t.extract 2 t.size) 0 0) 26))
        clear y0 y1 y2 y3 y4 z0 z1 z2 z3 z4 g0 g1 g2 g3 g4 hin1 hin2
        generalize W.alloc (.cells (lfB true ⟨#[]⟩ (t.extract 2 t.size) 0 0) 26) = V at *
        obtain ⟨⟨x0, x1, x2, x3, x4⟩, -, hin3⟩ := (Has.box H1 0).five0
        cases hm : (padP t).may with
        | false =>
          rw [if_neg (by rw [hm]; decide)] at p5
          rw [hm] at cM
          have er := hideIt (rdV_none t p5)
          clear p5 hm
          go_upto_region 10 with (first | (go_at_call 18; refine (cM _).mono ?_; rintro e w3 ⟨rfl, b3⟩) | fail)
          have H3 : In2 w w3 false ⟨#[]⟩ ⟨#[]⟩ 0 0 := (Has.tail H1).call b3
          clear x0 x1 x2 x3 x4
          obtain ⟨⟨y0, y1, y2, y3, y4⟩, -, hin1⟩ := (Has.box H3 0).five0
          obtain ⟨⟨z0, z1, z2, z3, z4⟩, ⟨g0, g1, g2, g3, g4⟩, hin2⟩ := (Has.box H3 1).five0
          go_wp2
          obtain ⟨BX, LX⟩ := In2.told H3 Lf.zero
          try simp only [Lf.zero] at BX LX
          generalize World.setCell (World.setCell (World.setCell (World.setCell (World.setCell _ _ _) _ _) _ _) _ _) _ _ = Z at *
          obtain ⟨⟨x0, x1, x2, x3, x4⟩, -, hgx⟩ := BX.five0
          exact bodyPost_ret (v := .tuple #[Lf.val Lf.zero, .bool false]) (by simp [results, Tryd.results12, go_sem, Lf.val, Lf.zero, x0, x1, x2, x3, x4]) rfl ⟨by rw [er.out], LX⟩
        | true =>
          rw [if_pos hm] at p5
          rw [hm] at cM
          have er := hideIt (rdV_some t _ p5)
          clear p5 hm
          go_upto_region 11 with (first | (go_at_call 18; refine (cM _).mono ?_; rintro e w3 ⟨rfl, b3⟩) | fail)
          have H2 := H1.call b3
          have H3 : In2 w w3 false ⟨#[]⟩ ⟨#[]⟩ 0 0 := (Has.tail H1).call b3
          clear x0 x1 x2 x3 x4
          obtain ⟨⟨y0, y1, y2, y3, y4⟩, -, hin1⟩ := (Has.box H2 0).five0
          obtain ⟨⟨z0, z1, z2, z3, z4⟩, ⟨g0, g1, g2, g3, g4⟩, hin2⟩ := (Has.box H3 1).five0
          go_wp2
          obtain ⟨BX, LX⟩ := In2.told H3 (padP t)
          simp only [padP] at BX LX
          generalize World.setCell (World.setCell (World.setCell (World.setCell (World.setCell _ _ _) _ _) _ _) _ _) _ _ = Z at *
          obtain ⟨⟨x0, x1, x2, x3, x4⟩, -, hgx⟩ := BX.five0
          exact bodyPost_ret (v := .tuple #[Lf.val (padP t), .bool true]) (by simp [results, Tryd.results12, go_sem, Lf.val, padP, x0, x1, x2, x3, x4]) rfl ⟨by rw [er.out], LX⟩
      · rw [if_neg hz] at p5
        have er := hideIt (rdV_none t p5)
        have hzi : (((t.size : Int) != (k2 : Int))) = true := by simp; omega
        clear p5 hz
        go_wp2
        obtain ⟨BX, LX⟩ := In2.told H0 Lf.zero
        try simp only [Lf.zero] at BX LX
        generalize World.setCell (World.setCell (World.setCell (World.setCell (World.setCell _ _ _) _ _) _ _) _ _) _ _ = Z at *
        obtain ⟨⟨x0, x1, x2, x3, x4⟩, -, hgx⟩ := BX.five0
        exact bodyPost_ret (v := .tuple #[Lf.val Lf.zero, .bool false]) (by simp [results, Tryd.results12, go_sem, Lf.val, Lf.zero, x0, x1, x2, x3, x4]) rfl ⟨by rw [er.out], LX⟩
    · have p6 := p3 hb
      have p7 := p4 hb
      have at2 := bt_at t (2 + bt t 1)
      have l2 := bt_lt t (2 + bt t 1)
      clear p2 p3 p4
      generalize bt t 0 = b at *
      generalize bt t 1 = N at *
      have hbi : ((b : Int) == 2) = false := by simp; omega
      clear hb
      by_cases hb0 : b = 0
      · have hbj : ((b : Int) != 0) = false := by simp; omega
        obtain ⟨k3, hk3⟩ : ∃ k3, 3 + N = k3 := ⟨_, rfl⟩
        have e3 : (3 : Int) + (N : Int) = (k3 : Int) := by omega
        have b3 : k3 < 1000 := by omega
        by_cases hc : t.size < k3
        · have hci : (t.size : Int) < (k3 : Int) := by omega
          have er := hideIt (p6 (Or.inr (by omega)))
          clear p6 p7 at2 hc hk3
          go_wp2
          obtain ⟨BX, LX⟩ := In2.told H0 Lf.zero
          try simp only [Lf.zero] at BX LX
          generalize World.setCell (World.setCell (World.setCell (World.setCell (World.setCell _ _ _) _ _) _ _) _ _) _ _ = Z at *
          obtain ⟨⟨x0, x1, x2, x3, x4⟩, -, hgx⟩ := BX.five0
          exact bodyPost_ret (v := .tuple #[Lf.val Lf.zero, .bool false]) (by simp [results, Tryd.results12, go_sem, Lf.val, Lf.zero, x0, x1, x2, x3, x4]) rfl ⟨by rw [er.out], LX⟩
        · have hci : ¬ (t.size : Int) < (k3 : Int) := by omega
          have p8 := p7 (by omega)
          clear p6 p7
          obtain ⟨k2, hk2⟩ : ∃ k2, 2 + N = k2 := ⟨_, rfl⟩
          have e2 : (2 : Int) + (N : Int) = (k2 : Int) := by omega
          have b2 : k2 < 1000 := by omega
          have q2 : k2 < t.size := by omega
          have q2i : (k2 : Int) < (t.size : Int) := by omega
          rw [hk2] at p8 l2
          have a2 : t[k2].toNat = bt t k2 := by have h := at2 (by omega); simp only [hk2] at h; exact h
          clear at2
          generalize bt t k2 = M at *
          obtain ⟨k4, hk4⟩ : ∃ k4, k3 + M = k4 := ⟨_, rfl⟩
          have e4 : (k3 : Int) + (M : Int) = (k4 : Int) := by omega
          have b4 : k4 < 2000 := by omega
          obtain ⟨k5, hk5⟩ : ∃ k5, k4 + 16 = k5 := ⟨_, rfl⟩
          have e5 : (k4 : Int) + 16 = (k5 : Int) := by omega
          have b5 : k5 < 3000 := by omega
          rw [show 3 + N + M + 16 = k5 by omega] at p8
          by_cases hz : t.size = k5
          · rw [if_pos hz] at p8
            have hzi : ((t.size : Int) != (k5 : Int)) = false := by simp; omega
            have o1 : (2 : Int) ≤ (k2 : Int) := by omega
            have o2 : (k2 : Int) ≤ (t.size : Int) := by omega
            have o3 : (k3 : Int) ≤ (k4 : Int) := by omega
            have o4 : (k4 : Int) ≤ (t.size : Int) := by omega
            have hxp : accP t N M = ⟨false, t.extract 2 k2, t.extract k3 k4, fromH (t.extract k4 t.size), fromL (t.extract k4 t.size)⟩ := by
              unfold accP; rw [hk2, hk3, hk4]
            have cM := fun u => rmayLeaf_any (accP t N M) (by rw [hxp]; show (t.extract 2 k2).size ≤ _; rw [ByteArray.size_extract]; omega) (by rw [hxp]; show (t.extract k3 k4).size ≤ _; rw [ByteArray.size_extract]; omega) u
            have cF := fun u => rfrom_any (t.extract k4 t.size) (by rw [ByteArray.size_extract]; omega) u
            rw [hxp] at cM p8
            clear hxp hk2 hk3 hk4 hk5 hz hc
            obtain ⟨A, hA⟩ : ∃ A, t.extract 2 k2 = A := ⟨_, rfl⟩
            obtain ⟨S, hS⟩ : ∃ S, t.extract k3 k4 = S := ⟨_, rfl⟩
            obtain ⟨R, hR⟩ : ∃ R, t.extract k4 t.size = R := ⟨_, rfl⟩
            rw [hA, hS, hR] at cM p8
            rw [hR] at cF
            unfold FromTells at cF
            generalize fromH R = h at *
            generalize fromL R = l at *
            generalize fromE R = er at *
            have p9 : (Lf.may ⟨false, A, S, h, l⟩ = false → rdV t = .tuple #[Lf.zero.val, .bool false]) ∧ (Lf.may ⟨false, A, S, h, l⟩ = true → rdV t = .tuple #[Lf.val ⟨false, A, S, h, l⟩, .bool true]) := by
              refine ⟨fun hm => ?_, fun hm => ?_⟩
              · rw [if_neg (by rw [hm]; decide)] at p8; exact rdV_none t p8
              · rw [if_pos hm] at p8; exact rdV_some t _ p8
            clear p8
            have ev : Lf.val ⟨false, A, S, h, l⟩ = .agg (lfB false A S h l) := rfl
            rw [ev] at cM
            clear ev
            go_upto_region 18 with (first | (go_at_call 42; refine (cF _).mono ?_; rintro e w5 ⟨rfl, j5⟩) | fail)
            have H1 : Has w [(w5.heap.size, 24, #[.int .u64 h, .int .u64 l]), (w.heap.size + 1, 26, lfB false ⟨#[]⟩ ⟨#[]⟩ 0 0), (w.heap.size, 26, lfB false ⟨#[]⟩ ⟨#[]⟩ 0 0)] (w5.alloc (.cells #[.int .u64 h, .int .u64 l] 24)) := Has.add (Has.call H0 j5) _ _
            clear y0 y1 y2 y3 y4 z0 z1 z2 z3 z4 g0 g1 g2 g3 g4 hin1 hin2
            have H2 := H1.drew
            have v2 : IntKind.i64.wrap (k2 : Int) = k2 := by rw [IntKind.wrap_i64]; omega
            have v3 : IntKind.i64.wrap (k3 : Int) = k3 := by rw [IntKind.wrap_i64]; omega
            have v4 : IntKind.i64.wrap (k4 : Int) = k4 := by rw [IntKind.wrap_i64]; omega
            have f2 : Below w.heap.size w (w5.alloc (.cells #[.int .u64 h, .int .u64 l] 24)).drew ∧ ((w5.alloc (.cells #[.int .u64 h, .int .u64 l] 24)).drew.cell? ⟨w5.heap.size, 0, none⟩ = some (.int .u64 h) ∧ (w5.alloc (.cells #[.int .u64 h, .int .u64 l] 24)).drew.cell? ⟨w5.heap.size, 1, none⟩ = some (.int .u64 l)) :=
              ⟨H2.below, (H2.box 0).read 0, (H2.box 0).read 1⟩
            refine wp_region_held_drew (S := fun u => Below w.heap.size w u ∧ (u.cell? ⟨w5.heap.size, 0, none⟩ = some (.int .u64 h) ∧ u.cell? ⟨w5.heap.size, 1, none⟩ = some (.int .u64 l))) (by kernel_rfl) f2 (fun hHeld => ?_)
            refine wpAnyH_take (i := 0) (v := ?_) rfl (by kernel_rfl) (by kernel_rfl) (by kernel_rfl) (fun _ _ _ h => h) (Or.inl ⟨by rfl, ?_⟩) (by assumption) ?_
            rotate_left 1
            · intro w hSw; (try dsimp only at hSw); go_simp; try with_reducible rfl
            try simp only [Act.put, List.getElem_toArray, List.getElem_cons_succ, List.getElem_cons_zero, List.setIfInBounds_toArray, List.set_cons_zero, List.set_cons_succ]
            refine wpAnyH_take (i := 1) (v := ?_) rfl (by kernel_rfl) (by kernel_rfl) (by kernel_rfl) (fun _ _ _ h => h) (Or.inl ⟨by rfl, ?_⟩) (by assumption) ?_
            rotate_left 1
            · intro w hSw; (try dsimp only at hSw); go_simp; try with_reducible rfl
            try simp only [Act.put, List.getElem_toArray, List.getElem_cons_succ, List.getElem_cons_zero, List.setIfInBounds_toArray, List.set_cons_zero, List.set_cons_succ]
            refine wpAnyH_take (i := 2) (v := ?_) rfl (by kernel_rfl) (by kernel_rfl) (by kernel_rfl) (fun _ _ _ h => h) (Or.inl ⟨by rfl, ?_⟩) (by assumption) ?_
            rotate_left 1
            · intro w hSw; (try dsimp only at hSw); go_simp; try with_reducible rfl
            try simp only [Act.put, List.getElem_toArray, List.getElem_cons_succ, List.getElem_cons_zero, List.setIfInBounds_toArray, List.set_cons_zero, List.set_cons_succ]
            refine wpAnyH_take (i := 3) (v := ?_) rfl (by kernel_rfl) (by kernel_rfl) (by kernel_rfl) (fun _ _ _ h => h) (Or.inl ⟨by rfl, ?_⟩) (by assumption) ?_
            rotate_left 1
            · intro w hSw; (try dsimp only at hSw); go_simp; try with_reducible rfl
            try simp only [Act.put, List.getElem_toArray, List.getElem_cons_succ, List.getElem_cons_zero, List.setIfInBounds_toArray, List.set_cons_zero, List.set_cons_succ]
            refine wpAnyH_take (i := 4) (v := ?_) rfl (by kernel_rfl) (by kernel_rfl) (by kernel_rfl) (fun _ _ _ h => h) (Or.inl ⟨by rfl, ?_⟩) (by assumption) ?_
            rotate_left 1
            · intro w hSw; (try dsimp only at hSw); go_simp; try with_reducible rfl
            try simp only [Act.put, List.getElem_toArray, List.getElem_cons_succ, List.getElem_cons_zero, List.setIfInBounds_toArray, List.set_cons_zero, List.set_cons_succ]
            refine wpAnyH_take (i := 5) (v := ?_) rfl (by kernel_rfl) (by kernel_rfl) (by kernel_rfl) (fun _ _ _ h => h) (Or.inl ⟨by rfl, ?_⟩) (by assumption) ?_
            rotate_left 1
            · intro w hSw; (try dsimp only at hSw); go_simp; try with_reducible rfl
            try simp only [Act.put, List.getElem_toArray, List.getElem_cons_succ, List.getElem_cons_zero, List.setIfInBounds_toArray, List.set_cons_zero, List.set_cons_succ]
            refine wpAnyH_take (i := 6) (v := ?_) rfl (by kernel_rfl) (by kernel_rfl) (by kernel_rfl) (fun _ _ _ h => h) (Or.inl ⟨by rfl, ?_⟩) (by assumption) ?_
            rotate_left 1
            · intro w hSw; (try dsimp only at hSw); go_simp; try with_reducible rfl
            try simp only [Act.put, List.getElem_toArray, List.getElem_cons_succ, List.getElem_cons_zero, List.setIfInBounds_toArray, List.set_cons_zero, List.set_cons_succ]
            refine wpAnyH_take (i := 7) (v := ?_) rfl (by kernel_rfl) (by kernel_rfl) (by kernel_rfl) (fun _ _ _ h => h) (Or.inl ⟨by rfl, ?_⟩) (by assumption) ?_
            rotate_left 1
            · intro w hSw; (try dsimp only at hSw); go_simp; try with_reducible rfl
            try simp only [Act.put, List.getElem_toArray, List.getElem_cons_succ, List.getElem_cons_zero, List.setIfInBounds_toArray, List.set_cons_zero, List.set_cons_succ]
            refine wpAnyH_take (i := 8) (v := ?_) rfl (by kernel_rfl) (by kernel_rfl) (by kernel_rfl) (fun _ _ _ h => h) (Or.inl ⟨by rfl, ?_⟩) (by assumption) ?_
            rotate_left 1
            · intro w hSw; (try dsimp only at hSw); go_simp; try with_reducible rfl
            try simp only [Act.put, List.getElem_toArray, List.getElem_cons_succ, List.getElem_cons_zero, List.setIfInBounds_toArray, List.set_cons_zero, List.set_cons_succ]
            refine wpAnyH_take (i := 9) (v := ?_) rfl (by kernel_rfl) (by kernel_rfl) (by kernel_rfl) (fun _ _ _ h => h) (Or.inl ⟨by rfl, ?_⟩) (by assumption) ?_
            rotate_left 1
            · intro w hSw; (try dsimp only at hSw); go_simp; try with_reducible rfl
            try simp only [Act.put, List.getElem_toArray, List.getElem_cons_succ, List.getElem_cons_zero, List.setIfInBounds_toArray, List.set_cons_zero, List.set_cons_succ]
            refine wpAnyH_take (i := 10) (v := ?_) rfl (by kernel_rfl) (by kernel_rfl) (by kernel_rfl) (fun _ _ _ h => h) (Or.inl ⟨by rfl, ?_⟩) (by assumption) ?_
            rotate_left 1
            · intro w hSw; (try dsimp only at hSw); go_simp; try with_reducible rfl
            try simp only [Act.put, List.getElem_toArray, List.getElem_cons_succ, List.getElem_cons_zero, List.setIfInBounds_toArray, List.set_cons_zero, List.set_cons_succ]
            refine wpAnyH_take (i := 11) (v := ?_) rfl (by kernel_rfl) (by kernel_rfl) (by kernel_rfl) (fun _ _ _ h => h) (Or.inl ⟨by rfl, ?_⟩) (by assumption) ?_
            rotate_left 1
            · intro w hSw; (try dsimp only at hSw); go_simp; try with_reducible rfl
            try simp only [Act.put, List.getElem_toArray, List.getElem_cons_succ, List.getElem_cons_zero, List.setIfInBounds_toArray, List.set_cons_zero, List.set_cons_succ]
            refine wpAnyH_take (i := 12) (v := ?_) rfl (by kernel_rfl) (by kernel_rfl) (by kernel_rfl) (fun _ _ _ h => h) (Or.inl ⟨by rfl, ?_⟩) (by assumption) ?_
            rotate_left 1
            · intro w hSw; (try dsimp only at hSw); go_simp; try with_reducible rfl
            try simp only [Act.put, List.getElem_toArray, List.getElem_cons_succ, List.getElem_cons_zero, List.setIfInBounds_toArray, List.set_cons_zero, List.set_cons_succ]
            refine wpAnyH_take (i := 13) (v := ?_) rfl (by kernel_rfl) (by kernel_rfl) (by kernel_rfl) (fun _ _ _ h => h) (Or.inl ⟨by rfl, ?_⟩) (by assumption) ?_
            rotate_left 1
            · intro w hSw; (try dsimp only at hSw); go_simp; try with_reducible rfl
            try simp only [Act.put, List.getElem_toArray, List.getElem_cons_succ, List.getElem_cons_zero, List.setIfInBounds_toArray, List.set_cons_zero, List.set_cons_succ]
            refine wpAnyH_ready (rs := [14]) (by kernel_rfl) (by simp) (AllReadyH.cons rfl (fun K hK => ?_) AllReadyH.nil)
            go_simp
            have H3 : Has w [(w5.heap.size + 1, 26, lfB false ⟨#[]⟩ ⟨#[]⟩ 0 0), (w5.heap.size, 24, #[.int .u64 h, .int .u64 l]), (w.heap.size + 1, 26, lfB false ⟨#[]⟩ ⟨#[]⟩ 0 0), (w.heap.size, 26, lfB false ⟨#[]⟩ ⟨#[]⟩ 0 0)]
                ((w5.alloc (.cells #[.int .u64 h, .int .u64 l] 24)).alloc (.cells (lfB false ⟨#[]⟩ ⟨#[]⟩ 0 0) 26)).drew := (H1.addAt _ _ (by simp)).drew
            have hw5 : w.heap.size + 1 < w5.heap.size := (Has.box (In2.call H0 j5) 0).inside
            change K _ ((w5.alloc (.cells #[.int .u64 h, .int .u64 l] 24)).alloc (.cells (lfB false ⟨#[]⟩ ⟨#[]⟩ 0 0) 26)).drew
            generalize ((w5.alloc (.cells #[.int .u64 h, .int .u64 l] 24)).alloc (.cells (lfB false ⟨#[]⟩ ⟨#[]⟩ 0 0) 26)).drew = V1 at *
            have f3 : Below w.heap.size w V1 ∧ (V1.cell? ⟨w5.heap.size, 0, none⟩ = some (.int .u64 h) ∧ V1.cell? ⟨w5.heap.size, 1, none⟩ = some (.int .u64 l)) := ⟨H3.below, (H3.box 1).read 0, (H3.box 1).read 1⟩
            refine hK.out _ _ (f3) (fun hHeld => ?_)
            clear hK K
            try simp only [Act.put, List.getElem_toArray, List.getElem_cons_succ, List.getElem_cons_zero, List.setIfInBounds_toArray, List.set_cons_zero, List.set_cons_succ]
            obtain ⟨⟨y0, y1, y2, y3, y4⟩, ⟨g0, g1, g2, g3, g4⟩, hin1⟩ := (H3.box 0).five0
            refine wpAnyH_ready (rs := [15]) (by kernel_rfl) (by simp) (AllReadyH.cons rfl (fun K hK => ?_) AllReadyH.nil)
            go_simp
            have H4 := ((((H3.wrote (by omega) (by simp; omega) 0 (.bool false)).wrote (by omega) (by simp; omega) 1 (.string A)).wrote (by omega) (by simp; omega) 2 (.string S)).wrote (by omega) (by simp; omega) 3 (.int .u64 h)).wrote (by omega) (by simp; omega) 4 (.int .u64 l)
            simp only [List.setIfInBounds_toArray, List.set_cons_zero, List.set_cons_succ] at H4
            generalize World.setCell (World.setCell (World.setCell (World.setCell (World.setCell V1 _ _) _ _) _ _) _ _) _ _ = V2 at *
            have f4 : Below w.heap.size w V2 ∧ (V2.cell? ⟨w5.heap.size, 0, none⟩ = some (.int .u64 h) ∧ V2.cell? ⟨w5.heap.size, 1, none⟩ = some (.int .u64 l)) := ⟨H4.below, (H4.box 1).read 0, (H4.box 1).read 1⟩
            refine hK.out _ _ (f4) (fun hHeld => ?_)
            clear hK K
            try simp only [Act.put, List.getElem_toArray, List.getElem_cons_succ, List.getElem_cons_zero, List.setIfInBounds_toArray, List.set_cons_zero, List.set_cons_succ]
            refine wpAnyH_done (by kernel_rfl) ?_ _
            clear y0 y1 y2 y3 y4 g0 g1 g2 g3 g4 hin1 f2 f3 f4 H1 H2 H3 cF hA hS hR v2 v3 v4
            obtain ⟨⟨x0, x1, x2, x3, x4⟩, -, hin3⟩ := (H4.box 0).five0
            cases hm : Lf.may ⟨false, A, S, h, l⟩ with
            | false =>
              rw [hm] at cM
              have er := hideIt (p9.1 hm)
              clear p9 hm
              go_upto_region 20 with (first | (go_at_call 18; refine (cM _).mono ?_; rintro e w3 ⟨rfl, b3⟩) | fail)
              have H6 : In2 w w3 false ⟨#[]⟩ ⟨#[]⟩ 0 0 := H4.tail.tail.call b3
              clear x0 x1 x2 x3 x4
              obtain ⟨⟨y0, y1, y2, y3, y4⟩, -, hin1⟩ := (Has.box H6 0).five0
              obtain ⟨⟨z0, z1, z2, z3, z4⟩, ⟨g0, g1, g2, g3, g4⟩, hin2⟩ := (Has.box H6 1).five0
              go_wp2
              obtain ⟨BX, LX⟩ := In2.told H6 Lf.zero
              try simp only [Lf.zero] at BX LX
              generalize World.setCell (World.setCell (World.setCell (World.setCell (World.setCell _ _ _) _ _) _ _) _ _) _ _ = Z at *
              obtain ⟨⟨x0, x1, x2, x3, x4⟩, -, hgx⟩ := BX.five0
              exact bodyPost_ret (v := .tuple #[Lf.val Lf.zero, .bool false]) (by simp [results, Tryd.results12, go_sem, Lf.val, Lf.zero, x0, x1, x2, x3, x4]) rfl ⟨by rw [er.out], LX⟩
            | true =>
              rw [hm] at cM
              have er := hideIt (p9.2 hm)
              clear p9 hm
              go_upto_region 21 with (first | (go_at_call 18; refine (cM _).mono ?_; rintro e w3 ⟨rfl, b3⟩) | fail)
              have H5 := H4.call b3
              have H6 : In2 w w3 false ⟨#[]⟩ ⟨#[]⟩ 0 0 := H4.tail.tail.call b3
              clear x0 x1 x2 x3 x4
              obtain ⟨⟨y0, y1, y2, y3, y4⟩, -, hin1⟩ := (H5.box 0).five0
              obtain ⟨⟨z0, z1, z2, z3, z4⟩, ⟨g0, g1, g2, g3, g4⟩, hin2⟩ := (Has.box H6 1).five0
              go_wp2
              obtain ⟨BX, LX⟩ := In2.told H6 ⟨false, A, S, h, l⟩
              simp only at BX LX
              generalize World.setCell (World.setCell (World.setCell (World.setCell (World.setCell _ _ _) _ _) _ _) _ _) _ _ = Z at *
              obtain ⟨⟨x0, x1, x2, x3, x4⟩, -, hgx⟩ := BX.five0
              exact bodyPost_ret (v := .tuple #[Lf.val ⟨false, A, S, h, l⟩, .bool true]) (by simp [results, Tryd.results12, go_sem, Lf.val, x0, x1, x2, x3, x4]) rfl ⟨by rw [er.out], LX⟩
          · rw [if_neg hz] at p8
            have hzi : ((t.size : Int) != (k5 : Int)) = true := by simp; omega
            have er := hideIt (rdV_none t p8)
            clear p8 hz hc hk2 hk3 hk4 hk5
            go_wp2
            obtain ⟨BX, LX⟩ := In2.told H0 Lf.zero
            try simp only [Lf.zero] at BX LX
            generalize World.setCell (World.setCell (World.setCell (World.setCell (World.setCell _ _ _) _ _) _ _) _ _) _ _ = Z at *
            obtain ⟨⟨x0, x1, x2, x3, x4⟩, -, hgx⟩ := BX.five0
            exact bodyPost_ret (v := .tuple #[Lf.val Lf.zero, .bool false]) (by simp [results, Tryd.results12, go_sem, Lf.val, Lf.zero, x0, x1, x2, x3, x4]) rfl ⟨by rw [er.out], LX⟩
      · have hbj : ((b : Int) != 0) = true := by simp; omega
        have er := hideIt (p6 (Or.inl hb0))
        clear p6 p7 at2 hb0
        go_wp2
        obtain ⟨BX, LX⟩ := In2.told H0 Lf.zero
        try simp only [Lf.zero] at BX LX
        generalize World.setCell (World.setCell (World.setCell (World.setCell (World.setCell _ _ _) _ _) _ _) _ _) _ _ = Z at *
        obtain ⟨⟨x0, x1, x2, x3, x4⟩, -, hgx⟩ := BX.five0
        exact bodyPost_ret (v := .tuple #[Lf.val Lf.zero, .bool false]) (by simp [results, Tryd.results12, go_sem, Lf.val, Lf.zero, x0, x1, x2, x3, x4]) rfl ⟨by rw [er.out], LX⟩
end Go.Proofs.YtkmnfogcocppjaaDoor
