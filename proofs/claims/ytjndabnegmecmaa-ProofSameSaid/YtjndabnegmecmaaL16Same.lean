/-
  The law ProofSame: whether any two entries are the same is what the chapter says; nobody's tree has none. Conditions: none.
-/
import Derived.Test.YtjndabnegmecmaaL16Grt
import Derived.Test.YtjndabnegmecmaaU16Sam
import Derived.Test.YtjndabnegmecmaaU16Nil
namespace Go.Proofs.Ytjndabnegmecmaa
set_option linter.unusedVariables false
set_option linter.unusedSimpArgs false
set_option maxRecDepth 10000
open Go.ChangeShapes Go.WideShapes Go.ChangeAt Go.RowKit

set_option maxRecDepth 100000 in
set_option maxHeartbeats 8000000 in
theorem proofSame_any (x y : Lf) (q r : Int) (A B : Option Addr) (c d : Nat) (a b : List Nd) (pos : Int) (ha : a.length ≤ 9223372036854775807) (hb : b.length ≤ 9223372036854775807) (fa : ∀ z ∈ a, z.hash.size ≤ 9223372036854775807) (fb : ∀ z ∈ b, z.hash.size ≤ 9223372036854775807)
    (fx : x.id.size ≤ 9223372036854775807 ∧ x.salt.size ≤ 9223372036854775807) (fy : y.id.size ≤ 9223372036854775807 ∧ y.salt.size ≤ 9223372036854775807) (w : World) (hR1 : ndS.Row w w.heap.size A a) (hR2 : ndS.Row w w.heap.size B b) :
    Calls Try.prog 4 #[.agg (enV x q A a.length c), .agg (enV y r B b.length d), .int .u64 pos] w (Tells (.bool true) w.heap.size w) := by
  have cL1 := fun u hu => long16_any x q A c a ha fa fx u hu
  have cL2 := fun u hu => long16_any y r B d b hb fb fy u hu
  have cS1 := fun (h1 : a.length ≤ 1000000000) (h2 : b.length ≤ 1000000000) u hu hv => same16_any x y q r A B c d a b h1 h2 u hu hv
  have cS2 := fun (h1 : a.length ≤ 1000000000) (h2 : b.length ≤ 1000000000) u hu hv => rsame16_any x y q r A B c d a b h1 h2 u hu hv
  have cS3 := fun (h1 : a.length ≤ 1000000000) (h2 : b.length ≤ 1000000000) u hu hv => same16_any y x r q B A d c b a h2 h1 u hu hv
  have cS4 := fun (h1 : a.length ≤ 1000000000) u hu hv => same16_any x x q q A A c c a a h1 h1 u hu hv
  rw [sameE_turn] at cS3
  rw [sameE_self] at cS4
  have cZ := fun u => rsame16_any Lf.zero Lf.zero 0 0 none none 0 0 [] [] (by simp) (by simp) u (Sh.Row.nil _ _ _ _) (Sh.Row.nil _ _ _ _)
  rw [sameE_self] at cZ
  have cO := fun v u hu => of16_no v pos u hu
  have cA := fun u => all16_none u
  have hl1 := fun (h : longE x a = false) => (longE_no h).1
  have hl2 := fun (h : longE y b = false) => (longE_no h).1
  obtain ⟨L1, hL1⟩ : ∃ L, longE x a = L := ⟨_, rfl⟩
  obtain ⟨L2, hL2⟩ : ∃ L, longE y b = L := ⟨_, rfl⟩
  rw [hL1] at cL1 hl1
  rw [hL2] at cL2 hl2
  obtain ⟨V, hV⟩ : ∃ V, sameE x y q r a b = V := ⟨_, rfl⟩
  rw [hV] at cS1 cS2 cS3
  clear hL1 hL2 hV fa fb fx fy
  obtain ⟨N, hN⟩ : ∃ N, a.length = N := ⟨_, rfl⟩
  obtain ⟨M, hM⟩ : ∃ M, b.length = M := ⟨_, rfl⟩
  rw [hN] at cL1 cS1 cS2 cS3 cS4 hl1 ⊢
  rw [hM] at cL2 cS1 cS2 cS3 hl2 ⊢
  clear hN hM ha hb
  have J0 := ((Has.start w).addAt 31 (enV x q A N c) (g := w.heap.size) rfl).addAt 31 (enV y r B M d) (g := w.heap.size + 1) (by simp)
  have hS : ∀ u, Has w [(w.heap.size + 1, 31, enV y r B M d), (w.heap.size, 31, enV x q A N c)] u →
      ((u.cell? ⟨w.heap.size, 0, none⟩ = some (.bool x.pad) ∧ u.cell? ⟨w.heap.size, 1, none⟩ = some (.string x.id) ∧ u.cell? ⟨w.heap.size, 2, none⟩ = some (.string x.salt) ∧ u.cell? ⟨w.heap.size, 3, none⟩ = some (.int .u64 x.h) ∧
      u.cell? ⟨w.heap.size, 4, none⟩ = some (.int .u64 x.l) ∧ u.cell? ⟨w.heap.size, 5, none⟩ = some (.int .u64 q) ∧ u.cell? ⟨w.heap.size, 6, none⟩ = some (.slice A N c)) ∧ w.heap.size < u.heap.size) ∧
      ((u.cell? ⟨w.heap.size + 1, 0, none⟩ = some (.bool y.pad) ∧ u.cell? ⟨w.heap.size + 1, 1, none⟩ = some (.string y.id) ∧ u.cell? ⟨w.heap.size + 1, 2, none⟩ = some (.string y.salt) ∧ u.cell? ⟨w.heap.size + 1, 3, none⟩ = some (.int .u64 y.h) ∧
      u.cell? ⟨w.heap.size + 1, 4, none⟩ = some (.int .u64 y.l) ∧ u.cell? ⟨w.heap.size + 1, 5, none⟩ = some (.int .u64 r) ∧ u.cell? ⟨w.heap.size + 1, 6, none⟩ = some (.slice B M d)) ∧ w.heap.size + 1 < u.heap.size) := fun u H => ⟨(H.box 1).seven, (H.box 0).seven⟩
  obtain ⟨xp, xi, xs, xh, xl⟩ := x
  obtain ⟨yp, yi, ys, yh, yl⟩ := y
  simp only at cL1 cL2 cS1 cS2 cS3 cS4 hS J0
  simp only [Lf.zero, List.length_nil] at cZ
  simp only [enZ, Lf.zero] at cO
  obtain ⟨⟨⟨x0, x1, x2, x3, x4, x5, x6⟩, xin⟩, ⟨y0, y1, y2, y3, y4, y5, y6⟩, yin⟩ := hS _ J0
  cases L1 with
  | true =>
    clear cS1 cS2 cS3 cS4 cZ cO cA cL2
    go_enter Try.func4, Try.ntmps4
    go_wp2_with (first
      | (go_at_call 5; refine (cL1 _ (hR1.on J0.below)).mono ?_; rintro e w2 ⟨rfl, b2⟩; have J2 := J0.call b2)
      | fail)
    go_ret
    exact ⟨rfl, J2.below⟩
  | false =>
    cases L2 with
    | true =>
      clear cS1 cS2 cS3 cS4 cZ cO cA
      go_enter Try.func4, Try.ntmps4
      go_wp2_with (first
        | (go_at_call 5; refine (cL1 _ (hR1.on J0.below)).mono ?_; rintro e w2 ⟨rfl, b2⟩; have J2 := J0.call b2; obtain ⟨-, ⟨z0, z1, z2, z3, z4, z5, z6⟩, zin⟩ := hS _ J2; clear cL1)
        | (go_at_call 5; refine (cL2 _ (hR2.on J2.below)).mono ?_; rintro e w3 ⟨rfl, b3⟩; have J3 := J2.call b3)
        | fail)
      go_ret
      exact ⟨rfl, J3.below⟩
    | false =>
      have hn := hl1 rfl
      have hm := hl2 rfl
      go_enter Try.func4, Try.ntmps4
      go_upto_region 4 with (first
        | (go_at_call 5; refine (cL1 _ (hR1.on J0.below)).mono ?_; rintro e w2 ⟨rfl, b2⟩; have J2 := J0.call b2; obtain ⟨-, ⟨z0, z1, z2, z3, z4, z5, z6⟩, zin⟩ := hS _ J2; clear cL1)
        | (go_at_call 5; refine (cL2 _ (hR2.on J2.below)).mono ?_; rintro e w3 ⟨rfl, b3⟩; have J3 := J2.call b3)
        | fail)
      clear x0 x1 x2 x3 x4 x5 x6 xin y0 y1 y2 y3 y4 y5 y6 yin z0 z1 z2 z3 z4 z5 z6 zin J0 J2 b2 b3
      go_upto_region 5 with (first
        | (go_at_call 8; refine (cO (.pointer none) _ (Or.inl rfl)).mono ?_; rintro e w4 ⟨rfl, b4⟩; have J4 := (J3.call b4).add 31 (enV ⟨false, ⟨#[]⟩, ⟨#[]⟩, 0, 0⟩ 0 none 0 0))
        | fail)
      obtain ⟨g8, hg8⟩ : ∃ g, w4.heap.size = g := ⟨_, rfl⟩
      rw [hg8] at J4 ⊢
      change Code.wp _ _ _ _ (w4.alloc (.cells (enV ⟨false, ⟨#[]⟩, ⟨#[]⟩, 0, 0⟩ 0 none 0 0) 31))
      generalize w4.alloc (.cells (enV ⟨false, ⟨#[]⟩, ⟨#[]⟩, 0, 0⟩ 0 none 0 0) 31) = W4 at *
      clear b4 hg8 J3
      have hBt := Box.made W4 44 #[.slice none 0 0, .slice none 0 0]
      have J5 := J4.past (.cells #[.slice none 0 0, .slice none 0 0] 44)
      go_upto_region 6 with (first
        | (go_at_call 8; refine (cO _ _ (Or.inr ⟨_, rfl, hBt⟩)).mono ?_; rintro e w5 ⟨rfl, b5⟩; have J6 := (J5.call b5).add 31 (enV ⟨false, ⟨#[]⟩, ⟨#[]⟩, 0, 0⟩ 0 none 0 0))
        | fail)
      obtain ⟨g10, hg10⟩ : ∃ g, w5.heap.size = g := ⟨_, rfl⟩
      rw [hg10] at J6 ⊢
      change Code.wp _ _ _ _ (w5.alloc (.cells (enV ⟨false, ⟨#[]⟩, ⟨#[]⟩, 0, 0⟩ 0 none 0 0) 31))
      generalize w5.alloc (.cells (enV ⟨false, ⟨#[]⟩, ⟨#[]⟩, 0, 0⟩ 0 none 0 0) 31) = W5 at *
      clear b5 hg10 J5 J4 hBt cO
      obtain ⟨⟨x0, x1, x2, x3, x4, x5, x6⟩, xin⟩ := (J6.box 1).seven
      simp only at x0 x1 x2 x3 x4
      go_upto_region 8 with (first
        | (go_at_call 9; refine (cZ _).mono ?_; rintro e w6 ⟨rfl, b6⟩; have J7 := J6.call b6; clear J6; obtain ⟨⟨y0, y1, y2, y3, y4, y5, y6⟩, yin⟩ := (J7.box 0).seven; simp only at y0 y1 y2 y3 y4)
        | (go_at_call 9; refine (cZ _).mono ?_; rintro e w7 ⟨rfl, b7⟩; have J8 := J7.call b7; clear J7)
        | (go_at_call 10; refine (cA _).mono ?_; rintro e w8 ⟨b8, A8, c8, rfl⟩; have J9 := J8.call b8; clear J8)
        | fail)
      clear x0 x1 x2 x3 x4 x5 x6 xin y0 y1 y2 y3 y4 y5 y6 yin cZ cA
      have K0 : Has w [(w.heap.size + 1, 31, enV ⟨yp, yi, ys, yh, yl⟩ r B M d), (w.heap.size, 31, enV ⟨xp, xi, xs, xh, xl⟩ q A N c)] w8 := J9.tail.tail
      clear J9 b6 b7 b8
      have K1 := K0.drew
      refine wp_region_held_drew (S := fun u => ((u.cell? ⟨w.heap.size, 0, none⟩ = some (.bool xp) ∧ u.cell? ⟨w.heap.size, 1, none⟩ = some (.string xi) ∧ u.cell? ⟨w.heap.size, 2, none⟩ = some (.string xs) ∧ u.cell? ⟨w.heap.size, 3, none⟩ = some (.int .u64 xh) ∧
      u.cell? ⟨w.heap.size, 4, none⟩ = some (.int .u64 xl) ∧ u.cell? ⟨w.heap.size, 5, none⟩ = some (.int .u64 q) ∧ u.cell? ⟨w.heap.size, 6, none⟩ = some (.slice A N c)) ∧ w.heap.size < u.heap.size) ∧
      ((u.cell? ⟨w.heap.size + 1, 0, none⟩ = some (.bool yp) ∧ u.cell? ⟨w.heap.size + 1, 1, none⟩ = some (.string yi) ∧ u.cell? ⟨w.heap.size + 1, 2, none⟩ = some (.string ys) ∧ u.cell? ⟨w.heap.size + 1, 3, none⟩ = some (.int .u64 yh) ∧
      u.cell? ⟨w.heap.size + 1, 4, none⟩ = some (.int .u64 yl) ∧ u.cell? ⟨w.heap.size + 1, 5, none⟩ = some (.int .u64 r) ∧ u.cell? ⟨w.heap.size + 1, 6, none⟩ = some (.slice B M d)) ∧ w.heap.size + 1 < u.heap.size)) (by kernel_rfl) (hS _ K1) (fun hHeld => ?_)
      generalize w8.drew = Wd at *
      have c1 := cS1 (by omega) (by omega)
      have c2 := cS2 (by omega) (by omega)
      have c3 := cS3 (by omega) (by omega)
      have c4 := cS4 (by omega)
      clear cS1 cS2 cS3 cS4
      refine wpAnyH_take (i := 0) (v := ?_) rfl (by kernel_rfl) (by kernel_rfl) (by kernel_rfl) (fun _ _ _ h => h) (Or.inl ⟨by rfl, ?_⟩) (by assumption) ?_
      rotate_left 1
      · intro w hSw; (try dsimp only at hSw); go_simp; try with_reducible rfl
      try simp only [Act.put, List.getElem_toArray, List.getElem_cons_succ, List.getElem_cons_zero, List.setIfInBounds_toArray, List.set_cons_zero, List.set_cons_succ]
      refine wpAnyH_take (i := 1) (v := ?_) rfl (by kernel_rfl) (by kernel_rfl) (by kernel_rfl) (fun _ _ _ h => h) (Or.inl ⟨by rfl, ?_⟩) (by assumption) ?_
      rotate_left 1
      · intro w hSw; (try dsimp only at hSw); go_simp; try with_reducible rfl
      try simp only [Act.put, List.getElem_toArray, List.getElem_cons_succ, List.getElem_cons_zero, List.setIfInBounds_toArray, List.set_cons_zero, List.set_cons_succ]
      refine wpAnyH_take (i := 3) (v := ?_) rfl (by kernel_rfl) (by kernel_rfl) (by kernel_rfl) (fun _ _ _ h => h) (Or.inl ⟨by rfl, ?_⟩) (by assumption) ?_
      rotate_left 1
      · intro w hSw; (try dsimp only at hSw); go_simp; try with_reducible rfl
      try simp only [Act.put, List.getElem_toArray, List.getElem_cons_succ, List.getElem_cons_zero, List.setIfInBounds_toArray, List.set_cons_zero, List.set_cons_succ]
      refine wpAnyH_take (i := 4) (v := ?_) rfl (by kernel_rfl) (by kernel_rfl) (by kernel_rfl) (fun _ _ _ h => h) (Or.inl ⟨by rfl, ?_⟩) (by assumption) ?_
      rotate_left 1
      · intro w hSw; (try dsimp only at hSw); go_simp; try with_reducible rfl
      try simp only [Act.put, List.getElem_toArray, List.getElem_cons_succ, List.getElem_cons_zero, List.setIfInBounds_toArray, List.set_cons_zero, List.set_cons_succ]
      refine wpAnyH_ready (rs := [2]) (by kernel_rfl) (by simp) (AllReadyH.cons rfl (fun K hK => ?_) AllReadyH.nil)
      go_simp
      go_at_call 11
      refine (c1 _ (hR1.on K1.below) (hR2.on K1.below)).mono ?_
      rintro e w9 ⟨rfl, b9⟩
      have K2 := Has.call K1 b9
      try simp only []
      refine hK.out _ _ (hS _ K2) (fun hHeld => ?_)
      clear hK K
      try simp only [Act.put, List.getElem_toArray, List.getElem_cons_succ, List.getElem_cons_zero, List.setIfInBounds_toArray, List.set_cons_zero, List.set_cons_succ]
      refine wpAnyH_ready (rs := [5]) (by kernel_rfl) (by simp) (AllReadyH.cons rfl (fun K hK => ?_) AllReadyH.nil)
      go_simp
      go_at_call 9
      refine (c2 _ (hR1.on K2.below) (hR2.on K2.below)).mono ?_
      rintro e w9 ⟨rfl, b9⟩
      have K3 := Has.call K2 b9
      try simp only []
      refine hK.out _ _ (hS _ K3) (fun hHeld => ?_)
      clear hK K
      try simp only [Act.put, List.getElem_toArray, List.getElem_cons_succ, List.getElem_cons_zero, List.setIfInBounds_toArray, List.set_cons_zero, List.set_cons_succ]
      have e1 : (V == V) = true := by simp
      refine wpAnyH_take (i := 6) (v := ?_) rfl (by kernel_rfl) (by kernel_rfl) (by kernel_rfl) (fun _ _ _ h => h) (Or.inl ⟨by rfl, ?_⟩) (by assumption) ?_
      rotate_left 1
      · intro w hSw; (try dsimp only at hSw); go_simp; try with_reducible rfl
      try simp only [Act.put, List.getElem_toArray, List.getElem_cons_succ, List.getElem_cons_zero, List.setIfInBounds_toArray, List.set_cons_zero, List.set_cons_succ]
      refine wpAnyH_take (i := 7) (v := ?_) rfl (by kernel_rfl) (by kernel_rfl) (by kernel_rfl) (fun _ _ _ h => h) (Or.inl ⟨by rfl, ?_⟩) (by assumption) ?_
      rotate_left 1
      · intro w hSw; (try dsimp only at hSw); go_simp; try with_reducible rfl
      try simp only [Act.put, List.getElem_toArray, List.getElem_cons_succ, List.getElem_cons_zero, List.setIfInBounds_toArray, List.set_cons_zero, List.set_cons_succ]
      refine wpAnyH_take (i := 8) (v := ?_) rfl (by kernel_rfl) (by kernel_rfl) (by kernel_rfl) (fun _ _ _ h => h) (Or.inl ⟨by rfl, ?_⟩) (by assumption) ?_
      rotate_left 1
      · intro w hSw; (try dsimp only at hSw); go_simp; try with_reducible rfl
      try simp only [Act.put, List.getElem_toArray, List.getElem_cons_succ, List.getElem_cons_zero, List.setIfInBounds_toArray, List.set_cons_zero, List.set_cons_succ]
      refine wpAnyH_take (i := 9) (v := ?_) rfl (by kernel_rfl) (by kernel_rfl) (by kernel_rfl) (fun _ _ _ h => h) (Or.inl ⟨by rfl, ?_⟩) (by assumption) ?_
      rotate_left 1
      · intro w hSw; (try dsimp only at hSw); go_simp; try with_reducible rfl
      try simp only [Act.put, List.getElem_toArray, List.getElem_cons_succ, List.getElem_cons_zero, List.setIfInBounds_toArray, List.set_cons_zero, List.set_cons_succ]
      refine wpAnyH_take (i := 11) (v := ?_) rfl (by kernel_rfl) (by kernel_rfl) (by kernel_rfl) (fun _ _ _ h => h) (Or.inl ⟨by rfl, ?_⟩) (by assumption) ?_
      rotate_left 1
      · intro w hSw; (try dsimp only at hSw); go_simp; try with_reducible rfl
      try simp only [Act.put, List.getElem_toArray, List.getElem_cons_succ, List.getElem_cons_zero, List.setIfInBounds_toArray, List.set_cons_zero, List.set_cons_succ]
      refine wpAnyH_take (i := 12) (v := ?_) rfl (by kernel_rfl) (by kernel_rfl) (by kernel_rfl) (fun _ _ _ h => h) (Or.inl ⟨by rfl, ?_⟩) (by assumption) ?_
      rotate_left 1
      · intro w hSw; (try dsimp only at hSw); go_simp; try with_reducible rfl
      try simp only [Act.put, List.getElem_toArray, List.getElem_cons_succ, List.getElem_cons_zero, List.setIfInBounds_toArray, List.set_cons_zero, List.set_cons_succ]
      refine wpAnyH_ready (rs := [10]) (by kernel_rfl) (by simp) (AllReadyH.cons rfl (fun K hK => ?_) AllReadyH.nil)
      go_simp
      go_at_call 11
      refine (c3 _ (hR2.on K3.below) (hR1.on K3.below)).mono ?_
      rintro e w9 ⟨rfl, b9⟩
      have K4 := Has.call K3 b9
      try simp only []
      refine hK.out _ _ (hS _ K4) (fun hHeld => ?_)
      clear hK K
      try simp only [Act.put, List.getElem_toArray, List.getElem_cons_succ, List.getElem_cons_zero, List.setIfInBounds_toArray, List.set_cons_zero, List.set_cons_succ]
      refine wpAnyH_ready (rs := [13]) (by kernel_rfl) (by simp) (AllReadyH.cons rfl (fun K hK => ?_) AllReadyH.nil)
      go_simp
      go_at_call 11
      refine (c1 _ (hR1.on K4.below) (hR2.on K4.below)).mono ?_
      rintro e w9 ⟨rfl, b9⟩
      have K5 := Has.call K4 b9
      try simp only []
      refine hK.out _ _ (hS _ K5) (fun hHeld => ?_)
      clear hK K
      try simp only [Act.put, List.getElem_toArray, List.getElem_cons_succ, List.getElem_cons_zero, List.setIfInBounds_toArray, List.set_cons_zero, List.set_cons_succ]
      refine wpAnyH_take (i := 14) (v := ?_) rfl (by kernel_rfl) (by kernel_rfl) (by kernel_rfl) (fun _ _ _ h => h) (Or.inl ⟨by rfl, ?_⟩) (by assumption) ?_
      rotate_left 1
      · intro w hSw; (try dsimp only at hSw); go_simp; try with_reducible rfl
      try simp only [Act.put, List.getElem_toArray, List.getElem_cons_succ, List.getElem_cons_zero, List.setIfInBounds_toArray, List.set_cons_zero, List.set_cons_succ]
      refine wpAnyH_take (i := 15) (v := ?_) rfl (by kernel_rfl) (by kernel_rfl) (by kernel_rfl) (fun _ _ _ h => h) (Or.inl ⟨by rfl, ?_⟩) (by assumption) ?_
      rotate_left 1
      · intro w hSw; (try dsimp only at hSw); go_simp; try with_reducible rfl
      try simp only [Act.put, List.getElem_toArray, List.getElem_cons_succ, List.getElem_cons_zero, List.setIfInBounds_toArray, List.set_cons_zero, List.set_cons_succ]
      refine wpAnyH_take (i := 16) (v := ?_) rfl (by kernel_rfl) (by kernel_rfl) (by kernel_rfl) (fun _ _ _ h => h) (Or.inl ⟨by rfl, ?_⟩) (by assumption) ?_
      rotate_left 1
      · intro w hSw; (try dsimp only at hSw); go_simp; try with_reducible rfl
      try simp only [Act.put, List.getElem_toArray, List.getElem_cons_succ, List.getElem_cons_zero, List.setIfInBounds_toArray, List.set_cons_zero, List.set_cons_succ]
      refine wpAnyH_take (i := 17) (v := ?_) rfl (by kernel_rfl) (by kernel_rfl) (by kernel_rfl) (fun _ _ _ h => h) (Or.inl ⟨by rfl, ?_⟩) (by assumption) ?_
      rotate_left 1
      · intro w hSw; (try dsimp only at hSw); go_simp; try with_reducible rfl
      try simp only [Act.put, List.getElem_toArray, List.getElem_cons_succ, List.getElem_cons_zero, List.setIfInBounds_toArray, List.set_cons_zero, List.set_cons_succ]
      refine wpAnyH_take (i := 18) (v := ?_) rfl (by kernel_rfl) (by kernel_rfl) (by kernel_rfl) (fun _ _ _ h => h) (Or.inl ⟨by rfl, ?_⟩) (by assumption) ?_
      rotate_left 1
      · intro w hSw; (try dsimp only at hSw); go_simp; try with_reducible rfl
      try simp only [Act.put, List.getElem_toArray, List.getElem_cons_succ, List.getElem_cons_zero, List.setIfInBounds_toArray, List.set_cons_zero, List.set_cons_succ]
      refine wpAnyH_ready (rs := [19]) (by kernel_rfl) (by simp) (AllReadyH.cons rfl (fun K hK => ?_) AllReadyH.nil)
      go_simp
      go_at_call 11
      refine (c4 _ (hR1.on K5.below) (hR1.on K5.below)).mono ?_
      rintro e w9 ⟨rfl, b9⟩
      have K6 := Has.call K5 b9
      try simp only []
      refine hK.out _ _ (hS _ K6) (fun hHeld => ?_)
      clear hK K
      try simp only [Act.put, List.getElem_toArray, List.getElem_cons_succ, List.getElem_cons_zero, List.setIfInBounds_toArray, List.set_cons_zero, List.set_cons_succ]
      refine wpAnyH_take (i := 20) (v := ?_) rfl (by kernel_rfl) (by kernel_rfl) (by kernel_rfl) (fun _ _ _ h => h) (Or.inl ⟨by rfl, ?_⟩) (by assumption) ?_
      rotate_left 1
      · intro w hSw; (try dsimp only at hSw); go_simp; try with_reducible rfl
      try simp only [Act.put, List.getElem_toArray, List.getElem_cons_succ, List.getElem_cons_zero, List.setIfInBounds_toArray, List.set_cons_zero, List.set_cons_succ]
      refine wpAnyH_take (i := 21) (v := ?_) rfl (by kernel_rfl) (by kernel_rfl) (by kernel_rfl) (fun _ _ _ h => h) (Or.inl ⟨by rfl, ?_⟩) (by assumption) ?_
      rotate_left 1
      · intro w hSw; (try dsimp only at hSw); go_simp; try with_reducible rfl
      try simp only [Act.put, List.getElem_toArray, List.getElem_cons_succ, List.getElem_cons_zero, List.setIfInBounds_toArray, List.set_cons_zero, List.set_cons_succ]
      refine wpAnyH_done (by kernel_rfl) ?_ _
      go_wp2
      go_ret
      exact ⟨by simp, K6.below⟩
theorem proofSame_core (H : Type) (enc : TypeId × Value → H) (W : World) (base : Nat) (args : Array Value) (ds gs : List (DataW H)) (before : List MemPlace)
    (hval : ∀ (j : Nat) t v, Try.f4.params[j]? = some t → args[j]? = some v → Value.okWide Try.prog W .any base t v)
    (hW : DataW.Whole enc Try.prog Try.f4.params.toList Rows.proofSameSpec.vars false W args.toList ds gs before) :
    gs = [] ∧ ds.length = 3 ∧ Calls Try.prog 4 args W (Tells (.bool true) W.heap.size W) := by
  obtain ⟨p, q, hA, hV, -, -, -⟩ := hW
  obtain ⟨rfl, rfl⟩ := trodVars_none hV
  have hA : DataW.TrodAll enc Try.prog W 0 (fun _ => true) true Try.f4.params.toList args.toList ds p := hA
  rw [Try.params4] at hA hval
  obtain ⟨v0, vs0, d0, ds0, p0, ps0, e0, rfl, -, h0, hA⟩ := trodAll_cons hA
  obtain ⟨v1, vs1, d1, ds1, p1, ps1, rfl, rfl, -, h1, hA⟩ := trodAll_cons hA
  obtain ⟨v2, vs2, d2, ds2, p2, ps2, rfl, rfl, -, h2, hA⟩ := trodAll_cons hA
  obtain ⟨rfl, rfl, rfl⟩ := trodAll_nil hA
  obtain rfl : args = #[v0, v1, v2] := Array.ext' e0
  obtain ⟨x, q, A, c, a, rfl, hx, hq, ha, fa, hR1⟩ := open_entry16 (hval 0 31 v0 rfl rfl) h0
  obtain ⟨y, r, B, d, b, rfl, hy, hr, hb, fb, hR2⟩ := open_entry16 (hval 1 31 v1 rfl rfl) h1
  obtain ⟨n, rfl, -, -, -⟩ := open_int Try.underlying22 (hval 2 22 v2 rfl rfl) h2
  exact ⟨rfl, rfl, proofSame_any x y q r A B c d a b n ha hb (fun z hz => (fa z hz).1) (fun z hz => (fb z hz).1) hx.1 hy.1 W hR1 hR2⟩

set_option maxRecDepth 100000 in
theorem proofSame_lifted (os : Os) (started : os.Started) (H : Type) (enc : TypeId × Value → H) :
    ReturnsInHanded {} Try.checked os 4 .any (Rows.proofSameSpec.pre6 enc Try.prog Try.f4 Rows.proofSameRow.domain false) (Rows.proofSameSpec.post enc Try.prog Try.f4 false true false false) := by
  refine returnsInHanded_of_change (C := Try.checked) own_knob started (by kernel_rfl) Try.func4
    (ChangeSpec.witness6 (enc := enc) (C := Try.checked) false ⟨#[], #[.agg #[.bool false, .string ⟨#[]⟩, .string ⟨#[]⟩, .int .u64 0, .int .u64 0, .int .u64 0, .slice none 0 0], .agg #[.bool false, .string ⟨#[]⟩, .string ⟨#[]⟩, .int .u64 0, .int .u64 0, .int .u64 0, .slice none 0 0], .int .u64 0], []⟩ 8 (by kernel_rfl) (by kernel_rfl) (by kernel_rfl) (by kernel_rfl)) ?_
  intro W base args ds gs before hval hW _ _
  obtain ⟨hg, hlen, hc⟩ := proofSame_core H enc W base args ds gs before hval hW
  subst hg
  have hr : (Try.f4.params.toList.all fun t => Try.prog.readableRec t && decide (t < Try.prog.types.size)) = true := by kernel_rfl
  have hread : ∀ t ∈ Try.f4.params.toList, Try.prog.readableRec t = true ∧ t < Try.prog.types.size := fun t ht => by
    have h := List.all_eq_true.1 hr t ht
    rw [Bool.and_eq_true, decide_eq_true_eq] at h
    exact h
  refine hc.mono fun e W' ⟨he, hb⟩ => ?_
  subst he
  match ds, hlen with
  | [d0, d1, d2], _ => exact ⟨_, rfl, law_post laid_out Try.underlying4 rfl hread rfl hW rfl rfl rfl hb⟩

theorem proofSame_holds : Rows.ProofSameSaid :=
  OpenClaim.holds_of_wide 4 Try.f4 rfl rfl rfl rfl rfl rfl rfl ⟨rfl, rfl, rfl, rfl, rfl⟩ rfl rfl rfl rfl rfl (by kernel_rfl) Try.func4 (by kernel_rfl)
    (of_decide_eq_true (by kernel_rfl)) (by unfold Func.isWrapper; first | (rw [if_pos (by decide +kernel)]; kernel_rfl) | (rw [if_neg (by decide +kernel)]; exact ⟨rfl, rfl⟩))
    (fun os started H enc _ => proofSame_lifted os started H enc)

end Go.Proofs.Ytjndabnegmecmaa
