/-
  block.Unround and First, walked.
-/
import Derived.Test.YtlceniljnejjeaaDoorU4Round
import Derived.StillTail
namespace Go.Proofs.YtlceniljnejjeaaDoor
set_option linter.unusedVariables false
set_option linter.unusedSimpArgs false
open Go.RowKit

theorem far8v (W : World) {g g' : Nat} (h : g ≠ g') (i : Nat) (v0 v1 v2 v3 v4 v5 v6 v7 : Value) : (set8v W g v0 v1 v2 v3 v4 v5 v6 v7).cell? ⟨g', i, none⟩ = W.cell? ⟨g', i, none⟩ := by
  have f : ∀ (u : World) (j : Nat) (v : Value), (u.setCell ⟨g, j, none⟩ v).cell? ⟨g', i, none⟩ = u.cell? ⟨g', i, none⟩ := fun u j v => World.cell?_setCell_far u ⟨g, j, none⟩ ⟨g', i, none⟩ v h
  simp only [set8v, f]

theorem st0_iv : iv st0.a = 1779033703 ∧ iv st0.b = 3144134277 ∧ iv st0.c = 1013904242 ∧ iv st0.d = 2773480762 ∧ iv st0.e = 1359893119 ∧ iv st0.f = 2600822924 ∧ iv st0.g = 528734635 ∧ iv st0.h = 1541459225 := by decide +kernel
set_option maxHeartbeats 1000000 in
theorem first_any (w : World) : Calls Tryd.prog 18 #[] w (Tells (.agg #[.int .u32 (iv st0.a), .int .u32 (iv st0.b), .int .u32 (iv st0.c), .int .u32 (iv st0.d), .int .u32 (iv st0.e), .int .u32 (iv st0.f), .int .u32 (iv st0.g), .int .u32 (iv st0.h)]) w.heap.size w) := by
  have H0 : Has w [(w.heap.size, 24, St.cs ⟨0, 0, 0, 0, 0, 0, 0, 0⟩)] (w.alloc (.cells (St.cs ⟨0, 0, 0, 0, 0, 0, 0, 0⟩) 24)) := (Has.start w).add 24 (St.cs ⟨0, 0, 0, 0, 0, 0, 0, 0⟩)
  go_enter Tryd.func18, Tryd.ntmps18
  go_wp2
  obtain ⟨i0, i1, i2, i3, i4, i5, i6, i7⟩ := st0_iv
  exact bodyPost_ret (v := .agg #[.int .u32 (iv st0.a), .int .u32 (iv st0.b), .int .u32 (iv st0.c), .int .u32 (iv st0.d), .int .u32 (iv st0.e), .int .u32 (iv st0.f), .int .u32 (iv st0.g), .int .u32 (iv st0.h)]) (by simp [results, Tryd.results18, go_sem, i0, i1, i2, i3, i4, i5, i6, i7]) rfl ⟨rfl, (Below.refl _ _).alloc (Nat.le_refl _) _⟩

set_option maxHeartbeats 4000000 in
theorem unround_any (s : St) (k : Int) (x : B32) (w : World) (hT : Tab w) : Calls Tryd.prog 15 #[.agg #[.int .u32 (iv s.a), .int .u32 (iv s.b), .int .u32 (iv s.c), .int .u32 (iv s.d), .int .u32 (iv s.e), .int .u32 (iv s.f), .int .u32 (iv s.g), .int .u32 (iv s.h)], .int .i64 k, .int .u32 (iv x)] w (Tells (.agg #[.int .u32 (iv (unturned s (kAt k) x).a), .int .u32 (iv (unturned s (kAt k) x).b), .int .u32 (iv (unturned s (kAt k) x).c), .int .u32 (iv (unturned s (kAt k) x).d), .int .u32 (iv (unturned s (kAt k) x).e), .int .u32 (iv (unturned s (kAt k) x).f), .int .u32 (iv (unturned s (kAt k) x).g), .int .u32 (iv (unturned s (kAt k) x).h)]) w.heap.size w) := by
  have cU := fun u => upper_any s.f s.g s.h u
  have cL := fun u => lower_any s.b s.c s.d u
  have H0 : Has w [(w.heap.size + 1, 24, St.cs ⟨0, 0, 0, 0, 0, 0, 0, 0⟩), (w.heap.size, 24, s.cs)] ((w.alloc (.cells #[.int .u32 (iv s.a), .int .u32 (iv s.b), .int .u32 (iv s.c), .int .u32 (iv s.d), .int .u32 (iv s.e), .int .u32 (iv s.f), .int .u32 (iv s.g), .int .u32 (iv s.h)] 24)).alloc (.cells (St.cs ⟨0, 0, 0, 0, 0, 0, 0, 0⟩) 24)) :=
    ((Has.start w).add 24 #[.int .u32 (iv s.a), .int .u32 (iv s.b), .int .u32 (iv s.c), .int .u32 (iv s.d), .int .u32 (iv s.e), .int .u32 (iv s.f), .int .u32 (iv s.g), .int .u32 (iv s.h)]).addAt 24 (St.cs ⟨0, 0, 0, 0, 0, 0, 0, 0⟩) (by simp)
  go_enter Tryd.func15, Tryd.ntmps15
  go_wp2
  generalize hW : World.alloc (World.alloc _ _) _ = W
  have H : Has w [(w.heap.size + 1, 24, St.cs ⟨0, 0, 0, 0, 0, 0, 0, 0⟩), (w.heap.size, 24, s.cs)] W := by rw [← hW]; exact H0
  clear H0 hW
  have hTW := hT.call H.below
  obtain ⟨r0, r1, r2, r3, r4, r5, r6, r7⟩ := (H.box 1).st
  have hg1 := (H.box 1).inside
  have hg0 := (H.box 0).inside
  go_quiet (fail)
  have hT2 : Tab (W.drewN nq) := hTW
  have H2 := H.drewN nq
  clear H r0 r1 r2 r3 r4 r5 r6 r7 hTW hT
  generalize World.drewN _ _ = W2 at *
  obtain ⟨r0, r1, r2, r3, r4, r5, r6, r7⟩ := (H2.box 1).st
  go_wp2
  go_region_held3 (fun w' => w'.cell? ⟨w.heap.size, 0, none⟩ = some (.int .u32 (iv s.a)))
    (first | exact r0 | fail)
    (first
      | (go_at_call 43; refine (cL _).mono ?_; rintro e w' ⟨rfl, rfl⟩)
      | fail)
  simp only [iv_sub]
  have H3 := H2.drew
  have hT3 : Tab W2.drew := hT2
  clear r0 r1 r2 r3 r4 r5 r6 r7 H2 hT2
  generalize World.drew _ = W3 at *
  have fact4 : ∀ u, Has w [(w.heap.size + 1, 24, St.cs ⟨0, 0, 0, 0, 0, 0, 0, 0⟩), (w.heap.size, 24, s.cs)] u → u.cell? ⟨w.heap.size, 4, none⟩ = some (.int .u32 (iv s.e)) := fun u h => (h.box 1).read 4
  have r4 := fact4 _ H3
  clear fact4
  have cK : ∀ u, Tab u → Calls Tryd.prog 16 #[.int .i64 k] u fun e w'' => e = .returned (.int .u32 (iv (kAt k))) ∧ w'' = u := fun u hu => (const_any k u hu).mono fun e w'' h => ⟨h.1, h.2.symm⟩
  have cU2 : ∀ u, Calls Tryd.prog 42 #[.int .u32 (iv s.f), .int .u32 (iv s.g), .int .u32 (iv s.h)] u fun e w'' => e = .returned (.int .u32 (iv (sum1 s.f + chB s.f s.g s.h))) ∧ w'' = u := fun u => (cU u).mono fun e w'' h => ⟨h.1, h.2.symm⟩
  clear cU cL
  generalize kAt k = kc at *
  have CU := hideIt cU2
  have CK := hideIt cK
  clear cU2 cK
  go_wp2
  refine wp_region_still_tail 22 (by kernel_rfl) (by kernel_rfl) ?_
  simp only [List.take_succ_cons, List.take_zero, List.drop_succ_cons, List.drop_zero]
  iterate 14 (refine wpStill_step (fun K hK => ?_); go_simp; refine hK _ ?_; clear hK K)
  (refine wpStill_step (fun K hK => ?_); go_simp; refine ⟨_, CU.out _, hK _ ?_⟩; clear hK K)
  iterate 2 (refine wpStill_step (fun K hK => ?_); go_simp; refine hK _ ?_; clear hK K)
  (refine wpStill_step (fun K hK => ?_); go_simp; refine ⟨_, CK.out _ hT3, hK _ ?_⟩; clear hK K)
  iterate 4 (refine wpStill_step (fun K hK => ?_); go_simp; refine hK _ ?_; clear hK K)
  refine wpStill_nil ?_
  change wpList _ _ _ _ _ W3.drew
  simp only [iv_sub]
  have H4 := H3.drew
  clear H3 hT3 r4 CU CK
  generalize World.drew _ = W4 at *
  obtain ⟨z0, z1, z2, z3, z4, z5, z6, z7, z8⟩ := (H4.box 0).eight
  obtain ⟨y0, y1, y2, y3, y4, y5, y6, y7⟩ := (H4.box 0).st
  go_wp2
  generalize hX : World.setCell (World.setCell _ _ _) _ _ = X
  have hbx : Box X (w.heap.size + 1) 24 (unturned s kc x).cs := by rw [← hX]; exact Box.wrote8 (H4.box 0) (unturned s kc x)
  have hbl : Below w.heap.size w X := by rw [← hX]; exact below_set8 H4.below (by omega) (unturned s kc x)
  clear hX y0 y1 y2 y3 y4 y5 y6 y7 z0 z1 z2 z3 z4 z5 z6 z7 z8
  obtain ⟨x0, x1, x2, x3, x4, x5, x6, x7⟩ := hbx.st
  have hgx := hbx.inside
  exact bodyPost_ret (v := .agg #[.int .u32 (iv (unturned s kc x).a), .int .u32 (iv (unturned s kc x).b), .int .u32 (iv (unturned s kc x).c), .int .u32 (iv (unturned s kc x).d), .int .u32 (iv (unturned s kc x).e), .int .u32 (iv (unturned s kc x).f), .int .u32 (iv (unturned s kc x).g), .int .u32 (iv (unturned s kc x).h)]) (by simp [results, Tryd.results15, go_sem, x0, x1, x2, x3, x4, x5, x6, x7]) rfl ⟨rfl, hbl⟩
end Go.Proofs.YtlceniljnejjeaaDoor
