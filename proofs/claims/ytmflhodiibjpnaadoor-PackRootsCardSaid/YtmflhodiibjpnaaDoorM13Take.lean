/- Several of my texts, laid as one. -/
import Derived.Test.YtmflhodiibjpnaaDoorM13Get
import Derived.Test.YtmflhodiibjpnaaDoorM13Wr
import Derived.Test.YtmflhodiibjpnaaDoorM13Dec
/-
  pack, walked: take, of roots.
-/
namespace Go.Proofs.YtmflhodiibjpnaaDoor
set_option linter.unusedVariables false
set_option linter.unusedSimpArgs false
set_option maxRecDepth 10000
open Go.RowKit

set_option maxRecDepth 20000 in
set_option maxHeartbeats 4000000 in
theorem takeR_any (w : World) (g : Nat) (st : StR) (h : InS w g st)  : Calls Tryd.prog 18 #[.agg (rtF), .pointer (some ⟨g, 0, none⟩)] w fun e w' =>
    e = .returned (takeG rtP wrR RtP.zero st).1.val ∧ InS w' g (takeG rtP wrR RtP.zero st).2 ∧ Off (One g) w w' := by
  have hP := h.port
  have hg := h.inside
  have D0 := ((Rp.start h).add 53 (rtF)).add 32 (rtB ⟨#[]⟩ 0 0 0)
  have hb0 : (w.alloc (.cells (rtF) 53)).heap.size = w.heap.size + 1 := by simp
  rw [hb0] at D0
  have c1 := fun u hu => getR_any u g st hu
  obtain ⟨VV, hVV⟩ : ∃ VV, takeG rtP wrR RtP.zero st = VV := ⟨_, rfl⟩
  rw [hVV]
  unfold takeG at hVV
  obtain ⟨V, hd⟩ : ∃ V, rtP st = V := ⟨_, rfl⟩
  have hz : V.1.hash.size ≤ 32 := by rw [← hd]; exact tV_size 32 st
  rw [hd] at c1 hVV
  clear hd
  obtain ⟨⟨xs, xh, xl, xn⟩, s1⟩ := V
  simp only [RtP.val] at c1 hz hVV
  have cS := fun u st2 (hu : InS u g st2) => in_spoil u g st2 hu
  have cT := fun u st2 (hu : InS u g st2) => in_spoilt u g st2 hu
  have c2 := fun u => wrR_any ⟨xs, xh, xl, xn⟩ (by simp only; omega) u
  simp only [RtP.val] at c2
  obtain ⟨E, hE⟩ : ∃ E, wrR ⟨xs, xh, xl, xn⟩ = E := ⟨_, rfl⟩
  rw [hE] at c2 hVV
  clear hE
  have HV := hideIt hVV
  clear hVV
  go_enter Tryd.func18, Tryd.ntmps18
  go_upto_region 1 with fail
  change Code.wp _ _ _ _ ((w.alloc (.cells (rtF) 53)).alloc (.cells (rtB ⟨#[]⟩ 0 0 0) 32))
  have L0 : Below w.heap.size w ((w.alloc (.cells (rtF) 53)).alloc (.cells (rtB ⟨#[]⟩ 0 0 0) 32)) := chainA (chainA (Below.refl _ _) _) _
  obtain ⟨r, hr⟩ : ∃ r, w.heap.size + 1 = r := ⟨_, rfl⟩
  try rw [hb0]
  rw [hr] at D0 ⊢
  generalize (w.alloc (.cells (rtF) 53)).alloc (.cells (rtB ⟨#[]⟩ 0 0 0) 32) = V0 at *
  clear hb0
  obtain ⟨⟨p0, p1, p2, p3⟩, -, hin0⟩ := (D0.box 1).four
  go_upto_region 2 with (first
    | (go_at_call 27; refine (c1 _ D0.inS).mono ?_; rintro e w1 ⟨rfl, t1, k1⟩)
    | fail)
  have hlt : r < w1.heap.size := Nat.lt_of_lt_of_le (D0.box 0).inside k1.size
  have D1 := (D0.read t1 k1).add 32 (rtB xs xh xl xn)
  change Code.wp _ _ _ _ (w1.alloc (.cells (rtB xs xh xl xn) 32))
  have L1 := chainA (Below.refl w1.heap.size w1) (.cells (rtB xs xh xl xn) 32)
  obtain ⟨b, hb⟩ : ∃ b, w1.heap.size = b := ⟨_, rfl⟩
  rw [hb] at hlt
  rw [hb] at D1 ⊢
  generalize w1.alloc (.cells (rtB xs xh xl xn) 32) = V1 at *
  clear p0 p1 p2 p3 hin0 t1 D0
  obtain ⟨⟨p0, p1, p2, p3⟩, -, hin0⟩ := (D1.box 2).four
  have hB := D1.box 0
  have b0 : V1.cell? ⟨b, 0, none⟩ = some (.string xs) := hB.read 0
  have b1 : V1.cell? ⟨b, 1, none⟩ = some (.int .u64 xh) := hB.read 1
  have b2 : V1.cell? ⟨b, 2, none⟩ = some (.int .u64 xl) := hB.read 2
  have b3 : V1.cell? ⟨b, 3, none⟩ = some (.int .i64 xn) := hB.read 3
  have hinb := hB.inside
  have hne : ∀ {cs cs' : Array Value}, ∀ x ∈ [((b, 32, cs) : Blk), (w.heap.size, 53, cs')], x.1 ≠ r := fun x hx => by
    simp only [List.mem_cons, List.not_mem_nil, or_false] at hx
    rcases hx with h | h <;> subst h <;> simp only <;> omega
  by_cases hE : E = 0
  · have hE1 : (E == 0) = true := by simpa using hE
    have hE2 : (E != 0) = false := by simpa using hE
    have e9 := HV.out
    rw [if_pos hE] at e9
    have HE9 := hideIt e9
    clear hE e9
    go_upto_region 4 with (first
      | (go_at_call 31; refine (c2 _).mono ?_; rintro e w2 ⟨rfl, j2⟩)
      | fail)
    have D2 := D1.call j2

    clear p0 p1 p2 p3 hin0 hB hinb b0 b1 b2 b3
    cases s1 with
    | none =>
      have e9 := HE9.out
      rw [if_pos rfl] at e9
      subst e9
      have hR := D2.box 1
      have r0 : w2.cell? ⟨r, 0, none⟩ = some (.string ⟨#[]⟩) := hR.read 0
      have f0 := hR.free 0
      have r1 : w2.cell? ⟨r, 1, none⟩ = some (.int .u64 0) := hR.read 1
      have f1 := hR.free 1
      have r2 : w2.cell? ⟨r, 2, none⟩ = some (.int .u64 0) := hR.read 2
      have f2 := hR.free 2
      have r3 : w2.cell? ⟨r, 3, none⟩ = some (.int .i64 0) := hR.read 3
      have f3 := hR.free 3
      have hinr := hR.inside
      go_wp2_with (first | (go_at_call 10; refine (cT _ _ D2.inS).mono ?_; rintro e w' ⟨rfl, rfl⟩) | fail)
      have D8 := (((((D2.swap.wrote (by decide) hne 0 (.string ⟨#[]⟩)).wrote (by decide) hne 1 (.int .u64 0)).wrote (by decide) hne 2 (.int .u64 0)).wrote (by decide) hne 3 (.int .i64 0))).past (.cells (rtB ⟨#[]⟩ 0 0 0) 32)
      simp only [lfB, rtB, enB, rgB, dfB, List.setIfInBounds_toArray, List.set_cons_zero, List.set_cons_succ] at D8
      generalize World.alloc (World.setCell (World.setCell (World.setCell (World.setCell w2 _ _) _ _) _ _) _ _) _ = Z at *
      have hZ := D8.box 0
      have z0 : Z.cell? ⟨r, 0, none⟩ = some (.string ⟨#[]⟩) := hZ.read 0
      have z1 : Z.cell? ⟨r, 1, none⟩ = some (.int .u64 0) := hZ.read 1
      have z2 : Z.cell? ⟨r, 2, none⟩ = some (.int .u64 0) := hZ.read 2
      have z3 : Z.cell? ⟨r, 3, none⟩ = some (.int .i64 0) := hZ.read 3
      exact bodyPost_ret (v := .agg (rtB ⟨#[]⟩ 0 0 0)) (by simp [results, Tryd.results18, go_sem, z0, z1, z2, z3]) rfl ⟨rfl, D8.inS, D8.off⟩
    | some y =>
      have e9 := HE9.out
      rw [if_neg (by simp)] at e9
      subst e9
      have hR := D2.box 1
      have hB := D2.box 0
      have r0 : w2.cell? ⟨r, 0, none⟩ = some (.string ⟨#[]⟩) := hR.read 0
      have f0 := hR.free 0
      have r1 : w2.cell? ⟨r, 1, none⟩ = some (.int .u64 0) := hR.read 1
      have f1 := hR.free 1
      have r2 : w2.cell? ⟨r, 2, none⟩ = some (.int .u64 0) := hR.read 2
      have f2 := hR.free 2
      have r3 : w2.cell? ⟨r, 3, none⟩ = some (.int .i64 0) := hR.read 3
      have f3 := hR.free 3
      have hinr := hR.inside
      have b0 : w2.cell? ⟨b, 0, none⟩ = some (.string xs) := hB.read 0
      have b1 : w2.cell? ⟨b, 1, none⟩ = some (.int .u64 xh) := hB.read 1
      have b2 : w2.cell? ⟨b, 2, none⟩ = some (.int .u64 xl) := hB.read 2
      have b3 : w2.cell? ⟨b, 3, none⟩ = some (.int .i64 xn) := hB.read 3
      have hinb := hB.inside
      go_wp2_with (first | (go_at_call 10; refine (cT _ _ D2.inS).mono ?_; rintro e w' ⟨rfl, rfl⟩) | fail)
      have D8 := ((((D2.swap.wrote (by decide) hne 0 (.string xs)).wrote (by decide) hne 1 (.int .u64 xh)).wrote (by decide) hne 2 (.int .u64 xl)).wrote (by decide) hne 3 (.int .i64 xn))
      simp only [lfB, rtB, enB, rgB, dfB, List.setIfInBounds_toArray, List.set_cons_zero, List.set_cons_succ] at D8
      generalize World.setCell (World.setCell (World.setCell (World.setCell w2 _ _) _ _) _ _) _ _ = Z at *
      have hZ := D8.box 0
      have z0 : Z.cell? ⟨r, 0, none⟩ = some (.string xs) := hZ.read 0
      have z1 : Z.cell? ⟨r, 1, none⟩ = some (.int .u64 xh) := hZ.read 1
      have z2 : Z.cell? ⟨r, 2, none⟩ = some (.int .u64 xl) := hZ.read 2
      have z3 : Z.cell? ⟨r, 3, none⟩ = some (.int .i64 xn) := hZ.read 3
      exact bodyPost_ret (v := .agg (rtB xs xh xl xn)) (by simp [results, Tryd.results18, go_sem, z0, z1, z2, z3]) rfl ⟨rfl, D8.inS, D8.off⟩
  · have hE1 : (E == 0) = false := by simpa using hE
    have hE2 : (E != 0) = true := by simpa using hE
    have e9 := HV.out
    rw [if_neg hE, if_pos rfl] at e9
    subst e9
    clear hE
    go_upto_region 4 with (first
      | (go_at_call 31; refine (c2 _).mono ?_; rintro e w2 ⟨rfl, j2⟩)
      | (go_at_call 34; refine (cS _ _ (D1.call j2).inS).mono ?_; rintro e w3 ⟨rfl, t3, k3⟩)
      | fail)
    have D3 := (D1.call j2).read t3 k3
    clear p0 p1 p2 p3 hin0 hB hinb b0 b1 b2 b3
    have hR := D3.box 1
    have r0 : w3.cell? ⟨r, 0, none⟩ = some (.string ⟨#[]⟩) := hR.read 0
    have f0 := hR.free 0
    have r1 : w3.cell? ⟨r, 1, none⟩ = some (.int .u64 0) := hR.read 1
    have f1 := hR.free 1
    have r2 : w3.cell? ⟨r, 2, none⟩ = some (.int .u64 0) := hR.read 2
    have f2 := hR.free 2
    have r3 : w3.cell? ⟨r, 3, none⟩ = some (.int .i64 0) := hR.read 3
    have f3 := hR.free 3
    have hinr := hR.inside
    go_wp2_with (first | (go_at_call 10; refine (cT _ _ D3.inS).mono ?_; rintro e w' ⟨rfl, rfl⟩) | fail)
    have D8 := (((((D3.swap.wrote (by decide) hne 0 (.string ⟨#[]⟩)).wrote (by decide) hne 1 (.int .u64 0)).wrote (by decide) hne 2 (.int .u64 0)).wrote (by decide) hne 3 (.int .i64 0))).past (.cells (rtB ⟨#[]⟩ 0 0 0) 32)
    simp only [lfB, rtB, enB, rgB, dfB, List.setIfInBounds_toArray, List.set_cons_zero, List.set_cons_succ] at D8
    generalize World.alloc (World.setCell (World.setCell (World.setCell (World.setCell w3 _ _) _ _) _ _) _ _) _ = Z at *
    have hZ := D8.box 0
    have z0 : Z.cell? ⟨r, 0, none⟩ = some (.string ⟨#[]⟩) := hZ.read 0
    have z1 : Z.cell? ⟨r, 1, none⟩ = some (.int .u64 0) := hZ.read 1
    have z2 : Z.cell? ⟨r, 2, none⟩ = some (.int .u64 0) := hZ.read 2
    have z3 : Z.cell? ⟨r, 3, none⟩ = some (.int .i64 0) := hZ.read 3
    exact bodyPost_ret (v := .agg (rtB ⟨#[]⟩ 0 0 0)) (by simp [results, Tryd.results18, go_sem, z0, z1, z2, z3]) rfl ⟨rfl, D8.inS, D8.off⟩
end Go.Proofs.YtmflhodiibjpnaaDoor
/-
  pack, walked: take, of leaves.
-/
namespace Go.Proofs.YtmflhodiibjpnaaDoor
set_option linter.unusedVariables false
set_option linter.unusedSimpArgs false
set_option maxRecDepth 10000
open Go.RowKit

theorem lfP_ok (st : StR) : (lfP st).1.id.size ≤ 96 ∧ (lfP st).1.salt.size ≤ 32 ∧ (lfP st).1.words := ⟨tV_size 96 _, tV_size 32 _, hl_words _⟩
set_option maxRecDepth 20000 in
set_option maxHeartbeats 4000000 in
theorem takeL_any (w : World) (g : Nat) (st : StR) (h : InS w g st) (hT : ∀ u, Off (One g) w u → TabU u) : Calls Tryd.prog 42 #[.agg (lfF), .pointer (some ⟨g, 0, none⟩)] w fun e w' =>
    e = .returned (takeG lfP wrLf Lf.zero st).1.val ∧ InS w' g (takeG lfP wrLf Lf.zero st).2 ∧ Off (One g) w w' := by
  have hP := h.port
  have hg := h.inside
  have D0 := ((Rp.start h).add 64 (lfF)).add 46 (lfB false ⟨#[]⟩ ⟨#[]⟩ 0 0)
  have hb0 : (w.alloc (.cells (lfF) 64)).heap.size = w.heap.size + 1 := by simp
  rw [hb0] at D0
  have c1 := fun u hu => getL_any u g st hu
  obtain ⟨VV, hVV⟩ : ∃ VV, takeG lfP wrLf Lf.zero st = VV := ⟨_, rfl⟩
  rw [hVV]
  unfold takeG at hVV
  obtain ⟨V, hd⟩ : ∃ V, lfP st = V := ⟨_, rfl⟩
  have hz := lfP_ok st
  rw [hd] at c1 hVV hz
  clear hd
  obtain ⟨⟨xp, xi, xs, xh, xl⟩, s1⟩ := V
  simp only [Lf.val] at c1 hz hVV
  have cS := fun u st2 (hu : InS u g st2) => in_spoil u g st2 hu
  have cT := fun u st2 (hu : InS u g st2) => in_spoilt u g st2 hu
  have c2 := fun u hu => wrL_any ⟨xp, xi, xs, xh, xl⟩ (by simp only; omega) (by simp only; omega) u hu
  simp only [Lf.val] at c2
  obtain ⟨E, hE⟩ : ∃ E, wrLf ⟨xp, xi, xs, xh, xl⟩ = E := ⟨_, rfl⟩
  rw [hE] at c2 hVV
  clear hE
  have HV := hideIt hVV
  clear hVV
  go_enter Tryd.func42, Tryd.ntmps42
  go_upto_region 1 with fail
  change Code.wp _ _ _ _ ((w.alloc (.cells (lfF) 64)).alloc (.cells (lfB false ⟨#[]⟩ ⟨#[]⟩ 0 0) 46))
  have L0 : Below w.heap.size w ((w.alloc (.cells (lfF) 64)).alloc (.cells (lfB false ⟨#[]⟩ ⟨#[]⟩ 0 0) 46)) := chainA (chainA (Below.refl _ _) _) _
  obtain ⟨r, hr⟩ : ∃ r, w.heap.size + 1 = r := ⟨_, rfl⟩
  try rw [hb0]
  rw [hr] at D0 ⊢
  generalize (w.alloc (.cells (lfF) 64)).alloc (.cells (lfB false ⟨#[]⟩ ⟨#[]⟩ 0 0) 46) = V0 at *
  clear hb0
  obtain ⟨⟨p0, p1, p2, p3⟩, -, hin0⟩ := (D0.box 1).four
  go_upto_region 2 with (first
    | (go_at_call 37; refine (c1 _ D0.inS).mono ?_; rintro e w1 ⟨rfl, t1, k1⟩)
    | fail)
  have hlt : r < w1.heap.size := Nat.lt_of_lt_of_le (D0.box 0).inside k1.size
  have D1 := (D0.read t1 k1).add 46 (lfB xp xi xs xh xl)
  change Code.wp _ _ _ _ (w1.alloc (.cells (lfB xp xi xs xh xl) 46))
  have L1 := chainA (Below.refl w1.heap.size w1) (.cells (lfB xp xi xs xh xl) 46)
  obtain ⟨b, hb⟩ : ∃ b, w1.heap.size = b := ⟨_, rfl⟩
  rw [hb] at hlt
  rw [hb] at D1 ⊢
  generalize w1.alloc (.cells (lfB xp xi xs xh xl) 46) = V1 at *
  clear p0 p1 p2 p3 hin0 t1 D0
  obtain ⟨⟨p0, p1, p2, p3⟩, -, hin0⟩ := (D1.box 2).four
  have hB := D1.box 0
  have b0 : V1.cell? ⟨b, 0, none⟩ = some (.bool xp) := hB.read 0
  have b1 : V1.cell? ⟨b, 1, none⟩ = some (.string xi) := hB.read 1
  have b2 : V1.cell? ⟨b, 2, none⟩ = some (.string xs) := hB.read 2
  have b3 : V1.cell? ⟨b, 3, none⟩ = some (.int .u64 xh) := hB.read 3
  have b4 : V1.cell? ⟨b, 4, none⟩ = some (.int .u64 xl) := hB.read 4
  have hinb := hB.inside
  have hne : ∀ {cs cs' : Array Value}, ∀ x ∈ [((b, 46, cs) : Blk), (w.heap.size, 64, cs')], x.1 ≠ r := fun x hx => by
    simp only [List.mem_cons, List.not_mem_nil, or_false] at hx
    rcases hx with h | h <;> subst h <;> simp only <;> omega
  by_cases hE : E = 0
  · have hE1 : (E == 0) = true := by simpa using hE
    have hE2 : (E != 0) = false := by simpa using hE
    have e9 := HV.out
    rw [if_pos hE] at e9
    have HE9 := hideIt e9
    clear hE e9
    go_upto_region 4 with (first
      | (go_at_call 39; refine (c2 _ (hT _ D1.off)).mono ?_; rintro e w2 ⟨rfl, j2⟩)
      | fail)
    have D2 := D1.call j2

    clear p0 p1 p2 p3 hin0 hB hinb b0 b1 b2 b3 b4
    cases s1 with
    | none =>
      have e9 := HE9.out
      rw [if_pos rfl] at e9
      subst e9
      have hR := D2.box 1
      have r0 : w2.cell? ⟨r, 0, none⟩ = some (.bool false) := hR.read 0
      have f0 := hR.free 0
      have r1 : w2.cell? ⟨r, 1, none⟩ = some (.string ⟨#[]⟩) := hR.read 1
      have f1 := hR.free 1
      have r2 : w2.cell? ⟨r, 2, none⟩ = some (.string ⟨#[]⟩) := hR.read 2
      have f2 := hR.free 2
      have r3 : w2.cell? ⟨r, 3, none⟩ = some (.int .u64 0) := hR.read 3
      have f3 := hR.free 3
      have r4 : w2.cell? ⟨r, 4, none⟩ = some (.int .u64 0) := hR.read 4
      have f4 := hR.free 4
      have hinr := hR.inside
      go_wp2_with (first | (go_at_call 10; refine (cT _ _ D2.inS).mono ?_; rintro e w' ⟨rfl, rfl⟩) | fail)
      have D8 := ((((((D2.swap.wrote (by decide) hne 0 (.bool false)).wrote (by decide) hne 1 (.string ⟨#[]⟩)).wrote (by decide) hne 2 (.string ⟨#[]⟩)).wrote (by decide) hne 3 (.int .u64 0)).wrote (by decide) hne 4 (.int .u64 0))).past (.cells (lfB false ⟨#[]⟩ ⟨#[]⟩ 0 0) 46)
      simp only [lfB, rtB, enB, rgB, dfB, List.setIfInBounds_toArray, List.set_cons_zero, List.set_cons_succ] at D8
      generalize World.alloc (World.setCell (World.setCell (World.setCell (World.setCell (World.setCell w2 _ _) _ _) _ _) _ _) _ _) _ = Z at *
      have hZ := D8.box 0
      have z0 : Z.cell? ⟨r, 0, none⟩ = some (.bool false) := hZ.read 0
      have z1 : Z.cell? ⟨r, 1, none⟩ = some (.string ⟨#[]⟩) := hZ.read 1
      have z2 : Z.cell? ⟨r, 2, none⟩ = some (.string ⟨#[]⟩) := hZ.read 2
      have z3 : Z.cell? ⟨r, 3, none⟩ = some (.int .u64 0) := hZ.read 3
      have z4 : Z.cell? ⟨r, 4, none⟩ = some (.int .u64 0) := hZ.read 4
      exact bodyPost_ret (v := .agg (lfB false ⟨#[]⟩ ⟨#[]⟩ 0 0)) (by simp [results, Tryd.results42, go_sem, z0, z1, z2, z3, z4]) rfl ⟨rfl, D8.inS, D8.off⟩
    | some y =>
      have e9 := HE9.out
      rw [if_neg (by simp)] at e9
      subst e9
      have hR := D2.box 1
      have hB := D2.box 0
      have r0 : w2.cell? ⟨r, 0, none⟩ = some (.bool false) := hR.read 0
      have f0 := hR.free 0
      have r1 : w2.cell? ⟨r, 1, none⟩ = some (.string ⟨#[]⟩) := hR.read 1
      have f1 := hR.free 1
      have r2 : w2.cell? ⟨r, 2, none⟩ = some (.string ⟨#[]⟩) := hR.read 2
      have f2 := hR.free 2
      have r3 : w2.cell? ⟨r, 3, none⟩ = some (.int .u64 0) := hR.read 3
      have f3 := hR.free 3
      have r4 : w2.cell? ⟨r, 4, none⟩ = some (.int .u64 0) := hR.read 4
      have f4 := hR.free 4
      have hinr := hR.inside
      have b0 : w2.cell? ⟨b, 0, none⟩ = some (.bool xp) := hB.read 0
      have b1 : w2.cell? ⟨b, 1, none⟩ = some (.string xi) := hB.read 1
      have b2 : w2.cell? ⟨b, 2, none⟩ = some (.string xs) := hB.read 2
      have b3 : w2.cell? ⟨b, 3, none⟩ = some (.int .u64 xh) := hB.read 3
      have b4 : w2.cell? ⟨b, 4, none⟩ = some (.int .u64 xl) := hB.read 4
      have hinb := hB.inside
      go_wp2_with (first | (go_at_call 10; refine (cT _ _ D2.inS).mono ?_; rintro e w' ⟨rfl, rfl⟩) | fail)
      have D8 := (((((D2.swap.wrote (by decide) hne 0 (.bool xp)).wrote (by decide) hne 1 (.string xi)).wrote (by decide) hne 2 (.string xs)).wrote (by decide) hne 3 (.int .u64 xh)).wrote (by decide) hne 4 (.int .u64 xl))
      simp only [lfB, rtB, enB, rgB, dfB, List.setIfInBounds_toArray, List.set_cons_zero, List.set_cons_succ] at D8
      generalize World.setCell (World.setCell (World.setCell (World.setCell (World.setCell w2 _ _) _ _) _ _) _ _) _ _ = Z at *
      have hZ := D8.box 0
      have z0 : Z.cell? ⟨r, 0, none⟩ = some (.bool xp) := hZ.read 0
      have z1 : Z.cell? ⟨r, 1, none⟩ = some (.string xi) := hZ.read 1
      have z2 : Z.cell? ⟨r, 2, none⟩ = some (.string xs) := hZ.read 2
      have z3 : Z.cell? ⟨r, 3, none⟩ = some (.int .u64 xh) := hZ.read 3
      have z4 : Z.cell? ⟨r, 4, none⟩ = some (.int .u64 xl) := hZ.read 4
      exact bodyPost_ret (v := .agg (lfB xp xi xs xh xl)) (by simp [results, Tryd.results42, go_sem, z0, z1, z2, z3, z4]) rfl ⟨rfl, D8.inS, D8.off⟩
  · have hE1 : (E == 0) = false := by simpa using hE
    have hE2 : (E != 0) = true := by simpa using hE
    have e9 := HV.out
    rw [if_neg hE, if_pos rfl] at e9
    subst e9
    clear hE
    go_upto_region 4 with (first
      | (go_at_call 39; refine (c2 _ (hT _ D1.off)).mono ?_; rintro e w2 ⟨rfl, j2⟩)
      | (go_at_call 34; refine (cS _ _ (D1.call j2).inS).mono ?_; rintro e w3 ⟨rfl, t3, k3⟩)
      | fail)
    have D3 := (D1.call j2).read t3 k3
    clear p0 p1 p2 p3 hin0 hB hinb b0 b1 b2 b3 b4
    have hR := D3.box 1
    have r0 : w3.cell? ⟨r, 0, none⟩ = some (.bool false) := hR.read 0
    have f0 := hR.free 0
    have r1 : w3.cell? ⟨r, 1, none⟩ = some (.string ⟨#[]⟩) := hR.read 1
    have f1 := hR.free 1
    have r2 : w3.cell? ⟨r, 2, none⟩ = some (.string ⟨#[]⟩) := hR.read 2
    have f2 := hR.free 2
    have r3 : w3.cell? ⟨r, 3, none⟩ = some (.int .u64 0) := hR.read 3
    have f3 := hR.free 3
    have r4 : w3.cell? ⟨r, 4, none⟩ = some (.int .u64 0) := hR.read 4
    have f4 := hR.free 4
    have hinr := hR.inside
    go_wp2_with (first | (go_at_call 10; refine (cT _ _ D3.inS).mono ?_; rintro e w' ⟨rfl, rfl⟩) | fail)
    have D8 := ((((((D3.swap.wrote (by decide) hne 0 (.bool false)).wrote (by decide) hne 1 (.string ⟨#[]⟩)).wrote (by decide) hne 2 (.string ⟨#[]⟩)).wrote (by decide) hne 3 (.int .u64 0)).wrote (by decide) hne 4 (.int .u64 0))).past (.cells (lfB false ⟨#[]⟩ ⟨#[]⟩ 0 0) 46)
    simp only [lfB, rtB, enB, rgB, dfB, List.setIfInBounds_toArray, List.set_cons_zero, List.set_cons_succ] at D8
    generalize World.alloc (World.setCell (World.setCell (World.setCell (World.setCell (World.setCell w3 _ _) _ _) _ _) _ _) _ _) _ = Z at *
    have hZ := D8.box 0
    have z0 : Z.cell? ⟨r, 0, none⟩ = some (.bool false) := hZ.read 0
    have z1 : Z.cell? ⟨r, 1, none⟩ = some (.string ⟨#[]⟩) := hZ.read 1
    have z2 : Z.cell? ⟨r, 2, none⟩ = some (.string ⟨#[]⟩) := hZ.read 2
    have z3 : Z.cell? ⟨r, 3, none⟩ = some (.int .u64 0) := hZ.read 3
    have z4 : Z.cell? ⟨r, 4, none⟩ = some (.int .u64 0) := hZ.read 4
    exact bodyPost_ret (v := .agg (lfB false ⟨#[]⟩ ⟨#[]⟩ 0 0)) (by simp [results, Tryd.results42, go_sem, z0, z1, z2, z3, z4]) rfl ⟨rfl, D8.inS, D8.off⟩
end Go.Proofs.YtmflhodiibjpnaaDoor
