/- Several of my texts, laid as one. -/
import Derived.Test.YtmflhodiibjpnaaGreatDoorM13Get
import Derived.Test.YtmflhodiibjpnaaGreatDoorM13Wr
import Derived.Test.YtmflhodiibjpnaaGreatDoorM13Dec
/-
  pack, walked: take, of roots.
-/
namespace Go.Proofs.YtmflhodiibjpnaaGreatDoor
set_option linter.unusedVariables false
set_option linter.unusedSimpArgs false
set_option maxRecDepth 10000
open Go.RowKit

set_option maxRecDepth 20000 in
set_option maxHeartbeats 4000000 in
theorem takeR_any (w : World) (g : Nat) (st : StR) (h : InS w g st)  : Calls Tryz.prog 71 #[.agg (rtF), .pointer (some ⟨g, 0, none⟩)] w fun e w' =>
    e = .returned (takeG rtP wrR RtP.zero st).1.val ∧ InS w' g (takeG rtP wrR RtP.zero st).2 ∧ Off (One g) w w' := by
  have hP := h.port
  have hg := h.inside
  have D0 := ((Rp.start h).add 109 (rtF)).add 26 (rtB ⟨#[]⟩ 0 0 0)
  have hb0 : (w.alloc (.cells (rtF) 109)).heap.size = w.heap.size + 1 := by simp
  rw [hb0] at D0
  have c1 := fun u hu => getR_any u g st hu
  obtain ⟨VV, hVV⟩ : ∃ VV, takeG rtP wrR RtP.zero st = VV := ⟨_, rfl⟩
  rw [hVV]
  unfold takeG at hVV
  obtain ⟨V, hd⟩ : ∃ V, rtP st = V := ⟨_, rfl⟩
  have hz : V.1.hash.size ≤ 32 := by rw [← hd]; exact tV_size 32 st
  rw [hd] at c1 hVV
  clear hd
  obtain ⟨⟨xs, xh, xl, xn⟩, s1⟩ := V
  simp only [RtP.val] at c1 hz hVV
  have cS := fun u st2 (hu : InS u g st2) => in_spoil u g st2 hu
  have cT := fun u st2 (hu : InS u g st2) => in_spoilt u g st2 hu
  have c2 := fun u => wrR_any ⟨xs, xh, xl, xn⟩ (by simp only; omega) u
  simp only [RtP.val] at c2
  obtain ⟨E, hE⟩ : ∃ E, wrR ⟨xs, xh, xl, xn⟩ = E := ⟨_, rfl⟩
  rw [hE] at c2 hVV
  clear hE
  have HV := hideIt hVV
  clear hVV
  go_enter Tryz.func71, Tryz.ntmps71
  go_upto_region 1 with fail
  change Code.wp _ _ _ _ ((w.alloc (.cells (rtF) 109)).alloc (.cells (rtB ⟨#[]⟩ 0 0 0) 26))
  have L0 : Below w.heap.size w ((w.alloc (.cells (rtF) 109)).alloc (.cells (rtB ⟨#[]⟩ 0 0 0) 26)) := chainA (chainA (Below.refl _ _) _) _
  obtain ⟨r, hr⟩ : ∃ r, w.heap.size + 1 = r := ⟨_, rfl⟩
  try rw [hb0]
  rw [hr] at D0 ⊢
  generalize (w.alloc (.cells (rtF) 109)).alloc (.cells (rtB ⟨#[]⟩ 0 0 0) 26) = V0 at *
  clear hb0
  obtain ⟨⟨p0, p1, p2, p3⟩, -, hin0⟩ := (D0.box 1).four
  go_upto_region 2 with (first
    | (go_at_call 90; refine (c1 _ D0.inS).mono ?_; rintro e w1 ⟨rfl, t1, k1⟩)
    | fail)
  have hlt : r < w1.heap.size := Nat.lt_of_lt_of_le (D0.box 0).inside k1.size
  have D1 := (D0.read t1 k1).add 26 (rtB xs xh xl xn)
  change Code.wp _ _ _ _ (w1.alloc (.cells (rtB xs xh xl xn) 26))
  have L1 := chainA (Below.refl w1.heap.size w1) (.cells (rtB xs xh xl xn) 26)
  obtain ⟨b, hb⟩ : ∃ b, w1.heap.size = b := ⟨_, rfl⟩
  rw [hb] at hlt
  rw [hb] at D1 ⊢
  generalize w1.alloc (.cells (rtB xs xh xl xn) 26) = V1 at *
  clear p0 p1 p2 p3 hin0 t1 D0
  obtain ⟨⟨p0, p1, p2, p3⟩, -, hin0⟩ := (D1.box 2).four
  have hB := D1.box 0
  have b0 : V1.cell? ⟨b, 0, none⟩ = some (.string xs) := hB.read 0
  have b1 : V1.cell? ⟨b, 1, none⟩ = some (.int .u64 xh) := hB.read 1
  have b2 : V1.cell? ⟨b, 2, none⟩ = some (.int .u64 xl) := hB.read 2
  have b3 : V1.cell? ⟨b, 3, none⟩ = some (.int .i64 xn) := hB.read 3
  have hinb := hB.inside
  have hne : ∀ {cs cs' : Array Value}, ∀ x ∈ [((b, 26, cs) : Blk), (w.heap.size, 109, cs')], x.1 ≠ r := fun x hx => by
    simp only [List.mem_cons, List.not_mem_nil, or_false] at hx
    rcases hx with h | h <;> subst h <;> simp only <;> omega
  by_cases hE : E = 0
  · have hE1 : (E == 0) = true := by simpa using hE
    have hE2 : (E != 0) = false := by simpa using hE
    have e9 := HV.out
    rw [if_pos hE] at e9
    have HE9 := hideIt e9
    clear hE e9
    go_upto_region 4 with (first
      | (go_at_call 94; refine (c2 _).mono ?_; rintro e w2 ⟨rfl, j2⟩)
      | fail)
    have D2 := D1.call j2

    clear p0 p1 p2 p3 hin0 hB hinb b0 b1 b2 b3
    cases s1 with
    | none =>
      have e9 := HE9.out
      rw [if_pos rfl] at e9
      subst e9
      have hR := D2.box 1
      have r0 : w2.cell? ⟨r, 0, none⟩ = some (.string ⟨#[]⟩) := hR.read 0
      have f0 := hR.free 0
      have r1 : w2.cell? ⟨r, 1, none⟩ = some (.int .u64 0) := hR.read 1
      have f1 := hR.free 1
      have r2 : w2.cell? ⟨r, 2, none⟩ = some (.int .u64 0) := hR.read 2
      have f2 := hR.free 2
      have r3 : w2.cell? ⟨r, 3, none⟩ = some (.int .i64 0) := hR.read 3
      have f3 := hR.free 3
      have hinr := hR.inside
      go_wp2_with (first | (go_at_call 33; refine (cT _ _ D2.inS).mono ?_; rintro e w' ⟨rfl, rfl⟩) | fail)
      have D8 := (((((D2.swap.wrote (by decide) hne 0 (.string ⟨#[]⟩)).wrote (by decide) hne 1 (.int .u64 0)).wrote (by decide) hne 2 (.int .u64 0)).wrote (by decide) hne 3 (.int .i64 0))).past (.cells (rtB ⟨#[]⟩ 0 0 0) 26)
      simp only [lfB, rtB, enB, rgB, dfB, List.setIfInBounds_toArray, List.set_cons_zero, List.set_cons_succ] at D8
      generalize World.alloc (World.setCell (World.setCell (World.setCell (World.setCell w2 _ _) _ _) _ _) _ _) _ = Z at *
      have hZ := D8.box 0
      have z0 : Z.cell? ⟨r, 0, none⟩ = some (.string ⟨#[]⟩) := hZ.read 0
      have z1 : Z.cell? ⟨r, 1, none⟩ = some (.int .u64 0) := hZ.read 1
      have z2 : Z.cell? ⟨r, 2, none⟩ = some (.int .u64 0) := hZ.read 2
      have z3 : Z.cell? ⟨r, 3, none⟩ = some (.int .i64 0) := hZ.read 3
      exact bodyPost_ret (v := .agg (rtB ⟨#[]⟩ 0 0 0)) (by simp [results, Tryz.results71, go_sem, z0, z1, z2, z3]) rfl ⟨rfl, D8.inS, D8.off⟩
    | some y =>
      have e9 := HE9.out
      rw [if_neg (by simp)] at e9
      subst e9
      have hR := D2.box 1
      have hB := D2.box 0
      have r0 : w2.cell? ⟨r, 0, none⟩ = some (.string ⟨#[]⟩) := hR.read 0
      have f0 := hR.free 0
      have r1 : w2.cell? ⟨r, 1, none⟩ = some (.int .u64 0) := hR.read 1
      have f1 := hR.free 1
      have r2 : w2.cell? ⟨r, 2, none⟩ = some (.int .u64 0) := hR.read 2
      have f2 := hR.free 2
      have r3 : w2.cell? ⟨r, 3, none⟩ = some (.int .i64 0) := hR.read 3
      have f3 := hR.free 3
      have hinr := hR.inside
      have b0 : w2.cell? ⟨b, 0, none⟩ = some (.string xs) := hB.read 0
      have b1 : w2.cell? ⟨b, 1, none⟩ = some (.int .u64 xh) := hB.read 1
      have b2 : w2.cell? ⟨b, 2, none⟩ = some (.int .u64 xl) := hB.read 2
      have b3 : w2.cell? ⟨b, 3, none⟩ = some (.int .i64 xn) := hB.read 3
      have hinb := hB.inside
      go_wp2_with (first | (go_at_call 33; refine (cT _ _ D2.inS).mono ?_; rintro e w' ⟨rfl, rfl⟩) | fail)
      have D8 := ((((D2.swap.wrote (by decide) hne 0 (.string xs)).wrote (by decide) hne 1 (.int .u64 xh)).wrote (by decide) hne 2 (.int .u64 xl)).wrote (by decide) hne 3 (.int .i64 xn))
      simp only [lfB, rtB, enB, rgB, dfB, List.setIfInBounds_toArray, List.set_cons_zero, List.set_cons_succ] at D8
      generalize World.setCell (World.setCell (World.setCell (World.setCell w2 _ _) _ _) _ _) _ _ = Z at *
      have hZ := D8.box 0
      have z0 : Z.cell? ⟨r, 0, none⟩ = some (.string xs) := hZ.read 0
      have z1 : Z.cell? ⟨r, 1, none⟩ = some (.int .u64 xh) := hZ.read 1
      have z2 : Z.cell? ⟨r, 2, none⟩ = some (.int .u64 xl) := hZ.read 2
      have z3 : Z.cell? ⟨r, 3, none⟩ = some (.int .i64 xn) := hZ.read 3
      exact bodyPost_ret (v := .agg (rtB xs xh xl xn)) (by simp [results, Tryz.results71, go_sem, z0, z1, z2, z3]) rfl ⟨rfl, D8.inS, D8.off⟩
  · have hE1 : (E == 0) = false := by simpa using hE
    have hE2 : (E != 0) = true := by simpa using hE
    have e9 := HV.out
    rw [if_neg hE, if_pos rfl] at e9
    subst e9
    clear hE
    go_upto_region 4 with (first
      | (go_at_call 94; refine (c2 _).mono ?_; rintro e w2 ⟨rfl, j2⟩)
      | (go_at_call 121; refine (cS _ _ (D1.call j2).inS).mono ?_; rintro e w3 ⟨rfl, t3, k3⟩)
      | fail)
    have D3 := (D1.call j2).read t3 k3
    clear p0 p1 p2 p3 hin0 hB hinb b0 b1 b2 b3
    have hR := D3.box 1
    have r0 : w3.cell? ⟨r, 0, none⟩ = some (.string ⟨#[]⟩) := hR.read 0
    have f0 := hR.free 0
    have r1 : w3.cell? ⟨r, 1, none⟩ = some (.int .u64 0) := hR.read 1
    have f1 := hR.free 1
    have r2 : w3.cell? ⟨r, 2, none⟩ = some (.int .u64 0) := hR.read 2
    have f2 := hR.free 2
    have r3 : w3.cell? ⟨r, 3, none⟩ = some (.int .i64 0) := hR.read 3
    have f3 := hR.free 3
    have hinr := hR.inside
    go_wp2_with (first | (go_at_call 33; refine (cT _ _ D3.inS).mono ?_; rintro e w' ⟨rfl, rfl⟩) | fail)
    have D8 := (((((D3.swap.wrote (by decide) hne 0 (.string ⟨#[]⟩)).wrote (by decide) hne 1 (.int .u64 0)).wrote (by decide) hne 2 (.int .u64 0)).wrote (by decide) hne 3 (.int .i64 0))).past (.cells (rtB ⟨#[]⟩ 0 0 0) 26)
    simp only [lfB, rtB, enB, rgB, dfB, List.setIfInBounds_toArray, List.set_cons_zero, List.set_cons_succ] at D8
    generalize World.alloc (World.setCell (World.setCell (World.setCell (World.setCell w3 _ _) _ _) _ _) _ _) _ = Z at *
    have hZ := D8.box 0
    have z0 : Z.cell? ⟨r, 0, none⟩ = some (.string ⟨#[]⟩) := hZ.read 0
    have z1 : Z.cell? ⟨r, 1, none⟩ = some (.int .u64 0) := hZ.read 1
    have z2 : Z.cell? ⟨r, 2, none⟩ = some (.int .u64 0) := hZ.read 2
    have z3 : Z.cell? ⟨r, 3, none⟩ = some (.int .i64 0) := hZ.read 3
    exact bodyPost_ret (v := .agg (rtB ⟨#[]⟩ 0 0 0)) (by simp [results, Tryz.results71, go_sem, z0, z1, z2, z3]) rfl ⟨rfl, D8.inS, D8.off⟩
end Go.Proofs.YtmflhodiibjpnaaGreatDoor
/-
  pack, walked: take, of leaves.
-/
namespace Go.Proofs.YtmflhodiibjpnaaGreatDoor
set_option linter.unusedVariables false
set_option linter.unusedSimpArgs false
set_option maxRecDepth 10000
open Go.RowKit

theorem lfP_ok (st : StR) : (lfP st).1.id.size ≤ 96 ∧ (lfP st).1.salt.size ≤ 32 ∧ (lfP st).1.words := ⟨tV_size 96 _, tV_size 32 _, hl_words _⟩
set_option maxRecDepth 20000 in
set_option maxHeartbeats 4000000 in
theorem takeL_any (w : World) (g : Nat) (st : StR) (h : InS w g st) (hT : ∀ u, Off (One g) w u → TabU u) : Calls Tryz.prog 128 #[.agg (lfF), .pointer (some ⟨g, 0, none⟩)] w fun e w' =>
    e = .returned (takeG lfP wrLf Lf.zero st).1.val ∧ InS w' g (takeG lfP wrLf Lf.zero st).2 ∧ Off (One g) w w' := by
  have hP := h.port
  have hg := h.inside
  have D0 := ((Rp.start h).add 118 (lfF)).add 28 (lfB false ⟨#[]⟩ ⟨#[]⟩ 0 0)
  have hb0 : (w.alloc (.cells (lfF) 118)).heap.size = w.heap.size + 1 := by simp
  rw [hb0] at D0
  have c1 := fun u hu => getL_any u g st hu
  obtain ⟨VV, hVV⟩ : ∃ VV, takeG lfP wrLf Lf.zero st = VV := ⟨_, rfl⟩
  rw [hVV]
  unfold takeG at hVV
  obtain ⟨V, hd⟩ : ∃ V, lfP st = V := ⟨_, rfl⟩
  have hz := lfP_ok st
  rw [hd] at c1 hVV hz
  clear hd
  obtain ⟨⟨xp, xi, xs, xh, xl⟩, s1⟩ := V
  simp only [Lf.val] at c1 hz hVV
  have cS := fun u st2 (hu : InS u g st2) => in_spoil u g st2 hu
  have cT := fun u st2 (hu : InS u g st2) => in_spoilt u g st2 hu
  have c2 := fun u hu => wrL_any ⟨xp, xi, xs, xh, xl⟩ (by simp only; omega) (by simp only; omega) u hu
  simp only [Lf.val] at c2
  obtain ⟨E, hE⟩ : ∃ E, wrLf ⟨xp, xi, xs, xh, xl⟩ = E := ⟨_, rfl⟩
  rw [hE] at c2 hVV
  clear hE
  have HV := hideIt hVV
  clear hVV
  go_enter Tryz.func128, Tryz.ntmps128
  go_upto_region 1 with fail
  change Code.wp _ _ _ _ ((w.alloc (.cells (lfF) 118)).alloc (.cells (lfB false ⟨#[]⟩ ⟨#[]⟩ 0 0) 28))
  have L0 : Below w.heap.size w ((w.alloc (.cells (lfF) 118)).alloc (.cells (lfB false ⟨#[]⟩ ⟨#[]⟩ 0 0) 28)) := chainA (chainA (Below.refl _ _) _) _
  obtain ⟨r, hr⟩ : ∃ r, w.heap.size + 1 = r := ⟨_, rfl⟩
  try rw [hb0]
  rw [hr] at D0 ⊢
  generalize (w.alloc (.cells (lfF) 118)).alloc (.cells (lfB false ⟨#[]⟩ ⟨#[]⟩ 0 0) 28) = V0 at *
  clear hb0
  obtain ⟨⟨p0, p1, p2, p3⟩, -, hin0⟩ := (D0.box 1).four
  go_upto_region 2 with (first
    | (go_at_call 99; refine (c1 _ D0.inS).mono ?_; rintro e w1 ⟨rfl, t1, k1⟩)
    | fail)
  have hlt : r < w1.heap.size := Nat.lt_of_lt_of_le (D0.box 0).inside k1.size
  have D1 := (D0.read t1 k1).add 28 (lfB xp xi xs xh xl)
  change Code.wp _ _ _ _ (w1.alloc (.cells (lfB xp xi xs xh xl) 28))
  have L1 := chainA (Below.refl w1.heap.size w1) (.cells (lfB xp xi xs xh xl) 28)
  obtain ⟨b, hb⟩ : ∃ b, w1.heap.size = b := ⟨_, rfl⟩
  rw [hb] at hlt
  rw [hb] at D1 ⊢
  generalize w1.alloc (.cells (lfB xp xi xs xh xl) 28) = V1 at *
  clear p0 p1 p2 p3 hin0 t1 D0
  obtain ⟨⟨p0, p1, p2, p3⟩, -, hin0⟩ := (D1.box 2).four
  have hB := D1.box 0
  have b0 : V1.cell? ⟨b, 0, none⟩ = some (.bool xp) := hB.read 0
  have b1 : V1.cell? ⟨b, 1, none⟩ = some (.string xi) := hB.read 1
  have b2 : V1.cell? ⟨b, 2, none⟩ = some (.string xs) := hB.read 2
  have b3 : V1.cell? ⟨b, 3, none⟩ = some (.int .u64 xh) := hB.read 3
  have b4 : V1.cell? ⟨b, 4, none⟩ = some (.int .u64 xl) := hB.read 4
  have hinb := hB.inside
  have hne : ∀ {cs cs' : Array Value}, ∀ x ∈ [((b, 28, cs) : Blk), (w.heap.size, 118, cs')], x.1 ≠ r := fun x hx => by
    simp only [List.mem_cons, List.not_mem_nil, or_false] at hx
    rcases hx with h | h <;> subst h <;> simp only <;> omega
  by_cases hE : E = 0
  · have hE1 : (E == 0) = true := by simpa using hE
    have hE2 : (E != 0) = false := by simpa using hE
    have e9 := HV.out
    rw [if_pos hE] at e9
    have HE9 := hideIt e9
    clear hE e9
    go_upto_region 4 with (first
      | (go_at_call 101; refine (c2 _ (hT _ D1.off)).mono ?_; rintro e w2 ⟨rfl, j2⟩)
      | fail)
    have D2 := D1.call j2

    clear p0 p1 p2 p3 hin0 hB hinb b0 b1 b2 b3 b4
    cases s1 with
    | none =>
      have e9 := HE9.out
      rw [if_pos rfl] at e9
      subst e9
      have hR := D2.box 1
      have r0 : w2.cell? ⟨r, 0, none⟩ = some (.bool false) := hR.read 0
      have f0 := hR.free 0
      have r1 : w2.cell? ⟨r, 1, none⟩ = some (.string ⟨#[]⟩) := hR.read 1
      have f1 := hR.free 1
      have r2 : w2.cell? ⟨r, 2, none⟩ = some (.string ⟨#[]⟩) := hR.read 2
      have f2 := hR.free 2
      have r3 : w2.cell? ⟨r, 3, none⟩ = some (.int .u64 0) := hR.read 3
      have f3 := hR.free 3
      have r4 : w2.cell? ⟨r, 4, none⟩ = some (.int .u64 0) := hR.read 4
      have f4 := hR.free 4
      have hinr := hR.inside
      go_wp2_with (first | (go_at_call 33; refine (cT _ _ D2.inS).mono ?_; rintro e w' ⟨rfl, rfl⟩) | fail)
      have D8 := ((((((D2.swap.wrote (by decide) hne 0 (.bool false)).wrote (by decide) hne 1 (.string ⟨#[]⟩)).wrote (by decide) hne 2 (.string ⟨#[]⟩)).wrote (by decide) hne 3 (.int .u64 0)).wrote (by decide) hne 4 (.int .u64 0))).past (.cells (lfB false ⟨#[]⟩ ⟨#[]⟩ 0 0) 28)
      simp only [lfB, rtB, enB, rgB, dfB, List.setIfInBounds_toArray, List.set_cons_zero, List.set_cons_succ] at D8
      generalize World.alloc (World.setCell (World.setCell (World.setCell (World.setCell (World.setCell w2 _ _) _ _) _ _) _ _) _ _) _ = Z at *
      have hZ := D8.box 0
      have z0 : Z.cell? ⟨r, 0, none⟩ = some (.bool false) := hZ.read 0
      have z1 : Z.cell? ⟨r, 1, none⟩ = some (.string ⟨#[]⟩) := hZ.read 1
      have z2 : Z.cell? ⟨r, 2, none⟩ = some (.string ⟨#[]⟩) := hZ.read 2
      have z3 : Z.cell? ⟨r, 3, none⟩ = some (.int .u64 0) := hZ.read 3
      have z4 : Z.cell? ⟨r, 4, none⟩ = some (.int .u64 0) := hZ.read 4
      exact bodyPost_ret (v := .agg (lfB false ⟨#[]⟩ ⟨#[]⟩ 0 0)) (by simp [results, Tryz.results128, go_sem, z0, z1, z2, z3, z4]) rfl ⟨rfl, D8.inS, D8.off⟩
    | some y =>
      have e9 := HE9.out
      rw [if_neg (by simp)] at e9
      subst e9
      have hR := D2.box 1
      have hB := D2.box 0
      have r0 : w2.cell? ⟨r, 0, none⟩ = some (.bool false) := hR.read 0
      have f0 := hR.free 0
      have r1 : w2.cell? ⟨r, 1, none⟩ = some (.string ⟨#[]⟩) := hR.read 1
      have f1 := hR.free 1
      have r2 : w2.cell? ⟨r, 2, none⟩ = some (.string ⟨#[]⟩) := hR.read 2
      have f2 := hR.free 2
      have r3 : w2.cell? ⟨r, 3, none⟩ = some (.int .u64 0) := hR.read 3
      have f3 := hR.free 3
      have r4 : w2.cell? ⟨r, 4, none⟩ = some (.int .u64 0) := hR.read 4
      have f4 := hR.free 4
      have hinr := hR.inside
      have b0 : w2.cell? ⟨b, 0, none⟩ = some (.bool xp) := hB.read 0
      have b1 : w2.cell? ⟨b, 1, none⟩ = some (.string xi) := hB.read 1
      have b2 : w2.cell? ⟨b, 2, none⟩ = some (.string xs) := hB.read 2
      have b3 : w2.cell? ⟨b, 3, none⟩ = some (.int .u64 xh) := hB.read 3
      have b4 : w2.cell? ⟨b, 4, none⟩ = some (.int .u64 xl) := hB.read 4
      have hinb := hB.inside
      go_wp2_with (first | (go_at_call 33; refine (cT _ _ D2.inS).mono ?_; rintro e w' ⟨rfl, rfl⟩) | fail)
      have D8 := (((((D2.swap.wrote (by decide) hne 0 (.bool xp)).wrote (by decide) hne 1 (.string xi)).wrote (by decide) hne 2 (.string xs)).wrote (by decide) hne 3 (.int .u64 xh)).wrote (by decide) hne 4 (.int .u64 xl))
      simp only [lfB, rtB, enB, rgB, dfB, List.setIfInBounds_toArray, List.set_cons_zero, List.set_cons_succ] at D8
      generalize World.setCell (World.setCell (World.setCell (World.setCell (World.setCell w2 _ _) _ _) _ _) _ _) _ _ = Z at *
      have hZ := D8.box 0
      have z0 : Z.cell? ⟨r, 0, none⟩ = some (.bool xp) := hZ.read 0
      have z1 : Z.cell? ⟨r, 1, none⟩ = some (.string xi) := hZ.read 1
      have z2 : Z.cell? ⟨r, 2, none⟩ = some (.string xs) := hZ.read 2
      have z3 : Z.cell? ⟨r, 3, none⟩ = some (.int .u64 xh) := hZ.read 3
      have z4 : Z.cell? ⟨r, 4, none⟩ = some (.int .u64 xl) := hZ.read 4
      exact bodyPost_ret (v := .agg (lfB xp xi xs xh xl)) (by simp [results, Tryz.results128, go_sem, z0, z1, z2, z3, z4]) rfl ⟨rfl, D8.inS, D8.off⟩
  · have hE1 : (E == 0) = false := by simpa using hE
    have hE2 : (E != 0) = true := by simpa using hE
    have e9 := HV.out
    rw [if_neg hE, if_pos rfl] at e9
    subst e9
    clear hE
    go_upto_region 4 with (first
      | (go_at_call 101; refine (c2 _ (hT _ D1.off)).mono ?_; rintro e w2 ⟨rfl, j2⟩)
      | (go_at_call 121; refine (cS _ _ (D1.call j2).inS).mono ?_; rintro e w3 ⟨rfl, t3, k3⟩)
      | fail)
    have D3 := (D1.call j2).read t3 k3
    clear p0 p1 p2 p3 hin0 hB hinb b0 b1 b2 b3 b4
    have hR := D3.box 1
    have r0 : w3.cell? ⟨r, 0, none⟩ = some (.bool false) := hR.read 0
    have f0 := hR.free 0
    have r1 : w3.cell? ⟨r, 1, none⟩ = some (.string ⟨#[]⟩) := hR.read 1
    have f1 := hR.free 1
    have r2 : w3.cell? ⟨r, 2, none⟩ = some (.string ⟨#[]⟩) := hR.read 2
    have f2 := hR.free 2
    have r3 : w3.cell? ⟨r, 3, none⟩ = some (.int .u64 0) := hR.read 3
    have f3 := hR.free 3
    have r4 : w3.cell? ⟨r, 4, none⟩ = some (.int .u64 0) := hR.read 4
    have f4 := hR.free 4
    have hinr := hR.inside
    go_wp2_with (first | (go_at_call 33; refine (cT _ _ D3.inS).mono ?_; rintro e w' ⟨rfl, rfl⟩) | fail)
    have D8 := ((((((D3.swap.wrote (by decide) hne 0 (.bool false)).wrote (by decide) hne 1 (.string ⟨#[]⟩)).wrote (by decide) hne 2 (.string ⟨#[]⟩)).wrote (by decide) hne 3 (.int .u64 0)).wrote (by decide) hne 4 (.int .u64 0))).past (.cells (lfB false ⟨#[]⟩ ⟨#[]⟩ 0 0) 28)
    simp only [lfB, rtB, enB, rgB, dfB, List.setIfInBounds_toArray, List.set_cons_zero, List.set_cons_succ] at D8
    generalize World.alloc (World.setCell (World.setCell (World.setCell (World.setCell (World.setCell w3 _ _) _ _) _ _) _ _) _ _) _ = Z at *
    have hZ := D8.box 0
    have z0 : Z.cell? ⟨r, 0, none⟩ = some (.bool false) := hZ.read 0
    have z1 : Z.cell? ⟨r, 1, none⟩ = some (.string ⟨#[]⟩) := hZ.read 1
    have z2 : Z.cell? ⟨r, 2, none⟩ = some (.string ⟨#[]⟩) := hZ.read 2
    have z3 : Z.cell? ⟨r, 3, none⟩ = some (.int .u64 0) := hZ.read 3
    have z4 : Z.cell? ⟨r, 4, none⟩ = some (.int .u64 0) := hZ.read 4
    exact bodyPost_ret (v := .agg (lfB false ⟨#[]⟩ ⟨#[]⟩ 0 0)) (by simp [results, Tryz.results128, go_sem, z0, z1, z2, z3, z4]) rfl ⟨rfl, D8.inS, D8.off⟩
end Go.Proofs.YtmflhodiibjpnaaGreatDoor
/-
  pack, walked: take, of entries.
-/
namespace Go.Proofs.YtmflhodiibjpnaaGreatDoor
set_option linter.unusedVariables false
set_option linter.unusedSimpArgs false
set_option maxRecDepth 10000
open Go.RowKit

theorem ns_fit {l : List Nd} (h : l.length ≤ 2048 ∧ ∀ y ∈ l, y.hash.size ≤ 32 ∧ y.words) : NsFit l := ⟨by have := h.1; omega, fun y hy => by have := (h.2 y hy).1; omega⟩
theorem enP_ok (st : StR) : LfFit (enP st).1.leaf ∧ NsFit (enP st).1.sides := by
  have h := lfP_ok st
  exact ⟨⟨by have := h.1; show (lfP st).1.id.size ≤ _; omega, by have := h.2.1; show (lfP st).1.salt.size ≤ _; omega⟩, ns_fit (row_ok (p := fun y : Nd => y.hash.size ≤ 32 ∧ y.words) ndG_ok _)⟩
set_option maxRecDepth 20000 in
set_option maxHeartbeats 4000000 in
theorem takeE_any (w : World) (g : Nat) (st : StR) (h : InS w g st) (a p s k : Nat) (hA : IsLf w a) (hK : IsPr w p s k) (hT : ∀ u, Off (One g) w u → TabU u) : Calls Tryz.prog 130 #[.agg (enF a p), .pointer (some ⟨g, 0, none⟩)] w fun e w' =>
    ∃ A c, e = .returned (.agg (enB (takeG enP wrE EnP.zero st).1.leaf.pad (takeG enP wrE EnP.zero st).1.leaf.id (takeG enP wrE EnP.zero st).1.leaf.salt (takeG enP wrE EnP.zero st).1.leaf.h (takeG enP wrE EnP.zero st).1.leaf.l (takeG enP wrE EnP.zero st).1.pos A (takeG enP wrE EnP.zero st).1.sides.length c)) ∧ (A = none → c = 0) ∧ FRow ndS w' w.heap.size A (takeG enP wrE EnP.zero st).1.sides ∧ InS w' g (takeG enP wrE EnP.zero st).2 ∧ Off (One g) w w' := by
  have hP := h.port
  have hg := h.inside
  have D0 := ((Rp.start h).add 125 (enF a p)).add 33 (enB false ⟨#[]⟩ ⟨#[]⟩ 0 0 0 none 0 0)
  have hb0 : (w.alloc (.cells (enF a p) 125)).heap.size = w.heap.size + 1 := by simp
  rw [hb0] at D0
  have c1 := fun u hu hv hv2 => getE_any u g a p s k st hu hv hv2
  obtain ⟨VV, hVV⟩ : ∃ VV, takeG enP wrE EnP.zero st = VV := ⟨_, rfl⟩
  rw [hVV]
  unfold takeG at hVV
  obtain ⟨V, hd⟩ : ∃ V, enP st = V := ⟨_, rfl⟩
  have hz := enP_ok st
  rw [hd] at c1 hVV hz
  clear hd
  obtain ⟨⟨⟨xp, xi, xs, xh, xl⟩, q, L⟩, s1⟩ := V
  simp only at c1 hz hVV
  have cS := fun u st2 (hu : InS u g st2) => in_spoil u g st2 hu
  have cT := fun u st2 (hu : InS u g st2) => in_spoilt u g st2 hu
  have c2 := fun A c u hu h2 h3 h4 => wrE_any ⟨⟨xp, xi, xs, xh, xl⟩, q, L⟩ hz.1 A c a p s k hz.2 u hu h2 h3 h4
  simp only at c2
  obtain ⟨E, hE⟩ : ∃ E, wrE ⟨⟨xp, xi, xs, xh, xl⟩, q, L⟩ = E := ⟨_, rfl⟩
  rw [hE] at c2 hVV
  clear hE hz
  have HV := hideIt hVV
  clear hVV
  go_enter Tryz.func130, Tryz.ntmps130
  go_upto_region 1 with fail
  change Code.wp _ _ _ _ ((w.alloc (.cells (enF a p) 125)).alloc (.cells (enB false ⟨#[]⟩ ⟨#[]⟩ 0 0 0 none 0 0) 33))
  have L0 : Below w.heap.size w ((w.alloc (.cells (enF a p) 125)).alloc (.cells (enB false ⟨#[]⟩ ⟨#[]⟩ 0 0 0 none 0 0) 33)) := chainA (chainA (Below.refl _ _) _) _
  obtain ⟨r, hr⟩ : ∃ r, w.heap.size + 1 = r := ⟨_, rfl⟩
  try rw [hb0]
  rw [hr] at D0 ⊢
  generalize (w.alloc (.cells (enF a p) 125)).alloc (.cells (enB false ⟨#[]⟩ ⟨#[]⟩ 0 0 0 none 0 0) 33) = V0 at *
  clear hb0
  have hA0 := hA.call L0
  have hK0 := hK.call L0
  have hP0 := D0.inS.port
  have hrV := (D0.box 0).inside
  have hLV := L0.size
  obtain ⟨⟨p0, p1, p2, p3⟩, -, hin0⟩ := (D0.box 1).four
  go_upto_region 2 with (first
    | (go_at_call 108; refine (c1 _ D0.inS hA0 hK0).mono ?_; rintro e w1 ⟨A, c, rfl, hc, FR, t1, k1⟩)
    | fail)
  have hlt : r < w1.heap.size := Nat.lt_of_lt_of_le (D0.box 0).inside k1.size
  have D1 := (D0.read t1 k1).add 33 (enB xp xi xs xh xl q A L.length c)
  change Code.wp _ _ _ _ (w1.alloc (.cells (enB xp xi xs xh xl q A L.length c) 33))
  have L1 := chainA (Below.refl w1.heap.size w1) (.cells (enB xp xi xs xh xl q A L.length c) 33)
  have FR1 := FR.call L1
  have hA1 := (hA0.off hP0 k1).call L1
  have hK1 := (hK0.off hP0 k1).call L1
  obtain ⟨b, hb⟩ : ∃ b, w1.heap.size = b := ⟨_, rfl⟩
  rw [hb] at hlt
  rw [hb] at D1 ⊢
  generalize w1.alloc (.cells (enB xp xi xs xh xl q A L.length c) 33) = V1 at *
  clear p0 p1 p2 p3 hin0 t1 D0
  obtain ⟨⟨p0, p1, p2, p3⟩, -, hin0⟩ := (D1.box 2).four
  have hB := D1.box 0
  have b0 : V1.cell? ⟨b, 0, none⟩ = some (.bool xp) := hB.read 0
  have b1 : V1.cell? ⟨b, 1, none⟩ = some (.string xi) := hB.read 1
  have b2 : V1.cell? ⟨b, 2, none⟩ = some (.string xs) := hB.read 2
  have b3 : V1.cell? ⟨b, 3, none⟩ = some (.int .u64 xh) := hB.read 3
  have b4 : V1.cell? ⟨b, 4, none⟩ = some (.int .u64 xl) := hB.read 4
  have b5 : V1.cell? ⟨b, 5, none⟩ = some (.int .u64 q) := hB.read 5
  have b6 : V1.cell? ⟨b, 6, none⟩ = some (.slice A L.length c) := hB.read 6
  have hinb := hB.inside
  have hne : ∀ {cs cs' : Array Value}, ∀ x ∈ [((b, 33, cs) : Blk), (w.heap.size, 125, cs')], x.1 ≠ r := fun x hx => by
    simp only [List.mem_cons, List.not_mem_nil, or_false] at hx
    rcases hx with h | h <;> subst h <;> simp only <;> omega
  by_cases hE : E = 0
  · have hE1 : (E == 0) = true := by simpa using hE
    have hE2 : (E != 0) = false := by simpa using hE
    have e9 := HV.out
    rw [if_pos hE] at e9
    have HE9 := hideIt e9
    clear hE e9
    go_upto_region 4 with (first
      | (go_at_call 109; refine (c2 A c _ (hT _ D1.off) FR1.1 hA1 hK1).mono ?_; rintro e w2 ⟨rfl, j2⟩)
      | fail)
    have D2 := D1.call j2
    have FR2 := FR1.call j2
    clear p0 p1 p2 p3 hin0 hB hinb b0 b1 b2 b3 b4 b5 b6
    cases s1 with
    | none =>
      have e9 := HE9.out
      rw [if_pos rfl] at e9
      subst e9
      have hR := D2.box 1
      have r0 : w2.cell? ⟨r, 0, none⟩ = some (.bool false) := hR.read 0
      have f0 := hR.free 0
      have r1 : w2.cell? ⟨r, 1, none⟩ = some (.string ⟨#[]⟩) := hR.read 1
      have f1 := hR.free 1
      have r2 : w2.cell? ⟨r, 2, none⟩ = some (.string ⟨#[]⟩) := hR.read 2
      have f2 := hR.free 2
      have r3 : w2.cell? ⟨r, 3, none⟩ = some (.int .u64 0) := hR.read 3
      have f3 := hR.free 3
      have r4 : w2.cell? ⟨r, 4, none⟩ = some (.int .u64 0) := hR.read 4
      have f4 := hR.free 4
      have r5 : w2.cell? ⟨r, 5, none⟩ = some (.int .u64 0) := hR.read 5
      have f5 := hR.free 5
      have r6 : w2.cell? ⟨r, 6, none⟩ = some (.slice none 0 0) := hR.read 6
      have f6 := hR.free 6
      have hinr := hR.inside
      go_wp2_with (first | (go_at_call 33; refine (cT _ _ D2.inS).mono ?_; rintro e w' ⟨rfl, rfl⟩) | fail)
      have D8 := ((((((((D2.swap.wrote (by decide) hne 0 (.bool false)).wrote (by decide) hne 1 (.string ⟨#[]⟩)).wrote (by decide) hne 2 (.string ⟨#[]⟩)).wrote (by decide) hne 3 (.int .u64 0)).wrote (by decide) hne 4 (.int .u64 0)).wrote (by decide) hne 5 (.int .u64 0)).wrote (by decide) hne 6 (.slice none 0 0))).past (.cells (enB false ⟨#[]⟩ ⟨#[]⟩ 0 0 0 none 0 0) 33)
      simp only [lfB, rtB, enB, rgB, dfB, List.setIfInBounds_toArray, List.set_cons_zero, List.set_cons_succ] at D8
      generalize World.alloc (World.setCell (World.setCell (World.setCell (World.setCell (World.setCell (World.setCell (World.setCell w2 _ _) _ _) _ _) _ _) _ _) _ _) _ _) _ = Z at *
      have hZ := D8.box 0
      have z0 : Z.cell? ⟨r, 0, none⟩ = some (.bool false) := hZ.read 0
      have z1 : Z.cell? ⟨r, 1, none⟩ = some (.string ⟨#[]⟩) := hZ.read 1
      have z2 : Z.cell? ⟨r, 2, none⟩ = some (.string ⟨#[]⟩) := hZ.read 2
      have z3 : Z.cell? ⟨r, 3, none⟩ = some (.int .u64 0) := hZ.read 3
      have z4 : Z.cell? ⟨r, 4, none⟩ = some (.int .u64 0) := hZ.read 4
      have z5 : Z.cell? ⟨r, 5, none⟩ = some (.int .u64 0) := hZ.read 5
      have z6 : Z.cell? ⟨r, 6, none⟩ = some (.slice none 0 0) := hZ.read 6
      exact bodyPost_ret (v := .agg (enB false ⟨#[]⟩ ⟨#[]⟩ 0 0 0 none 0 0)) (by simp [results, Tryz.results130, go_sem, z0, z1, z2, z3, z4, z5, z6]) rfl ⟨none, 0, rfl, fun _ => rfl, FRow.nil _ _, D8.inS, D8.off⟩
    | some y =>
      have e9 := HE9.out
      rw [if_neg (by simp)] at e9
      subst e9
      have hR := D2.box 1
      have hB := D2.box 0
      have r0 : w2.cell? ⟨r, 0, none⟩ = some (.bool false) := hR.read 0
      have f0 := hR.free 0
      have r1 : w2.cell? ⟨r, 1, none⟩ = some (.string ⟨#[]⟩) := hR.read 1
      have f1 := hR.free 1
      have r2 : w2.cell? ⟨r, 2, none⟩ = some (.string ⟨#[]⟩) := hR.read 2
      have f2 := hR.free 2
      have r3 : w2.cell? ⟨r, 3, none⟩ = some (.int .u64 0) := hR.read 3
      have f3 := hR.free 3
      have r4 : w2.cell? ⟨r, 4, none⟩ = some (.int .u64 0) := hR.read 4
      have f4 := hR.free 4
      have r5 : w2.cell? ⟨r, 5, none⟩ = some (.int .u64 0) := hR.read 5
      have f5 := hR.free 5
      have r6 : w2.cell? ⟨r, 6, none⟩ = some (.slice none 0 0) := hR.read 6
      have f6 := hR.free 6
      have hinr := hR.inside
      have b0 : w2.cell? ⟨b, 0, none⟩ = some (.bool xp) := hB.read 0
      have b1 : w2.cell? ⟨b, 1, none⟩ = some (.string xi) := hB.read 1
      have b2 : w2.cell? ⟨b, 2, none⟩ = some (.string xs) := hB.read 2
      have b3 : w2.cell? ⟨b, 3, none⟩ = some (.int .u64 xh) := hB.read 3
      have b4 : w2.cell? ⟨b, 4, none⟩ = some (.int .u64 xl) := hB.read 4
      have b5 : w2.cell? ⟨b, 5, none⟩ = some (.int .u64 q) := hB.read 5
      have b6 : w2.cell? ⟨b, 6, none⟩ = some (.slice A L.length c) := hB.read 6
      have hinb := hB.inside
      go_wp2_with (first | (go_at_call 33; refine (cT _ _ D2.inS).mono ?_; rintro e w' ⟨rfl, rfl⟩) | fail)
      have D8 := (((((((D2.swap.wrote (by decide) hne 0 (.bool xp)).wrote (by decide) hne 1 (.string xi)).wrote (by decide) hne 2 (.string xs)).wrote (by decide) hne 3 (.int .u64 xh)).wrote (by decide) hne 4 (.int .u64 xl)).wrote (by decide) hne 5 (.int .u64 q)).wrote (by decide) hne 6 (.slice A L.length c))
      simp only [lfB, rtB, enB, rgB, dfB, List.setIfInBounds_toArray, List.set_cons_zero, List.set_cons_succ] at D8
      have FR3 := (FR2.off ((((((((Off.refl (One r) w2).set_ (p := ⟨r, 0, none⟩) (Or.inl rfl) (.bool xp)).set_ (p := ⟨r, 1, none⟩) (Or.inl rfl) (.string xi)).set_ (p := ⟨r, 2, none⟩) (Or.inl rfl) (.string xs)).set_ (p := ⟨r, 3, none⟩) (Or.inl rfl) (.int .u64 xh)).set_ (p := ⟨r, 4, none⟩) (Or.inl rfl) (.int .u64 xl)).set_ (p := ⟨r, 5, none⟩) (Or.inl rfl) (.int .u64 q)).set_ (p := ⟨r, 6, none⟩) (Or.inl rfl) (.slice A L.length c)) hrV).less hLV
      generalize World.setCell (World.setCell (World.setCell (World.setCell (World.setCell (World.setCell (World.setCell w2 _ _) _ _) _ _) _ _) _ _) _ _) _ _ = Z at *
      have hZ := D8.box 0
      have z0 : Z.cell? ⟨r, 0, none⟩ = some (.bool xp) := hZ.read 0
      have z1 : Z.cell? ⟨r, 1, none⟩ = some (.string xi) := hZ.read 1
      have z2 : Z.cell? ⟨r, 2, none⟩ = some (.string xs) := hZ.read 2
      have z3 : Z.cell? ⟨r, 3, none⟩ = some (.int .u64 xh) := hZ.read 3
      have z4 : Z.cell? ⟨r, 4, none⟩ = some (.int .u64 xl) := hZ.read 4
      have z5 : Z.cell? ⟨r, 5, none⟩ = some (.int .u64 q) := hZ.read 5
      have z6 : Z.cell? ⟨r, 6, none⟩ = some (.slice A L.length c) := hZ.read 6
      exact bodyPost_ret (v := .agg (enB xp xi xs xh xl q A L.length c)) (by simp [results, Tryz.results130, go_sem, z0, z1, z2, z3, z4, z5, z6]) rfl ⟨A, c, rfl, hc, FR3, D8.inS, D8.off⟩
  · have hE1 : (E == 0) = false := by simpa using hE
    have hE2 : (E != 0) = true := by simpa using hE
    have e9 := HV.out
    rw [if_neg hE, if_pos rfl] at e9
    subst e9
    clear hE
    go_upto_region 4 with (first
      | (go_at_call 109; refine (c2 A c _ (hT _ D1.off) FR1.1 hA1 hK1).mono ?_; rintro e w2 ⟨rfl, j2⟩)
      | (go_at_call 121; refine (cS _ _ (D1.call j2).inS).mono ?_; rintro e w3 ⟨rfl, t3, k3⟩)
      | fail)
    have D3 := (D1.call j2).read t3 k3
    clear p0 p1 p2 p3 hin0 hB hinb b0 b1 b2 b3 b4 b5 b6
    have hR := D3.box 1
    have r0 : w3.cell? ⟨r, 0, none⟩ = some (.bool false) := hR.read 0
    have f0 := hR.free 0
    have r1 : w3.cell? ⟨r, 1, none⟩ = some (.string ⟨#[]⟩) := hR.read 1
    have f1 := hR.free 1
    have r2 : w3.cell? ⟨r, 2, none⟩ = some (.string ⟨#[]⟩) := hR.read 2
    have f2 := hR.free 2
    have r3 : w3.cell? ⟨r, 3, none⟩ = some (.int .u64 0) := hR.read 3
    have f3 := hR.free 3
    have r4 : w3.cell? ⟨r, 4, none⟩ = some (.int .u64 0) := hR.read 4
    have f4 := hR.free 4
    have r5 : w3.cell? ⟨r, 5, none⟩ = some (.int .u64 0) := hR.read 5
    have f5 := hR.free 5
    have r6 : w3.cell? ⟨r, 6, none⟩ = some (.slice none 0 0) := hR.read 6
    have f6 := hR.free 6
    have hinr := hR.inside
    go_wp2_with (first | (go_at_call 33; refine (cT _ _ D3.inS).mono ?_; rintro e w' ⟨rfl, rfl⟩) | fail)
    have D8 := ((((((((D3.swap.wrote (by decide) hne 0 (.bool false)).wrote (by decide) hne 1 (.string ⟨#[]⟩)).wrote (by decide) hne 2 (.string ⟨#[]⟩)).wrote (by decide) hne 3 (.int .u64 0)).wrote (by decide) hne 4 (.int .u64 0)).wrote (by decide) hne 5 (.int .u64 0)).wrote (by decide) hne 6 (.slice none 0 0))).past (.cells (enB false ⟨#[]⟩ ⟨#[]⟩ 0 0 0 none 0 0) 33)
    simp only [lfB, rtB, enB, rgB, dfB, List.setIfInBounds_toArray, List.set_cons_zero, List.set_cons_succ] at D8
    generalize World.alloc (World.setCell (World.setCell (World.setCell (World.setCell (World.setCell (World.setCell (World.setCell w3 _ _) _ _) _ _) _ _) _ _) _ _) _ _) _ = Z at *
    have hZ := D8.box 0
    have z0 : Z.cell? ⟨r, 0, none⟩ = some (.bool false) := hZ.read 0
    have z1 : Z.cell? ⟨r, 1, none⟩ = some (.string ⟨#[]⟩) := hZ.read 1
    have z2 : Z.cell? ⟨r, 2, none⟩ = some (.string ⟨#[]⟩) := hZ.read 2
    have z3 : Z.cell? ⟨r, 3, none⟩ = some (.int .u64 0) := hZ.read 3
    have z4 : Z.cell? ⟨r, 4, none⟩ = some (.int .u64 0) := hZ.read 4
    have z5 : Z.cell? ⟨r, 5, none⟩ = some (.int .u64 0) := hZ.read 5
    have z6 : Z.cell? ⟨r, 6, none⟩ = some (.slice none 0 0) := hZ.read 6
    exact bodyPost_ret (v := .agg (enB false ⟨#[]⟩ ⟨#[]⟩ 0 0 0 none 0 0)) (by simp [results, Tryz.results130, go_sem, z0, z1, z2, z3, z4, z5, z6]) rfl ⟨none, 0, rfl, fun _ => rfl, FRow.nil _ _, D8.inS, D8.off⟩
end Go.Proofs.YtmflhodiibjpnaaGreatDoor
/-
  pack, walked: take, of ranges.
-/
namespace Go.Proofs.YtmflhodiibjpnaaGreatDoor
set_option linter.unusedVariables false
set_option linter.unusedSimpArgs false
set_option maxRecDepth 10000
open Go.RowKit

theorem ns_fit2 {l : List Nd} (h : l.length ≤ 2048 ∧ ∀ y ∈ l, y.hash.size ≤ 32 ∧ y.words) : NsFit l := ⟨by have := h.1; omega, fun y hy => by have := (h.2 y hy).1; omega⟩
theorem rgG_sizes (st : StR) : NsFit (rgG st).1.ins ∧ NsFit (rgG st).1.outs :=
  ⟨ns_fit2 (row_ok (p := fun y : Nd => y.hash.size ≤ 32 ∧ y.words) ndG_ok _), ns_fit2 (row_ok (p := fun y : Nd => y.hash.size ≤ 32 ∧ y.words) ndG_ok _)⟩
set_option maxRecDepth 20000 in
set_option maxHeartbeats 4000000 in
theorem takeG_any (w : World) (g : Nat) (st : StR) (h : InS w g st) (s k : Nat) (hK : IsNr w s k) : Calls Tryz.prog 131 #[.agg (rgF s), .pointer (some ⟨g, 0, none⟩)] w fun e w' =>
    ∃ A c B d, e = .returned (.agg (rgB (takeG rgG wrG RgP.zero st).1.a (takeG rgG wrG RgP.zero st).1.b A (takeG rgG wrG RgP.zero st).1.ins.length c B (takeG rgG wrG RgP.zero st).1.outs.length d)) ∧ (A = none → c = 0) ∧ (B = none → d = 0) ∧ FRow ndS w' w.heap.size A (takeG rgG wrG RgP.zero st).1.ins ∧ FRow ndS w' w.heap.size B (takeG rgG wrG RgP.zero st).1.outs ∧ InS w' g (takeG rgG wrG RgP.zero st).2 ∧ Off (One g) w w' := by
  have hP := h.port
  have hg := h.inside
  have D0 := ((Rp.start h).add 133 (rgF s)).add 35 (rgB 0 0 none 0 0 none 0 0)
  have hb0 : (w.alloc (.cells (rgF s) 133)).heap.size = w.heap.size + 1 := by simp
  rw [hb0] at D0
  have c1 := fun u hu hv => getG_any u g s k st hu hv
  obtain ⟨VV, hVV⟩ : ∃ VV, takeG rgG wrG RgP.zero st = VV := ⟨_, rfl⟩
  rw [hVV]
  unfold takeG at hVV
  obtain ⟨V, hd⟩ : ∃ V, rgG st = V := ⟨_, rfl⟩
  have hz := rgG_sizes st
  rw [hd] at c1 hVV hz
  clear hd
  obtain ⟨⟨xa, xb, L, M⟩, s1⟩ := V
  simp only at c1 hz hVV
  have cS := fun u st2 (hu : InS u g st2) => in_spoil u g st2 hu
  have cT := fun u st2 (hu : InS u g st2) => in_spoilt u g st2 hu
  have c2 := fun A B c d u h2 h3 h4 => wrG_any ⟨xa, xb, L, M⟩ A B c d s k hz.1 hz.2 u h2 h3 h4
  simp only at c2
  obtain ⟨E, hE⟩ : ∃ E, wrG ⟨xa, xb, L, M⟩ = E := ⟨_, rfl⟩
  rw [hE] at c2 hVV
  clear hE hz
  have HV := hideIt hVV
  clear hVV
  go_enter Tryz.func131, Tryz.ntmps131
  go_upto_region 1 with fail
  change Code.wp _ _ _ _ ((w.alloc (.cells (rgF s) 133)).alloc (.cells (rgB 0 0 none 0 0 none 0 0) 35))
  have L0 : Below w.heap.size w ((w.alloc (.cells (rgF s) 133)).alloc (.cells (rgB 0 0 none 0 0 none 0 0) 35)) := chainA (chainA (Below.refl _ _) _) _
  obtain ⟨r, hr⟩ : ∃ r, w.heap.size + 1 = r := ⟨_, rfl⟩
  try rw [hb0]
  rw [hr] at D0 ⊢
  generalize (w.alloc (.cells (rgF s) 133)).alloc (.cells (rgB 0 0 none 0 0 none 0 0) 35) = V0 at *
  clear hb0
  have hK0 := hK.call L0
  have hP0 := D0.inS.port
  have hrV := (D0.box 0).inside
  have hLV := L0.size
  obtain ⟨⟨p0, p1, p2, p3⟩, -, hin0⟩ := (D0.box 1).four
  go_upto_region 2 with (first
    | (go_at_call 114; refine (c1 _ D0.inS hK0).mono ?_; rintro e w1 ⟨A, c, B, d, rfl, hc, hc2, FA, FB, t1, k1⟩)
    | fail)
  have hlt : r < w1.heap.size := Nat.lt_of_lt_of_le (D0.box 0).inside k1.size
  have D1 := (D0.read t1 k1).add 35 (rgB xa xb A L.length c B M.length d)
  change Code.wp _ _ _ _ (w1.alloc (.cells (rgB xa xb A L.length c B M.length d) 35))
  have L1 := chainA (Below.refl w1.heap.size w1) (.cells (rgB xa xb A L.length c B M.length d) 35)
  have FA1 := FA.call L1
  have FB1 := FB.call L1
  have hK1 := (hK0.off hP0 k1).call L1
  obtain ⟨b, hb⟩ : ∃ b, w1.heap.size = b := ⟨_, rfl⟩
  rw [hb] at hlt
  rw [hb] at D1 ⊢
  generalize w1.alloc (.cells (rgB xa xb A L.length c B M.length d) 35) = V1 at *
  clear p0 p1 p2 p3 hin0 t1 D0
  obtain ⟨⟨p0, p1, p2, p3⟩, -, hin0⟩ := (D1.box 2).four
  have hB := D1.box 0
  have b0 : V1.cell? ⟨b, 0, none⟩ = some (.int .u64 xa) := hB.read 0
  have b1 : V1.cell? ⟨b, 1, none⟩ = some (.int .u64 xb) := hB.read 1
  have b2 : V1.cell? ⟨b, 2, none⟩ = some (.slice A L.length c) := hB.read 2
  have b3 : V1.cell? ⟨b, 3, none⟩ = some (.slice B M.length d) := hB.read 3
  have hinb := hB.inside
  have hne : ∀ {cs cs' : Array Value}, ∀ x ∈ [((b, 35, cs) : Blk), (w.heap.size, 133, cs')], x.1 ≠ r := fun x hx => by
    simp only [List.mem_cons, List.not_mem_nil, or_false] at hx
    rcases hx with h | h <;> subst h <;> simp only <;> omega
  by_cases hE : E = 0
  · have hE1 : (E == 0) = true := by simpa using hE
    have hE2 : (E != 0) = false := by simpa using hE
    have e9 := HV.out
    rw [if_pos hE] at e9
    have HE9 := hideIt e9
    clear hE e9
    go_upto_region 4 with (first
      | (go_at_call 115; refine (c2 A B c d _ FA1.1 FB1.1 hK1).mono ?_; rintro e w2 ⟨rfl, j2⟩)
      | fail)
    have D2 := D1.call j2
    have FA2 := FA1.call j2
    have FB2 := FB1.call j2
    clear p0 p1 p2 p3 hin0 hB hinb b0 b1 b2 b3
    cases s1 with
    | none =>
      have e9 := HE9.out
      rw [if_pos rfl] at e9
      subst e9
      have hR := D2.box 1
      have r0 : w2.cell? ⟨r, 0, none⟩ = some (.int .u64 0) := hR.read 0
      have f0 := hR.free 0
      have r1 : w2.cell? ⟨r, 1, none⟩ = some (.int .u64 0) := hR.read 1
      have f1 := hR.free 1
      have r2 : w2.cell? ⟨r, 2, none⟩ = some (.slice none 0 0) := hR.read 2
      have f2 := hR.free 2
      have r3 : w2.cell? ⟨r, 3, none⟩ = some (.slice none 0 0) := hR.read 3
      have f3 := hR.free 3
      have hinr := hR.inside
      go_wp2_with (first | (go_at_call 33; refine (cT _ _ D2.inS).mono ?_; rintro e w' ⟨rfl, rfl⟩) | fail)
      have D8 := (((((D2.swap.wrote (by decide) hne 0 (.int .u64 0)).wrote (by decide) hne 1 (.int .u64 0)).wrote (by decide) hne 2 (.slice none 0 0)).wrote (by decide) hne 3 (.slice none 0 0))).past (.cells (rgB 0 0 none 0 0 none 0 0) 35)
      simp only [lfB, rtB, enB, rgB, dfB, List.setIfInBounds_toArray, List.set_cons_zero, List.set_cons_succ] at D8
      generalize World.alloc (World.setCell (World.setCell (World.setCell (World.setCell w2 _ _) _ _) _ _) _ _) _ = Z at *
      have hZ := D8.box 0
      have z0 : Z.cell? ⟨r, 0, none⟩ = some (.int .u64 0) := hZ.read 0
      have z1 : Z.cell? ⟨r, 1, none⟩ = some (.int .u64 0) := hZ.read 1
      have z2 : Z.cell? ⟨r, 2, none⟩ = some (.slice none 0 0) := hZ.read 2
      have z3 : Z.cell? ⟨r, 3, none⟩ = some (.slice none 0 0) := hZ.read 3
      exact bodyPost_ret (v := .agg (rgB 0 0 none 0 0 none 0 0)) (by simp [results, Tryz.results131, go_sem, z0, z1, z2, z3]) rfl ⟨none, 0, none, 0, rfl, fun _ => rfl, fun _ => rfl, FRow.nil _ _, FRow.nil _ _, D8.inS, D8.off⟩
    | some y =>
      have e9 := HE9.out
      rw [if_neg (by simp)] at e9
      subst e9
      have hR := D2.box 1
      have hB := D2.box 0
      have r0 : w2.cell? ⟨r, 0, none⟩ = some (.int .u64 0) := hR.read 0
      have f0 := hR.free 0
      have r1 : w2.cell? ⟨r, 1, none⟩ = some (.int .u64 0) := hR.read 1
      have f1 := hR.free 1
      have r2 : w2.cell? ⟨r, 2, none⟩ = some (.slice none 0 0) := hR.read 2
      have f2 := hR.free 2
      have r3 : w2.cell? ⟨r, 3, none⟩ = some (.slice none 0 0) := hR.read 3
      have f3 := hR.free 3
      have hinr := hR.inside
      have b0 : w2.cell? ⟨b, 0, none⟩ = some (.int .u64 xa) := hB.read 0
      have b1 : w2.cell? ⟨b, 1, none⟩ = some (.int .u64 xb) := hB.read 1
      have b2 : w2.cell? ⟨b, 2, none⟩ = some (.slice A L.length c) := hB.read 2
      have b3 : w2.cell? ⟨b, 3, none⟩ = some (.slice B M.length d) := hB.read 3
      have hinb := hB.inside
      go_wp2_with (first | (go_at_call 33; refine (cT _ _ D2.inS).mono ?_; rintro e w' ⟨rfl, rfl⟩) | fail)
      have D8 := ((((D2.swap.wrote (by decide) hne 0 (.int .u64 xa)).wrote (by decide) hne 1 (.int .u64 xb)).wrote (by decide) hne 2 (.slice A L.length c)).wrote (by decide) hne 3 (.slice B M.length d))
      simp only [lfB, rtB, enB, rgB, dfB, List.setIfInBounds_toArray, List.set_cons_zero, List.set_cons_succ] at D8
      have FA3 := (FA2.off (((((Off.refl (One r) w2).set_ (p := ⟨r, 0, none⟩) (Or.inl rfl) (.int .u64 xa)).set_ (p := ⟨r, 1, none⟩) (Or.inl rfl) (.int .u64 xb)).set_ (p := ⟨r, 2, none⟩) (Or.inl rfl) (.slice A L.length c)).set_ (p := ⟨r, 3, none⟩) (Or.inl rfl) (.slice B M.length d)) hrV).less hLV
      have FB3 := (FB2.off (((((Off.refl (One r) w2).set_ (p := ⟨r, 0, none⟩) (Or.inl rfl) (.int .u64 xa)).set_ (p := ⟨r, 1, none⟩) (Or.inl rfl) (.int .u64 xb)).set_ (p := ⟨r, 2, none⟩) (Or.inl rfl) (.slice A L.length c)).set_ (p := ⟨r, 3, none⟩) (Or.inl rfl) (.slice B M.length d)) hrV).less hLV
      generalize World.setCell (World.setCell (World.setCell (World.setCell w2 _ _) _ _) _ _) _ _ = Z at *
      have hZ := D8.box 0
      have z0 : Z.cell? ⟨r, 0, none⟩ = some (.int .u64 xa) := hZ.read 0
      have z1 : Z.cell? ⟨r, 1, none⟩ = some (.int .u64 xb) := hZ.read 1
      have z2 : Z.cell? ⟨r, 2, none⟩ = some (.slice A L.length c) := hZ.read 2
      have z3 : Z.cell? ⟨r, 3, none⟩ = some (.slice B M.length d) := hZ.read 3
      exact bodyPost_ret (v := .agg (rgB xa xb A L.length c B M.length d)) (by simp [results, Tryz.results131, go_sem, z0, z1, z2, z3]) rfl ⟨A, c, B, d, rfl, hc, hc2, FA3, FB3, D8.inS, D8.off⟩
  · have hE1 : (E == 0) = false := by simpa using hE
    have hE2 : (E != 0) = true := by simpa using hE
    have e9 := HV.out
    rw [if_neg hE, if_pos rfl] at e9
    subst e9
    clear hE
    go_upto_region 4 with (first
      | (go_at_call 115; refine (c2 A B c d _ FA1.1 FB1.1 hK1).mono ?_; rintro e w2 ⟨rfl, j2⟩)
      | (go_at_call 121; refine (cS _ _ (D1.call j2).inS).mono ?_; rintro e w3 ⟨rfl, t3, k3⟩)
      | fail)
    have D3 := (D1.call j2).read t3 k3
    clear p0 p1 p2 p3 hin0 hB hinb b0 b1 b2 b3
    have hR := D3.box 1
    have r0 : w3.cell? ⟨r, 0, none⟩ = some (.int .u64 0) := hR.read 0
    have f0 := hR.free 0
    have r1 : w3.cell? ⟨r, 1, none⟩ = some (.int .u64 0) := hR.read 1
    have f1 := hR.free 1
    have r2 : w3.cell? ⟨r, 2, none⟩ = some (.slice none 0 0) := hR.read 2
    have f2 := hR.free 2
    have r3 : w3.cell? ⟨r, 3, none⟩ = some (.slice none 0 0) := hR.read 3
    have f3 := hR.free 3
    have hinr := hR.inside
    go_wp2_with (first | (go_at_call 33; refine (cT _ _ D3.inS).mono ?_; rintro e w' ⟨rfl, rfl⟩) | fail)
    have D8 := (((((D3.swap.wrote (by decide) hne 0 (.int .u64 0)).wrote (by decide) hne 1 (.int .u64 0)).wrote (by decide) hne 2 (.slice none 0 0)).wrote (by decide) hne 3 (.slice none 0 0))).past (.cells (rgB 0 0 none 0 0 none 0 0) 35)
    simp only [lfB, rtB, enB, rgB, dfB, List.setIfInBounds_toArray, List.set_cons_zero, List.set_cons_succ] at D8
    generalize World.alloc (World.setCell (World.setCell (World.setCell (World.setCell w3 _ _) _ _) _ _) _ _) _ = Z at *
    have hZ := D8.box 0
    have z0 : Z.cell? ⟨r, 0, none⟩ = some (.int .u64 0) := hZ.read 0
    have z1 : Z.cell? ⟨r, 1, none⟩ = some (.int .u64 0) := hZ.read 1
    have z2 : Z.cell? ⟨r, 2, none⟩ = some (.slice none 0 0) := hZ.read 2
    have z3 : Z.cell? ⟨r, 3, none⟩ = some (.slice none 0 0) := hZ.read 3
    exact bodyPost_ret (v := .agg (rgB 0 0 none 0 0 none 0 0)) (by simp [results, Tryz.results131, go_sem, z0, z1, z2, z3]) rfl ⟨none, 0, none, 0, rfl, fun _ => rfl, fun _ => rfl, FRow.nil _ _, FRow.nil _ _, D8.inS, D8.off⟩
end Go.Proofs.YtmflhodiibjpnaaGreatDoor
/-
  pack, walked: take, of diffs.
-/
namespace Go.Proofs.YtmflhodiibjpnaaGreatDoor
set_option linter.unusedVariables false
set_option linter.unusedSimpArgs false
set_option maxRecDepth 10000
open Go.RowKit

theorem ns_fit3 {l : List Nd} (h : l.length ≤ 2048 ∧ ∀ y ∈ l, y.hash.size ≤ 32 ∧ y.words) : NsFit l := ⟨by have := h.1; omega, fun y hy => by have := (h.2 y hy).1; omega⟩
theorem chP_ok (st : StR) : LfFit (chP st).1.old ∧ LfFit (chP st).1.new := by
  have h1 := lfP_ok (numG st).2
  have h2 := lfP_ok (lfP (numG st).2).2
  exact ⟨⟨by have := h1.1; show (lfP (numG st).2).1.id.size ≤ _; omega, by have := h1.2.1; show (lfP (numG st).2).1.salt.size ≤ _; omega⟩,
    ⟨by have := h2.1; show (lfP (lfP (numG st).2).2).1.id.size ≤ _; omega, by have := h2.2.1; show (lfP (lfP (numG st).2).2).1.salt.size ≤ _; omega⟩⟩
theorem dfP_ok (st : StR) : CsFit (dfP st).1.chs ∧ NsFit (dfP st).1.fr := by
  obtain ⟨h1, h2⟩ := row_ok (p := fun y : ChP => LfFit y.old ∧ LfFit y.new) chP_ok st
  exact ⟨⟨by show (rowG chP st).1.length ≤ _; omega, h2⟩, ns_fit3 (row_ok (p := fun y : Nd => y.hash.size ≤ 32 ∧ y.words) ndG_ok _)⟩
set_option maxRecDepth 20000 in
set_option maxHeartbeats 4000000 in
theorem takeD_any (w : World) (g : Nat) (st : StR) (h : InS w g st) (q m i a k : Nat) (hC : IsCr w q i a) (hK : IsNr w m k) (hT : ∀ u, Off (One g) w u → TabU u) : Calls Tryz.prog 132 #[.agg (dfF q m), .pointer (some ⟨g, 0, none⟩)] w fun e w' =>
    ∃ A c B d, e = .returned (.agg (dfB A (takeG dfP wrD DfP.zero st).1.chs.length c B (takeG dfP wrD DfP.zero st).1.fr.length d)) ∧ (A = none → c = 0) ∧ (B = none → d = 0) ∧ FRow chS w' w.heap.size A (takeG dfP wrD DfP.zero st).1.chs ∧ FRow ndS w' w.heap.size B (takeG dfP wrD DfP.zero st).1.fr ∧ InS w' g (takeG dfP wrD DfP.zero st).2 ∧ Off (One g) w w' := by
  have hP := h.port
  have hg := h.inside
  have D0 := ((Rp.start h).add 139 (dfF q m)).add 38 (dfB none 0 0 none 0 0)
  have hb0 : (w.alloc (.cells (dfF q m) 139)).heap.size = w.heap.size + 1 := by simp
  rw [hb0] at D0
  have c1 := fun u hu hv hv2 => getD_any u g q m i a k st hu hv hv2
  obtain ⟨VV, hVV⟩ : ∃ VV, takeG dfP wrD DfP.zero st = VV := ⟨_, rfl⟩
  rw [hVV]
  unfold takeG at hVV
  obtain ⟨V, hd⟩ : ∃ V, dfP st = V := ⟨_, rfl⟩
  have hz := dfP_ok st
  rw [hd] at c1 hVV hz
  clear hd
  obtain ⟨⟨L, M⟩, s1⟩ := V
  simp only at c1 hz hVV
  have cS := fun u st2 (hu : InS u g st2) => in_spoil u g st2 hu
  have cT := fun u st2 (hu : InS u g st2) => in_spoilt u g st2 hu
  have c2 := fun A B c d u h1 h2 h3 h4 h5 => wrD_any ⟨L, M⟩ A B c d q m i a k hz.1 hz.2 u h1 h2 h3 h4 h5
  simp only at c2
  obtain ⟨E, hE⟩ : ∃ E, wrD ⟨L, M⟩ = E := ⟨_, rfl⟩
  rw [hE] at c2 hVV
  clear hE hz
  have HV := hideIt hVV
  clear hVV
  go_enter Tryz.func132, Tryz.ntmps132
  go_upto_region 1 with fail
  change Code.wp _ _ _ _ ((w.alloc (.cells (dfF q m) 139)).alloc (.cells (dfB none 0 0 none 0 0) 38))
  have L0 : Below w.heap.size w ((w.alloc (.cells (dfF q m) 139)).alloc (.cells (dfB none 0 0 none 0 0) 38)) := chainA (chainA (Below.refl _ _) _) _
  obtain ⟨r, hr⟩ : ∃ r, w.heap.size + 1 = r := ⟨_, rfl⟩
  try rw [hb0]
  rw [hr] at D0 ⊢
  generalize (w.alloc (.cells (dfF q m) 139)).alloc (.cells (dfB none 0 0 none 0 0) 38) = V0 at *
  clear hb0
  have hC0 := hC.call L0
  have hK0 := hK.call L0
  have hP0 := D0.inS.port
  have hrV := (D0.box 0).inside
  have hLV := L0.size
  obtain ⟨⟨p0, p1, p2, p3⟩, -, hin0⟩ := (D0.box 1).four
  go_upto_region 2 with (first
    | (go_at_call 119; refine (c1 _ D0.inS hC0 hK0).mono ?_; rintro e w1 ⟨A, c, B, d, rfl, hc, hc2, FA, FB, t1, k1⟩)
    | fail)
  have hlt : r < w1.heap.size := Nat.lt_of_lt_of_le (D0.box 0).inside k1.size
  have D1 := (D0.read t1 k1).add 38 (dfB A L.length c B M.length d)
  change Code.wp _ _ _ _ (w1.alloc (.cells (dfB A L.length c B M.length d) 38))
  have L1 := chainA (Below.refl w1.heap.size w1) (.cells (dfB A L.length c B M.length d) 38)
  have FA1 := FA.call L1
  have FB1 := FB.call L1
  have hC1 := (hC0.off hP0 k1).call L1
  have hK1 := (hK0.off hP0 k1).call L1
  obtain ⟨b, hb⟩ : ∃ b, w1.heap.size = b := ⟨_, rfl⟩
  rw [hb] at hlt
  rw [hb] at D1 ⊢
  generalize w1.alloc (.cells (dfB A L.length c B M.length d) 38) = V1 at *
  clear p0 p1 p2 p3 hin0 t1 D0
  obtain ⟨⟨p0, p1, p2, p3⟩, -, hin0⟩ := (D1.box 2).four
  have hB := D1.box 0
  have b0 : V1.cell? ⟨b, 0, none⟩ = some (.slice A L.length c) := hB.read 0
  have b1 : V1.cell? ⟨b, 1, none⟩ = some (.slice B M.length d) := hB.read 1
  have hinb := hB.inside
  have hne : ∀ {cs cs' : Array Value}, ∀ x ∈ [((b, 38, cs) : Blk), (w.heap.size, 139, cs')], x.1 ≠ r := fun x hx => by
    simp only [List.mem_cons, List.not_mem_nil, or_false] at hx
    rcases hx with h | h <;> subst h <;> simp only <;> omega
  by_cases hE : E = 0
  · have hE1 : (E == 0) = true := by simpa using hE
    have hE2 : (E != 0) = false := by simpa using hE
    have e9 := HV.out
    rw [if_pos hE] at e9
    have HE9 := hideIt e9
    clear hE e9
    go_upto_region 4 with (first
      | (go_at_call 120; refine (c2 A B c d _ (hT _ D1.off) FA1.1 FB1.1 hC1 hK1).mono ?_; rintro e w2 ⟨rfl, j2⟩)
      | fail)
    have D2 := D1.call j2
    have FA2 := FA1.call j2
    have FB2 := FB1.call j2
    clear p0 p1 p2 p3 hin0 hB hinb b0 b1
    cases s1 with
    | none =>
      have e9 := HE9.out
      rw [if_pos rfl] at e9
      subst e9
      have hR := D2.box 1
      have r0 : w2.cell? ⟨r, 0, none⟩ = some (.slice none 0 0) := hR.read 0
      have f0 := hR.free 0
      have r1 : w2.cell? ⟨r, 1, none⟩ = some (.slice none 0 0) := hR.read 1
      have f1 := hR.free 1
      have hinr := hR.inside
      go_wp2_with (first | (go_at_call 33; refine (cT _ _ D2.inS).mono ?_; rintro e w' ⟨rfl, rfl⟩) | fail)
      have D8 := (((D2.swap.wrote (by decide) hne 0 (.slice none 0 0)).wrote (by decide) hne 1 (.slice none 0 0))).past (.cells (dfB none 0 0 none 0 0) 38)
      simp only [lfB, rtB, enB, rgB, dfB, List.setIfInBounds_toArray, List.set_cons_zero, List.set_cons_succ] at D8
      generalize World.alloc (World.setCell (World.setCell w2 _ _) _ _) _ = Z at *
      have hZ := D8.box 0
      have z0 : Z.cell? ⟨r, 0, none⟩ = some (.slice none 0 0) := hZ.read 0
      have z1 : Z.cell? ⟨r, 1, none⟩ = some (.slice none 0 0) := hZ.read 1
      exact bodyPost_ret (v := .agg (dfB none 0 0 none 0 0)) (by simp [results, Tryz.results132, go_sem, z0, z1]) rfl ⟨none, 0, none, 0, rfl, fun _ => rfl, fun _ => rfl, FRow.nil _ _, FRow.nil _ _, D8.inS, D8.off⟩
    | some y =>
      have e9 := HE9.out
      rw [if_neg (by simp)] at e9
      subst e9
      have hR := D2.box 1
      have hB := D2.box 0
      have r0 : w2.cell? ⟨r, 0, none⟩ = some (.slice none 0 0) := hR.read 0
      have f0 := hR.free 0
      have r1 : w2.cell? ⟨r, 1, none⟩ = some (.slice none 0 0) := hR.read 1
      have f1 := hR.free 1
      have hinr := hR.inside
      have b0 : w2.cell? ⟨b, 0, none⟩ = some (.slice A L.length c) := hB.read 0
      have b1 : w2.cell? ⟨b, 1, none⟩ = some (.slice B M.length d) := hB.read 1
      have hinb := hB.inside
      go_wp2_with (first | (go_at_call 33; refine (cT _ _ D2.inS).mono ?_; rintro e w' ⟨rfl, rfl⟩) | fail)
      have D8 := ((D2.swap.wrote (by decide) hne 0 (.slice A L.length c)).wrote (by decide) hne 1 (.slice B M.length d))
      simp only [lfB, rtB, enB, rgB, dfB, List.setIfInBounds_toArray, List.set_cons_zero, List.set_cons_succ] at D8
      have FA3 := (FA2.off (((Off.refl (One r) w2).set_ (p := ⟨r, 0, none⟩) (Or.inl rfl) (.slice A L.length c)).set_ (p := ⟨r, 1, none⟩) (Or.inl rfl) (.slice B M.length d)) hrV).less hLV
      have FB3 := (FB2.off (((Off.refl (One r) w2).set_ (p := ⟨r, 0, none⟩) (Or.inl rfl) (.slice A L.length c)).set_ (p := ⟨r, 1, none⟩) (Or.inl rfl) (.slice B M.length d)) hrV).less hLV
      generalize World.setCell (World.setCell w2 _ _) _ _ = Z at *
      have hZ := D8.box 0
      have z0 : Z.cell? ⟨r, 0, none⟩ = some (.slice A L.length c) := hZ.read 0
      have z1 : Z.cell? ⟨r, 1, none⟩ = some (.slice B M.length d) := hZ.read 1
      exact bodyPost_ret (v := .agg (dfB A L.length c B M.length d)) (by simp [results, Tryz.results132, go_sem, z0, z1]) rfl ⟨A, c, B, d, rfl, hc, hc2, FA3, FB3, D8.inS, D8.off⟩
  · have hE1 : (E == 0) = false := by simpa using hE
    have hE2 : (E != 0) = true := by simpa using hE
    have e9 := HV.out
    rw [if_neg hE, if_pos rfl] at e9
    subst e9
    clear hE
    go_upto_region 4 with (first
      | (go_at_call 120; refine (c2 A B c d _ (hT _ D1.off) FA1.1 FB1.1 hC1 hK1).mono ?_; rintro e w2 ⟨rfl, j2⟩)
      | (go_at_call 121; refine (cS _ _ (D1.call j2).inS).mono ?_; rintro e w3 ⟨rfl, t3, k3⟩)
      | fail)
    have D3 := (D1.call j2).read t3 k3
    clear p0 p1 p2 p3 hin0 hB hinb b0 b1
    have hR := D3.box 1
    have r0 : w3.cell? ⟨r, 0, none⟩ = some (.slice none 0 0) := hR.read 0
    have f0 := hR.free 0
    have r1 : w3.cell? ⟨r, 1, none⟩ = some (.slice none 0 0) := hR.read 1
    have f1 := hR.free 1
    have hinr := hR.inside
    go_wp2_with (first | (go_at_call 33; refine (cT _ _ D3.inS).mono ?_; rintro e w' ⟨rfl, rfl⟩) | fail)
    have D8 := (((D3.swap.wrote (by decide) hne 0 (.slice none 0 0)).wrote (by decide) hne 1 (.slice none 0 0))).past (.cells (dfB none 0 0 none 0 0) 38)
    simp only [lfB, rtB, enB, rgB, dfB, List.setIfInBounds_toArray, List.set_cons_zero, List.set_cons_succ] at D8
    generalize World.alloc (World.setCell (World.setCell w3 _ _) _ _) _ = Z at *
    have hZ := D8.box 0
    have z0 : Z.cell? ⟨r, 0, none⟩ = some (.slice none 0 0) := hZ.read 0
    have z1 : Z.cell? ⟨r, 1, none⟩ = some (.slice none 0 0) := hZ.read 1
    exact bodyPost_ret (v := .agg (dfB none 0 0 none 0 0)) (by simp [results, Tryz.results132, go_sem, z0, z1]) rfl ⟨none, 0, none, 0, rfl, fun _ => rfl, fun _ => rfl, FRow.nil _ _, FRow.nil _ _, D8.inS, D8.off⟩
end Go.Proofs.YtmflhodiibjpnaaGreatDoor
