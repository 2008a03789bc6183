/- Several of my texts, laid as one. -/
import Derived.Test.YtmflhodiibjpnaaGreatDoorM13Take
/-
  pack, walked: roots read.
-/
namespace Go.Proofs.YtmflhodiibjpnaaGreatDoor
set_option linter.unusedVariables false
set_option linter.unusedSimpArgs false
set_option maxRecDepth 10000
open Go.RowKit

theorem Rp.below {w W : World} {g : Nat} {st : StR} {l : List Blk} (h : Rp w g st l W) (hg : w.heap.size ≤ g) : Below w.heap.size w W := h.2.2.below (fun i hi => by have : i = g := hi; omega) (Nat.le_refl _)
set_option maxRecDepth 20000 in
set_option maxHeartbeats 4000000 in
theorem readR_any (s : ByteArray) (hs : s.size ≤ 4611686018427387903) (w : World)  : Calls Tryz.prog 75 #[.agg (rtF), .string s] w (Tells (.tuple #[(readT 82 (takeG rtP wrR RtP.zero) RtP.zero s).1.val, .int .i64 (readT 82 (takeG rtP wrR RtP.zero) RtP.zero s).2]) w.heap.size w) := by
  obtain ⟨VV, hVV⟩ : ∃ VV, readT 82 (takeG rtP wrR RtP.zero) RtP.zero s = VV := ⟨_, rfl⟩
  rw [hVV]
  unfold readT at hVV
  have cB := fun g u hu => in_byte u g (some s.data.toList) hu
  generalize nxt (opB (some s.data.toList)) = N at *
  generalize bV (opB (some s.data.toList)) = B at *
  obtain ⟨st1, hst⟩ : ∃ st1, (if B = ((82 : UInt8).toNat : Int) then N else none) = st1 := ⟨_, rfl⟩
  rw [hst] at hVV
  obtain ⟨V, hd⟩ : ∃ V, (takeG rtP wrR RtP.zero) st1 = V := ⟨_, rfl⟩
  have cK := fun g u hu => takeR_any u g st1 hu
  rw [hd] at hVV cK
  clear hd
  obtain ⟨⟨xs, xh, xl, xn⟩, s2⟩ := V
  simp only [RtP.val] at hVV cK
  have HV := hideIt hVV
  have HS := hideIt hst
  clear hVV hst
  have cO := fun u => in_open s hs u
  have D0 := ((Has.start w).add 109 (rtF)).addAt 26 (rtB ⟨#[]⟩ 0 0 0) (g := w.heap.size + 1) (by simp)
  go_enter Tryz.func75, Tryz.ntmps75
  go_upto_region 2 with (first
    | (go_at_call 30; refine (cO _).mono ?_; rintro e w1 ⟨g, rfl, hg, I1, j1⟩)
    | fail)
  have hb0 : (w.alloc (.cells (rtF) 109)).heap.size = w.heap.size + 1 := by simp
  have H1 := D0.call j1
  have L1 := H1.below
  have hgr : w.heap.size + 1 < g := Nat.lt_of_lt_of_le (D0.box 0).inside hg
  clear hg j1 D0
  obtain ⟨r, hr⟩ : ∃ r, w.heap.size + 1 = r := ⟨_, rfl⟩
  try rw [hb0]
  rw [hr] at H1 hgr ⊢
  clear hb0
  have D1 : Rp w g (some s.data.toList) [(r, 26, rtB ⟨#[]⟩ 0 0 0), (w.heap.size, 109, rtF)] w1 := ⟨I1, fun x hx => by
    simp only [List.mem_cons, List.not_mem_nil, or_false] at hx
    rcases hx with h | h
    · subst h; exact ⟨H1.box 0, by simp only; omega, by simp only; omega⟩
    · subst h; exact ⟨H1.box 1, Nat.le_refl _, by simp only; omega⟩, Off.of L1⟩
  have hwg : w.heap.size ≤ g := by omega
  have fact : ∀ u, Off (One g) w1 u → u.cell? ⟨w.heap.size, 0, none⟩ = some (.int .u8 82) ∧ w.heap.size < u.heap.size := fun u hu =>
    ⟨(hu.box (D1.box 1) (by show ¬ (w.heap.size = g); omega)).read 0, (hu.box (D1.box 1) (by show ¬ (w.heap.size = g); omega)).inside⟩
  have G0 : Off (One g) w1 w1.drew := (Off.refl _ _).drew
  have F0 := fact _ G0
  have I0 : InS w1.drew g (some s.data.toList) := D1.drew.inS
  by_cases hB : B = 82
  · have hB1 : (B == 82) = true := by simpa using hB
    have hB2 : (B != 82) = false := by simpa using hB
    have e8 := HS.out
    rw [if_pos (show B = ((82 : UInt8).toNat : Int) from hB)] at e8
    have HS8 := hideIt e8
    clear e8
    clear hB
    go_region_held3 (fun u => Off (One g) w1 u ∧ u.cell? ⟨w.heap.size, 0, none⟩ = some (.int .u8 82) ∧ w.heap.size < u.heap.size)
      (first | (with_reducible exact ⟨G0, F0⟩) | exact off_call fact (by assumption) (by assumption) | with_reducible assumption | fail)
      (first
        | (go_at_call 125; (with_reducible refine (cB _ _ I0).mono ?_); rintro e w2 ⟨rfl, t2, k2⟩)
        | fail)
    have D3 := D1.drew.read t2 k2
    rw [HS8.out] at D3
    clear t2
    obtain ⟨w3, hw3⟩ : ∃ w3, w2 = w3 := ⟨_, rfl⟩
    have o3 : Off (One g) w1 w3 := by rw [← hw3]; exact G0.trans k2
    rw [hw3] at D3 ⊢
    clear hw3
    obtain ⟨⟨p0, p1, p2, p3⟩, -, hin0⟩ := (D3.box 1).four
    go_upto_region 5 with (first
      | (go_at_call 71; refine (cK _ _ D3.inS).mono ?_; rintro e w4 ⟨rfl, t4, k4⟩)
      | fail)
    clear p0 p1 p2 p3 hin0
    have hlt : r < w4.heap.size := (D3.read t4 k4).box 0 |>.inside
    have D5 := (D3.read t4 k4).add 26 (rtB xs xh xl xn)
    change Code.wp _ _ _ _ (w4.alloc (.cells (rtB xs xh xl xn) 26))
    have L5 := chainA (Below.refl w4.heap.size w4) (.cells (rtB xs xh xl xn) 26)
    obtain ⟨b, hb⟩ : ∃ b, w4.heap.size = b := ⟨_, rfl⟩
    rw [hb] at hlt
    rw [hb] at D5 ⊢
    generalize w4.alloc (.cells (rtB xs xh xl xn) 26) = V5 at *
    clear t4 D3
    have hne : ∀ {cs cs' : Array Value}, ∀ x ∈ [((b, 26, cs) : Blk), (w.heap.size, 109, cs')], x.1 ≠ r := fun x hx => by
      simp only [List.mem_cons, List.not_mem_nil, or_false] at hx
      rcases hx with h | h <;> subst h <;> simp only <;> omega
    have hR := D5.box 1
    have hB := D5.box 0
    by_cases hs2 : s2 = some []
    · have e9 := HV.out
      rw [if_pos hs2] at e9
      have cC := fun u (hu : InS u g s2) => in_close u g s2 hu
      rw [closeN, if_pos hs2] at cC
      subst e9
      have r0 : V5.cell? ⟨r, 0, none⟩ = some (.string ⟨#[]⟩) := hR.read 0
      have f0 := hR.free 0
      have r1 : V5.cell? ⟨r, 1, none⟩ = some (.int .u64 0) := hR.read 1
      have f1 := hR.free 1
      have r2 : V5.cell? ⟨r, 2, none⟩ = some (.int .u64 0) := hR.read 2
      have f2 := hR.free 2
      have r3 : V5.cell? ⟨r, 3, none⟩ = some (.int .i64 0) := hR.read 3
      have f3 := hR.free 3
      have hinr := hR.inside
      have b0 : V5.cell? ⟨b, 0, none⟩ = some (.string xs) := hB.read 0
      have b1 : V5.cell? ⟨b, 1, none⟩ = some (.int .u64 xh) := hB.read 1
      have b2 : V5.cell? ⟨b, 2, none⟩ = some (.int .u64 xl) := hB.read 2
      have b3 : V5.cell? ⟨b, 3, none⟩ = some (.int .i64 xn) := hB.read 3
      have hinb := hB.inside
      clear hs2
      go_wp2_with (first | (go_at_call 126; refine (cC _ D5.inS).mono ?_; rintro e w6 ⟨rfl, rfl⟩) | fail)
      have D8 := ((((D5.swap.wrote (by decide) hne 0 (.string xs)).wrote (by decide) hne 1 (.int .u64 xh)).wrote (by decide) hne 2 (.int .u64 xl)).wrote (by decide) hne 3 (.int .i64 xn))
      simp only [lfB, rtB, enB, rgB, dfB, List.setIfInBounds_toArray, List.set_cons_zero, List.set_cons_succ] at D8

      generalize World.setCell (World.setCell (World.setCell (World.setCell V5 _ _) _ _) _ _) _ _ = Z at *
      have hZ := D8.box 0
      have z0 : Z.cell? ⟨r, 0, none⟩ = some (.string xs) := hZ.read 0
      have z1 : Z.cell? ⟨r, 1, none⟩ = some (.int .u64 xh) := hZ.read 1
      have z2 : Z.cell? ⟨r, 2, none⟩ = some (.int .u64 xl) := hZ.read 2
      have z3 : Z.cell? ⟨r, 3, none⟩ = some (.int .i64 xn) := hZ.read 3
      exact bodyPost_ret (v := .tuple #[.agg (rtB xs xh xl xn), .int .i64 0]) (by simp [results, Tryz.results75, go_sem, z0, z1, z2, z3]) rfl ⟨rfl, D8.below hwg⟩
    · have e9 := HV.out
      rw [if_neg hs2] at e9
      have cC := fun u (hu : InS u g s2) => in_close u g s2 hu
      rw [closeN, if_neg hs2] at cC
      subst e9
      have r0 : V5.cell? ⟨r, 0, none⟩ = some (.string ⟨#[]⟩) := hR.read 0
      have f0 := hR.free 0
      have r1 : V5.cell? ⟨r, 1, none⟩ = some (.int .u64 0) := hR.read 1
      have f1 := hR.free 1
      have r2 : V5.cell? ⟨r, 2, none⟩ = some (.int .u64 0) := hR.read 2
      have f2 := hR.free 2
      have r3 : V5.cell? ⟨r, 3, none⟩ = some (.int .i64 0) := hR.read 3
      have f3 := hR.free 3
      have hinr := hR.inside
      clear hs2
      go_wp2_with (first | (go_at_call 126; refine (cC _ D5.inS).mono ?_; rintro e w6 ⟨rfl, rfl⟩) | fail)
      have D8 := (((((D5.swap.wrote (by decide) hne 0 (.string ⟨#[]⟩)).wrote (by decide) hne 1 (.int .u64 0)).wrote (by decide) hne 2 (.int .u64 0)).wrote (by decide) hne 3 (.int .i64 0))).past (.cells (rtB ⟨#[]⟩ 0 0 0) 26)
      simp only [lfB, rtB, enB, rgB, dfB, List.setIfInBounds_toArray, List.set_cons_zero, List.set_cons_succ] at D8
      generalize World.alloc (World.setCell (World.setCell (World.setCell (World.setCell V5 _ _) _ _) _ _) _ _) _ = Z at *
      have hZ := D8.box 0
      have z0 : Z.cell? ⟨r, 0, none⟩ = some (.string ⟨#[]⟩) := hZ.read 0
      have z1 : Z.cell? ⟨r, 1, none⟩ = some (.int .u64 0) := hZ.read 1
      have z2 : Z.cell? ⟨r, 2, none⟩ = some (.int .u64 0) := hZ.read 2
      have z3 : Z.cell? ⟨r, 3, none⟩ = some (.int .i64 0) := hZ.read 3
      exact bodyPost_ret (v := .tuple #[.agg (rtB ⟨#[]⟩ 0 0 0), .int .i64 80]) (by simp [results, Tryz.results75, go_sem, z0, z1, z2, z3]) rfl ⟨rfl, D8.below hwg⟩
  · have hB1 : (B == 82) = false := by simpa using hB
    have hB2 : (B != 82) = true := by simpa using hB
    have e8 := HS.out
    rw [if_neg (show ¬ (B = ((82 : UInt8).toNat : Int)) from hB)] at e8
    have HS8 := hideIt e8
    clear e8
    clear hB
    have cS := fun u st2 (hu : InS u g st2) => in_spoil u g st2 hu
    go_region_held3 (fun u => Off (One g) w1 u ∧ u.cell? ⟨w.heap.size, 0, none⟩ = some (.int .u8 82) ∧ w.heap.size < u.heap.size)
      (first | (with_reducible exact ⟨G0, F0⟩) | exact off_call fact (by assumption) (by assumption) | with_reducible assumption | fail)
      (first
        | (go_at_call 125; (with_reducible refine (cB _ _ I0).mono ?_); rintro e w2 ⟨rfl, t2, k2⟩)
        | fail)
    go_upto_region 4 with (first
      | (go_at_call 121; refine (cS _ _ t2).mono ?_; rintro e w3 ⟨rfl, t3, k3⟩)
      | fail)
    have D3 := (D1.drew.read t2 k2).read t3 k3
    have o3 : Off (One g) w1 w3 := (G0.trans k2).trans k3
    rw [HS8.out] at D3
    clear t2 t3
    obtain ⟨⟨p0, p1, p2, p3⟩, -, hin0⟩ := (D3.box 1).four
    go_upto_region 5 with (first
      | (go_at_call 71; refine (cK _ _ D3.inS).mono ?_; rintro e w4 ⟨rfl, t4, k4⟩)
      | fail)
    clear p0 p1 p2 p3 hin0
    have hlt : r < w4.heap.size := (D3.read t4 k4).box 0 |>.inside
    have D5 := (D3.read t4 k4).add 26 (rtB xs xh xl xn)
    change Code.wp _ _ _ _ (w4.alloc (.cells (rtB xs xh xl xn) 26))
    have L5 := chainA (Below.refl w4.heap.size w4) (.cells (rtB xs xh xl xn) 26)
    obtain ⟨b, hb⟩ : ∃ b, w4.heap.size = b := ⟨_, rfl⟩
    rw [hb] at hlt
    rw [hb] at D5 ⊢
    generalize w4.alloc (.cells (rtB xs xh xl xn) 26) = V5 at *
    clear t4 D3
    have hne : ∀ {cs cs' : Array Value}, ∀ x ∈ [((b, 26, cs) : Blk), (w.heap.size, 109, cs')], x.1 ≠ r := fun x hx => by
      simp only [List.mem_cons, List.not_mem_nil, or_false] at hx
      rcases hx with h | h <;> subst h <;> simp only <;> omega
    have hR := D5.box 1
    have hB := D5.box 0
    by_cases hs2 : s2 = some []
    · have e9 := HV.out
      rw [if_pos hs2] at e9
      have cC := fun u (hu : InS u g s2) => in_close u g s2 hu
      rw [closeN, if_pos hs2] at cC
      subst e9
      have r0 : V5.cell? ⟨r, 0, none⟩ = some (.string ⟨#[]⟩) := hR.read 0
      have f0 := hR.free 0
      have r1 : V5.cell? ⟨r, 1, none⟩ = some (.int .u64 0) := hR.read 1
      have f1 := hR.free 1
      have r2 : V5.cell? ⟨r, 2, none⟩ = some (.int .u64 0) := hR.read 2
      have f2 := hR.free 2
      have r3 : V5.cell? ⟨r, 3, none⟩ = some (.int .i64 0) := hR.read 3
      have f3 := hR.free 3
      have hinr := hR.inside
      have b0 : V5.cell? ⟨b, 0, none⟩ = some (.string xs) := hB.read 0
      have b1 : V5.cell? ⟨b, 1, none⟩ = some (.int .u64 xh) := hB.read 1
      have b2 : V5.cell? ⟨b, 2, none⟩ = some (.int .u64 xl) := hB.read 2
      have b3 : V5.cell? ⟨b, 3, none⟩ = some (.int .i64 xn) := hB.read 3
      have hinb := hB.inside
      clear hs2
      go_wp2_with (first | (go_at_call 126; refine (cC _ D5.inS).mono ?_; rintro e w6 ⟨rfl, rfl⟩) | fail)
      have D8 := ((((D5.swap.wrote (by decide) hne 0 (.string xs)).wrote (by decide) hne 1 (.int .u64 xh)).wrote (by decide) hne 2 (.int .u64 xl)).wrote (by decide) hne 3 (.int .i64 xn))
      simp only [lfB, rtB, enB, rgB, dfB, List.setIfInBounds_toArray, List.set_cons_zero, List.set_cons_succ] at D8

      generalize World.setCell (World.setCell (World.setCell (World.setCell V5 _ _) _ _) _ _) _ _ = Z at *
      have hZ := D8.box 0
      have z0 : Z.cell? ⟨r, 0, none⟩ = some (.string xs) := hZ.read 0
      have z1 : Z.cell? ⟨r, 1, none⟩ = some (.int .u64 xh) := hZ.read 1
      have z2 : Z.cell? ⟨r, 2, none⟩ = some (.int .u64 xl) := hZ.read 2
      have z3 : Z.cell? ⟨r, 3, none⟩ = some (.int .i64 xn) := hZ.read 3
      exact bodyPost_ret (v := .tuple #[.agg (rtB xs xh xl xn), .int .i64 0]) (by simp [results, Tryz.results75, go_sem, z0, z1, z2, z3]) rfl ⟨rfl, D8.below hwg⟩
    · have e9 := HV.out
      rw [if_neg hs2] at e9
      have cC := fun u (hu : InS u g s2) => in_close u g s2 hu
      rw [closeN, if_neg hs2] at cC
      subst e9
      have r0 : V5.cell? ⟨r, 0, none⟩ = some (.string ⟨#[]⟩) := hR.read 0
      have f0 := hR.free 0
      have r1 : V5.cell? ⟨r, 1, none⟩ = some (.int .u64 0) := hR.read 1
      have f1 := hR.free 1
      have r2 : V5.cell? ⟨r, 2, none⟩ = some (.int .u64 0) := hR.read 2
      have f2 := hR.free 2
      have r3 : V5.cell? ⟨r, 3, none⟩ = some (.int .i64 0) := hR.read 3
      have f3 := hR.free 3
      have hinr := hR.inside
      clear hs2
      go_wp2_with (first | (go_at_call 126; refine (cC _ D5.inS).mono ?_; rintro e w6 ⟨rfl, rfl⟩) | fail)
      have D8 := (((((D5.swap.wrote (by decide) hne 0 (.string ⟨#[]⟩)).wrote (by decide) hne 1 (.int .u64 0)).wrote (by decide) hne 2 (.int .u64 0)).wrote (by decide) hne 3 (.int .i64 0))).past (.cells (rtB ⟨#[]⟩ 0 0 0) 26)
      simp only [lfB, rtB, enB, rgB, dfB, List.setIfInBounds_toArray, List.set_cons_zero, List.set_cons_succ] at D8
      generalize World.alloc (World.setCell (World.setCell (World.setCell (World.setCell V5 _ _) _ _) _ _) _ _) _ = Z at *
      have hZ := D8.box 0
      have z0 : Z.cell? ⟨r, 0, none⟩ = some (.string ⟨#[]⟩) := hZ.read 0
      have z1 : Z.cell? ⟨r, 1, none⟩ = some (.int .u64 0) := hZ.read 1
      have z2 : Z.cell? ⟨r, 2, none⟩ = some (.int .u64 0) := hZ.read 2
      have z3 : Z.cell? ⟨r, 3, none⟩ = some (.int .i64 0) := hZ.read 3
      exact bodyPost_ret (v := .tuple #[.agg (rtB ⟨#[]⟩ 0 0 0), .int .i64 80]) (by simp [results, Tryz.results75, go_sem, z0, z1, z2, z3]) rfl ⟨rfl, D8.below hwg⟩
end Go.Proofs.YtmflhodiibjpnaaGreatDoor
/-
  pack, walked: leaves read.
-/
namespace Go.Proofs.YtmflhodiibjpnaaGreatDoor
set_option linter.unusedVariables false
set_option linter.unusedSimpArgs false
set_option maxRecDepth 10000
open Go.RowKit

theorem below_off {w w1 u : World} {g : Nat} (L : Below w.heap.size w w1) (h : Off (One g) w1 u) (hg : w.heap.size ≤ g) : Below w.heap.size w u :=
  ⟨h.os.trans L.os, h.tape.trans L.tape, h.output.trans L.output, Nat.le_trans L.size h.size, fun k hk => (h.block k (Nat.lt_of_lt_of_le hk L.size) (fun e => by have : k = g := e; omega)).trans (L.block k hk)⟩
set_option maxRecDepth 20000 in
set_option maxHeartbeats 4000000 in
theorem readL_any (s : ByteArray) (hs : s.size ≤ 4611686018427387903) (w : World) (hT : TabU w) : Calls Tryz.prog 78 #[.agg (lfF), .string s] w (Tells (.tuple #[(readT 76 (takeG lfP wrLf Lf.zero) Lf.zero s).1.val, .int .i64 (readT 76 (takeG lfP wrLf Lf.zero) Lf.zero s).2]) w.heap.size w) := by
  obtain ⟨VV, hVV⟩ : ∃ VV, readT 76 (takeG lfP wrLf Lf.zero) Lf.zero s = VV := ⟨_, rfl⟩
  rw [hVV]
  unfold readT at hVV
  have cB := fun g u hu => in_byte u g (some s.data.toList) hu
  generalize nxt (opB (some s.data.toList)) = N at *
  generalize bV (opB (some s.data.toList)) = B at *
  obtain ⟨st1, hst⟩ : ∃ st1, (if B = ((76 : UInt8).toNat : Int) then N else none) = st1 := ⟨_, rfl⟩
  rw [hst] at hVV
  obtain ⟨V, hd⟩ : ∃ V, (takeG lfP wrLf Lf.zero) st1 = V := ⟨_, rfl⟩
  have cK := fun g u hu hv => takeL_any u g st1 hu hv
  rw [hd] at hVV cK
  clear hd
  obtain ⟨⟨xp, xi, xs, xh, xl⟩, s2⟩ := V
  simp only [Lf.val] at hVV cK
  have HV := hideIt hVV
  have HS := hideIt hst
  clear hVV hst
  have cO := fun u => in_open s hs u
  have D0 := ((Has.start w).add 118 (lfF)).addAt 28 (lfB false ⟨#[]⟩ ⟨#[]⟩ 0 0) (g := w.heap.size + 1) (by simp)
  go_enter Tryz.func78, Tryz.ntmps78
  go_upto_region 2 with (first
    | (go_at_call 30; refine (cO _).mono ?_; rintro e w1 ⟨g, rfl, hg, I1, j1⟩)
    | fail)
  have hb0 : (w.alloc (.cells (lfF) 118)).heap.size = w.heap.size + 1 := by simp
  have H1 := D0.call j1
  have L1 := H1.below
  have hgr : w.heap.size + 1 < g := Nat.lt_of_lt_of_le (D0.box 0).inside hg
  clear hg j1 D0
  obtain ⟨r, hr⟩ : ∃ r, w.heap.size + 1 = r := ⟨_, rfl⟩
  try rw [hb0]
  rw [hr] at H1 hgr ⊢
  clear hb0
  have D1 : Rp w g (some s.data.toList) [(r, 28, lfB false ⟨#[]⟩ ⟨#[]⟩ 0 0), (w.heap.size, 118, lfF)] w1 := ⟨I1, fun x hx => by
    simp only [List.mem_cons, List.not_mem_nil, or_false] at hx
    rcases hx with h | h
    · subst h; exact ⟨H1.box 0, by simp only; omega, by simp only; omega⟩
    · subst h; exact ⟨H1.box 1, Nat.le_refl _, by simp only; omega⟩, Off.of L1⟩
  have hwg : w.heap.size ≤ g := by omega
  have fact : ∀ u, Off (One g) w1 u → u.cell? ⟨w.heap.size, 0, none⟩ = some (.int .u8 76) ∧ w.heap.size < u.heap.size := fun u hu =>
    ⟨(hu.box (D1.box 1) (by show ¬ (w.heap.size = g); omega)).read 0, (hu.box (D1.box 1) (by show ¬ (w.heap.size = g); omega)).inside⟩
  have G0 : Off (One g) w1 w1.drew := (Off.refl _ _).drew
  have F0 := fact _ G0
  have I0 : InS w1.drew g (some s.data.toList) := D1.drew.inS
  by_cases hB : B = 76
  · have hB1 : (B == 76) = true := by simpa using hB
    have hB2 : (B != 76) = false := by simpa using hB
    have e8 := HS.out
    rw [if_pos (show B = ((76 : UInt8).toNat : Int) from hB)] at e8
    have HS8 := hideIt e8
    clear e8
    clear hB
    go_region_held3 (fun u => Off (One g) w1 u ∧ u.cell? ⟨w.heap.size, 0, none⟩ = some (.int .u8 76) ∧ w.heap.size < u.heap.size)
      (first | (with_reducible exact ⟨G0, F0⟩) | exact off_call fact (by assumption) (by assumption) | with_reducible assumption | fail)
      (first
        | (go_at_call 125; (with_reducible refine (cB _ _ I0).mono ?_); rintro e w2 ⟨rfl, t2, k2⟩)
        | fail)
    have D3 := D1.drew.read t2 k2
    rw [HS8.out] at D3
    clear t2
    obtain ⟨w3, hw3⟩ : ∃ w3, w2 = w3 := ⟨_, rfl⟩
    have o3 : Off (One g) w1 w3 := by rw [← hw3]; exact G0.trans k2
    rw [hw3] at D3 ⊢
    clear hw3
    obtain ⟨⟨p0, p1, p2, p3⟩, -, hin0⟩ := (D3.box 1).four
    go_upto_region 5 with (first
      | (go_at_call 128; refine (cK _ _ D3.inS (fun u hu => hT.call (below_off L1 (o3.trans hu) hwg))).mono ?_; rintro e w4 ⟨rfl, t4, k4⟩)
      | fail)
    clear p0 p1 p2 p3 hin0
    have hlt : r < w4.heap.size := (D3.read t4 k4).box 0 |>.inside
    have D5 := (D3.read t4 k4).add 28 (lfB xp xi xs xh xl)
    change Code.wp _ _ _ _ (w4.alloc (.cells (lfB xp xi xs xh xl) 28))
    have L5 := chainA (Below.refl w4.heap.size w4) (.cells (lfB xp xi xs xh xl) 28)
    obtain ⟨b, hb⟩ : ∃ b, w4.heap.size = b := ⟨_, rfl⟩
    rw [hb] at hlt
    rw [hb] at D5 ⊢
    generalize w4.alloc (.cells (lfB xp xi xs xh xl) 28) = V5 at *
    clear t4 D3
    have hne : ∀ {cs cs' : Array Value}, ∀ x ∈ [((b, 28, cs) : Blk), (w.heap.size, 118, cs')], x.1 ≠ r := fun x hx => by
      simp only [List.mem_cons, List.not_mem_nil, or_false] at hx
      rcases hx with h | h <;> subst h <;> simp only <;> omega
    have hR := D5.box 1
    have hB := D5.box 0
    by_cases hs2 : s2 = some []
    · have e9 := HV.out
      rw [if_pos hs2] at e9
      have cC := fun u (hu : InS u g s2) => in_close u g s2 hu
      rw [closeN, if_pos hs2] at cC
      subst e9
      have r0 : V5.cell? ⟨r, 0, none⟩ = some (.bool false) := hR.read 0
      have f0 := hR.free 0
      have r1 : V5.cell? ⟨r, 1, none⟩ = some (.string ⟨#[]⟩) := hR.read 1
      have f1 := hR.free 1
      have r2 : V5.cell? ⟨r, 2, none⟩ = some (.string ⟨#[]⟩) := hR.read 2
      have f2 := hR.free 2
      have r3 : V5.cell? ⟨r, 3, none⟩ = some (.int .u64 0) := hR.read 3
      have f3 := hR.free 3
      have r4 : V5.cell? ⟨r, 4, none⟩ = some (.int .u64 0) := hR.read 4
      have f4 := hR.free 4
      have hinr := hR.inside
      have b0 : V5.cell? ⟨b, 0, none⟩ = some (.bool xp) := hB.read 0
      have b1 : V5.cell? ⟨b, 1, none⟩ = some (.string xi) := hB.read 1
      have b2 : V5.cell? ⟨b, 2, none⟩ = some (.string xs) := hB.read 2
      have b3 : V5.cell? ⟨b, 3, none⟩ = some (.int .u64 xh) := hB.read 3
      have b4 : V5.cell? ⟨b, 4, none⟩ = some (.int .u64 xl) := hB.read 4
      have hinb := hB.inside
      clear hs2
      go_wp2_with (first | (go_at_call 126; refine (cC _ D5.inS).mono ?_; rintro e w6 ⟨rfl, rfl⟩) | fail)
      have D8 := (((((D5.swap.wrote (by decide) hne 0 (.bool xp)).wrote (by decide) hne 1 (.string xi)).wrote (by decide) hne 2 (.string xs)).wrote (by decide) hne 3 (.int .u64 xh)).wrote (by decide) hne 4 (.int .u64 xl))
      simp only [lfB, rtB, enB, rgB, dfB, List.setIfInBounds_toArray, List.set_cons_zero, List.set_cons_succ] at D8

      generalize World.setCell (World.setCell (World.setCell (World.setCell (World.setCell V5 _ _) _ _) _ _) _ _) _ _ = Z at *
      have hZ := D8.box 0
      have z0 : Z.cell? ⟨r, 0, none⟩ = some (.bool xp) := hZ.read 0
      have z1 : Z.cell? ⟨r, 1, none⟩ = some (.string xi) := hZ.read 1
      have z2 : Z.cell? ⟨r, 2, none⟩ = some (.string xs) := hZ.read 2
      have z3 : Z.cell? ⟨r, 3, none⟩ = some (.int .u64 xh) := hZ.read 3
      have z4 : Z.cell? ⟨r, 4, none⟩ = some (.int .u64 xl) := hZ.read 4
      exact bodyPost_ret (v := .tuple #[.agg (lfB xp xi xs xh xl), .int .i64 0]) (by simp [results, Tryz.results78, go_sem, z0, z1, z2, z3, z4]) rfl ⟨rfl, D8.below hwg⟩
    · have e9 := HV.out
      rw [if_neg hs2] at e9
      have cC := fun u (hu : InS u g s2) => in_close u g s2 hu
      rw [closeN, if_neg hs2] at cC
      subst e9
      have r0 : V5.cell? ⟨r, 0, none⟩ = some (.bool false) := hR.read 0
      have f0 := hR.free 0
      have r1 : V5.cell? ⟨r, 1, none⟩ = some (.string ⟨#[]⟩) := hR.read 1
      have f1 := hR.free 1
      have r2 : V5.cell? ⟨r, 2, none⟩ = some (.string ⟨#[]⟩) := hR.read 2
      have f2 := hR.free 2
      have r3 : V5.cell? ⟨r, 3, none⟩ = some (.int .u64 0) := hR.read 3
      have f3 := hR.free 3
      have r4 : V5.cell? ⟨r, 4, none⟩ = some (.int .u64 0) := hR.read 4
      have f4 := hR.free 4
      have hinr := hR.inside
      clear hs2
      go_wp2_with (first | (go_at_call 126; refine (cC _ D5.inS).mono ?_; rintro e w6 ⟨rfl, rfl⟩) | fail)
      have D8 := ((((((D5.swap.wrote (by decide) hne 0 (.bool false)).wrote (by decide) hne 1 (.string ⟨#[]⟩)).wrote (by decide) hne 2 (.string ⟨#[]⟩)).wrote (by decide) hne 3 (.int .u64 0)).wrote (by decide) hne 4 (.int .u64 0))).past (.cells (lfB false ⟨#[]⟩ ⟨#[]⟩ 0 0) 28)
      simp only [lfB, rtB, enB, rgB, dfB, List.setIfInBounds_toArray, List.set_cons_zero, List.set_cons_succ] at D8
      generalize World.alloc (World.setCell (World.setCell (World.setCell (World.setCell (World.setCell V5 _ _) _ _) _ _) _ _) _ _) _ = Z at *
      have hZ := D8.box 0
      have z0 : Z.cell? ⟨r, 0, none⟩ = some (.bool false) := hZ.read 0
      have z1 : Z.cell? ⟨r, 1, none⟩ = some (.string ⟨#[]⟩) := hZ.read 1
      have z2 : Z.cell? ⟨r, 2, none⟩ = some (.string ⟨#[]⟩) := hZ.read 2
      have z3 : Z.cell? ⟨r, 3, none⟩ = some (.int .u64 0) := hZ.read 3
      have z4 : Z.cell? ⟨r, 4, none⟩ = some (.int .u64 0) := hZ.read 4
      exact bodyPost_ret (v := .tuple #[.agg (lfB false ⟨#[]⟩ ⟨#[]⟩ 0 0), .int .i64 80]) (by simp [results, Tryz.results78, go_sem, z0, z1, z2, z3, z4]) rfl ⟨rfl, D8.below hwg⟩
  · have hB1 : (B == 76) = false := by simpa using hB
    have hB2 : (B != 76) = true := by simpa using hB
    have e8 := HS.out
    rw [if_neg (show ¬ (B = ((76 : UInt8).toNat : Int)) from hB)] at e8
    have HS8 := hideIt e8
    clear e8
    clear hB
    have cS := fun u st2 (hu : InS u g st2) => in_spoil u g st2 hu
    go_region_held3 (fun u => Off (One g) w1 u ∧ u.cell? ⟨w.heap.size, 0, none⟩ = some (.int .u8 76) ∧ w.heap.size < u.heap.size)
      (first | (with_reducible exact ⟨G0, F0⟩) | exact off_call fact (by assumption) (by assumption) | with_reducible assumption | fail)
      (first
        | (go_at_call 125; (with_reducible refine (cB _ _ I0).mono ?_); rintro e w2 ⟨rfl, t2, k2⟩)
        | fail)
    go_upto_region 4 with (first
      | (go_at_call 121; refine (cS _ _ t2).mono ?_; rintro e w3 ⟨rfl, t3, k3⟩)
      | fail)
    have D3 := (D1.drew.read t2 k2).read t3 k3
    have o3 : Off (One g) w1 w3 := (G0.trans k2).trans k3
    rw [HS8.out] at D3
    clear t2 t3
    obtain ⟨⟨p0, p1, p2, p3⟩, -, hin0⟩ := (D3.box 1).four
    go_upto_region 5 with (first
      | (go_at_call 128; refine (cK _ _ D3.inS (fun u hu => hT.call (below_off L1 (o3.trans hu) hwg))).mono ?_; rintro e w4 ⟨rfl, t4, k4⟩)
      | fail)
    clear p0 p1 p2 p3 hin0
    have hlt : r < w4.heap.size := (D3.read t4 k4).box 0 |>.inside
    have D5 := (D3.read t4 k4).add 28 (lfB xp xi xs xh xl)
    change Code.wp _ _ _ _ (w4.alloc (.cells (lfB xp xi xs xh xl) 28))
    have L5 := chainA (Below.refl w4.heap.size w4) (.cells (lfB xp xi xs xh xl) 28)
    obtain ⟨b, hb⟩ : ∃ b, w4.heap.size = b := ⟨_, rfl⟩
    rw [hb] at hlt
    rw [hb] at D5 ⊢
    generalize w4.alloc (.cells (lfB xp xi xs xh xl) 28) = V5 at *
    clear t4 D3
    have hne : ∀ {cs cs' : Array Value}, ∀ x ∈ [((b, 28, cs) : Blk), (w.heap.size, 118, cs')], x.1 ≠ r := fun x hx => by
      simp only [List.mem_cons, List.not_mem_nil, or_false] at hx
      rcases hx with h | h <;> subst h <;> simp only <;> omega
    have hR := D5.box 1
    have hB := D5.box 0
    by_cases hs2 : s2 = some []
    · have e9 := HV.out
      rw [if_pos hs2] at e9
      have cC := fun u (hu : InS u g s2) => in_close u g s2 hu
      rw [closeN, if_pos hs2] at cC
      subst e9
      have r0 : V5.cell? ⟨r, 0, none⟩ = some (.bool false) := hR.read 0
      have f0 := hR.free 0
      have r1 : V5.cell? ⟨r, 1, none⟩ = some (.string ⟨#[]⟩) := hR.read 1
      have f1 := hR.free 1
      have r2 : V5.cell? ⟨r, 2, none⟩ = some (.string ⟨#[]⟩) := hR.read 2
      have f2 := hR.free 2
      have r3 : V5.cell? ⟨r, 3, none⟩ = some (.int .u64 0) := hR.read 3
      have f3 := hR.free 3
      have r4 : V5.cell? ⟨r, 4, none⟩ = some (.int .u64 0) := hR.read 4
      have f4 := hR.free 4
      have hinr := hR.inside
      have b0 : V5.cell? ⟨b, 0, none⟩ = some (.bool xp) := hB.read 0
      have b1 : V5.cell? ⟨b, 1, none⟩ = some (.string xi) := hB.read 1
      have b2 : V5.cell? ⟨b, 2, none⟩ = some (.string xs) := hB.read 2
      have b3 : V5.cell? ⟨b, 3, none⟩ = some (.int .u64 xh) := hB.read 3
      have b4 : V5.cell? ⟨b, 4, none⟩ = some (.int .u64 xl) := hB.read 4
      have hinb := hB.inside
      clear hs2
      go_wp2_with (first | (go_at_call 126; refine (cC _ D5.inS).mono ?_; rintro e w6 ⟨rfl, rfl⟩) | fail)
      have D8 := (((((D5.swap.wrote (by decide) hne 0 (.bool xp)).wrote (by decide) hne 1 (.string xi)).wrote (by decide) hne 2 (.string xs)).wrote (by decide) hne 3 (.int .u64 xh)).wrote (by decide) hne 4 (.int .u64 xl))
      simp only [lfB, rtB, enB, rgB, dfB, List.setIfInBounds_toArray, List.set_cons_zero, List.set_cons_succ] at D8

      generalize World.setCell (World.setCell (World.setCell (World.setCell (World.setCell V5 _ _) _ _) _ _) _ _) _ _ = Z at *
      have hZ := D8.box 0
      have z0 : Z.cell? ⟨r, 0, none⟩ = some (.bool xp) := hZ.read 0
      have z1 : Z.cell? ⟨r, 1, none⟩ = some (.string xi) := hZ.read 1
      have z2 : Z.cell? ⟨r, 2, none⟩ = some (.string xs) := hZ.read 2
      have z3 : Z.cell? ⟨r, 3, none⟩ = some (.int .u64 xh) := hZ.read 3
      have z4 : Z.cell? ⟨r, 4, none⟩ = some (.int .u64 xl) := hZ.read 4
      exact bodyPost_ret (v := .tuple #[.agg (lfB xp xi xs xh xl), .int .i64 0]) (by simp [results, Tryz.results78, go_sem, z0, z1, z2, z3, z4]) rfl ⟨rfl, D8.below hwg⟩
    · have e9 := HV.out
      rw [if_neg hs2] at e9
      have cC := fun u (hu : InS u g s2) => in_close u g s2 hu
      rw [closeN, if_neg hs2] at cC
      subst e9
      have r0 : V5.cell? ⟨r, 0, none⟩ = some (.bool false) := hR.read 0
      have f0 := hR.free 0
      have r1 : V5.cell? ⟨r, 1, none⟩ = some (.string ⟨#[]⟩) := hR.read 1
      have f1 := hR.free 1
      have r2 : V5.cell? ⟨r, 2, none⟩ = some (.string ⟨#[]⟩) := hR.read 2
      have f2 := hR.free 2
      have r3 : V5.cell? ⟨r, 3, none⟩ = some (.int .u64 0) := hR.read 3
      have f3 := hR.free 3
      have r4 : V5.cell? ⟨r, 4, none⟩ = some (.int .u64 0) := hR.read 4
      have f4 := hR.free 4
      have hinr := hR.inside
      clear hs2
      go_wp2_with (first | (go_at_call 126; refine (cC _ D5.inS).mono ?_; rintro e w6 ⟨rfl, rfl⟩) | fail)
      have D8 := ((((((D5.swap.wrote (by decide) hne 0 (.bool false)).wrote (by decide) hne 1 (.string ⟨#[]⟩)).wrote (by decide) hne 2 (.string ⟨#[]⟩)).wrote (by decide) hne 3 (.int .u64 0)).wrote (by decide) hne 4 (.int .u64 0))).past (.cells (lfB false ⟨#[]⟩ ⟨#[]⟩ 0 0) 28)
      simp only [lfB, rtB, enB, rgB, dfB, List.setIfInBounds_toArray, List.set_cons_zero, List.set_cons_succ] at D8
      generalize World.alloc (World.setCell (World.setCell (World.setCell (World.setCell (World.setCell V5 _ _) _ _) _ _) _ _) _ _) _ = Z at *
      have hZ := D8.box 0
      have z0 : Z.cell? ⟨r, 0, none⟩ = some (.bool false) := hZ.read 0
      have z1 : Z.cell? ⟨r, 1, none⟩ = some (.string ⟨#[]⟩) := hZ.read 1
      have z2 : Z.cell? ⟨r, 2, none⟩ = some (.string ⟨#[]⟩) := hZ.read 2
      have z3 : Z.cell? ⟨r, 3, none⟩ = some (.int .u64 0) := hZ.read 3
      have z4 : Z.cell? ⟨r, 4, none⟩ = some (.int .u64 0) := hZ.read 4
      exact bodyPost_ret (v := .tuple #[.agg (lfB false ⟨#[]⟩ ⟨#[]⟩ 0 0), .int .i64 80]) (by simp [results, Tryz.results78, go_sem, z0, z1, z2, z3, z4]) rfl ⟨rfl, D8.below hwg⟩
end Go.Proofs.YtmflhodiibjpnaaGreatDoor
/-
  pack, walked: entries read.
-/
namespace Go.Proofs.YtmflhodiibjpnaaGreatDoor
set_option linter.unusedVariables false
set_option linter.unusedSimpArgs false
set_option maxRecDepth 10000
open Go.RowKit

def EnTells (x : EnP) (n : Int) (w : World) (e : Ending) (w' : World) : Prop := ∃ (A : Option Addr) (c : Nat), e = .returned (.tuple #[.agg (enB x.leaf.pad x.leaf.id x.leaf.salt x.leaf.h x.leaf.l x.pos A x.sides.length c), .int .i64 n]) ∧ (A = none → c = 0) ∧ FRow ndS w' w.heap.size A x.sides ∧ Below w.heap.size w w'
set_option maxRecDepth 20000 in
set_option maxHeartbeats 4000000 in
theorem readE_any (s : ByteArray) (hs : s.size ≤ 4611686018427387903) (w : World) (hT : TabU w) (a p i k : Nat) (hA : IsLf w a) (hK : IsPr w p i k) : Calls Tryz.prog 80 #[.agg (enF a p), .string s] w (EnTells (readT 69 (takeG enP wrE EnP.zero) EnP.zero s).1 (readT 69 (takeG enP wrE EnP.zero) EnP.zero s).2 w) := by
  obtain ⟨VV, hVV⟩ : ∃ VV, readT 69 (takeG enP wrE EnP.zero) EnP.zero s = VV := ⟨_, rfl⟩
  rw [hVV]
  unfold readT at hVV
  have cB := fun g u hu => in_byte u g (some s.data.toList) hu
  generalize nxt (opB (some s.data.toList)) = N at *
  generalize bV (opB (some s.data.toList)) = B at *
  obtain ⟨st1, hst⟩ : ∃ st1, (if B = ((69 : UInt8).toNat : Int) then N else none) = st1 := ⟨_, rfl⟩
  rw [hst] at hVV
  obtain ⟨V, hd⟩ : ∃ V, (takeG enP wrE EnP.zero) st1 = V := ⟨_, rfl⟩
  have cK := fun g u hu h2 h3 h4 => takeE_any u g st1 hu a p i k h2 h3 h4
  rw [hd] at hVV cK
  clear hd
  obtain ⟨⟨⟨xp, xi, xs, xh, xl⟩, q, L⟩, s2⟩ := V
  simp only at hVV cK
  have HV := hideIt hVV
  have HS := hideIt hst
  clear hVV hst
  have cO := fun u => in_open s hs u
  have D0 := ((Has.start w).add 125 (enF a p)).addAt 33 (enB false ⟨#[]⟩ ⟨#[]⟩ 0 0 0 none 0 0) (g := w.heap.size + 1) (by simp)
  go_enter Tryz.func80, Tryz.ntmps80
  go_upto_region 2 with (first
    | (go_at_call 30; refine (cO _).mono ?_; rintro e w1 ⟨g, rfl, hg, I1, j1⟩)
    | fail)
  have hb0 : (w.alloc (.cells (enF a p) 125)).heap.size = w.heap.size + 1 := by simp
  have H1 := D0.call j1
  have L1 := H1.below
  have hgr : w.heap.size + 1 < g := Nat.lt_of_lt_of_le (D0.box 0).inside hg
  clear hg j1 D0
  obtain ⟨r, hr⟩ : ∃ r, w.heap.size + 1 = r := ⟨_, rfl⟩
  try rw [hb0]
  rw [hr] at H1 hgr ⊢
  clear hb0
  have D1 : Rp w g (some s.data.toList) [(r, 33, enB false ⟨#[]⟩ ⟨#[]⟩ 0 0 0 none 0 0), (w.heap.size, 125, enF a p)] w1 := ⟨I1, fun x hx => by
    simp only [List.mem_cons, List.not_mem_nil, or_false] at hx
    rcases hx with h | h
    · subst h; exact ⟨H1.box 0, by simp only; omega, by simp only; omega⟩
    · subst h; exact ⟨H1.box 1, Nat.le_refl _, by simp only; omega⟩, Off.of L1⟩
  have hwg : w.heap.size ≤ g := by omega
  have hA1 := hA.call L1
  have hK1 := hK.call L1
  have P1 := D1.inS.port
  have fact : ∀ u, Off (One g) w1 u → u.cell? ⟨w.heap.size, 0, none⟩ = some (.int .u8 69) ∧ w.heap.size < u.heap.size := fun u hu =>
    ⟨(hu.box (D1.box 1) (by show ¬ (w.heap.size = g); omega)).read 0, (hu.box (D1.box 1) (by show ¬ (w.heap.size = g); omega)).inside⟩
  have G0 : Off (One g) w1 w1.drew := (Off.refl _ _).drew
  have F0 := fact _ G0
  have I0 : InS w1.drew g (some s.data.toList) := D1.drew.inS
  by_cases hB : B = 69
  · have hB1 : (B == 69) = true := by simpa using hB
    have hB2 : (B != 69) = false := by simpa using hB
    have e8 := HS.out
    rw [if_pos (show B = ((69 : UInt8).toNat : Int) from hB)] at e8
    have HS8 := hideIt e8
    clear e8
    clear hB
    go_region_held3 (fun u => Off (One g) w1 u ∧ u.cell? ⟨w.heap.size, 0, none⟩ = some (.int .u8 69) ∧ w.heap.size < u.heap.size)
      (first | (with_reducible exact ⟨G0, F0⟩) | exact off_call fact (by assumption) (by assumption) | with_reducible assumption | fail)
      (first
        | (go_at_call 125; (with_reducible refine (cB _ _ I0).mono ?_); rintro e w2 ⟨rfl, t2, k2⟩)
        | fail)
    have D3 := D1.drew.read t2 k2
    rw [HS8.out] at D3
    clear t2
    obtain ⟨w3, hw3⟩ : ∃ w3, w2 = w3 := ⟨_, rfl⟩
    have o3 : Off (One g) w1 w3 := by rw [← hw3]; exact G0.trans k2
    rw [hw3] at D3 ⊢
    clear hw3
    obtain ⟨⟨p0, p1, p2, p3⟩, -, hin0⟩ := (D3.box 1).four
    have hA3 := hA1.off P1 o3
    have hK3 := hK1.off P1 o3
    have hr3 := (D3.box 0).inside
    have hw3 := D3.size
    go_upto_region 5 with (first
      | (go_at_call 130; refine (cK _ _ D3.inS hA3 hK3 (fun u hu => hT.call (below_off L1 (o3.trans hu) hwg))).mono ?_; rintro e w4 ⟨A, c, rfl, hc, FR, t4, k4⟩)
      | fail)
    clear p0 p1 p2 p3 hin0
    have hlt : r < w4.heap.size := (D3.read t4 k4).box 0 |>.inside
    have D5 := (D3.read t4 k4).add 33 (enB xp xi xs xh xl q A L.length c)
    change Code.wp _ _ _ _ (w4.alloc (.cells (enB xp xi xs xh xl q A L.length c) 33))
    have L5 := chainA (Below.refl w4.heap.size w4) (.cells (enB xp xi xs xh xl q A L.length c) 33)
    have FR1 := FR.call L5
    obtain ⟨b, hb⟩ : ∃ b, w4.heap.size = b := ⟨_, rfl⟩
    rw [hb] at hlt
    rw [hb] at D5 ⊢
    generalize w4.alloc (.cells (enB xp xi xs xh xl q A L.length c) 33) = V5 at *
    clear t4 D3
    have hne : ∀ {cs cs' : Array Value}, ∀ x ∈ [((b, 33, cs) : Blk), (w.heap.size, 125, cs')], x.1 ≠ r := fun x hx => by
      simp only [List.mem_cons, List.not_mem_nil, or_false] at hx
      rcases hx with h | h <;> subst h <;> simp only <;> omega
    have hR := D5.box 1
    have hB := D5.box 0
    by_cases hs2 : s2 = some []
    · have e9 := HV.out
      rw [if_pos hs2] at e9
      have cC := fun u (hu : InS u g s2) => in_close u g s2 hu
      rw [closeN, if_pos hs2] at cC
      subst e9
      have r0 : V5.cell? ⟨r, 0, none⟩ = some (.bool false) := hR.read 0
      have f0 := hR.free 0
      have r1 : V5.cell? ⟨r, 1, none⟩ = some (.string ⟨#[]⟩) := hR.read 1
      have f1 := hR.free 1
      have r2 : V5.cell? ⟨r, 2, none⟩ = some (.string ⟨#[]⟩) := hR.read 2
      have f2 := hR.free 2
      have r3 : V5.cell? ⟨r, 3, none⟩ = some (.int .u64 0) := hR.read 3
      have f3 := hR.free 3
      have r4 : V5.cell? ⟨r, 4, none⟩ = some (.int .u64 0) := hR.read 4
      have f4 := hR.free 4
      have r5 : V5.cell? ⟨r, 5, none⟩ = some (.int .u64 0) := hR.read 5
      have f5 := hR.free 5
      have r6 : V5.cell? ⟨r, 6, none⟩ = some (.slice none 0 0) := hR.read 6
      have f6 := hR.free 6
      have hinr := hR.inside
      have b0 : V5.cell? ⟨b, 0, none⟩ = some (.bool xp) := hB.read 0
      have b1 : V5.cell? ⟨b, 1, none⟩ = some (.string xi) := hB.read 1
      have b2 : V5.cell? ⟨b, 2, none⟩ = some (.string xs) := hB.read 2
      have b3 : V5.cell? ⟨b, 3, none⟩ = some (.int .u64 xh) := hB.read 3
      have b4 : V5.cell? ⟨b, 4, none⟩ = some (.int .u64 xl) := hB.read 4
      have b5 : V5.cell? ⟨b, 5, none⟩ = some (.int .u64 q) := hB.read 5
      have b6 : V5.cell? ⟨b, 6, none⟩ = some (.slice A L.length c) := hB.read 6
      have hinb := hB.inside
      clear hs2
      go_wp2_with (first | (go_at_call 126; refine (cC _ D5.inS).mono ?_; rintro e w6 ⟨rfl, rfl⟩) | fail)
      have D8 := (((((((D5.swap.wrote (by decide) hne 0 (.bool xp)).wrote (by decide) hne 1 (.string xi)).wrote (by decide) hne 2 (.string xs)).wrote (by decide) hne 3 (.int .u64 xh)).wrote (by decide) hne 4 (.int .u64 xl)).wrote (by decide) hne 5 (.int .u64 q)).wrote (by decide) hne 6 (.slice A L.length c))
      simp only [lfB, rtB, enB, rgB, dfB, List.setIfInBounds_toArray, List.set_cons_zero, List.set_cons_succ] at D8
      have FR3 := (FR1.off ((((((((Off.refl (One r) V5).set_ (p := ⟨r, 0, none⟩) (Or.inl rfl) (.bool xp)).set_ (p := ⟨r, 1, none⟩) (Or.inl rfl) (.string xi)).set_ (p := ⟨r, 2, none⟩) (Or.inl rfl) (.string xs)).set_ (p := ⟨r, 3, none⟩) (Or.inl rfl) (.int .u64 xh)).set_ (p := ⟨r, 4, none⟩) (Or.inl rfl) (.int .u64 xl)).set_ (p := ⟨r, 5, none⟩) (Or.inl rfl) (.int .u64 q)).set_ (p := ⟨r, 6, none⟩) (Or.inl rfl) (.slice A L.length c)) hr3).less hw3
      generalize World.setCell (World.setCell (World.setCell (World.setCell (World.setCell (World.setCell (World.setCell V5 _ _) _ _) _ _) _ _) _ _) _ _) _ _ = Z at *
      have hZ := D8.box 0
      have z0 : Z.cell? ⟨r, 0, none⟩ = some (.bool xp) := hZ.read 0
      have z1 : Z.cell? ⟨r, 1, none⟩ = some (.string xi) := hZ.read 1
      have z2 : Z.cell? ⟨r, 2, none⟩ = some (.string xs) := hZ.read 2
      have z3 : Z.cell? ⟨r, 3, none⟩ = some (.int .u64 xh) := hZ.read 3
      have z4 : Z.cell? ⟨r, 4, none⟩ = some (.int .u64 xl) := hZ.read 4
      have z5 : Z.cell? ⟨r, 5, none⟩ = some (.int .u64 q) := hZ.read 5
      have z6 : Z.cell? ⟨r, 6, none⟩ = some (.slice A L.length c) := hZ.read 6
      exact bodyPost_ret (v := .tuple #[.agg (enB xp xi xs xh xl q A L.length c), .int .i64 0]) (by simp [results, Tryz.results80, go_sem, z0, z1, z2, z3, z4, z5, z6]) rfl ⟨A, c, rfl, hc, FR3, D8.below hwg⟩
    · have e9 := HV.out
      rw [if_neg hs2] at e9
      have cC := fun u (hu : InS u g s2) => in_close u g s2 hu
      rw [closeN, if_neg hs2] at cC
      subst e9
      have r0 : V5.cell? ⟨r, 0, none⟩ = some (.bool false) := hR.read 0
      have f0 := hR.free 0
      have r1 : V5.cell? ⟨r, 1, none⟩ = some (.string ⟨#[]⟩) := hR.read 1
      have f1 := hR.free 1
      have r2 : V5.cell? ⟨r, 2, none⟩ = some (.string ⟨#[]⟩) := hR.read 2
      have f2 := hR.free 2
      have r3 : V5.cell? ⟨r, 3, none⟩ = some (.int .u64 0) := hR.read 3
      have f3 := hR.free 3
      have r4 : V5.cell? ⟨r, 4, none⟩ = some (.int .u64 0) := hR.read 4
      have f4 := hR.free 4
      have r5 : V5.cell? ⟨r, 5, none⟩ = some (.int .u64 0) := hR.read 5
      have f5 := hR.free 5
      have r6 : V5.cell? ⟨r, 6, none⟩ = some (.slice none 0 0) := hR.read 6
      have f6 := hR.free 6
      have hinr := hR.inside
      clear hs2
      go_wp2_with (first | (go_at_call 126; refine (cC _ D5.inS).mono ?_; rintro e w6 ⟨rfl, rfl⟩) | fail)
      have D8 := ((((((((D5.swap.wrote (by decide) hne 0 (.bool false)).wrote (by decide) hne 1 (.string ⟨#[]⟩)).wrote (by decide) hne 2 (.string ⟨#[]⟩)).wrote (by decide) hne 3 (.int .u64 0)).wrote (by decide) hne 4 (.int .u64 0)).wrote (by decide) hne 5 (.int .u64 0)).wrote (by decide) hne 6 (.slice none 0 0))).past (.cells (enB false ⟨#[]⟩ ⟨#[]⟩ 0 0 0 none 0 0) 33)
      simp only [lfB, rtB, enB, rgB, dfB, List.setIfInBounds_toArray, List.set_cons_zero, List.set_cons_succ] at D8
      generalize World.alloc (World.setCell (World.setCell (World.setCell (World.setCell (World.setCell (World.setCell (World.setCell V5 _ _) _ _) _ _) _ _) _ _) _ _) _ _) _ = Z at *
      have hZ := D8.box 0
      have z0 : Z.cell? ⟨r, 0, none⟩ = some (.bool false) := hZ.read 0
      have z1 : Z.cell? ⟨r, 1, none⟩ = some (.string ⟨#[]⟩) := hZ.read 1
      have z2 : Z.cell? ⟨r, 2, none⟩ = some (.string ⟨#[]⟩) := hZ.read 2
      have z3 : Z.cell? ⟨r, 3, none⟩ = some (.int .u64 0) := hZ.read 3
      have z4 : Z.cell? ⟨r, 4, none⟩ = some (.int .u64 0) := hZ.read 4
      have z5 : Z.cell? ⟨r, 5, none⟩ = some (.int .u64 0) := hZ.read 5
      have z6 : Z.cell? ⟨r, 6, none⟩ = some (.slice none 0 0) := hZ.read 6
      exact bodyPost_ret (v := .tuple #[.agg (enB false ⟨#[]⟩ ⟨#[]⟩ 0 0 0 none 0 0), .int .i64 80]) (by simp [results, Tryz.results80, go_sem, z0, z1, z2, z3, z4, z5, z6]) rfl ⟨none, 0, rfl, fun _ => rfl, FRow.nil _ _, D8.below hwg⟩
  · have hB1 : (B == 69) = false := by simpa using hB
    have hB2 : (B != 69) = true := by simpa using hB
    have e8 := HS.out
    rw [if_neg (show ¬ (B = ((69 : UInt8).toNat : Int)) from hB)] at e8
    have HS8 := hideIt e8
    clear e8
    clear hB
    have cS := fun u st2 (hu : InS u g st2) => in_spoil u g st2 hu
    go_region_held3 (fun u => Off (One g) w1 u ∧ u.cell? ⟨w.heap.size, 0, none⟩ = some (.int .u8 69) ∧ w.heap.size < u.heap.size)
      (first | (with_reducible exact ⟨G0, F0⟩) | exact off_call fact (by assumption) (by assumption) | with_reducible assumption | fail)
      (first
        | (go_at_call 125; (with_reducible refine (cB _ _ I0).mono ?_); rintro e w2 ⟨rfl, t2, k2⟩)
        | fail)
    go_upto_region 4 with (first
      | (go_at_call 121; refine (cS _ _ t2).mono ?_; rintro e w3 ⟨rfl, t3, k3⟩)
      | fail)
    have D3 := (D1.drew.read t2 k2).read t3 k3
    have o3 : Off (One g) w1 w3 := (G0.trans k2).trans k3
    rw [HS8.out] at D3
    clear t2 t3
    obtain ⟨⟨p0, p1, p2, p3⟩, -, hin0⟩ := (D3.box 1).four
    have hA3 := hA1.off P1 o3
    have hK3 := hK1.off P1 o3
    have hr3 := (D3.box 0).inside
    have hw3 := D3.size
    go_upto_region 5 with (first
      | (go_at_call 130; refine (cK _ _ D3.inS hA3 hK3 (fun u hu => hT.call (below_off L1 (o3.trans hu) hwg))).mono ?_; rintro e w4 ⟨A, c, rfl, hc, FR, t4, k4⟩)
      | fail)
    clear p0 p1 p2 p3 hin0
    have hlt : r < w4.heap.size := (D3.read t4 k4).box 0 |>.inside
    have D5 := (D3.read t4 k4).add 33 (enB xp xi xs xh xl q A L.length c)
    change Code.wp _ _ _ _ (w4.alloc (.cells (enB xp xi xs xh xl q A L.length c) 33))
    have L5 := chainA (Below.refl w4.heap.size w4) (.cells (enB xp xi xs xh xl q A L.length c) 33)
    have FR1 := FR.call L5
    obtain ⟨b, hb⟩ : ∃ b, w4.heap.size = b := ⟨_, rfl⟩
    rw [hb] at hlt
    rw [hb] at D5 ⊢
    generalize w4.alloc (.cells (enB xp xi xs xh xl q A L.length c) 33) = V5 at *
    clear t4 D3
    have hne : ∀ {cs cs' : Array Value}, ∀ x ∈ [((b, 33, cs) : Blk), (w.heap.size, 125, cs')], x.1 ≠ r := fun x hx => by
      simp only [List.mem_cons, List.not_mem_nil, or_false] at hx
      rcases hx with h | h <;> subst h <;> simp only <;> omega
    have hR := D5.box 1
    have hB := D5.box 0
    by_cases hs2 : s2 = some []
    · have e9 := HV.out
      rw [if_pos hs2] at e9
      have cC := fun u (hu : InS u g s2) => in_close u g s2 hu
      rw [closeN, if_pos hs2] at cC
      subst e9
      have r0 : V5.cell? ⟨r, 0, none⟩ = some (.bool false) := hR.read 0
      have f0 := hR.free 0
      have r1 : V5.cell? ⟨r, 1, none⟩ = some (.string ⟨#[]⟩) := hR.read 1
      have f1 := hR.free 1
      have r2 : V5.cell? ⟨r, 2, none⟩ = some (.string ⟨#[]⟩) := hR.read 2
      have f2 := hR.free 2
      have r3 : V5.cell? ⟨r, 3, none⟩ = some (.int .u64 0) := hR.read 3
      have f3 := hR.free 3
      have r4 : V5.cell? ⟨r, 4, none⟩ = some (.int .u64 0) := hR.read 4
      have f4 := hR.free 4
      have r5 : V5.cell? ⟨r, 5, none⟩ = some (.int .u64 0) := hR.read 5
      have f5 := hR.free 5
      have r6 : V5.cell? ⟨r, 6, none⟩ = some (.slice none 0 0) := hR.read 6
      have f6 := hR.free 6
      have hinr := hR.inside
      have b0 : V5.cell? ⟨b, 0, none⟩ = some (.bool xp) := hB.read 0
      have b1 : V5.cell? ⟨b, 1, none⟩ = some (.string xi) := hB.read 1
      have b2 : V5.cell? ⟨b, 2, none⟩ = some (.string xs) := hB.read 2
      have b3 : V5.cell? ⟨b, 3, none⟩ = some (.int .u64 xh) := hB.read 3
      have b4 : V5.cell? ⟨b, 4, none⟩ = some (.int .u64 xl) := hB.read 4
      have b5 : V5.cell? ⟨b, 5, none⟩ = some (.int .u64 q) := hB.read 5
      have b6 : V5.cell? ⟨b, 6, none⟩ = some (.slice A L.length c) := hB.read 6
      have hinb := hB.inside
      clear hs2
      go_wp2_with (first | (go_at_call 126; refine (cC _ D5.inS).mono ?_; rintro e w6 ⟨rfl, rfl⟩) | fail)
      have D8 := (((((((D5.swap.wrote (by decide) hne 0 (.bool xp)).wrote (by decide) hne 1 (.string xi)).wrote (by decide) hne 2 (.string xs)).wrote (by decide) hne 3 (.int .u64 xh)).wrote (by decide) hne 4 (.int .u64 xl)).wrote (by decide) hne 5 (.int .u64 q)).wrote (by decide) hne 6 (.slice A L.length c))
      simp only [lfB, rtB, enB, rgB, dfB, List.setIfInBounds_toArray, List.set_cons_zero, List.set_cons_succ] at D8
      have FR3 := (FR1.off ((((((((Off.refl (One r) V5).set_ (p := ⟨r, 0, none⟩) (Or.inl rfl) (.bool xp)).set_ (p := ⟨r, 1, none⟩) (Or.inl rfl) (.string xi)).set_ (p := ⟨r, 2, none⟩) (Or.inl rfl) (.string xs)).set_ (p := ⟨r, 3, none⟩) (Or.inl rfl) (.int .u64 xh)).set_ (p := ⟨r, 4, none⟩) (Or.inl rfl) (.int .u64 xl)).set_ (p := ⟨r, 5, none⟩) (Or.inl rfl) (.int .u64 q)).set_ (p := ⟨r, 6, none⟩) (Or.inl rfl) (.slice A L.length c)) hr3).less hw3
      generalize World.setCell (World.setCell (World.setCell (World.setCell (World.setCell (World.setCell (World.setCell V5 _ _) _ _) _ _) _ _) _ _) _ _) _ _ = Z at *
      have hZ := D8.box 0
      have z0 : Z.cell? ⟨r, 0, none⟩ = some (.bool xp) := hZ.read 0
      have z1 : Z.cell? ⟨r, 1, none⟩ = some (.string xi) := hZ.read 1
      have z2 : Z.cell? ⟨r, 2, none⟩ = some (.string xs) := hZ.read 2
      have z3 : Z.cell? ⟨r, 3, none⟩ = some (.int .u64 xh) := hZ.read 3
      have z4 : Z.cell? ⟨r, 4, none⟩ = some (.int .u64 xl) := hZ.read 4
      have z5 : Z.cell? ⟨r, 5, none⟩ = some (.int .u64 q) := hZ.read 5
      have z6 : Z.cell? ⟨r, 6, none⟩ = some (.slice A L.length c) := hZ.read 6
      exact bodyPost_ret (v := .tuple #[.agg (enB xp xi xs xh xl q A L.length c), .int .i64 0]) (by simp [results, Tryz.results80, go_sem, z0, z1, z2, z3, z4, z5, z6]) rfl ⟨A, c, rfl, hc, FR3, D8.below hwg⟩
    · have e9 := HV.out
      rw [if_neg hs2] at e9
      have cC := fun u (hu : InS u g s2) => in_close u g s2 hu
      rw [closeN, if_neg hs2] at cC
      subst e9
      have r0 : V5.cell? ⟨r, 0, none⟩ = some (.bool false) := hR.read 0
      have f0 := hR.free 0
      have r1 : V5.cell? ⟨r, 1, none⟩ = some (.string ⟨#[]⟩) := hR.read 1
      have f1 := hR.free 1
      have r2 : V5.cell? ⟨r, 2, none⟩ = some (.string ⟨#[]⟩) := hR.read 2
      have f2 := hR.free 2
      have r3 : V5.cell? ⟨r, 3, none⟩ = some (.int .u64 0) := hR.read 3
      have f3 := hR.free 3
      have r4 : V5.cell? ⟨r, 4, none⟩ = some (.int .u64 0) := hR.read 4
      have f4 := hR.free 4
      have r5 : V5.cell? ⟨r, 5, none⟩ = some (.int .u64 0) := hR.read 5
      have f5 := hR.free 5
      have r6 : V5.cell? ⟨r, 6, none⟩ = some (.slice none 0 0) := hR.read 6
      have f6 := hR.free 6
      have hinr := hR.inside
      clear hs2
      go_wp2_with (first | (go_at_call 126; refine (cC _ D5.inS).mono ?_; rintro e w6 ⟨rfl, rfl⟩) | fail)
      have D8 := ((((((((D5.swap.wrote (by decide) hne 0 (.bool false)).wrote (by decide) hne 1 (.string ⟨#[]⟩)).wrote (by decide) hne 2 (.string ⟨#[]⟩)).wrote (by decide) hne 3 (.int .u64 0)).wrote (by decide) hne 4 (.int .u64 0)).wrote (by decide) hne 5 (.int .u64 0)).wrote (by decide) hne 6 (.slice none 0 0))).past (.cells (enB false ⟨#[]⟩ ⟨#[]⟩ 0 0 0 none 0 0) 33)
      simp only [lfB, rtB, enB, rgB, dfB, List.setIfInBounds_toArray, List.set_cons_zero, List.set_cons_succ] at D8
      generalize World.alloc (World.setCell (World.setCell (World.setCell (World.setCell (World.setCell (World.setCell (World.setCell V5 _ _) _ _) _ _) _ _) _ _) _ _) _ _) _ = Z at *
      have hZ := D8.box 0
      have z0 : Z.cell? ⟨r, 0, none⟩ = some (.bool false) := hZ.read 0
      have z1 : Z.cell? ⟨r, 1, none⟩ = some (.string ⟨#[]⟩) := hZ.read 1
      have z2 : Z.cell? ⟨r, 2, none⟩ = some (.string ⟨#[]⟩) := hZ.read 2
      have z3 : Z.cell? ⟨r, 3, none⟩ = some (.int .u64 0) := hZ.read 3
      have z4 : Z.cell? ⟨r, 4, none⟩ = some (.int .u64 0) := hZ.read 4
      have z5 : Z.cell? ⟨r, 5, none⟩ = some (.int .u64 0) := hZ.read 5
      have z6 : Z.cell? ⟨r, 6, none⟩ = some (.slice none 0 0) := hZ.read 6
      exact bodyPost_ret (v := .tuple #[.agg (enB false ⟨#[]⟩ ⟨#[]⟩ 0 0 0 none 0 0), .int .i64 80]) (by simp [results, Tryz.results80, go_sem, z0, z1, z2, z3, z4, z5, z6]) rfl ⟨none, 0, rfl, fun _ => rfl, FRow.nil _ _, D8.below hwg⟩
end Go.Proofs.YtmflhodiibjpnaaGreatDoor
/-
  pack, walked: ranges read.
-/
namespace Go.Proofs.YtmflhodiibjpnaaGreatDoor
set_option linter.unusedVariables false
set_option linter.unusedSimpArgs false
set_option maxRecDepth 10000
open Go.RowKit

def RgTells (x : RgP) (n : Int) (w : World) (e : Ending) (w' : World) : Prop := ∃ (A : Option Addr) (c : Nat) (B : Option Addr) (d : Nat), e = .returned (.tuple #[.agg (rgB x.a x.b A x.ins.length c B x.outs.length d), .int .i64 n]) ∧ (A = none → c = 0) ∧ (B = none → d = 0) ∧ FRow ndS w' w.heap.size A x.ins ∧ FRow ndS w' w.heap.size B x.outs ∧ Below w.heap.size w w'
set_option maxRecDepth 20000 in
set_option maxHeartbeats 4000000 in
theorem readG_any (s : ByteArray) (hs : s.size ≤ 4611686018427387903) (w : World) (i k : Nat) (hK : IsNr w i k) : Calls Tryz.prog 82 #[.agg (rgF i), .string s] w (RgTells (readT 71 (takeG rgG wrG RgP.zero) RgP.zero s).1 (readT 71 (takeG rgG wrG RgP.zero) RgP.zero s).2 w) := by
  obtain ⟨VV, hVV⟩ : ∃ VV, readT 71 (takeG rgG wrG RgP.zero) RgP.zero s = VV := ⟨_, rfl⟩
  rw [hVV]
  unfold readT at hVV
  have cB := fun g u hu => in_byte u g (some s.data.toList) hu
  generalize nxt (opB (some s.data.toList)) = N at *
  generalize bV (opB (some s.data.toList)) = B at *
  obtain ⟨st1, hst⟩ : ∃ st1, (if B = ((71 : UInt8).toNat : Int) then N else none) = st1 := ⟨_, rfl⟩
  rw [hst] at hVV
  obtain ⟨V, hd⟩ : ∃ V, (takeG rgG wrG RgP.zero) st1 = V := ⟨_, rfl⟩
  have cK := fun g u hu h2 => takeG_any u g st1 hu i k h2
  rw [hd] at hVV cK
  clear hd
  obtain ⟨⟨xa, xb, L, M⟩, s2⟩ := V
  simp only at hVV cK
  have HV := hideIt hVV
  have HS := hideIt hst
  clear hVV hst
  have cO := fun u => in_open s hs u
  have D0 := ((Has.start w).add 133 (rgF i)).addAt 35 (rgB 0 0 none 0 0 none 0 0) (g := w.heap.size + 1) (by simp)
  go_enter Tryz.func82, Tryz.ntmps82
  go_upto_region 2 with (first
    | (go_at_call 30; refine (cO _).mono ?_; rintro e w1 ⟨g, rfl, hg, I1, j1⟩)
    | fail)
  have hb0 : (w.alloc (.cells (rgF i) 133)).heap.size = w.heap.size + 1 := by simp
  have H1 := D0.call j1
  have L1 := H1.below
  have hgr : w.heap.size + 1 < g := Nat.lt_of_lt_of_le (D0.box 0).inside hg
  clear hg j1 D0
  obtain ⟨r, hr⟩ : ∃ r, w.heap.size + 1 = r := ⟨_, rfl⟩
  try rw [hb0]
  rw [hr] at H1 hgr ⊢
  clear hb0
  have D1 : Rp w g (some s.data.toList) [(r, 35, rgB 0 0 none 0 0 none 0 0), (w.heap.size, 133, rgF i)] w1 := ⟨I1, fun x hx => by
    simp only [List.mem_cons, List.not_mem_nil, or_false] at hx
    rcases hx with h | h
    · subst h; exact ⟨H1.box 0, by simp only; omega, by simp only; omega⟩
    · subst h; exact ⟨H1.box 1, Nat.le_refl _, by simp only; omega⟩, Off.of L1⟩
  have hwg : w.heap.size ≤ g := by omega
  have hK1 := hK.call L1
  have P1 := D1.inS.port
  have fact : ∀ u, Off (One g) w1 u → u.cell? ⟨w.heap.size, 0, none⟩ = some (.int .u8 71) ∧ w.heap.size < u.heap.size := fun u hu =>
    ⟨(hu.box (D1.box 1) (by show ¬ (w.heap.size = g); omega)).read 0, (hu.box (D1.box 1) (by show ¬ (w.heap.size = g); omega)).inside⟩
  have G0 : Off (One g) w1 w1.drew := (Off.refl _ _).drew
  have F0 := fact _ G0
  have I0 : InS w1.drew g (some s.data.toList) := D1.drew.inS
  by_cases hB : B = 71
  · have hB1 : (B == 71) = true := by simpa using hB
    have hB2 : (B != 71) = false := by simpa using hB
    have e8 := HS.out
    rw [if_pos (show B = ((71 : UInt8).toNat : Int) from hB)] at e8
    have HS8 := hideIt e8
    clear e8
    clear hB
    go_region_held3 (fun u => Off (One g) w1 u ∧ u.cell? ⟨w.heap.size, 0, none⟩ = some (.int .u8 71) ∧ w.heap.size < u.heap.size)
      (first | (with_reducible exact ⟨G0, F0⟩) | exact off_call fact (by assumption) (by assumption) | with_reducible assumption | fail)
      (first
        | (go_at_call 125; (with_reducible refine (cB _ _ I0).mono ?_); rintro e w2 ⟨rfl, t2, k2⟩)
        | fail)
    have D3 := D1.drew.read t2 k2
    rw [HS8.out] at D3
    clear t2
    obtain ⟨w3, hw3⟩ : ∃ w3, w2 = w3 := ⟨_, rfl⟩
    have o3 : Off (One g) w1 w3 := by rw [← hw3]; exact G0.trans k2
    rw [hw3] at D3 ⊢
    clear hw3
    obtain ⟨⟨p0, p1, p2, p3⟩, -, hin0⟩ := (D3.box 1).four
    have hK3 := hK1.off P1 o3
    have hr3 := (D3.box 0).inside
    have hw3 := D3.size
    go_upto_region 5 with (first
      | (go_at_call 131; refine (cK _ _ D3.inS hK3).mono ?_; rintro e w4 ⟨A, c, B, d, rfl, hc, hc2, FA, FB, t4, k4⟩)
      | fail)
    clear p0 p1 p2 p3 hin0
    have hlt : r < w4.heap.size := (D3.read t4 k4).box 0 |>.inside
    have D5 := (D3.read t4 k4).add 35 (rgB xa xb A L.length c B M.length d)
    change Code.wp _ _ _ _ (w4.alloc (.cells (rgB xa xb A L.length c B M.length d) 35))
    have L5 := chainA (Below.refl w4.heap.size w4) (.cells (rgB xa xb A L.length c B M.length d) 35)
    have FA1 := FA.call L5
    have FB1 := FB.call L5
    obtain ⟨b, hb⟩ : ∃ b, w4.heap.size = b := ⟨_, rfl⟩
    rw [hb] at hlt
    rw [hb] at D5 ⊢
    generalize w4.alloc (.cells (rgB xa xb A L.length c B M.length d) 35) = V5 at *
    clear t4 D3
    have hne : ∀ {cs cs' : Array Value}, ∀ x ∈ [((b, 35, cs) : Blk), (w.heap.size, 133, cs')], x.1 ≠ r := fun x hx => by
      simp only [List.mem_cons, List.not_mem_nil, or_false] at hx
      rcases hx with h | h <;> subst h <;> simp only <;> omega
    have hR := D5.box 1
    have hB := D5.box 0
    by_cases hs2 : s2 = some []
    · have e9 := HV.out
      rw [if_pos hs2] at e9
      have cC := fun u (hu : InS u g s2) => in_close u g s2 hu
      rw [closeN, if_pos hs2] at cC
      subst e9
      have r0 : V5.cell? ⟨r, 0, none⟩ = some (.int .u64 0) := hR.read 0
      have f0 := hR.free 0
      have r1 : V5.cell? ⟨r, 1, none⟩ = some (.int .u64 0) := hR.read 1
      have f1 := hR.free 1
      have r2 : V5.cell? ⟨r, 2, none⟩ = some (.slice none 0 0) := hR.read 2
      have f2 := hR.free 2
      have r3 : V5.cell? ⟨r, 3, none⟩ = some (.slice none 0 0) := hR.read 3
      have f3 := hR.free 3
      have hinr := hR.inside
      have b0 : V5.cell? ⟨b, 0, none⟩ = some (.int .u64 xa) := hB.read 0
      have b1 : V5.cell? ⟨b, 1, none⟩ = some (.int .u64 xb) := hB.read 1
      have b2 : V5.cell? ⟨b, 2, none⟩ = some (.slice A L.length c) := hB.read 2
      have b3 : V5.cell? ⟨b, 3, none⟩ = some (.slice B M.length d) := hB.read 3
      have hinb := hB.inside
      clear hs2
      go_wp2_with (first | (go_at_call 126; refine (cC _ D5.inS).mono ?_; rintro e w6 ⟨rfl, rfl⟩) | fail)
      have D8 := ((((D5.swap.wrote (by decide) hne 0 (.int .u64 xa)).wrote (by decide) hne 1 (.int .u64 xb)).wrote (by decide) hne 2 (.slice A L.length c)).wrote (by decide) hne 3 (.slice B M.length d))
      simp only [lfB, rtB, enB, rgB, dfB, List.setIfInBounds_toArray, List.set_cons_zero, List.set_cons_succ] at D8
      have FA3 := (FA1.off (((((Off.refl (One r) V5).set_ (p := ⟨r, 0, none⟩) (Or.inl rfl) (.int .u64 xa)).set_ (p := ⟨r, 1, none⟩) (Or.inl rfl) (.int .u64 xb)).set_ (p := ⟨r, 2, none⟩) (Or.inl rfl) (.slice A L.length c)).set_ (p := ⟨r, 3, none⟩) (Or.inl rfl) (.slice B M.length d)) hr3).less hw3
      have FB3 := (FB1.off (((((Off.refl (One r) V5).set_ (p := ⟨r, 0, none⟩) (Or.inl rfl) (.int .u64 xa)).set_ (p := ⟨r, 1, none⟩) (Or.inl rfl) (.int .u64 xb)).set_ (p := ⟨r, 2, none⟩) (Or.inl rfl) (.slice A L.length c)).set_ (p := ⟨r, 3, none⟩) (Or.inl rfl) (.slice B M.length d)) hr3).less hw3
      generalize World.setCell (World.setCell (World.setCell (World.setCell V5 _ _) _ _) _ _) _ _ = Z at *
      have hZ := D8.box 0
      have z0 : Z.cell? ⟨r, 0, none⟩ = some (.int .u64 xa) := hZ.read 0
      have z1 : Z.cell? ⟨r, 1, none⟩ = some (.int .u64 xb) := hZ.read 1
      have z2 : Z.cell? ⟨r, 2, none⟩ = some (.slice A L.length c) := hZ.read 2
      have z3 : Z.cell? ⟨r, 3, none⟩ = some (.slice B M.length d) := hZ.read 3
      exact bodyPost_ret (v := .tuple #[.agg (rgB xa xb A L.length c B M.length d), .int .i64 0]) (by simp [results, Tryz.results82, go_sem, z0, z1, z2, z3]) rfl ⟨A, c, B, d, rfl, hc, hc2, FA3, FB3, D8.below hwg⟩
    · have e9 := HV.out
      rw [if_neg hs2] at e9
      have cC := fun u (hu : InS u g s2) => in_close u g s2 hu
      rw [closeN, if_neg hs2] at cC
      subst e9
      have r0 : V5.cell? ⟨r, 0, none⟩ = some (.int .u64 0) := hR.read 0
      have f0 := hR.free 0
      have r1 : V5.cell? ⟨r, 1, none⟩ = some (.int .u64 0) := hR.read 1
      have f1 := hR.free 1
      have r2 : V5.cell? ⟨r, 2, none⟩ = some (.slice none 0 0) := hR.read 2
      have f2 := hR.free 2
      have r3 : V5.cell? ⟨r, 3, none⟩ = some (.slice none 0 0) := hR.read 3
      have f3 := hR.free 3
      have hinr := hR.inside
      clear hs2
      go_wp2_with (first | (go_at_call 126; refine (cC _ D5.inS).mono ?_; rintro e w6 ⟨rfl, rfl⟩) | fail)
      have D8 := (((((D5.swap.wrote (by decide) hne 0 (.int .u64 0)).wrote (by decide) hne 1 (.int .u64 0)).wrote (by decide) hne 2 (.slice none 0 0)).wrote (by decide) hne 3 (.slice none 0 0))).past (.cells (rgB 0 0 none 0 0 none 0 0) 35)
      simp only [lfB, rtB, enB, rgB, dfB, List.setIfInBounds_toArray, List.set_cons_zero, List.set_cons_succ] at D8
      generalize World.alloc (World.setCell (World.setCell (World.setCell (World.setCell V5 _ _) _ _) _ _) _ _) _ = Z at *
      have hZ := D8.box 0
      have z0 : Z.cell? ⟨r, 0, none⟩ = some (.int .u64 0) := hZ.read 0
      have z1 : Z.cell? ⟨r, 1, none⟩ = some (.int .u64 0) := hZ.read 1
      have z2 : Z.cell? ⟨r, 2, none⟩ = some (.slice none 0 0) := hZ.read 2
      have z3 : Z.cell? ⟨r, 3, none⟩ = some (.slice none 0 0) := hZ.read 3
      exact bodyPost_ret (v := .tuple #[.agg (rgB 0 0 none 0 0 none 0 0), .int .i64 80]) (by simp [results, Tryz.results82, go_sem, z0, z1, z2, z3]) rfl ⟨none, 0, none, 0, rfl, fun _ => rfl, fun _ => rfl, FRow.nil _ _, FRow.nil _ _, D8.below hwg⟩
  · have hB1 : (B == 71) = false := by simpa using hB
    have hB2 : (B != 71) = true := by simpa using hB
    have e8 := HS.out
    rw [if_neg (show ¬ (B = ((71 : UInt8).toNat : Int)) from hB)] at e8
    have HS8 := hideIt e8
    clear e8
    clear hB
    have cS := fun u st2 (hu : InS u g st2) => in_spoil u g st2 hu
    go_region_held3 (fun u => Off (One g) w1 u ∧ u.cell? ⟨w.heap.size, 0, none⟩ = some (.int .u8 71) ∧ w.heap.size < u.heap.size)
      (first | (with_reducible exact ⟨G0, F0⟩) | exact off_call fact (by assumption) (by assumption) | with_reducible assumption | fail)
      (first
        | (go_at_call 125; (with_reducible refine (cB _ _ I0).mono ?_); rintro e w2 ⟨rfl, t2, k2⟩)
        | fail)
    go_upto_region 4 with (first
      | (go_at_call 121; refine (cS _ _ t2).mono ?_; rintro e w3 ⟨rfl, t3, k3⟩)
      | fail)
    have D3 := (D1.drew.read t2 k2).read t3 k3
    have o3 : Off (One g) w1 w3 := (G0.trans k2).trans k3
    rw [HS8.out] at D3
    clear t2 t3
    obtain ⟨⟨p0, p1, p2, p3⟩, -, hin0⟩ := (D3.box 1).four
    have hK3 := hK1.off P1 o3
    have hr3 := (D3.box 0).inside
    have hw3 := D3.size
    go_upto_region 5 with (first
      | (go_at_call 131; refine (cK _ _ D3.inS hK3).mono ?_; rintro e w4 ⟨A, c, B, d, rfl, hc, hc2, FA, FB, t4, k4⟩)
      | fail)
    clear p0 p1 p2 p3 hin0
    have hlt : r < w4.heap.size := (D3.read t4 k4).box 0 |>.inside
    have D5 := (D3.read t4 k4).add 35 (rgB xa xb A L.length c B M.length d)
    change Code.wp _ _ _ _ (w4.alloc (.cells (rgB xa xb A L.length c B M.length d) 35))
    have L5 := chainA (Below.refl w4.heap.size w4) (.cells (rgB xa xb A L.length c B M.length d) 35)
    have FA1 := FA.call L5
    have FB1 := FB.call L5
    obtain ⟨b, hb⟩ : ∃ b, w4.heap.size = b := ⟨_, rfl⟩
    rw [hb] at hlt
    rw [hb] at D5 ⊢
    generalize w4.alloc (.cells (rgB xa xb A L.length c B M.length d) 35) = V5 at *
    clear t4 D3
    have hne : ∀ {cs cs' : Array Value}, ∀ x ∈ [((b, 35, cs) : Blk), (w.heap.size, 133, cs')], x.1 ≠ r := fun x hx => by
      simp only [List.mem_cons, List.not_mem_nil, or_false] at hx
      rcases hx with h | h <;> subst h <;> simp only <;> omega
    have hR := D5.box 1
    have hB := D5.box 0
    by_cases hs2 : s2 = some []
    · have e9 := HV.out
      rw [if_pos hs2] at e9
      have cC := fun u (hu : InS u g s2) => in_close u g s2 hu
      rw [closeN, if_pos hs2] at cC
      subst e9
      have r0 : V5.cell? ⟨r, 0, none⟩ = some (.int .u64 0) := hR.read 0
      have f0 := hR.free 0
      have r1 : V5.cell? ⟨r, 1, none⟩ = some (.int .u64 0) := hR.read 1
      have f1 := hR.free 1
      have r2 : V5.cell? ⟨r, 2, none⟩ = some (.slice none 0 0) := hR.read 2
      have f2 := hR.free 2
      have r3 : V5.cell? ⟨r, 3, none⟩ = some (.slice none 0 0) := hR.read 3
      have f3 := hR.free 3
      have hinr := hR.inside
      have b0 : V5.cell? ⟨b, 0, none⟩ = some (.int .u64 xa) := hB.read 0
      have b1 : V5.cell? ⟨b, 1, none⟩ = some (.int .u64 xb) := hB.read 1
      have b2 : V5.cell? ⟨b, 2, none⟩ = some (.slice A L.length c) := hB.read 2
      have b3 : V5.cell? ⟨b, 3, none⟩ = some (.slice B M.length d) := hB.read 3
      have hinb := hB.inside
      clear hs2
      go_wp2_with (first | (go_at_call 126; refine (cC _ D5.inS).mono ?_; rintro e w6 ⟨rfl, rfl⟩) | fail)
      have D8 := ((((D5.swap.wrote (by decide) hne 0 (.int .u64 xa)).wrote (by decide) hne 1 (.int .u64 xb)).wrote (by decide) hne 2 (.slice A L.length c)).wrote (by decide) hne 3 (.slice B M.length d))
      simp only [lfB, rtB, enB, rgB, dfB, List.setIfInBounds_toArray, List.set_cons_zero, List.set_cons_succ] at D8
      have FA3 := (FA1.off (((((Off.refl (One r) V5).set_ (p := ⟨r, 0, none⟩) (Or.inl rfl) (.int .u64 xa)).set_ (p := ⟨r, 1, none⟩) (Or.inl rfl) (.int .u64 xb)).set_ (p := ⟨r, 2, none⟩) (Or.inl rfl) (.slice A L.length c)).set_ (p := ⟨r, 3, none⟩) (Or.inl rfl) (.slice B M.length d)) hr3).less hw3
      have FB3 := (FB1.off (((((Off.refl (One r) V5).set_ (p := ⟨r, 0, none⟩) (Or.inl rfl) (.int .u64 xa)).set_ (p := ⟨r, 1, none⟩) (Or.inl rfl) (.int .u64 xb)).set_ (p := ⟨r, 2, none⟩) (Or.inl rfl) (.slice A L.length c)).set_ (p := ⟨r, 3, none⟩) (Or.inl rfl) (.slice B M.length d)) hr3).less hw3
      generalize World.setCell (World.setCell (World.setCell (World.setCell V5 _ _) _ _) _ _) _ _ = Z at *
      have hZ := D8.box 0
      have z0 : Z.cell? ⟨r, 0, none⟩ = some (.int .u64 xa) := hZ.read 0
      have z1 : Z.cell? ⟨r, 1, none⟩ = some (.int .u64 xb) := hZ.read 1
      have z2 : Z.cell? ⟨r, 2, none⟩ = some (.slice A L.length c) := hZ.read 2
      have z3 : Z.cell? ⟨r, 3, none⟩ = some (.slice B M.length d) := hZ.read 3
      exact bodyPost_ret (v := .tuple #[.agg (rgB xa xb A L.length c B M.length d), .int .i64 0]) (by simp [results, Tryz.results82, go_sem, z0, z1, z2, z3]) rfl ⟨A, c, B, d, rfl, hc, hc2, FA3, FB3, D8.below hwg⟩
    · have e9 := HV.out
      rw [if_neg hs2] at e9
      have cC := fun u (hu : InS u g s2) => in_close u g s2 hu
      rw [closeN, if_neg hs2] at cC
      subst e9
      have r0 : V5.cell? ⟨r, 0, none⟩ = some (.int .u64 0) := hR.read 0
      have f0 := hR.free 0
      have r1 : V5.cell? ⟨r, 1, none⟩ = some (.int .u64 0) := hR.read 1
      have f1 := hR.free 1
      have r2 : V5.cell? ⟨r, 2, none⟩ = some (.slice none 0 0) := hR.read 2
      have f2 := hR.free 2
      have r3 : V5.cell? ⟨r, 3, none⟩ = some (.slice none 0 0) := hR.read 3
      have f3 := hR.free 3
      have hinr := hR.inside
      clear hs2
      go_wp2_with (first | (go_at_call 126; refine (cC _ D5.inS).mono ?_; rintro e w6 ⟨rfl, rfl⟩) | fail)
      have D8 := (((((D5.swap.wrote (by decide) hne 0 (.int .u64 0)).wrote (by decide) hne 1 (.int .u64 0)).wrote (by decide) hne 2 (.slice none 0 0)).wrote (by decide) hne 3 (.slice none 0 0))).past (.cells (rgB 0 0 none 0 0 none 0 0) 35)
      simp only [lfB, rtB, enB, rgB, dfB, List.setIfInBounds_toArray, List.set_cons_zero, List.set_cons_succ] at D8
      generalize World.alloc (World.setCell (World.setCell (World.setCell (World.setCell V5 _ _) _ _) _ _) _ _) _ = Z at *
      have hZ := D8.box 0
      have z0 : Z.cell? ⟨r, 0, none⟩ = some (.int .u64 0) := hZ.read 0
      have z1 : Z.cell? ⟨r, 1, none⟩ = some (.int .u64 0) := hZ.read 1
      have z2 : Z.cell? ⟨r, 2, none⟩ = some (.slice none 0 0) := hZ.read 2
      have z3 : Z.cell? ⟨r, 3, none⟩ = some (.slice none 0 0) := hZ.read 3
      exact bodyPost_ret (v := .tuple #[.agg (rgB 0 0 none 0 0 none 0 0), .int .i64 80]) (by simp [results, Tryz.results82, go_sem, z0, z1, z2, z3]) rfl ⟨none, 0, none, 0, rfl, fun _ => rfl, fun _ => rfl, FRow.nil _ _, FRow.nil _ _, D8.below hwg⟩
end Go.Proofs.YtmflhodiibjpnaaGreatDoor
/-
  pack, walked: diffs read.
-/
namespace Go.Proofs.YtmflhodiibjpnaaGreatDoor
set_option linter.unusedVariables false
set_option linter.unusedSimpArgs false
set_option maxRecDepth 10000
open Go.RowKit

def DfTells (x : DfP) (n : Int) (w : World) (e : Ending) (w' : World) : Prop := ∃ (A : Option Addr) (c : Nat) (B : Option Addr) (d : Nat), e = .returned (.tuple #[.agg (dfB A x.chs.length c B x.fr.length d), .int .i64 n]) ∧ (A = none → c = 0) ∧ (B = none → d = 0) ∧ FRow chS w' w.heap.size A x.chs ∧ FRow ndS w' w.heap.size B x.fr ∧ Below w.heap.size w w'
set_option maxRecDepth 20000 in
set_option maxHeartbeats 4000000 in
theorem readD_any (s : ByteArray) (hs : s.size ≤ 4611686018427387903) (w : World) (hT : TabU w) (q m i a k : Nat) (hC : IsCr w q i a) (hK : IsNr w m k) : Calls Tryz.prog 83 #[.agg (dfF q m), .string s] w (DfTells (readT 68 (takeG dfP wrD DfP.zero) DfP.zero s).1 (readT 68 (takeG dfP wrD DfP.zero) DfP.zero s).2 w) := by
  obtain ⟨VV, hVV⟩ : ∃ VV, readT 68 (takeG dfP wrD DfP.zero) DfP.zero s = VV := ⟨_, rfl⟩
  rw [hVV]
  unfold readT at hVV
  have cB := fun g u hu => in_byte u g (some s.data.toList) hu
  generalize nxt (opB (some s.data.toList)) = N at *
  generalize bV (opB (some s.data.toList)) = B at *
  obtain ⟨st1, hst⟩ : ∃ st1, (if B = ((68 : UInt8).toNat : Int) then N else none) = st1 := ⟨_, rfl⟩
  rw [hst] at hVV
  obtain ⟨V, hd⟩ : ∃ V, (takeG dfP wrD DfP.zero) st1 = V := ⟨_, rfl⟩
  have cK := fun g u hu h2 h3 h4 => takeD_any u g st1 hu q m i a k h2 h3 h4
  rw [hd] at hVV cK
  clear hd
  obtain ⟨⟨L, M⟩, s2⟩ := V
  simp only at hVV cK
  have HV := hideIt hVV
  have HS := hideIt hst
  clear hVV hst
  have cO := fun u => in_open s hs u
  have D0 := ((Has.start w).add 139 (dfF q m)).addAt 38 (dfB none 0 0 none 0 0) (g := w.heap.size + 1) (by simp)
  go_enter Tryz.func83, Tryz.ntmps83
  go_upto_region 2 with (first
    | (go_at_call 30; refine (cO _).mono ?_; rintro e w1 ⟨g, rfl, hg, I1, j1⟩)
    | fail)
  have hb0 : (w.alloc (.cells (dfF q m) 139)).heap.size = w.heap.size + 1 := by simp
  have H1 := D0.call j1
  have L1 := H1.below
  have hgr : w.heap.size + 1 < g := Nat.lt_of_lt_of_le (D0.box 0).inside hg
  clear hg j1 D0
  obtain ⟨r, hr⟩ : ∃ r, w.heap.size + 1 = r := ⟨_, rfl⟩
  try rw [hb0]
  rw [hr] at H1 hgr ⊢
  clear hb0
  have D1 : Rp w g (some s.data.toList) [(r, 38, dfB none 0 0 none 0 0), (w.heap.size, 139, dfF q m)] w1 := ⟨I1, fun x hx => by
    simp only [List.mem_cons, List.not_mem_nil, or_false] at hx
    rcases hx with h | h
    · subst h; exact ⟨H1.box 0, by simp only; omega, by simp only; omega⟩
    · subst h; exact ⟨H1.box 1, Nat.le_refl _, by simp only; omega⟩, Off.of L1⟩
  have hwg : w.heap.size ≤ g := by omega
  have hC1 := hC.call L1
  have hK1 := hK.call L1
  have P1 := D1.inS.port
  have fact : ∀ u, Off (One g) w1 u → u.cell? ⟨w.heap.size, 0, none⟩ = some (.int .u8 68) ∧ w.heap.size < u.heap.size := fun u hu =>
    ⟨(hu.box (D1.box 1) (by show ¬ (w.heap.size = g); omega)).read 0, (hu.box (D1.box 1) (by show ¬ (w.heap.size = g); omega)).inside⟩
  have G0 : Off (One g) w1 w1.drew := (Off.refl _ _).drew
  have F0 := fact _ G0
  have I0 : InS w1.drew g (some s.data.toList) := D1.drew.inS
  by_cases hB : B = 68
  · have hB1 : (B == 68) = true := by simpa using hB
    have hB2 : (B != 68) = false := by simpa using hB
    have e8 := HS.out
    rw [if_pos (show B = ((68 : UInt8).toNat : Int) from hB)] at e8
    have HS8 := hideIt e8
    clear e8
    clear hB
    go_region_held3 (fun u => Off (One g) w1 u ∧ u.cell? ⟨w.heap.size, 0, none⟩ = some (.int .u8 68) ∧ w.heap.size < u.heap.size)
      (first | (with_reducible exact ⟨G0, F0⟩) | exact off_call fact (by assumption) (by assumption) | with_reducible assumption | fail)
      (first
        | (go_at_call 125; (with_reducible refine (cB _ _ I0).mono ?_); rintro e w2 ⟨rfl, t2, k2⟩)
        | fail)
    have D3 := D1.drew.read t2 k2
    rw [HS8.out] at D3
    clear t2
    obtain ⟨w3, hw3⟩ : ∃ w3, w2 = w3 := ⟨_, rfl⟩
    have o3 : Off (One g) w1 w3 := by rw [← hw3]; exact G0.trans k2
    rw [hw3] at D3 ⊢
    clear hw3
    obtain ⟨⟨p0, p1, p2, p3⟩, -, hin0⟩ := (D3.box 1).four
    have hC3 := hC1.off P1 o3
    have hK3 := hK1.off P1 o3
    have hr3 := (D3.box 0).inside
    have hw3 := D3.size
    go_upto_region 5 with (first
      | (go_at_call 132; refine (cK _ _ D3.inS hC3 hK3 (fun u hu => hT.call (below_off L1 (o3.trans hu) hwg))).mono ?_; rintro e w4 ⟨A, c, B, d, rfl, hc, hc2, FA, FB, t4, k4⟩)
      | fail)
    clear p0 p1 p2 p3 hin0
    have hlt : r < w4.heap.size := (D3.read t4 k4).box 0 |>.inside
    have D5 := (D3.read t4 k4).add 38 (dfB A L.length c B M.length d)
    change Code.wp _ _ _ _ (w4.alloc (.cells (dfB A L.length c B M.length d) 38))
    have L5 := chainA (Below.refl w4.heap.size w4) (.cells (dfB A L.length c B M.length d) 38)
    have FA1 := FA.call L5
    have FB1 := FB.call L5
    obtain ⟨b, hb⟩ : ∃ b, w4.heap.size = b := ⟨_, rfl⟩
    rw [hb] at hlt
    rw [hb] at D5 ⊢
    generalize w4.alloc (.cells (dfB A L.length c B M.length d) 38) = V5 at *
    clear t4 D3
    have hne : ∀ {cs cs' : Array Value}, ∀ x ∈ [((b, 38, cs) : Blk), (w.heap.size, 139, cs')], x.1 ≠ r := fun x hx => by
      simp only [List.mem_cons, List.not_mem_nil, or_false] at hx
      rcases hx with h | h <;> subst h <;> simp only <;> omega
    have hR := D5.box 1
    have hB := D5.box 0
    by_cases hs2 : s2 = some []
    · have e9 := HV.out
      rw [if_pos hs2] at e9
      have cC := fun u (hu : InS u g s2) => in_close u g s2 hu
      rw [closeN, if_pos hs2] at cC
      subst e9
      have r0 : V5.cell? ⟨r, 0, none⟩ = some (.slice none 0 0) := hR.read 0
      have f0 := hR.free 0
      have r1 : V5.cell? ⟨r, 1, none⟩ = some (.slice none 0 0) := hR.read 1
      have f1 := hR.free 1
      have hinr := hR.inside
      have b0 : V5.cell? ⟨b, 0, none⟩ = some (.slice A L.length c) := hB.read 0
      have b1 : V5.cell? ⟨b, 1, none⟩ = some (.slice B M.length d) := hB.read 1
      have hinb := hB.inside
      clear hs2
      go_wp2_with (first | (go_at_call 126; refine (cC _ D5.inS).mono ?_; rintro e w6 ⟨rfl, rfl⟩) | fail)
      have D8 := ((D5.swap.wrote (by decide) hne 0 (.slice A L.length c)).wrote (by decide) hne 1 (.slice B M.length d))
      simp only [lfB, rtB, enB, rgB, dfB, List.setIfInBounds_toArray, List.set_cons_zero, List.set_cons_succ] at D8
      have FA3 := (FA1.off (((Off.refl (One r) V5).set_ (p := ⟨r, 0, none⟩) (Or.inl rfl) (.slice A L.length c)).set_ (p := ⟨r, 1, none⟩) (Or.inl rfl) (.slice B M.length d)) hr3).less hw3
      have FB3 := (FB1.off (((Off.refl (One r) V5).set_ (p := ⟨r, 0, none⟩) (Or.inl rfl) (.slice A L.length c)).set_ (p := ⟨r, 1, none⟩) (Or.inl rfl) (.slice B M.length d)) hr3).less hw3
      generalize World.setCell (World.setCell V5 _ _) _ _ = Z at *
      have hZ := D8.box 0
      have z0 : Z.cell? ⟨r, 0, none⟩ = some (.slice A L.length c) := hZ.read 0
      have z1 : Z.cell? ⟨r, 1, none⟩ = some (.slice B M.length d) := hZ.read 1
      exact bodyPost_ret (v := .tuple #[.agg (dfB A L.length c B M.length d), .int .i64 0]) (by simp [results, Tryz.results83, go_sem, z0, z1]) rfl ⟨A, c, B, d, rfl, hc, hc2, FA3, FB3, D8.below hwg⟩
    · have e9 := HV.out
      rw [if_neg hs2] at e9
      have cC := fun u (hu : InS u g s2) => in_close u g s2 hu
      rw [closeN, if_neg hs2] at cC
      subst e9
      have r0 : V5.cell? ⟨r, 0, none⟩ = some (.slice none 0 0) := hR.read 0
      have f0 := hR.free 0
      have r1 : V5.cell? ⟨r, 1, none⟩ = some (.slice none 0 0) := hR.read 1
      have f1 := hR.free 1
      have hinr := hR.inside
      clear hs2
      go_wp2_with (first | (go_at_call 126; refine (cC _ D5.inS).mono ?_; rintro e w6 ⟨rfl, rfl⟩) | fail)
      have D8 := (((D5.swap.wrote (by decide) hne 0 (.slice none 0 0)).wrote (by decide) hne 1 (.slice none 0 0))).past (.cells (dfB none 0 0 none 0 0) 38)
      simp only [lfB, rtB, enB, rgB, dfB, List.setIfInBounds_toArray, List.set_cons_zero, List.set_cons_succ] at D8
      generalize World.alloc (World.setCell (World.setCell V5 _ _) _ _) _ = Z at *
      have hZ := D8.box 0
      have z0 : Z.cell? ⟨r, 0, none⟩ = some (.slice none 0 0) := hZ.read 0
      have z1 : Z.cell? ⟨r, 1, none⟩ = some (.slice none 0 0) := hZ.read 1
      exact bodyPost_ret (v := .tuple #[.agg (dfB none 0 0 none 0 0), .int .i64 80]) (by simp [results, Tryz.results83, go_sem, z0, z1]) rfl ⟨none, 0, none, 0, rfl, fun _ => rfl, fun _ => rfl, FRow.nil _ _, FRow.nil _ _, D8.below hwg⟩
  · have hB1 : (B == 68) = false := by simpa using hB
    have hB2 : (B != 68) = true := by simpa using hB
    have e8 := HS.out
    rw [if_neg (show ¬ (B = ((68 : UInt8).toNat : Int)) from hB)] at e8
    have HS8 := hideIt e8
    clear e8
    clear hB
    have cS := fun u st2 (hu : InS u g st2) => in_spoil u g st2 hu
    go_region_held3 (fun u => Off (One g) w1 u ∧ u.cell? ⟨w.heap.size, 0, none⟩ = some (.int .u8 68) ∧ w.heap.size < u.heap.size)
      (first | (with_reducible exact ⟨G0, F0⟩) | exact off_call fact (by assumption) (by assumption) | with_reducible assumption | fail)
      (first
        | (go_at_call 125; (with_reducible refine (cB _ _ I0).mono ?_); rintro e w2 ⟨rfl, t2, k2⟩)
        | fail)
    go_upto_region 4 with (first
      | (go_at_call 121; refine (cS _ _ t2).mono ?_; rintro e w3 ⟨rfl, t3, k3⟩)
      | fail)
    have D3 := (D1.drew.read t2 k2).read t3 k3
    have o3 : Off (One g) w1 w3 := (G0.trans k2).trans k3
    rw [HS8.out] at D3
    clear t2 t3
    obtain ⟨⟨p0, p1, p2, p3⟩, -, hin0⟩ := (D3.box 1).four
    have hC3 := hC1.off P1 o3
    have hK3 := hK1.off P1 o3
    have hr3 := (D3.box 0).inside
    have hw3 := D3.size
    go_upto_region 5 with (first
      | (go_at_call 132; refine (cK _ _ D3.inS hC3 hK3 (fun u hu => hT.call (below_off L1 (o3.trans hu) hwg))).mono ?_; rintro e w4 ⟨A, c, B, d, rfl, hc, hc2, FA, FB, t4, k4⟩)
      | fail)
    clear p0 p1 p2 p3 hin0
    have hlt : r < w4.heap.size := (D3.read t4 k4).box 0 |>.inside
    have D5 := (D3.read t4 k4).add 38 (dfB A L.length c B M.length d)
    change Code.wp _ _ _ _ (w4.alloc (.cells (dfB A L.length c B M.length d) 38))
    have L5 := chainA (Below.refl w4.heap.size w4) (.cells (dfB A L.length c B M.length d) 38)
    have FA1 := FA.call L5
    have FB1 := FB.call L5
    obtain ⟨b, hb⟩ : ∃ b, w4.heap.size = b := ⟨_, rfl⟩
    rw [hb] at hlt
    rw [hb] at D5 ⊢
    generalize w4.alloc (.cells (dfB A L.length c B M.length d) 38) = V5 at *
    clear t4 D3
    have hne : ∀ {cs cs' : Array Value}, ∀ x ∈ [((b, 38, cs) : Blk), (w.heap.size, 139, cs')], x.1 ≠ r := fun x hx => by
      simp only [List.mem_cons, List.not_mem_nil, or_false] at hx
      rcases hx with h | h <;> subst h <;> simp only <;> omega
    have hR := D5.box 1
    have hB := D5.box 0
    by_cases hs2 : s2 = some []
    · have e9 := HV.out
      rw [if_pos hs2] at e9
      have cC := fun u (hu : InS u g s2) => in_close u g s2 hu
      rw [closeN, if_pos hs2] at cC
      subst e9
      have r0 : V5.cell? ⟨r, 0, none⟩ = some (.slice none 0 0) := hR.read 0
      have f0 := hR.free 0
      have r1 : V5.cell? ⟨r, 1, none⟩ = some (.slice none 0 0) := hR.read 1
      have f1 := hR.free 1
      have hinr := hR.inside
      have b0 : V5.cell? ⟨b, 0, none⟩ = some (.slice A L.length c) := hB.read 0
      have b1 : V5.cell? ⟨b, 1, none⟩ = some (.slice B M.length d) := hB.read 1
      have hinb := hB.inside
      clear hs2
      go_wp2_with (first | (go_at_call 126; refine (cC _ D5.inS).mono ?_; rintro e w6 ⟨rfl, rfl⟩) | fail)
      have D8 := ((D5.swap.wrote (by decide) hne 0 (.slice A L.length c)).wrote (by decide) hne 1 (.slice B M.length d))
      simp only [lfB, rtB, enB, rgB, dfB, List.setIfInBounds_toArray, List.set_cons_zero, List.set_cons_succ] at D8
      have FA3 := (FA1.off (((Off.refl (One r) V5).set_ (p := ⟨r, 0, none⟩) (Or.inl rfl) (.slice A L.length c)).set_ (p := ⟨r, 1, none⟩) (Or.inl rfl) (.slice B M.length d)) hr3).less hw3
      have FB3 := (FB1.off (((Off.refl (One r) V5).set_ (p := ⟨r, 0, none⟩) (Or.inl rfl) (.slice A L.length c)).set_ (p := ⟨r, 1, none⟩) (Or.inl rfl) (.slice B M.length d)) hr3).less hw3
      generalize World.setCell (World.setCell V5 _ _) _ _ = Z at *
      have hZ := D8.box 0
      have z0 : Z.cell? ⟨r, 0, none⟩ = some (.slice A L.length c) := hZ.read 0
      have z1 : Z.cell? ⟨r, 1, none⟩ = some (.slice B M.length d) := hZ.read 1
      exact bodyPost_ret (v := .tuple #[.agg (dfB A L.length c B M.length d), .int .i64 0]) (by simp [results, Tryz.results83, go_sem, z0, z1]) rfl ⟨A, c, B, d, rfl, hc, hc2, FA3, FB3, D8.below hwg⟩
    · have e9 := HV.out
      rw [if_neg hs2] at e9
      have cC := fun u (hu : InS u g s2) => in_close u g s2 hu
      rw [closeN, if_neg hs2] at cC
      subst e9
      have r0 : V5.cell? ⟨r, 0, none⟩ = some (.slice none 0 0) := hR.read 0
      have f0 := hR.free 0
      have r1 : V5.cell? ⟨r, 1, none⟩ = some (.slice none 0 0) := hR.read 1
      have f1 := hR.free 1
      have hinr := hR.inside
      clear hs2
      go_wp2_with (first | (go_at_call 126; refine (cC _ D5.inS).mono ?_; rintro e w6 ⟨rfl, rfl⟩) | fail)
      have D8 := (((D5.swap.wrote (by decide) hne 0 (.slice none 0 0)).wrote (by decide) hne 1 (.slice none 0 0))).past (.cells (dfB none 0 0 none 0 0) 38)
      simp only [lfB, rtB, enB, rgB, dfB, List.setIfInBounds_toArray, List.set_cons_zero, List.set_cons_succ] at D8
      generalize World.alloc (World.setCell (World.setCell V5 _ _) _ _) _ = Z at *
      have hZ := D8.box 0
      have z0 : Z.cell? ⟨r, 0, none⟩ = some (.slice none 0 0) := hZ.read 0
      have z1 : Z.cell? ⟨r, 1, none⟩ = some (.slice none 0 0) := hZ.read 1
      exact bodyPost_ret (v := .tuple #[.agg (dfB none 0 0 none 0 0), .int .i64 80]) (by simp [results, Tryz.results83, go_sem, z0, z1]) rfl ⟨none, 0, none, 0, rfl, fun _ => rfl, fun _ => rfl, FRow.nil _ _, FRow.nil _ _, D8.below hwg⟩
end Go.Proofs.YtmflhodiibjpnaaGreatDoor
