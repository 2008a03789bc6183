/-
  paymasterref01.Add and Sub, walked: digit by digit, with a carry or a borrow.
-/
import Derived.Test.YtfnbehijnmbhjaaDoorR1Cmp
namespace Go.Proofs.YtfnbehijnmbhjaaDoor
set_option linter.unusedVariables false
set_option linter.unusedSimpArgs false
set_option maxRecDepth 10000
open Go.RowKit

/-- Two numbers in blocks p and q of the world W0; nothing that W0 had has turned. -/
abbrev TwoAt (W0 : World) (p q : Nat) (ah al bh bl : Int) (w' : World) : Prop :=
  w'.cell? ⟨p, 0, none⟩ = some (.int .u64 ah) ∧ w'.cell? ⟨p, 1, none⟩ = some (.int .u64 al) ∧ w'.cell? ⟨q, 0, none⟩ = some (.int .u64 bh) ∧
  w'.cell? ⟨q, 1, none⟩ = some (.int .u64 bl) ∧ p < W0.heap.size ∧ q < W0.heap.size ∧ Below W0.heap.size W0 w'
theorem TwoAt.keep {W0 W w' : World} {p q : Nat} {ah al bh bl : Int} (h : TwoAt W0 p q ah al bh bl W) (hb : Below W.heap.size W w') : TwoAt W0 p q ah al bh bl w' := by
  obtain ⟨h1, h2, h3, h4, h5, h6, h7⟩ := h
  have hs := h7.size
  refine ⟨?_, ?_, ?_, ?_, h5, h6, h7.trans (hb.mono (by omega))⟩
  · rw [hb.cell (p := ⟨p, 0, none⟩) (by show p < _; omega)]; exact h1
  · rw [hb.cell (p := ⟨p, 1, none⟩) (by show p < _; omega)]; exact h2
  · rw [hb.cell (p := ⟨q, 0, none⟩) (by show q < _; omega)]; exact h3
  · rw [hb.cell (p := ⟨q, 1, none⟩) (by show q < _; omega)]; exact h4

theorem val_take {xs : List Int} {k : Nat} (hk : k < xs.length) : val (xs.take (k + 1)) = val (xs.take k) + 65536 ^ k * xs[k] := by
  rw [List.take_succ_eq_append_getElem hk, val_append, List.length_take, Nat.min_eq_left (by omega)]
  simp [val]
theorem val_snoc {zs : List Int} {k : Nat} (hz : zs.length = k) (d : Int) : val (zs ++ [d]) = val zs + 65536 ^ k * d := by
  rw [val_append, hz]; simp [val]
theorem AllDig.snoc {zs : List Int} (h : AllDig zs) {d : Int} (h0 : 0 ≤ d) (h1 : d < 65536) : AllDig (zs ++ [d]) := by
  intro x hx
  rcases List.mem_append.1 hx with hx | hx
  · exact h x hx
  · simp at hx; subst hx; exact ⟨h0, h1⟩

theorem add_round {xs ys zs : List Int} {k : Nat} {x y c : Int} (hx : k < xs.length) (hy : k < ys.length) (ex : xs[k] = x) (ey : ys[k] = y) (hz : zs.length = k)
    (he : val zs + 65536 ^ k * c = val (xs.take k) + val (ys.take k)) :
    val (zs ++ [(x + y + c) % 65536]) + 65536 ^ (k + 1) * ((x + y + c) / 65536) = val (xs.take (k + 1)) + val (ys.take (k + 1)) := by
  rw [val_snoc hz, val_take hx, val_take hy, ex, ey, Int.pow_succ, Int.mul_assoc]
  generalize (65536 : Int) ^ k = P at *
  have e : P * ((x + y + c) % 65536) + P * (65536 * ((x + y + c) / 65536)) = P * x + P * y + P * c := by
    rw [← Int.mul_add, Int.emod_add_mul_ediv, Int.mul_add, Int.mul_add]
  omega
theorem sub_round {xs ys zs : List Int} {k : Nat} {x y c : Int} (hx : k < xs.length) (hy : k < ys.length) (ex : xs[k] = x) (ey : ys[k] = y) (hz : zs.length = k)
    (he : val zs = val (xs.take k) - val (ys.take k) + 65536 ^ k * c) :
    val (zs ++ [(65536 + x - y - c) % 65536]) = val (xs.take (k + 1)) - val (ys.take (k + 1)) + 65536 ^ (k + 1) * (1 - (65536 + x - y - c) / 65536) := by
  rw [val_snoc hz, val_take hx, val_take hy, ex, ey, Int.pow_succ, Int.mul_assoc]
  generalize (65536 : Int) ^ k = P at *
  have e : P * ((65536 + x - y - c) % 65536) + P * (65536 * ((65536 + x - y - c) / 65536)) = P * 65536 + P * x - P * y - P * c := by
    rw [← Int.mul_add, Int.emod_add_mul_ediv, Int.mul_sub, Int.mul_sub, Int.mul_add]
  have e2 : P * (65536 * (1 - (65536 + x - y - c) / 65536)) = P * 65536 - P * (65536 * ((65536 + x - y - c) / 65536)) := by
    rw [← Int.mul_sub, Int.mul_sub 65536, Int.mul_one]
  omega

set_option maxHeartbeats 8000000 in
theorem radd_any (ah al bh bl : Int) (a1 : Word ah) (a0 : Word al) (b1 : Word bh) (b0 : Word bl) (w : World) :
    Calls Tryd.prog 56 #[.agg #[.int .u64 ah, .int .u64 al], .agg #[.int .u64 bh, .int .u64 bl]] w (Fit (nv ah al + nv bh bl) w.heap.size w) := by
  obtain ⟨i0, hi, hz0, hz1, hz2⟩ := info_parts info_u64
  obtain ⟨W0, hW0⟩ : ∃ W0 : World, W0 = ((w.alloc (.cells #[.int .u64 ah, .int .u64 al] 24)).alloc (.cells #[.int .u64 bh, .int .u64 bl] 24)).alloc (.cells #[.int .u64 0, .int .u64 0] 24) := ⟨_, rfl⟩
  have hsz : W0.heap.size = w.heap.size + 3 := by rw [hW0]; simp
  have hbw : Below w.heap.size w W0 := by rw [hW0]; repeat (first | exact Below.refl _ _ | apply Below.drew | apply below_drewN | refine Below.alloc ?_ (by simp; try omega) _ | refine Below.setCell ?_ (by simp; try omega) _)
  have hr0 : Box W0 (w.heap.size + 2) 24 #[.int .u64 0, .int .u64 0] := by
    rw [hW0]
    have := Box.made ((w.alloc (.cells #[.int .u64 ah, .int .u64 al] 24)).alloc (.cells #[.int .u64 bh, .int .u64 bl] 24)) 24 #[.int .u64 0, .int .u64 0]
    simpa using this
  have HW := hideIt hW0
  clear hW0
  go_enter Tryd.func56, Tryd.ntmps56
  go_upto_region 1 with fail
  go_cut [6, 7] (fun x y wx => ∃ g c g' c', x = .slice (some ⟨g, 0, none⟩) 8 c ∧ y = .slice (some ⟨g', 0, none⟩) 8 c' ∧ g < wx.heap.size ∧ g' < wx.heap.size ∧
     (∀ j u, (u64s (dgs ah al))[j]? = some u → wx.cell? ⟨g, j, none⟩ = some u) ∧ (∀ j u, (u64s (dgs bh bl))[j]? = some u → wx.cell? ⟨g', j, none⟩ = some u) ∧ Below W0.heap.size W0 wx)
  case first =>
    rw [← HW.out]
    have c1 : W0.cell? ⟨w.heap.size, 0, none⟩ = some (.int .u64 ah) := by rw [HW.out]; simp [go_sem]
    have c2 : W0.cell? ⟨w.heap.size, 1, none⟩ = some (.int .u64 al) := by rw [HW.out]; simp [go_sem]
    have c3 : W0.cell? ⟨w.heap.size + 1, 0, none⟩ = some (.int .u64 bh) := by rw [HW.out]; simp [go_sem]
    have c4 : W0.cell? ⟨w.heap.size + 1, 1, none⟩ = some (.int .u64 bl) := by rw [HW.out]; simp [go_sem]
    go_region_held3 (fun w' => w'.cell? ⟨w.heap.size, 0, none⟩ = some (.int .u64 ah) ∧ w'.cell? ⟨w.heap.size, 1, none⟩ = some (.int .u64 al) ∧ w'.cell? ⟨w.heap.size + 1, 0, none⟩ = some (.int .u64 bh) ∧ w'.cell? ⟨w.heap.size + 1, 1, none⟩ = some (.int .u64 bl) ∧ w.heap.size < W0.heap.size ∧ w.heap.size + 1 < W0.heap.size ∧ Below W0.heap.size W0 w')
      (first | exact TwoAt.keep (by assumption) (by assumption) | exact ⟨c1, c2, c3, c4, by omega, by omega, (Below.refl _ _).drew⟩)
      (first
        | (go_at_call_of 73 (Value.int IntKind.u64 ah); refine (digits_row ah al a1 a0 _).mono ?_; rintro e w' ⟨g1, p1, rfl, p2, p3, p4, p5⟩)
        | (go_at_call_of 73 (Value.int IntKind.u64 bh); refine (digits_row bh bl b1 b0 _).mono ?_; rintro e w' ⟨g2, q1, rfl, q2, q3, q4, q5⟩))
    all_goals go_wp2_with fail
    all_goals go_meet
    have hh : TwoAt W0 w.heap.size (w.heap.size + 1) ah al bh bl w' := by assumption
    exact ⟨g1, p1, g2, q1, rfl, rfl, Nat.lt_of_lt_of_le p3 q5.size, q3, row_keep p4 p3 q5, q4, hh.2.2.2.2.2.2⟩
  case rest =>
    obtain ⟨g, c, g', c', rfl, rfl, hg, hg', hx, hy, hb⟩ := hcut
    have lx := dgs_length ah al
    have ly := dgs_length bh bl
    have vx := val_dgs a1 a0
    have vy := val_dgs b1 b0
    have dx := dgs_all ah al
    have dy := dgs_all bh bl
    generalize dgs ah al = xs at *
    generalize dgs bh bl = ys at *
    have LX := hideIt lx
    have LY := hideIt ly
    have VX := hideIt vx
    have VY := hideIt vy
    clear lx ly vx vy
    have hbox := hr0.below hb (by omega)
    have hbB := hbw.trans (hb.mono (by omega))
    have hszc := hb.size
    go_wp2
    go_loopg [8, 9, 10, 11] 8 (fun gk cv v i nn wr => ∃ (k : Nat) (zs : List Int) (c : Int), k ≤ 8 ∧ gk = 8 - k ∧ cv = .int .u64 c ∧ i = .int .i64 k ∧ wr.ownsRow wc.heap.size 22 1 v k (u64s zs) ∧ AllDig zs ∧ 0 ≤ c ∧ c ≤ 1 ∧
      val zs + 65536 ^ k * c = val (xs.take k) + val (ys.take k) ∧ Below wc.heap.size wc wr)
    case atStart => exact ⟨0, [], 0, by omega, rfl, rfl, rfl, ⟨rfl, .inl ⟨rfl, rfl⟩⟩, fun _ h => by simp at h, by omega, by omega, by simp [val], Below.refl _ _⟩
    case round =>
      obtain ⟨k, zs, c, hk, rfl, rfl, rfl, hown, hdz, c0, c1, hv, hbel⟩ := hrel
      have lz : zs.length = k := by have := hown.1; simpa [u64s] using this
      have LZ := hideIt lz
      have HV := hideIt hv
      clear lz hv
      have hszr := hbel.size
      by_cases hlt : k < 8
      · have mx : k < xs.length := by rw [LX.out]; omega
        have my : k < ys.length := by rw [LY.out]; omega
        have i0' : (0 : Int) ≤ (k : Int) := by omega
        have i1' : (k : Int) < 8 := by omega
        obtain ⟨x, ex⟩ : ∃ x, xs[k] = x := ⟨_, rfl⟩
        obtain ⟨y, ey⟩ : ∃ y, ys[k] = y := ⟨_, rfl⟩
        have cx : wr.cell? ⟨g, k, none⟩ = some (.int .u64 x) := by
          rw [hbel.cell (p := ⟨g, k, none⟩) hg]; exact hx k _ (by simp [u64s, mx, ex])
        have cy : wr.cell? ⟨g', k, none⟩ = some (.int .u64 y) := by
          rw [hbel.cell (p := ⟨g', k, none⟩) hg']; exact hy k _ (by simp [u64s, my, ey])
        obtain ⟨x0, x1⟩ := dx xs[k] (by simp)
        obtain ⟨y0, y1⟩ := dy ys[k] (by simp)
        rw [ex] at x0 x1
        rw [ey] at y0 y1
        have hr := add_round mx my ex ey LZ.out HV.out
        have HR := hideIt hr
        clear hr ex ey
        go_wp2
        go_quiet (fail)
        go_wp2_with (first
          | (at_builtin; refine wp_append_new rfl _ _ 121 rfl wc.heap.size 22 i0 (.int .u64 0) 8 Tryd.underlying121 hi hz0 hz1 hz2 rfl _ _ _ rfl (own_draws hown _) #[.int .u64 ((x + y + c) % 65536)] rfl (by simp [Value.oneCell']) (by simp; omega) (by omega) (by simpa using hszr) ?_))
        intro v' w1 hown' hb1 _
        have hbel1 := hbel.trans ((below_drewN (Below.refl _ _) _).trans (hb1 wc.heap.size (Nat.le_refl _)))
        clear hb1
        go_wp2
        go_roundg (8 - (k + 1))
        case measure => omega
        case rel => exact ⟨k + 1, zs ++ [(x + y + c) % 65536], (x + y + c) / 65536, by omega, rfl, rfl, by go_num, by simpa [u64s] using hown', hdz.snoc (by omega) (by omega), by omega, by omega, HR.out, hbel1⟩
      · have e : k = 8 := by omega
        subst e
        have hsum : val (zs ++ [c]) = nv ah al + nv bh bl := by
          have h := HV.out
          rw [List.take_of_length_le (by rw [LX.out]; omega), List.take_of_length_le (by rw [LY.out]; omega), VX.out, VY.out] at h
          rw [val_snoc LZ.out, h]
        have hds := hdz.snoc c0 (show c < 65536 by omega)
        have HS := hideIt hsum
        clear hsum
        have hboxr := hbox.below hbel hbox.inside
        go_wp2_with (first
          | (at_builtin; refine wp_append_new rfl _ _ 121 rfl wc.heap.size 22 i0 (.int .u64 0) 8 Tryd.underlying121 hi hz0 hz1 hz2 rfl _ _ _ rfl hown #[.int .u64 c] rfl (by simp [Value.oneCell']) (by simp) (by omega) (by omega) ?_))
        intro v' w1 hown' hb1 hk1
        have hown2 : w1.ownsRow wc.heap.size 22 1 v' 9 (u64s (zs ++ [c])) := by simpa [u64s] using hown'
        obtain ⟨gg, cc, rfl, h1, h2, h3, h4, h5, h6⟩ := own_row hown2 (by omega)
        have hbox1 := hk1 _ _ _ hboxr hbox.inside
        have hbel1 := hbel.trans (hb1 wc.heap.size (Nat.le_refl _))
        have hl9 : (zs ++ [c]).length = 9 := by simp [LZ.out]
        clear hb1 hk1 hown' hown2 hown
        have hnum := number_any gg cc (zs ++ [c]) w1 hds (by omega) (by omega) h2 h5
        rw [hl9, HS.out] at hnum
        have hbelw := hbB.trans (hbel1.mono (by omega))
        have hs1 := hbel1.size
        have ho1 : 0 ≤ rh (nv ah al + nv bh bl) := (rh_word _).1
        cases hroom : room (nv ah al + nv bh bl)
        · go_wp2_with (first | (go_at_call 74; refine hnum.mono ?_; rintro e w2 ⟨rfl, hb2⟩
                                have hbox2 := hbox1.below hb2 hbox1.inside
                                have r0 : w2.cell? ⟨w.heap.size + 1 + 1, 0, none⟩ = some (.int .u64 0) := hbox2.read 0
                                have r1 : w2.cell? ⟨w.heap.size + 1 + 1, 1, none⟩ = some (.int .u64 0) := hbox2.read 1
                                have f0 : w2.frozen? ⟨w.heap.size + 1 + 1, 0, none⟩ = false := hbox2.free 0
                                have f1 : w2.frozen? ⟨w.heap.size + 1 + 1, 1, none⟩ = false := hbox2.free 1
                                have hi2 := hbox2.inside
                                have hbelw2 := hbelw.trans (hb2.mono (by omega))))
          have hbx := ((hbox2.wrote 0 (.int .u64 0)).wrote 1 (.int .u64 0)).past (.cells #[.int .u64 (rh (nv ah al + nv bh bl)), .int .u64 (rl (nv ah al + nv bh bl))] 24)
          have e0 := hbx.read 0
          have e1 := hbx.read 1
          simp only [Nat.reduceLT, List.setIfInBounds_toArray, List.set_cons_zero, List.set_cons_succ, List.getElem?_toArray, List.getElem?_cons_zero, List.getElem?_cons_succ] at e0 e1
          exact bodyPost_ret (v := .tuple #[.agg #[.int .u64 0, .int .u64 0], .int .i64 10]) (by simp [results, Tryd.results56, go_sem, e0, e1]) rfl
            ⟨by rw [rh_no hroom, rl_no hroom, re_no hroom], by repeat (first | exact hbelw2 | apply Below.drew | refine Below.alloc ?_ (by simp; try omega) _ | refine Below.setCell ?_ (by simp; try omega) _)⟩
        · go_wp2_with (first | (go_at_call 74; refine hnum.mono ?_; rintro e w2 ⟨rfl, hb2⟩
                                have hbox2 := hbox1.below hb2 hbox1.inside
                                have r0 : w2.cell? ⟨w.heap.size + 1 + 1, 0, none⟩ = some (.int .u64 0) := hbox2.read 0
                                have r1 : w2.cell? ⟨w.heap.size + 1 + 1, 1, none⟩ = some (.int .u64 0) := hbox2.read 1
                                have f0 : w2.frozen? ⟨w.heap.size + 1 + 1, 0, none⟩ = false := hbox2.free 0
                                have f1 : w2.frozen? ⟨w.heap.size + 1 + 1, 1, none⟩ = false := hbox2.free 1
                                have hi2 := hbox2.inside
                                have hbelw2 := hbelw.trans (hb2.mono (by omega))))
          have hbx := ((hbox2.wrote 0 (.int .u64 (rh (nv ah al + nv bh bl)))).wrote 1 (.int .u64 (rl (nv ah al + nv bh bl)))).past (.cells #[.int .u64 (rh (nv ah al + nv bh bl)), .int .u64 (rl (nv ah al + nv bh bl))] 24)
          have e0 := hbx.read 0
          have e1 := hbx.read 1
          simp only [Nat.reduceLT, List.setIfInBounds_toArray, List.set_cons_zero, List.set_cons_succ, List.getElem?_toArray, List.getElem?_cons_zero, List.getElem?_cons_succ] at e0 e1
          exact bodyPost_ret (v := .tuple #[.agg #[.int .u64 (rh (nv ah al + nv bh bl)), .int .u64 (rl (nv ah al + nv bh bl))], .int .i64 0]) (by simp [results, Tryd.results56, go_sem, e0, e1]) rfl
            ⟨by rw [re_yes hroom], by repeat (first | exact hbelw2 | apply Below.drew | refine Below.alloc ?_ (by simp; try omega) _ | refine Below.setCell ?_ (by simp; try omega) _)⟩
end Go.Proofs.YtfnbehijnmbhjaaDoor
