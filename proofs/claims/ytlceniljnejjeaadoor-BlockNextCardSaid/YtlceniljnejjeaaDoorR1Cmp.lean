/-
  paymasterref01.Cmp, walked: how two numbers compare, digit by digit from the greatest on.
-/
import Derived.Test.YtlceniljnejjeaaDoorR1Number
import Derived.Deep.RegionHeld3
import Derived.Deep.DeepCutAuto
import Derived.Deep.CutRange
namespace Go.Proofs.YtlceniljnejjeaaDoor
set_option linter.unusedVariables false
set_option linter.unusedSimpArgs false
open Go.RowKit

/-- A number's eight digits. -/
def dgs (h l : Int) : List Int := digs l 4 ++ digs h 4
theorem dgs_length (h l : Int) : (dgs h l).length = 8 := by simp [dgs, digs_length]
theorem digs_all (l : Int) (k : Nat) : AllDig (digs l k) := by
  intro d hd
  simp only [digs, List.mem_map] at hd
  obtain ⟨i, -, rfl⟩ := hd
  exact ⟨Int.emod_nonneg _ (by decide), Int.emod_lt_of_pos _ (by decide)⟩
theorem dgs_all (h l : Int) : AllDig (dgs h l) := by
  intro d hd
  rcases List.mem_append.1 hd with hd | hd
  · exact digs_all l 4 d hd
  · exact digs_all h 4 d hd
theorem digs_four (l : Int) : digs l 4 = [l % 65536, l / 65536 % 65536, l / 4294967296 % 65536, l / 281474976710656 % 65536] := by
  simp [digs, List.range_succ]
theorem val_digs {l : Int} (hl : Word l) : val (digs l 4) = l := by
  rw [digs_four]; obtain ⟨_, _⟩ := hl; simp only [val]; omega
theorem val_dgs {h l : Int} (hh : Word h) (hl : Word l) : val (dgs h l) = nv h l := by
  rw [dgs, val_append, val_digs hh, val_digs hl, digs_length]; unfold nv
  have : (65536 : Int) ^ 4 = 18446744073709551616 := rfl
  rw [this]; omega

/-- A slice whose cells are known, in memory that is there. -/
def Row8 (w : World) (B : Nat) (v : Value) (xs : List Int) : Prop :=
  ∃ g cap, v = .slice (some ⟨g, 0, none⟩) xs.length cap ∧ B ≤ g ∧ g < w.heap.size ∧ ∀ j u, (u64s xs)[j]? = some u → w.cell? ⟨g, j, none⟩ = some u
theorem digits_row (h l : Int) (hh : Word h) (hl : Word l) (w : World) :
    Calls Tryd.prog 68 #[.agg #[.int .u64 h, .int .u64 l]] w fun e w' => ∃ g cap, e = .returned (.slice (some ⟨g, 0, none⟩) 8 cap) ∧ w.heap.size ≤ g ∧ g < w'.heap.size ∧
      (∀ j u, (u64s (dgs h l))[j]? = some u → w'.cell? ⟨g, j, none⟩ = some u) ∧ Below w.heap.size w w' := by
  refine (digits_any h l hh hl w).mono ?_
  rintro e w' ⟨v, rfl, hown, hb⟩
  obtain ⟨g, cap, rfl, h1, h2, h3, h4, h5, h6⟩ := own_row hown (by omega)
  exact ⟨g, cap, rfl, h1, h2, h5, hb⟩

theorem val_lt : ∀ {xs : List Int}, AllDig xs → val xs < 65536 ^ xs.length
  | [], _ => by simp [val]
  | d :: r, h => by
    have h1 := h d (by simp)
    have h2 := val_lt (xs := r) (fun x hx => h x (by simp [hx]))
    simp only [val, List.length_cons, Int.pow_succ]; omega
/-- The greatest digit at which they differ decides. -/
theorem val_less {xs ys : List Int} {m : Nat} (mx : m < xs.length) (my : m < ys.length) (dx : AllDig xs) (dy : AllDig ys) (hl : xs.length = ys.length) (hd : xs.drop (m + 1) = ys.drop (m + 1)) :
    xs[m] < ys[m] → val xs < val ys := by
  intro h
  have sx := val_append (xs.take m) (xs.drop m)
  have sy := val_append (ys.take m) (ys.drop m)
  rw [List.take_append_drop, List.length_take, Nat.min_eq_left (by omega)] at sx sy
  have lx := val_lt (xs := xs.take m) (fun d h => dx d (List.mem_of_mem_take h))
  rw [List.length_take, Nat.min_eq_left (by omega)] at lx
  have ny := val_nonneg (xs := ys.take m) (fun d h => dy d (List.mem_of_mem_take h))
  have ex := val_drop mx
  have ey := val_drop my
  rw [hd] at ex
  have le : 65536 ^ m * (val (xs.drop m) + 1) ≤ 65536 ^ m * val (ys.drop m) := Int.mul_le_mul_of_nonneg_left (by omega) (Int.pow_nonneg (by decide))
  rw [Int.mul_add, Int.mul_one] at le
  omega
/-- Two numbers in two blocks behind those of world w; nothing else of w has turned. -/
abbrev TwoIn (w : World) (ah al bh bl : Int) (w' : World) : Prop :=
  w'.cell? ⟨w.heap.size, 0, none⟩ = some (.int .u64 ah) ∧ w'.cell? ⟨w.heap.size, 1, none⟩ = some (.int .u64 al) ∧ w'.cell? ⟨w.heap.size + 1, 0, none⟩ = some (.int .u64 bh) ∧
  w'.cell? ⟨w.heap.size + 1, 1, none⟩ = some (.int .u64 bl) ∧ w.heap.size + 1 < w'.heap.size ∧ Below w.heap.size w w'
theorem TwoIn.keep {w W w' : World} {ah al bh bl : Int} (h : TwoIn w ah al bh bl W) (hb : Below W.heap.size W w') : TwoIn w ah al bh bl w' := by
  obtain ⟨h1, h2, h3, h4, h5, h6⟩ := h
  refine ⟨?_, ?_, ?_, ?_, Nat.lt_of_lt_of_le h5 hb.size, h6.trans (hb.mono (by omega))⟩
  · rw [hb.cell (p := ⟨w.heap.size, 0, none⟩) (by show w.heap.size < _; omega)]; exact h1
  · rw [hb.cell (p := ⟨w.heap.size, 1, none⟩) (by show w.heap.size < _; omega)]; exact h2
  · rw [hb.cell (p := ⟨w.heap.size + 1, 0, none⟩) h5]; exact h3
  · rw [hb.cell (p := ⟨w.heap.size + 1, 1, none⟩) h5]; exact h4
/-- A row's cells, kept behind a call. -/
theorem row_keep {W w' : World} {g : Nat} {xs : List Value} (h : ∀ j u, xs[j]? = some u → W.cell? ⟨g, j, none⟩ = some u) (hg : g < W.heap.size) (hb : Below W.heap.size W w') :
    ∀ j u, xs[j]? = some u → w'.cell? ⟨g, j, none⟩ = some u := fun j u hu => (hb.cell (p := ⟨g, j, none⟩) hg).trans (h j u hu)

set_option maxHeartbeats 4000000 in
theorem rcmp_any (ah al bh bl : Int) (a1 : Word ah) (a0 : Word al) (b1 : Word bh) (b0 : Word bl) (w : World) :
    Calls Tryd.prog 59 #[.agg #[.int .u64 ah, .int .u64 al], .agg #[.int .u64 bh, .int .u64 bl]] w (Tells (.int .i64 (cmpI (nv ah al) (nv bh bl))) w.heap.size w) := by
  go_enter Tryd.func59, Tryd.ntmps59
  go_upto_region 1 with fail
  go_cut [5, 6] (fun x y wx => ∃ g c g' c', x = .slice (some ⟨g, 0, none⟩) 8 c ∧ y = .slice (some ⟨g', 0, none⟩) 8 c' ∧ g < wx.heap.size ∧ g' < wx.heap.size ∧
     (∀ j u, (u64s (dgs ah al))[j]? = some u → wx.cell? ⟨g, j, none⟩ = some u) ∧ (∀ j u, (u64s (dgs bh bl))[j]? = some u → wx.cell? ⟨g', j, none⟩ = some u) ∧ Below w.heap.size w wx)
  case first =>
    go_region_held3 (fun w' => w'.cell? ⟨w.heap.size, 0, none⟩ = some (.int .u64 ah) ∧ w'.cell? ⟨w.heap.size, 1, none⟩ = some (.int .u64 al) ∧ w'.cell? ⟨w.heap.size + 1, 0, none⟩ = some (.int .u64 bh) ∧ w'.cell? ⟨w.heap.size + 1, 1, none⟩ = some (.int .u64 bl) ∧ w.heap.size + 1 < w'.heap.size ∧ Below w.heap.size w w')
      (first | exact TwoIn.keep (by assumption) (by assumption) | (refine ⟨by simp [go_sem], by simp [go_sem], by simp [go_sem], by simp [go_sem], by simp, ?_⟩; repeat (first | exact Below.refl _ _ | apply Below.drew | apply below_drewN | refine Below.alloc ?_ (by simp; try omega) _ | refine Below.setCell ?_ (by simp; try omega) _)))
      (first
        | (go_at_call_of 68 (Value.int IntKind.u64 ah); refine (digits_row ah al a1 a0 _).mono ?_; rintro e w' ⟨g1, p1, rfl, p2, p3, p4, p5⟩)
        | (go_at_call_of 68 (Value.int IntKind.u64 bh); refine (digits_row bh bl b1 b0 _).mono ?_; rintro e w' ⟨g2, q1, rfl, q2, q3, q4, q5⟩))
    all_goals go_wp2_with fail
    all_goals go_meet
    have hh : TwoIn w ah al bh bl w' := by assumption
    exact ⟨g1, p1, g2, q1, rfl, rfl, Nat.lt_of_lt_of_le p3 q5.size, q3, row_keep p4 p3 q5, q4, hh.2.2.2.2.2⟩
  case rest =>
    obtain ⟨g, c, g', c', rfl, rfl, hg, hg', hx, hy, hb⟩ := hcut
    have lx := dgs_length ah al
    have ly := dgs_length bh bl
    have vx := val_dgs a1 a0
    have vy := val_dgs b1 b0
    have dx := dgs_all ah al
    have dy := dgs_all bh bl
    generalize dgs ah al = xs at *
    generalize dgs bh bl = ys at *
    have LX := hideIt lx
    have LY := hideIt ly
    have VX := hideIt vx
    have VY := hideIt vy
    clear lx ly vx vy
    go_wp2
    go_loopg [7] 8 (fun gk i wr => ∃ (j : Nat) (n : Nat), j ≤ 8 ∧ gk = j ∧ i = .int .i64 ((j : Int) - 1) ∧ xs.drop j = ys.drop j ∧ wr = wc.drewN n)
    case atStart => exact ⟨8, 0, by omega, rfl, rfl, by rw [List.drop_eq_nil_of_le (by rw [LX.out]; omega), List.drop_eq_nil_of_le (by rw [LY.out]; omega)], rfl⟩
    case round =>
      obtain ⟨j, n, hj, hgk, rfl, hd, rfl⟩ := hrel
      have HG := hideIt hgk
      have HD := hideIt hd
      clear hgk hd
      by_cases hz : j = 0
      · subst hz
        have hc : cmpI (nv ah al) (nv bh bl) = 0 := by
          have := HD.out
          simp only [List.drop_zero] at this
          rw [← VX.out, ← VY.out, this]; exact cmpI_eq _
        go_wp2
        go_ret
        exact ⟨by first | rfl | (rw [hc]; first | done | rfl), by first | exact hb | exact below_drewN hb _⟩
      · obtain ⟨m, rfl⟩ : ∃ m, j = m + 1 := ⟨j - 1, by omega⟩
        have em : (((m + 1 : Nat) : Int) - 1) = (m : Int) := by omega
        rw [em]
        have mx : m < xs.length := by rw [LX.out]; omega
        have my : m < ys.length := by rw [LY.out]; omega
        have cx : wc.cell? ⟨g, m, none⟩ = some (.int .u64 xs[m]) := hx m _ (by simp [u64s, mx])
        have cy : wc.cell? ⟨g', m, none⟩ = some (.int .u64 ys[m]) := hy m _ (by simp [u64s, my])
        have i0 : (0 : Int) ≤ (m : Int) := by omega
        have i1 : (m : Int) < 8 := by omega
        have k1 := @val_less xs ys m mx my dx dy (by rw [LX.out, LY.out]) HD.out
        have k2 := @val_less ys xs m my mx dy dx (by rw [LX.out, LY.out]) HD.out.symm
        rw [VX.out, VY.out] at k1 k2
        obtain ⟨x0, x1⟩ := dx xs[m] (by simp)
        obtain ⟨y0, y1⟩ := dy ys[m] (by simp)
        have k3 : xs[m] = ys[m] → xs.drop m = ys.drop m := fun h => by
          rw [List.drop_eq_getElem_cons mx, List.drop_eq_getElem_cons my, h, HD.out]
        clear hx hy dx dy em hz
        generalize xs[m] = x at *
        generalize ys[m] = y at *
        have K1 := hideIt k1
        have K2 := hideIt k2
        have K3 := hideIt k3
        clear k1 k2 k3
        rcases Int.lt_trichotomy x y with h | h | h
        · have hc := cmpI_lt (K1.out h)
          go_wp2
          go_quiet (fail)
          go_wp2
          go_ret
          exact ⟨by first | rfl | (rw [hc]; first | done | rfl), by repeat (first | exact hb | apply below_drewN)⟩
        · subst h
          go_wp2
          go_quiet (fail)
          go_wp2
          go_quiet (fail)
          go_wp2
          go_roundg m
          case measure => have := HG.out; omega
          case rel => exact ⟨m, _, by omega, rfl, rfl, K3.out (by first | rfl | trivial), by first | rfl | exact ((drewN_two _ _ _).trans (drewN_two _ _ _))⟩
        · have hc := cmpI_gt (K2.out h)
          go_wp2
          go_quiet (fail)
          go_wp2
          go_quiet (fail)
          go_wp2
          go_ret
          exact ⟨by first | rfl | (rw [hc]; first | done | rfl), by repeat (first | exact hb | apply below_drewN)⟩
end Go.Proofs.YtlceniljnejjeaaDoor
