/-
  paymasterref01.Times, walked: digit by digit.
-/
import Derived.Test.YtfnbehijnmbhjaaDoorR1TimesN
import Derived.Deep.RegionWith
namespace Go.Proofs.YtfnbehijnmbhjaaDoor
set_option linter.unusedVariables false
set_option linter.unusedSimpArgs false
set_option maxRecDepth 10000
open Go.RowKit

set_option maxHeartbeats 16000000 in
theorem rtimes_any (ah al n : Int) (a1 : Word ah) (a0 : Word al) (hn : Word n) (w : World) :
    Calls Tryd.prog 55 #[.agg #[.int .u64 ah, .int .u64 al], .int .u64 n] w (Fit (nv ah al * n) w.heap.size w) := by
  have A0 := (Box.made w 24 #[.int .u64 ah, .int .u64 al]).past (.cells #[.int .u64 0, .int .u64 0] 24)
  have B0 : Box ((w.alloc (.cells #[.int .u64 ah, .int .u64 al] 24)).alloc (.cells #[.int .u64 0, .int .u64 0] 24)) (w.heap.size + 1) 24 #[.int .u64 0, .int .u64 0] := by
    have := Box.made (w.alloc (.cells #[.int .u64 ah, .int .u64 al] 24)) 24 #[.int .u64 0, .int .u64 0]
    simpa using this
  have L0 : Below w.heap.size w ((w.alloc (.cells #[.int .u64 ah, .int .u64 al] 24)).alloc (.cells #[.int .u64 0, .int .u64 0] 24)) := by repeat (first | exact Below.refl _ _ | apply Below.drew | apply below_drewN | refine Below.alloc ?_ (by simp; try omega) _ | refine Below.setCell ?_ (by simp; try omega) _)
  have hmk : ∀ u : World, (Instr.makeSlice 121 (.int .i64 17) (.int .i64 17)).run Tryd.prog u = .ok (.slice (some ⟨u.heap.size, 0, none⟩) 17 17) (u.alloc (.cells (u64s [0, 0, 0, 0, 0, 0, 0, 0, 0, 0, 0, 0, 0, 0, 0, 0, 0]).toArray 22)) := fun u => by kernel_rfl
  go_enter Tryd.func55, Tryd.ntmps55
  go_upto_region 2 with (first
    | (go_at_call_of 73 (Value.int IntKind.u64 ah); refine (digits_row ah al a1 a0 _).mono ?_; rintro e w1 ⟨g, p1, rfl, p2, p3, p4, p5⟩)
    | (go_at_call_of 73 (Value.int IntKind.u64 n); refine (digits_row 0 n ⟨by decide, by decide⟩ hn _).mono ?_; rintro e w2 ⟨g', q1, rfl, q2, q3, q4, q5⟩))
  have hgG : g < w2.heap.size := Nat.lt_of_lt_of_le p3 q5.size
  have hx := row_keep p4 p3 q5
  have L2 := chain (chain L0 p5) q5
  have R2 := (B0.call p5).call q5
  have lx := dgs_length ah al
  have ly := dgs_length 0 n
  have vx := val_dgs a1 a0
  have vy : val (dgs 0 n) = n := by rw [val_dgs ⟨by decide, by decide⟩ hn]; unfold nv; omega
  have dx := dgs_all ah al
  have dy := dgs_all 0 n
  have vy4 : val ((dgs 0 n).take 4) = n := by
    rw [dgs, List.take_left' (digs_length n 4)]; exact val_digs hn
  have vA : val (dgs ah al) < 65536 ^ 8 := by rw [vx]; exact (nv_word a1 a0).2
  have vN : n < 65536 ^ 4 := hn.2
  generalize dgs ah al = xs at *
  generalize dgs 0 n = ys at *
  clear p5 q5 p4 p2 q2 A0 B0 L0 p3
  have hy := q4
  clear q4
  have LX := hideIt lx
  have LY := hideIt ly
  have VX := hideIt vx
  have VY := hideIt vy
  have VY4 := hideIt vy4
  have VA := hideIt vA
  have VN := hideIt vN
  clear lx ly vx vy vy4 vA vN
  have Z0 := Box.made w2 22 (u64s [0, 0, 0, 0, 0, 0, 0, 0, 0, 0, 0, 0, 0, 0, 0, 0, 0]).toArray
  have K0 : Below w2.heap.size w2 (w2.alloc (.cells (u64s [0, 0, 0, 0, 0, 0, 0, 0, 0, 0, 0, 0, 0, 0, 0, 0, 0]).toArray 22)) := (Below.refl _ _).alloc (Nat.le_refl _) _
  go_upto_region 4 with fail
  generalize w2.alloc (.cells (u64s [0, 0, 0, 0, 0, 0, 0, 0, 0, 0, 0, 0, 0, 0, 0, 0, 0]).toArray 22) = W3 at *
  clear hmk
  go_wp2
  go_loopg [9] 8 (fun gk iv wr => ∃ (i : Nat) (zs : List Int), i ≤ 8 ∧ gk = 8 - i ∧ iv = .int .i64 i ∧ zs.length = 17 ∧ AllDig zs ∧ val zs = val (xs.take i) * n ∧ Box wr w2.heap.size 22 (u64s zs).toArray ∧ Below w2.heap.size w2 wr)
  case atStart => exact ⟨0, [0, 0, 0, 0, 0, 0, 0, 0, 0, 0, 0, 0, 0, 0, 0, 0, 0], by omega, rfl, rfl, rfl, fun d hd => by simp at hd; subst hd; decide, by simp [val], Z0, K0⟩
  case round =>
    obtain ⟨i, zs, hi, rfl, rfl, lz, dz, hv, hbx, hbel⟩ := hrel
    have LZ := hideIt lz
    have HV := hideIt hv
    clear lz hv
    by_cases hlt : i < 8
    · have mx : i < xs.length := by rw [LX.out]; omega
      obtain ⟨x, ex⟩ : ∃ x, xs[i] = x := ⟨_, rfl⟩
      have cx : w2.cell? ⟨g, i, none⟩ = some (.int .u64 x) := hx i _ (by simp [u64s, mx, ex])
      obtain ⟨x0, x1⟩ := dx xs[i] (by simp)
      rw [ex] at x0 x1
      have hpl := fun k => part_le (k := k) dx dy mx ex VY.out VA.out VN.out
      have HPL := hideIt hpl
      have EX := hideIt ex
      clear hpl ex
      obtain ⟨wo, rfl⟩ : ∃ wo : World, wo = wr := ⟨_, rfl⟩
      have hdi : decide ((i : Int) < 8) = true := decide_eq_true (by omega)
      go_wp2
      go_loopg [10] 4 (fun gk kv wr => ∃ (k : Nat) (zs : List Int), k ≤ 4 ∧ gk = 4 - k ∧ kv = .int .i64 k ∧ zs.length = 17 ∧ AllDig zs ∧ val zs = val (xs.take i) * n + x * 65536 ^ i * val (ys.take k) ∧ Box wr w2.heap.size 22 (u64s zs).toArray ∧ Below w2.heap.size w2 wr)
      case atStart => exact ⟨0, zs, by omega, rfl, rfl, LZ.out, dz, by rw [HV.out]; simp [val], hbx, hbel⟩
      case round =>
        obtain ⟨k, zs2, hk, rfl, rfl, lz, dz2, hv, hbx2, hbel2⟩ := hrel
        have LZ2 := hideIt lz
        have HV2 := hideIt hv
        clear lz hv
        by_cases hlt2 : k < 4
        · have my : k < ys.length := by rw [LY.out]; omega
          obtain ⟨y, ey⟩ : ∃ y, ys[k] = y := ⟨_, rfl⟩
          have cx' : wr.cell? ⟨g, i, none⟩ = some (.int .u64 x) := by rw [hbel2.cell (p := ⟨g, i, none⟩) hgG]; exact cx
          have cy' : wr.cell? ⟨g', k, none⟩ = some (.int .u64 y) := by rw [hbel2.cell (p := ⟨g', k, none⟩) q3]; exact hy k _ (by simp [u64s, my, ey])
          obtain ⟨y0, y1⟩ := dy ys[k] (by simp)
          rw [ey] at y0 y1
          have i0' : (0 : Int) ≤ (i : Int) := by omega
          have i1' : (i : Int) < 8 := by omega
          have k0' : (0 : Int) ≤ (k : Int) := by omega
          have k1' : (k : Int) < 8 := by omega
          have m0 : 0 ≤ x * y := Int.mul_nonneg x0 y0
          have m1 : x * y ≤ 65535 * 65535 := Int.mul_le_mul (by omega) (by omega) y0 (by omega)
          have hst := prod_step (i := i) my ey HV2.out
          have HST := hideIt hst
          have hTb := HPL.out (k + 1)
          have HTB := hideIt hTb
          clear hst ey hTb
          have hdk : decide ((k : Int) < 4) = true := decide_eq_true (by omega)
          go_wp2
          go_quiet (fail)
          go_wp2
          obtain ⟨wq, hwq⟩ : ∃ wq : World, wr.drewN nq = wq := ⟨_, rfl⟩
          have hbx3 : Box wq w2.heap.size 22 (u64s zs2).toArray := by rw [← hwq]; exact hbx2
          have hbel3 : Below w2.heap.size w2 wq := by rw [← hwq]; exact below_drewN hbel2 _
          rw [hwq]
          clear hwq cx' cy' hbx2 hbel2
          generalize x * y = xy at *
          go_loopg [11, 12] (17 - (i + k)) (fun gk av mv wr => ∃ (m : Nat) (more : Int) (zs : List Int), m ≤ 17 ∧ gk = 17 - m ∧ av = .int .u64 more ∧ mv = .int .i64 m ∧ 0 ≤ more ∧ more ≤ 65535 * 65535 ∧ zs.length = 17 ∧ AllDig zs ∧
            val zs + more * 65536 ^ m = val (xs.take i) * n + x * 65536 ^ i * val (ys.take (k + 1)) ∧ Box wr w2.heap.size 22 (u64s zs).toArray ∧ Below w2.heap.size w2 wr)
          case atStart => exact ⟨i + k, xy, zs2, by omega, rfl, rfl, by go_num, m0, m1, LZ2.out, dz2, HST.out, hbx3, hbel3⟩
          case round =>
            obtain ⟨m, more, zs3, hm, rfl, rfl, rfl, r0, r1, lz, dz3, hv, hbx4, hbel4⟩ := hrel
            have LZ3 := hideIt lz
            have HV3 := hideIt hv
            clear lz hv
            by_cases hpos : 0 < more
            · have hm12 := carry_place dz3 hpos HV3.out HTB.out
              have mz : m < zs3.length := by rw [LZ3.out]; omega
              obtain ⟨z, ez⟩ : ∃ z, zs3[m] = z := ⟨_, rfl⟩
              have hcs := carry_step mz ez HV3.out
              have HCS := hideIt hcs
              obtain ⟨z0, z1⟩ := dz3 zs3[m] (by simp)
              rw [ez] at z0 z1
              have cz : wr.cell? ⟨w2.heap.size, m, none⟩ = some (.int .u64 z) := by rw [hbx4.read m]; simp [u64s, mz, ez]
              have fz := hbx4.free m
              have hs := u64s_set zs3 m ((more + z) % 65536)
              have HS := hideIt hs
              clear hcs ez hs
              go_wp2
              go_roundg (17 - (m + 1))
              case measure => omega
              case rel =>
                refine ⟨m + 1, (more + z) / 65536, zs3.set m ((more + z) % 65536), by omega, rfl, rfl, by go_num, by omega, by omega, by rw [List.length_set]; exact LZ3.out, dz3.set m (by omega) (by omega), HCS.out, ?_, hbel4.setCell (by simp) _⟩
                rw [HS.out]
                exact hbx4.wrote m _
            · have e : more = 0 := by omega
              subst e
              have hv4 : val zs3 = val (xs.take i) * n + x * 65536 ^ i * val (ys.take (k + 1)) := by have := HV3.out; rw [Int.zero_mul, Int.add_zero] at this; exact this
              have HV4 := hideIt hv4
              clear hv4
              go_wp2
              go_roundg (4 - (k + 1))
              case measure => omega
              case rel => exact ⟨k + 1, zs3, by omega, rfl, by go_num, LZ3.out, dz3, HV4.out, hbx4, hbel4⟩
        · have e : k = 4 := by omega
          subst e
          have hv4 : val zs2 = val (xs.take (i + 1)) * n := by
            rw [HV2.out, VY4.out, val_take mx, EX.out, Int.add_mul, Int.mul_comm x]
          have HV4 := hideIt hv4
          clear hv4
          go_wp2
          go_roundg (8 - (i + 1))
          case measure => omega
          case rel => exact ⟨i + 1, zs2, by omega, rfl, by go_num, LZ2.out, dz2, HV4.out, hbx2, hbel2⟩
    · have e : i = 8 := by omega
      subst e
      have hval : val zs = nv ah al * n := by
        rw [HV.out, List.take_of_length_le (by rw [LX.out]; omega), VX.out]
      have hnum := number_any w2.heap.size 17 zs wr dz (by rw [LZ.out]; omega) (by rw [LZ.out]; omega) hbx.inside (fun j u hu => by rw [hbx.read j]; simpa using hu)
      rw [LZ.out, hval] at hnum
      have hb2 := R2.below hbel R2.inside
      have Lw := L2.trans (hbel.mono L2.size)
      clear hval
      cases hroom : room (nv ah al * n)
      · go_wp2_with (first
          | (go_at_call 74; refine hnum.mono ?_; rintro e w4 ⟨rfl, hb4⟩
             have hbox2 := hb2.call hb4
             have Lw4 := chain Lw hb4
             obtain ⟨n0, n1, n2⟩ := hbox2.num
             have f0 := hbox2.free 0
             have f1 := hbox2.free 1))
        have hbx5 := ((hbox2.wrote 0 (.int .u64 0)).wrote 1 (.int .u64 0)).past (.cells #[.int .u64 (rh (nv ah al * n)), .int .u64 (rl (nv ah al * n))] 24)
        have e0 := hbx5.read 0
        have e1 := hbx5.read 1
        simp only [Nat.reduceLT, List.setIfInBounds_toArray, List.set_cons_zero, List.set_cons_succ, List.getElem?_toArray, List.getElem?_cons_zero, List.getElem?_cons_succ] at e0 e1
        exact bodyPost_ret (v := .tuple #[.agg #[.int .u64 0, .int .u64 0], .int .i64 10]) (by simp [results, Tryd.results55, go_sem, e0, e1]) rfl
          ⟨by rw [rh_no hroom, rl_no hroom, re_no hroom], by repeat (first | exact Lw4 | apply Below.drew | refine Below.alloc ?_ (by simp; try omega) _ | refine Below.setCell ?_ (by simp; try omega) _)⟩
      · go_wp2_with (first
          | (go_at_call 74; refine hnum.mono ?_; rintro e w4 ⟨rfl, hb4⟩
             have hbox2 := hb2.call hb4
             have Lw4 := chain Lw hb4
             obtain ⟨n0, n1, n2⟩ := hbox2.num
             have f0 := hbox2.free 0
             have f1 := hbox2.free 1))
        have hbx5 := ((hbox2.wrote 0 (.int .u64 (rh (nv ah al * n)))).wrote 1 (.int .u64 (rl (nv ah al * n)))).past (.cells #[.int .u64 (rh (nv ah al * n)), .int .u64 (rl (nv ah al * n))] 24)
        have e0 := hbx5.read 0
        have e1 := hbx5.read 1
        simp only [Nat.reduceLT, List.setIfInBounds_toArray, List.set_cons_zero, List.set_cons_succ, List.getElem?_toArray, List.getElem?_cons_zero, List.getElem?_cons_succ] at e0 e1
        exact bodyPost_ret (v := .tuple #[.agg #[.int .u64 (rh (nv ah al * n)), .int .u64 (rl (nv ah al * n))], .int .i64 0]) (by simp [results, Tryd.results55, go_sem, e0, e1]) rfl
          ⟨by rw [re_yes hroom], by repeat (first | exact Lw4 | apply Below.drew | refine Below.alloc ?_ (by simp; try omega) _ | refine Below.setCell ?_ (by simp; try omega) _)⟩
end Go.Proofs.YtfnbehijnmbhjaaDoor
