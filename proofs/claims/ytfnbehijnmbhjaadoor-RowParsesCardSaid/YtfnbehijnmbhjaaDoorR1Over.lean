/-
  paymasterref01.Over, walked: bit by bit, the greatest first.
-/
import Derived.Test.YtfnbehijnmbhjaaDoorR1OverN
import Derived.Test.YtfnbehijnmbhjaaDoorU1Over
namespace Go.Proofs.YtfnbehijnmbhjaaDoor
set_option linter.unusedVariables false
set_option linter.unusedSimpArgs false
set_option maxRecDepth 10000
open Go.RowKit

set_option maxHeartbeats 16000000 in
theorem rover_any (ah al n : Int) (a1 : Word ah) (a0 : Word al) (hn : Word n) (w : World) :
    Calls Tryd.prog 58 #[.agg #[.int .u64 ah, .int .u64 al], .int .u64 n] w (OverTells (nv ah al) n w.heap.size w) := by
  by_cases h0 : n = 0
  · subst h0
    go_enter Tryd.func58, Tryd.ntmps58
    go_wp2
    exact bodyPost_ret (v := .tuple #[.agg #[.int .u64 0, .int .u64 0], .int .u64 0, .int .i64 2]) (by simp [results, Tryd.results58, go_sem]) rfl ⟨by simp [orest, oerr, rh, rl, room], by repeat (first | exact Below.refl _ _ | apply Below.drew | apply below_drewN | refine Below.alloc ?_ (by simp; try omega) _ | refine Below.setCell ?_ (by simp; try omega) _)⟩
  · obtain ⟨hn0, hn1⟩ := hn
    have hnp : 0 < n := by omega
    have B0 : Box ((w.alloc (.cells #[.int .u64 ah, .int .u64 al] 24)).alloc (.cells #[.int .u64 0, .int .u64 0] 24)) (w.heap.size + 1) 24 #[.int .u64 0, .int .u64 0] := by
      have := Box.made (w.alloc (.cells #[.int .u64 ah, .int .u64 al] 24)) 24 #[.int .u64 0, .int .u64 0]
      simpa using this
    have L0 : Below w.heap.size w ((w.alloc (.cells #[.int .u64 ah, .int .u64 al] 24)).alloc (.cells #[.int .u64 0, .int .u64 0] 24)) := by repeat (first | exact Below.refl _ _ | apply Below.drew | apply below_drewN | refine Below.alloc ?_ (by simp; try omega) _ | refine Below.setCell ?_ (by simp; try omega) _)
    have hmk : ∀ u : World, (Instr.makeSlice 121 (.int .i64 8) (.int .i64 8)).run Tryd.prog u = .ok (.slice (some ⟨u.heap.size, 0, none⟩) 8 8) (u.alloc (.cells (u64s [0, 0, 0, 0, 0, 0, 0, 0]).toArray 22)) := fun u => by kernel_rfl
    go_enter Tryd.func58, Tryd.ntmps58
    go_upto_region 4 with (first
      | (go_at_call_of 73 (Value.int IntKind.u64 ah); refine (digits_row ah al a1 a0 _).mono ?_; rintro e w1 ⟨g, p1, rfl, p2, p3, p4, p5⟩))
    have L1 := chain L0 p5
    have R1 := B0.call p5
    have lx := dgs_length ah al
    have vx := val_dgs a1 a0
    have dx := dgs_all ah al
    obtain ⟨nA0, nA1⟩ := nv_word a1 a0
    generalize dgs ah al = xs at *
    clear p5 p2 B0 L0
    have hx := p4
    clear p4
    have LX := hideIt lx
    have VX := hideIt vx
    clear lx vx
    have Z0 := Box.made w1 22 (u64s [0, 0, 0, 0, 0, 0, 0, 0]).toArray
    have K0 : Below w1.heap.size w1 (w1.alloc (.cells (u64s [0, 0, 0, 0, 0, 0, 0, 0]).toArray 22)) := (Below.refl _ _).alloc (Nat.le_refl _) _
    go_upto_region 6 with fail
    generalize w1.alloc (.cells (u64s [0, 0, 0, 0, 0, 0, 0, 0]).toArray 22) = W3 at *
    clear hmk
    go_wp2
    go_loopg [9, 10] 8 (fun gk rv iv wr => ∃ (j : Nat) (qs : List Int) (Q rest : Int), j ≤ 8 ∧ gk = j ∧ rv = .int .u64 rest ∧ iv = .int .i64 ((j : Int) - 1) ∧ val (xs.drop j) = Q * n + rest ∧ 0 ≤ rest ∧ rest < n ∧ qs.length = 8 ∧ AllDig qs ∧
      (∀ m, m < j → qs[m]? = some 0) ∧ val qs = Q * 65536 ^ j ∧ Box wr w1.heap.size 22 (u64s qs).toArray ∧ Below w1.heap.size w1 wr)
    case atStart =>
      refine ⟨8, [0, 0, 0, 0, 0, 0, 0, 0], 0, 0, by omega, rfl, rfl, rfl, by rw [List.drop_eq_nil_of_le (by rw [LX.out]; omega)]; simp [val], by omega, hnp, rfl, fun d hd => by simp at hd; subst hd; decide, fun m hm => ?_, by simp [val], Z0, K0⟩
      have : m = 0 ∨ m = 1 ∨ m = 2 ∨ m = 3 ∨ m = 4 ∨ m = 5 ∨ m = 6 ∨ m = 7 := by omega
      rcases this with rfl | rfl | rfl | rfl | rfl | rfl | rfl | rfl <;> rfl
    case round =>
      obtain ⟨j, qs, Q, rest, hj, hgk, rfl, rfl, hv, r0, r1, lq, dq, hlow, hnum, hbx, hbel⟩ := hrel
      have HG := hideIt hgk
      have HV := hideIt hv
      have LQ := hideIt lq
      have HNUM := hideIt hnum
      have HLOW := hideIt hlow
      clear hgk hv lq hnum hlow
      by_cases hz : j = 0
      · subst hz
        have e1 : nv ah al = rest + n * Q := by rw [← VX.out, Int.mul_comm]; have := HV.out; rw [List.drop_zero] at this; omega
        have eQ : nv ah al / n = Q := by rw [e1, Int.add_mul_ediv_left _ _ h0, Int.ediv_eq_zero_of_lt r0 r1]; omega
        have eR : nv ah al % n = rest := by rw [e1, Int.add_mul_emod_self_left]; exact Int.emod_eq_of_lt r0 r1
        have hvq : val qs = nv ah al / n := by rw [HNUM.out, eQ]; omega
        have q0 : 0 ≤ nv ah al / n := Int.ediv_nonneg nA0 hn0
        have q1 : nv ah al / n ≤ nv ah al := Int.ediv_le_self _ nA0
        have hroom : room (nv ah al / n) = true := room_iff.2 (by omega)
        have hnm := number_any w1.heap.size 8 qs wr dq (by rw [LQ.out]; omega) (by rw [LQ.out]; omega) hbx.inside (fun j u hu => by rw [hbx.read j]; simpa using hu)
        rw [LQ.out, hvq, ] at hnm
        have ER := hideIt eR
        have HRM := hideIt hroom
        clear e1 eQ eR hvq q0 q1 hroom
        have hb2 := R1.below hbel R1.inside
        have Lw := L1.trans (hbel.mono L1.size)
        go_wp2_with (first
          | (go_at_call 74; refine hnm.mono ?_; rintro e w4 ⟨rfl, hb4⟩
             have hbox2 := hb2.call hb4
             have Lw4 := chain Lw hb4
             obtain ⟨n0, n1, n2⟩ := hbox2.num
             have f0 := hbox2.free 0
             have f1 := hbox2.free 1))
        have hbx5 := ((hbox2.wrote 0 (.int .u64 (rh (nv ah al / n)))).wrote 1 (.int .u64 (rl (nv ah al / n)))).past (.cells #[.int .u64 (rh (nv ah al / n)), .int .u64 (rl (nv ah al / n))] 24)
        have e0 := hbx5.read 0
        have e1 := hbx5.read 1
        simp only [Nat.reduceLT, List.setIfInBounds_toArray, List.set_cons_zero, List.set_cons_succ, List.getElem?_toArray, List.getElem?_cons_zero, List.getElem?_cons_succ] at e0 e1
        exact bodyPost_ret (v := .tuple #[.agg #[.int .u64 (rh (nv ah al / n)), .int .u64 (rl (nv ah al / n))], .int .u64 rest, .int .i64 0]) (by simp [results, Tryd.results58, go_sem, e0, e1]) rfl
          ⟨by rw [orest, if_neg h0, ER.out, oerr, if_neg h0], by repeat (first | exact Lw4 | apply Below.drew | refine Below.alloc ?_ (by simp; try omega) _ | refine Below.setCell ?_ (by simp; try omega) _)⟩
      · obtain ⟨i, rfl⟩ : ∃ i, j = i + 1 := ⟨j - 1, by omega⟩
        have em : (((i + 1 : Nat) : Int) - 1) = (i : Int) := by omega
        rw [em]
        have mx : i < xs.length := by rw [LX.out]; omega
        obtain ⟨x, ex⟩ : ∃ x, xs[i] = x := ⟨_, rfl⟩
        have cx : w1.cell? ⟨g, i, none⟩ = some (.int .u64 x) := hx i _ (by simp [u64s, mx, ex])
        obtain ⟨x0, x1⟩ := dx xs[i] (by simp)
        rw [ex] at x0 x1
        have hdr := val_drop mx
        rw [ex] at hdr
        obtain ⟨hi, ehi⟩ : ∃ hi, val (xs.drop (i + 1)) = hi := ⟨_, rfl⟩
        have hD : Div n hi x i 0 qs Q rest := by
          refine ⟨?_, r0, r1, LQ.out, dq, fun m hm => HLOW.out m (by omega), ⟨0, HLOW.out i (by omega), by decide⟩, ?_⟩
          · rw [seen_start x0 x1, ← ehi]; exact HV.out
          · rw [HNUM.out, Int.pow_succ, Int.mul_comm (65536 ^ i)]
            have e16 : (2 : Int) ^ (16 - 0) = 65536 := rfl
            rw [e16, Int.mul_assoc]
        rw [ehi] at hdr
        have HD := hideIt hD
        have HDR := hideIt hdr
        clear hD hdr ehi ex em hz
        obtain ⟨wo, rfl⟩ : ∃ wo : World, wo = wr := ⟨_, rfl⟩
        go_wp2
        go_loopg [9, 11] 16 (fun gk rv bv wr => ∃ (j : Nat) (qs : List Int) (Q rest : Int), j ≤ 16 ∧ gk = 16 - j ∧ rv = .int .u64 rest ∧ bv = .int .u64 (bitv j) ∧ Div n hi x i j qs Q rest ∧ Box wr w1.heap.size 22 (u64s qs).toArray ∧ Below w1.heap.size w1 wr)
        case atStart => exact ⟨0, qs, Q, rest, by omega, rfl, rfl, rfl, HD.out, hbx, hbel⟩
        case round =>
          obtain ⟨j, qs2, Q2, rest2, hj2, rfl, rfl, rfl, hD2, hbx2, hbel2⟩ := hrel
          have HD2 := hideIt hD2
          have s0 := hD2.r0
          have s1 := hD2.r1
          obtain ⟨d, hd, hdb⟩ := hD2.here
          have hd0 := (hD2.dig d (List.mem_of_getElem? hd)).1
          clear hD2
          by_cases hlt : j < 16
          · obtain ⟨b0, b1, e1, e2⟩ := bitv_cases hlt
            rw [e1] at hdb
            have en := bitv_next j
            have cx' : wr.cell? ⟨g, i, none⟩ = some (.int .u64 x) := by rw [hbel2.cell (p := ⟨g, i, none⟩) p3]; exact cx
            obtain ⟨o, ho⟩ : ∃ o, x / bitv j % 2 = o := ⟨_, rfl⟩
            have o0 : 0 ≤ o := by rw [← ho]; omega
            have o1 : o ≤ 1 := by rw [← ho]; omega
            have cq : wr.cell? ⟨w1.heap.size, i, none⟩ = some (.int .u64 d) := by rw [hbx2.read i]; simp [u64s, hd]
            have fq := hbx2.free i
            have hdiv : 0 ≤ x / bitv j := Int.ediv_nonneg x0 (by omega)
            have HO := hideIt ho
            have hod : x / bitv j % 2 = o := ho
            clear ho
            have EN := hideIt en
            have HDD := hideIt hd
            clear e1 e2 en hd
            by_cases c1 : n - rest2 ≤ rest2
            · have hyes := HD2.out.yes hlt x0 HO.out HDD.out (by omega)
              have HY := hideIt hyes
              have hs := u64s_set qs2 i (d + bitv j)
              have HS := hideIt hs
              clear hyes hs
              generalize bitv j = p at *
              go_wp2
              go_roundg (16 - (j + 1))
              case measure => omega
              case rel =>
                refine ⟨j + 1, qs2.set i (d + p), 2 * Q2 + 1, 2 * rest2 + o - n, by omega, rfl, by congr 1; omega, by rw [EN.out], HY.out, ?_, hbel2.setCell (by simp) _⟩
                rw [HS.out]
                exact hbx2.wrote i _
            · by_cases c2 : o = 1 ∧ n - rest2 ≤ rest2 + 1
              · obtain ⟨rfl, c2⟩ := c2
                have hyes := HD2.out.yes hlt x0 HO.out HDD.out (by omega)
                have HY := hideIt hyes
                have hs := u64s_set qs2 i (d + bitv j)
                have HS := hideIt hs
                have hw1 : IntKind.u64.wrap (rest2 - (n - rest2)) = 18446744073709551615 := by rw [IntKind.wrap_u64]; omega
                have hw2 : IntKind.u64.wrap 18446744073709551616 = 0 := by rw [IntKind.wrap_u64]; rfl
                have hz2 : 2 * rest2 + 1 - n = 0 := by omega
                have HZ2 := hideIt hz2
                clear hyes hs hz2
                generalize bitv j = p at *
                go_wp2
                go_roundg (16 - (j + 1))
                case measure => omega
                case rel =>
                  refine ⟨j + 1, qs2.set i (d + p), 2 * Q2 + 1, 2 * rest2 + 1 - n, by omega, rfl, by rw [HZ2.out], by rw [EN.out], HY.out, ?_, hbel2.setCell (by simp) _⟩
                  rw [HS.out]
                  exact hbx2.wrote i _
              · have hno := HD2.out.no hlt x0 HO.out (by omega)
                have HN := hideIt hno
                clear hno
                generalize bitv j = p at *
                by_cases c3 : n - rest2 ≤ rest2 + 1
                · have e : o = 0 := by omega
                  subst e
                  go_wp2
                  go_roundg (16 - (j + 1))
                  case measure => omega
                  case rel => exact ⟨j + 1, qs2, 2 * Q2, 2 * rest2 + 0, by omega, rfl, by congr 1; omega, by rw [EN.out], HN.out, hbx2, hbel2⟩
                · go_wp2
                  go_roundg (16 - (j + 1))
                  case measure => omega
                  case rel => exact ⟨j + 1, qs2, 2 * Q2, 2 * rest2 + o, by omega, rfl, by first | rfl | (congr 1; omega), by rw [EN.out], HN.out, hbx2, hbel2⟩
          · have e : j = 16 := by omega
            subst e
            obtain ⟨see, -, -, len, dig, low, -, num⟩ := HD2.out
            rw [seen_end, ← HDR.out] at see
            have num' : val qs2 = Q2 * 65536 ^ i := by rw [num]; simp
            have SEE := hideIt see
            have NUM := hideIt num'
            have LEN := hideIt len
            have LOW := hideIt low
            have hbe := bitv_end
            clear see num num' len low
            go_wp2
            go_roundg i
            case measure => have := HG.out; omega
            case rel => exact ⟨i, qs2, Q2, rest2, by omega, rfl, rfl, rfl, SEE.out, s0, s1, LEN.out, dig, LOW.out, NUM.out, hbx2, hbel2⟩
end Go.Proofs.YtfnbehijnmbhjaaDoor
