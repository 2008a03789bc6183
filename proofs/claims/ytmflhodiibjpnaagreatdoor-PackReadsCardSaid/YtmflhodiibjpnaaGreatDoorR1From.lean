/-
  paymasterref01.From, walked: the number of sixteen bytes, digit by digit.
-/
import Derived.Test.YtmflhodiibjpnaaGreatDoorM1Ref
import Derived.Test.YtmflhodiibjpnaaGreatDoorU1From
import Derived.Deep.AppendLies
import Derived.IntWalk
import Derived.Deep.RegionHeld3
namespace Go.Proofs.YtmflhodiibjpnaaGreatDoor
set_option linter.unusedVariables false
set_option linter.unusedSimpArgs false
set_option maxRecDepth 10000
open Go.RowKit

/-- The number of the first 16 - 2 j bytes from place 2 j on, digit by digit, the least one first. -/
def fromDigs (b : List UInt8) (j : Nat) : List Int := ((List.range 8).drop j).reverse.map fun i => 256 * ((b.getD (2 * i) 0).toNat : Int) + (b.getD (2 * i + 1) 0).toNat
theorem fromDigs_step (b : List UInt8) {m : Nat} (hm : m < 8) : fromDigs b m = fromDigs b (m + 1) ++ [256 * ((b.getD (2 * m) 0).toNat : Int) + (b.getD (2 * m + 1) 0).toNat] := by
  unfold fromDigs
  rw [List.drop_eq_getElem_cons (by simpa using hm), List.reverse_cons, List.map_append, List.getElem_range]
  rfl
theorem fromDigs_all (b : List UInt8) (j : Nat) : AllDig (fromDigs b j) := by
  intro d hd
  simp only [fromDigs, List.mem_map] at hd
  obtain ⟨i, -, rfl⟩ := hd
  have h1 := (b.getD (2 * i) 0).toNat_lt
  have h2 := (b.getD (2 * i + 1) 0).toNat_lt
  exact ⟨by omega, by omega⟩
theorem fromDigs_val (b : List UInt8) (hb : b.length = 16) : val (fromDigs b 0) = nv (beN (b.take 8) : Nat) (beN (b.drop 8) : Nat) := by
  match b, hb with
  | [a0, a1, a2, a3, a4, a5, a6, a7, a8, a9, a10, a11, a12, a13, a14, a15], _ =>
    simp only [fromDigs, beN, List.range_succ, List.range_zero, List.nil_append, List.cons_append, List.drop_zero, List.reverse_cons, List.reverse_nil, List.map_cons, List.map_nil, Nat.reduceMul, Nat.reduceAdd, List.getD_cons_succ, List.getD_cons_zero, List.take_succ_cons, List.take_zero, List.drop_succ_cons, List.foldl_cons, List.foldl_nil, val, nv]
    omega

set_option maxHeartbeats 4000000 in
theorem rfrom_any (s : ByteArray) (hmax : s.size ≤ 9223372036854775807) (w : World) : Calls Tryz.prog 160 #[.string s] w (FromTells s w.heap.size w) := by
  by_cases h16 : s.size = 16
  · have h16' : (s.size : Int) = 16 := by omega
    obtain ⟨i0, hi, hz0, hz1, hz2⟩ := info_parts info_u64
    have B0 := Box.made w 24 #[.int .u64 0, .int .u64 0]
    have L1 : Below w.heap.size w (w.alloc (.cells #[.int .u64 0, .int .u64 0] 24)) := by repeat (first | exact Below.refl _ _ | apply Below.drew | apply below_drewN | refine Below.alloc ?_ (by simp; try omega) _ | refine Below.setCell ?_ (by simp; try omega) _)
    have lb : s.data.toList.length = 16 := by simpa using h16
    have H16 := hideIt h16
    have LB := hideIt lb
    clear lb
    go_enter Tryz.func160, Tryz.ntmps160
    go_wp2
    generalize w.alloc (.cells #[.int .u64 0, .int .u64 0] 24) = W at *
    have hsW := B0.inside
    go_loopg [4, 5] 8 (fun gk v i wr => ∃ j : Nat, j ≤ 8 ∧ gk = j ∧ i = .int .i64 ((j : Int) - 1) ∧ wr.ownsRow W.heap.size 22 1 v (8 - j) (u64s (fromDigs s.data.toList j)) ∧ Below W.heap.size W wr)
    case atStart => exact ⟨8, by omega, rfl, rfl, ⟨rfl, .inl ⟨rfl, rfl⟩⟩, Below.refl _ _⟩
    case round =>
      obtain ⟨j, hj, hgk, rfl, hown, hbel⟩ := hrel
      have HG := hideIt hgk
      clear hgk
      have hs2 := hbel.size
      by_cases hz : j = 0
      · subst hz
        obtain ⟨g2, c2, rfl, q1, q2, q3, q4, q5, q6⟩ := own_row hown (by omega)
        have l8 : (fromDigs s.data.toList 0).length = 8 := by simp [fromDigs]
        have hnum := number_any g2 c2 (fromDigs s.data.toList 0) wr (fromDigs_all _ _) (by omega) (by omega) q2 q5
        rw [l8, fromDigs_val _ LB.out] at hnum
        have hbox := B0.below hbel B0.inside
        have hroom : room (nv (beN (List.take 8 s.data.toList) : Nat) (beN (List.drop 8 s.data.toList) : Nat)) = true := by
          refine room_iff.2 (nv_word ?_ ?_)
          · have h1 := beN_lt (List.take 8 s.data.toList)
            rw [List.length_take, LB.out] at h1
            exact ⟨by omega, by have : (256 : Nat) ^ (min 8 16) = 18446744073709551616 := rfl; omega⟩
          · have h1 := beN_lt (List.drop 8 s.data.toList)
            rw [List.length_drop, LB.out] at h1
            exact ⟨by omega, by have : (256 : Nat) ^ (16 - 8) = 18446744073709551616 := rfl; omega⟩
        have hw1 : Word (beN (List.take 8 s.data.toList) : Nat) := by
          have h1 := beN_lt (List.take 8 s.data.toList)
          rw [List.length_take, LB.out] at h1
          exact ⟨by omega, by have : (256 : Nat) ^ (min 8 16) = 18446744073709551616 := rfl; omega⟩
        have hw2 : Word (beN (List.drop 8 s.data.toList) : Nat) := by
          have h1 := beN_lt (List.drop 8 s.data.toList)
          rw [List.length_drop, LB.out] at h1
          exact ⟨by omega, by have : (256 : Nat) ^ (16 - 8) = 18446744073709551616 := rfl; omega⟩
        have hnum2 := hnum.mono fun e w' (hf : NumTells _ _ _ _ _) => (⟨by rw [hf.1, rh_nv hw1 hw2, rl_nv hw1 hw2, hroom], hf.2⟩ : e = .returned (.tuple #[.agg #[.int .u64 (beN (List.take 8 s.data.toList) : Nat), .int .u64 (beN (List.drop 8 s.data.toList) : Nat)], .bool true]) ∧ Below wr.heap.size wr w')
        clear hnum hroom
        have hbb := chain L1 hbel
        go_wp2_with (first | (go_at_call 172; refine hnum2.mono ?_; rintro e w2 ⟨rfl, hb2⟩
                              have hbox2 := hbox.call hb2
                              have hbb2 := chain hbb hb2
                              obtain ⟨r0, r1, r2⟩ := hbox2.num
                              have f0 := hbox2.free 0
                              have f1 := hbox2.free 1))
        have hbx := ((hbox2.wrote 0 (.int .u64 (beN (List.take 8 s.data.toList) : Nat))).wrote 1 (.int .u64 (beN (List.drop 8 s.data.toList) : Nat))).past (.cells #[.int .u64 (beN (List.take 8 s.data.toList) : Nat), .int .u64 (beN (List.drop 8 s.data.toList) : Nat)] 24)
        have e0 := hbx.read 0
        have e1 := hbx.read 1
        simp only [Nat.reduceLT, List.setIfInBounds_toArray, List.set_cons_zero, List.set_cons_succ, List.getElem?_toArray, List.getElem?_cons_zero, List.getElem?_cons_succ] at e0 e1
        exact bodyPost_ret (v := .tuple #[.agg #[.int .u64 (beN (List.take 8 s.data.toList) : Nat), .int .u64 (beN (List.drop 8 s.data.toList) : Nat)], .int .i64 0]) (by simp [results, Tryz.results160, go_sem, e0, e1]) rfl
          ⟨by rw [fromH, fromL, fromE, if_pos H16.out, if_pos H16.out, if_pos H16.out], by repeat (first | exact hbb2 | apply Below.drew | refine Below.alloc ?_ (by simp; try omega) _ | refine Below.setCell ?_ (by simp; try omega) _)⟩
      · obtain ⟨m, rfl⟩ : ∃ m, j = m + 1 := ⟨j - 1, by omega⟩
        have em : (((m + 1 : Nat) : Int) - 1) = (m : Int) := by omega
        rw [em]
        have hm : m < 8 := by omega
        have hstep := fromDigs_step s.data.toList hm
        have HS := hideIt hstep
        clear hstep em hz
        have b1 : 2 * m < s.size := by have := H16.out; omega
        have b2 : 2 * m + 1 < s.size := by have := H16.out; omega
        have g1 : s.data.toList.getD (2 * m) 0 = s[2 * m] := by
          rw [List.getD_eq_getElem?_getD, List.getElem?_eq_getElem (by rw [LB.out]; omega)]; rfl
        have g2 : s.data.toList.getD (2 * m + 1) 0 = s[2 * m + 1] := by
          rw [List.getD_eq_getElem?_getD, List.getElem?_eq_getElem (by rw [LB.out]; omega)]; rfl
        have G1 := hideIt g1
        have G2 := hideIt g2
        clear g1 g2
        have y1 : IntKind.u64.wrap (s[2 * m].toNat : Int) = (s[2 * m].toNat : Int) := by rw [IntKind.wrap_u64]; have := s[2 * m].toNat_lt; omega
        have y2 : IntKind.u64.wrap (s[2 * m + 1].toNat : Int) = (s[2 * m + 1].toNat : Int) := by rw [IntKind.wrap_u64]; have := s[2 * m + 1].toNat_lt; omega
        have y3 : IntKind.u64.wrap (256 * (s[2 * m].toNat : Int)) = 256 * (s[2 * m].toNat : Int) := by rw [IntKind.wrap_u64]; have := s[2 * m].toNat_lt; omega
        have y4 : IntKind.u64.wrap (256 * (s[2 * m].toNat : Int) + (s[2 * m + 1].toNat : Int)) = 256 * (s[2 * m].toNat : Int) + (s[2 * m + 1].toNat : Int) := by
          rw [IntKind.wrap_u64]; have := s[2 * m].toNat_lt; have := s[2 * m + 1].toNat_lt; omega
        have v1 : IntKind.i64.wrap (2 * (m : Int)) = 2 * (m : Int) := IntWalk.i64_in _ (by omega)
        have v2 : IntKind.i64.wrap (2 * (m : Int) + 1) = 2 * (m : Int) + 1 := IntWalk.i64_in _ (by omega)
        have v3 : (0 : Int) ≤ 2 * (m : Int) := by omega
        have v4 : (0 : Int) ≤ 2 * (m : Int) + 1 := by omega
        have v5 : 2 * (m : Int) < (s.size : Int) := by omega
        have v6 : 2 * (m : Int) + 1 < (s.size : Int) := by omega
        have v7 : (2 * (m : Int)).toNat = 2 * m := by omega
        have v8 : (2 * (m : Int) + 1).toNat = 2 * m + 1 := by omega
        go_upto_region 7 with fail
        go_region_held3 (fun w' => Below W.heap.size W w')
          (first
            | assumption | exact hbel.drew | exact hbel.alloc hs2 _ | exact (hbel.alloc hs2 _).drew | exact ((hbel.alloc hs2 _).drew).grown hgrow (by simp; omega) (fun k hk => by have := (hown.lt k hk).1; omega))
          ((refine step_append_lies _ (by rfl) _ _ _ (by rfl) W.heap.size 22 i0 _ 1 8 Tryz.underlying225 hi hz0 hz1 hz2 rfl (by omega) _ _ _ (by rfl) ((hown.alloc _).drew)
                ⟨wr.heap.size, 0, none⟩ 1 1 [.int .u64 (256 * (s[2 * m].toNat : Int) + (s[2 * m + 1].toNat : Int))] (by rfl) (by rfl) (World.news_of_block (cs := #[.int .u64 (256 * (s[2 * m].toNat : Int) + (s[2 * m + 1].toNat : Int))]) (t := 22) (fr := (0, 0)) (heap_alloc_new wr _)) (by simp [Value.oneCell'])
                (by omega) (by unfold maxLen; omega) (by omega) (by simp; omega) (wr.heap.size + 1) (by simp) ?_; intro gg cap w2 hown1 hgrow hat hlt))
        go_wp2
        all_goals
          go_roundg m
          case measure => have := HG.out; omega
          case rel =>
            refine ⟨m, by omega, rfl, rfl, ?_, ?_⟩
            · rw [HS.out, G1.out, G2.out]
              have e16 : 8 - m = 8 - (m + 1) + 1 := by omega
              rw [e16]
              simpa [u64s] using hown1
            · exact hbel.trans (((Below.refl W.heap.size wr).alloc hs2 _).drew.grown hgrow (by simp; omega) (fun k hk => by have := (hown.lt k hk).1; omega))
  · go_enter Tryz.func160, Tryz.ntmps160
    go_wp2
    exact bodyPost_ret (v := .tuple #[.agg #[.int .u64 0, .int .u64 0], .int .i64 2]) (by simp [results, Tryz.results160, go_sem]) rfl ⟨by simp [fromH, fromL, fromE, h16], by repeat (first | exact Below.refl _ _ | apply Below.drew | apply below_drewN | refine Below.alloc ?_ (by simp; try omega) _ | refine Below.setCell ?_ (by simp; try omega) _)⟩
end Go.Proofs.YtmflhodiibjpnaaGreatDoor
