/-
  The law PackOne: what is read has just those bytes; bytes of one sort are no other's; bytes less, or more, are none's. Conditions: none.
-/
import Derived.Test.YtmflhodiibjpnaaGreatDoorL13Ways
import Derived.Test.YtmflhodiibjpnaaGreatDoorW10Laid
import Derived.ChangeMaps
namespace Go.Proofs.YtmflhodiibjpnaaGreatDoor
set_option linter.unusedVariables false
set_option linter.unusedSimpArgs false
set_option maxRecDepth 10000
open Go.ChangeShapes Go.WideShapes Go.ChangeAt Go.RowKit

set_option maxRecDepth 100000 in
set_option maxHeartbeats 4000000 in
theorem l13one_long (s : ByteArray) (sm : Int) (more : Int) (hs : s.size ≤ 9223372036854775807) (h : 4000 < s.size) (w : World) (hT : TabU w) : Calls Tryz.prog 6 #[.string s, .int .i64 sm, .int .u8 more] w (Tells (.bool true) w.heap.size w) := by
  have cA := awake13_any w hT
  have hi : (4000 : Int) < (s.size : Int) := by omega
  go_enter Tryz.func6, Tryz.ntmps6
  go_wp2_with (first
    | (go_at_call 45; refine cA.mono ?_; rintro e w1 ⟨rfl, j1⟩)
    | fail)
  go_ret
  exact ⟨rfl, j1⟩
set_option maxRecDepth 100000 in
set_option maxHeartbeats 4000000 in
theorem l13one_none (s : ByteArray) (sm : Int) (more : Int) (h : s.size ≤ 4000) (hz : waysN s = 0) (w : World) (hT : TabU w) : Calls Tryz.prog 6 #[.string s, .int .i64 sm, .int .u8 more] w (Tells (.bool true) w.heap.size w) := by
  have cA := awake13_any w hT
  have cW := fun u hu => ways_any s (by omega) u hu
  rw [hz] at cW
  have hi : ¬ ((4000 : Int) < (s.size : Int)) := by omega
  have HT := hideIt hT
  clear hz hT
  go_enter Tryz.func6, Tryz.ntmps6
  go_wp2_with (first
    | (go_at_call 45; refine cA.mono ?_; rintro e w1 ⟨rfl, j1⟩)
    | (go_at_call 48; refine (cW _ (HT.out.call j1)).mono ?_; rintro e w2 ⟨rfl, j2⟩)
    | fail)
  go_ret
  exact ⟨rfl, chain j1 j2⟩
theorem ways_five {s : ByteArray} (h : waysN s ≠ 0) : waysN s = 1 ∨ waysN s = 2 ∨ waysN s = 4 ∨ waysN s = 8 ∨ waysN s = 16 := by
  rcases ways_split s with p | p | p | p | p | p
  · exact absurd p.1 h
  · exact .inl p.1
  · exact .inr (.inl p.1)
  · exact .inr (.inr (.inl p.1))
  · exact .inr (.inr (.inr (.inl p.1)))
  · exact .inr (.inr (.inr (.inr p.1)))
theorem ofL_app1 (s : ByteArray) (b : UInt8) : (s ++ ⟨#[b]⟩).data.toList = s.data.toList ++ [b] := by rw [ByteArray.data_append, Array.toList_append]
theorem ext_data (s : ByteArray) (n : Nat) : (s.extract 0 n).data.toList = s.data.toList.take n := by
  rw [ByteArray.data_extract, Array.toList_extract, List.extract_eq_take_drop]
  simp

set_option maxRecDepth 100000 in
set_option maxHeartbeats 8000000 in
theorem l13one_some (s : ByteArray) (sm : Int) (more : Int) (hw : 0 ≤ more ∧ more < 256) (h : s.size ≤ 4000) (hz : waysN s ≠ 0) (w : World) (hT : TabU w) : Calls Tryz.prog 6 #[.string s, .int .i64 sm, .int .u8 more] w (Tells (.bool true) w.heap.size w) := by
  have cA := awake13_any w hT
  have hpos := ways_some hz
  obtain ⟨n, hn⟩ : ∃ n, s.size = n := ⟨_, rfl⟩
  obtain ⟨U, hU, hU2⟩ : ∃ U : Nat, IntKind.u64.wrap sm = (U : Int) ∧ U < 18446744073709551616 := by
    refine ⟨(sm % 18446744073709551616).toNat, ?_, by omega⟩
    rw [IntKind.wrap_u64]; omega
  obtain ⟨cut, hcut⟩ : ∃ cut, U % n = cut := ⟨_, rfl⟩
  have hcl : cut < n := by
    have := Nat.mod_lt U (show n > 0 by omega)
    omega
  have k2 : IntKind.u64.wrap (n : Int) = (n : Int) := by rw [IntKind.wrap_u64]; omega
  have k3 : (U : Int).tmod (n : Int) = (cut : Int) := by rw [Int.tmod_eq_emod_of_nonneg (by omega)]; omega
  have k3b : (U : Int) % (n : Int) = (cut : Int) := by omega
  have k4 : IntKind.i64.wrap (cut : Int) = (cut : Int) := IntWalk.i64_in _ (by omega)
  have k5 : ¬ ((n : Int) = 0) := by omega
  have k6 : (cut : Int) ≤ (n : Int) := by omega
  have k7 : ((n : Int) == 0) = false := by rw [beq_eq_false_iff_ne]; omega
  have e1 : waysN (s.extract 0 cut) = 0 := by
    by_cases hc : waysN (s.extract 0 cut) = 0
    · exact hc
    · exfalso
      have := ways_ends (s := s.extract 0 cut) (s' := s) (r := s.data.toList.drop cut) (by rw [ext_data, List.take_append_drop]) (fun e => by
        have h2 := congrArg List.length e
        rw [List.length_drop, osize, List.length_nil] at h2
        omega) hc
      exact hz this
  obtain ⟨c, hc⟩ : ∃ c : UInt8, more = (c.toNat : Int) := ⟨UInt8.ofNat more.toNat, by rw [UInt8.toNat_ofNat']; omega⟩
  have d2 : (s ++ ofL [c]).data.toList = s.data.toList ++ [c] := by rw [ByteArray.data_append, Array.toList_append, ofL_list]
  have e2 : waysN (s ++ ofL [c]) = 0 := ways_ends (s := s) (s' := s ++ ofL [c]) (r := [c]) d2.symm (by simp) hz
  have z1 : (s.extract 0 cut).size ≤ 4000 := by rw [← osize, ext_data, List.length_take, osize]; omega
  have z2 : (s ++ ofL [c]).size ≤ 4001 := by rw [← osize, d2, List.length_append, osize]; show _ + 1 ≤ _; omega
  have cW := fun u hu => ways_any s (by omega) u hu
  have cX := fun u hu => ways_any (s.extract 0 cut) (by omega) u hu
  have cY := fun u hu => ways_any (s ++ ofL [c]) (by omega) u hu
  rw [e2, show ((0 : Nat) : Int) = 0 from rfl] at cY
  rw [e1, show ((0 : Nat) : Int) = 0 from rfl] at cX
  have hcv := fun u : World => conv_one c u 5 more hc
  have hadd : ∀ u : World, (Op.stringOp .add s (ofL [c])).run Tryz.prog u = .ok (.string (s ++ ofL [c])) u := fun u => run_string_add_sum u _ _ (by rw [ofL_size]; show _ + 1 ≤ _; omega)
  have hi : ¬ ((4000 : Int) < (n : Int)) := by omega
  obtain ⟨N, hN⟩ : ∃ N, waysN s = N := ⟨_, rfl⟩
  have hfive := ways_five hz
  rw [hN] at hfive cW
  have HT := hideIt hT
  generalize s ++ ofL [c] = S2 at *
  generalize hS1 : s.extract 0 cut = S1 at *
  generalize ofL [c] = T1 at *
  clear hT hz e1 e2 z1 z2 d2 hpos hcut hN hc h
  go_enter Tryz.func6, Tryz.ntmps6
  go_upto_region 5 with (first
    | (go_at_call 45; refine cA.mono ?_; rintro e w1 ⟨rfl, j1⟩)
    | fail)
  go_upto_region 6 with (first
    | (go_at_call 48; refine (cW _ (HT.out.call j1)).mono ?_; rintro e w2 ⟨rfl, j2⟩)
    | fail)
  have L2 := chain j1 j2
  clear j1 j2 cA cW
  rcases hfive with rfl | rfl | rfl | rfl | rfl
  all_goals go_upto_region 11 with fail
  all_goals go_wp2_with (first
    | (go_at_call_of 48 (Value.string S1); refine (cX _ (HT.out.call L2)).mono ?_; rintro e w3 ⟨rfl, j3⟩; have L3 := chain L2 j3)
    | (go_at_call_of 48 (Value.string S2); refine (cY _ (HT.out.call (chainA L3 _))).mono ?_; rintro e w4 ⟨rfl, j4⟩)
    | fail)
  all_goals go_ret
  all_goals exact ⟨rfl, chain (chainA L3 _) j4⟩
end Go.Proofs.YtmflhodiibjpnaaGreatDoor
