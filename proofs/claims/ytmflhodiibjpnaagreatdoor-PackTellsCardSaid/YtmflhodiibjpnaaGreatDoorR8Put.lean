/-
  The document's own answers on what is written (paymasterref08), walked: Wide, Num, Flag, Text.
-/
import Derived.Test.YtmflhodiibjpnaaGreatDoorW8Off
import Derived.Test.YtmflhodiibjpnaaGreatDoorR1Bytes
import Derived.LoopTactic
import Derived.Deep.LoopGhost
namespace Go.Proofs.YtmflhodiibjpnaaGreatDoor
set_option linter.unusedVariables false
set_option linter.unusedSimpArgs false
set_option maxRecDepth 10000
open Go.RowKit Go.Shelf

theorem ofL_cons (c : UInt8) (r : List UInt8) : (ofL (c :: r)).size = r.length + 1 ∧ (∀ h, ((ofL (c :: r))[0]'h) = c) ∧ (ofL (c :: r)).extract 1 (ofL (c :: r)).size = ofL r := by
  refine ⟨by rw [ofL_size, List.length_cons], fun h => rfl, oext ?_⟩
  rw [ByteArray.data_extract, Array.toList_extract, List.extract_eq_take_drop, ofL_list, ofL_list, ofL_size, List.length_cons]
  show (r.take (r.length + 1 - 1)) = r
  simp
set_option maxHeartbeats 2000000 in
theorem rwide_any (h l : Int) (hh : Word h) (hl : Word l) (w : World) : Calls Tryz.prog 105 #[.agg #[.int .u64 h, .int .u64 l]] w (Tells (.string (ofL (wideL h l))) w.heap.size w) := by
  have cY := fun u => rbytes_any h l hh hl u
  rw [show strOfNums (bytesOf h l) = ofL (textOf h l).data.toList from (ofL_data _).symm] at cY
  have hz : (textOf h l).data.toList.length = 16 := by rw [osize, textOf_size]
  have hn : trimN (textOf h l).data.toList = numL h l := rfl
  generalize (textOf h l).data.toList = Y at *
  obtain ⟨R, hR⟩ : ∃ R, ofL (wideL h l) = R := ⟨_, rfl⟩
  rw [hR]
  have HR := hideIt hR
  have B0 := Box.made w 24 #[.int .u64 h, .int .u64 l]
  have L0 : Below w.heap.size w (w.alloc (.cells #[.int .u64 h, .int .u64 l] 24)) := (Below.refl _ w).alloc (Nat.le_refl _) _
  clear hR
  go_enter Tryz.func105, Tryz.ntmps105
  go_upto_region 1 with fail
  change Code.wp _ _ _ _ (w.alloc (.cells #[.int .u64 h, .int .u64 l] 24))
  generalize w.alloc (.cells #[.int .u64 h, .int .u64 l] 24) = W at *
  obtain ⟨c0, c1, f0, f1, hin⟩ := B0.two
  go_wp2_with (first
    | (go_at_call 144; refine (cY _).mono ?_; rintro e w1 ⟨rfl, b1⟩))
  have L1 := chain L0 b1
  clear cY b1 L0 B0 c0 c1 f0 f1 hin
  have HZ := hideIt hz
  clear hz
  go_loopg [3] 16 (fun gk v wr => ∃ d : List UInt8, gk = d.length ∧ v = .string (ofL d) ∧ trimN d = numL h l ∧ d.length ≤ 16 ∧ wr = w1)
  case atStart => exact ⟨Y, HZ.out.symm, rfl, hn, by rw [HZ.out]; omega, rfl⟩
  case round =>
    obtain ⟨d, hgk, rfl, hd, hd16, rfl⟩ := hrel
    have HG := hideIt hgk
    clear hgk hn
    cases d with
    | nil =>
      have hz0 : (ofL ([] : List UInt8)).size = 0 := rfl
      have hcv := conv_one 0 wr 5 0 rfl
      have e1 : ofL [0] ++ ofL [] = R := by
        rw [← HR.out, ← ofL_app]
        unfold wideL
        rw [← hd]
        rfl
      have hadd : ∀ u : World, (Op.stringOp .add (ofL [0]) (ofL [])).run Tryz.prog u = .ok (.string R) u := fun u => by
        rw [← e1]; exact run_string_add_sum u _ _ (by rw [ofL_size, ofL_size]; show 1 + 0 ≤ _; omega)
      clear hd e1
      generalize ofL ([] : List UInt8) = E at *
      generalize ofL [0] = E1 at *
      go_wp2
      go_ret
      exact ⟨rfl, chainA L1 _⟩
    | cons c r =>
      obtain ⟨s1, s2, s3⟩ := ofL_cons c r
      by_cases hc : c = 0
      · subst hc
        rw [trimN_zero] at hd
        have s4 : ∀ hp, (((ofL (0 :: r))[0]'hp).toNat : Int) = 0 := fun hp => by rw [s2 hp]; rfl
        have hp : 0 < (ofL (0 :: r)).size := by rw [s1]; omega
        have hpi : (0 : Int) < ((ofL (0 :: r)).size : Int) := by omega
        have hp1 : (1 : Int) ≤ ((ofL (0 :: r)).size : Int) := by omega
        have s5 := s4 hp
        clear s2 s4
        generalize ofL (0 :: r) = S at *
        go_wp2
        go_roundg r.length
        case measure => have := HG.out; simp at this; omega
        case rel => exact ⟨r, rfl, by rw [← s3, s1], hd, by simp at hd16; omega, rfl⟩
      · rw [trimN_pos c r hc] at hd
        have hcz : ¬ ((c.toNat : Int) = 0) := by
          intro e
          exact hc (UInt8.toNat_inj.1 (by rw [show ((0 : UInt8).toNat) = 0 from rfl]; omega))
        have s4 : ∀ hp, (((ofL (c :: r))[0]'hp).toNat : Int) = (c.toNat : Int) := fun hp => by rw [s2 hp]
        have hp : 0 < (ofL (c :: r)).size := by rw [s1]; omega
        have hpi : (0 : Int) < ((ofL (c :: r)).size : Int) := by omega
        have s5 := s4 hp
        have hcz2 : ((c.toNat : Int) == 0) = false := by simpa using hcz
        have s6 : ((((ofL (c :: r))[0]'hp).toNat : Int) == 0) = false := by rw [s5]; exact hcz2
        have hw : IntKind.u8.wrap ((ofL (c :: r)).size : Int) = ((ofL (c :: r)).size : Int) := by rw [IntKind.wrap_u8]; simp at hd16; omega
        have hcv := conv_one (UInt8.ofNat (ofL (c :: r)).size) wr 5 ((ofL (c :: r)).size : Int) (by rw [ofNat_b _ (by simp at hd16; omega)])
        have e1 : ofL [UInt8.ofNat (ofL (c :: r)).size] ++ ofL (c :: r) = R := by
          rw [← HR.out, ← ofL_app]
          unfold wideL
          rw [← hd, ofL_size]
          rfl
        have hadd : ∀ u : World, (Op.stringOp .add (ofL [UInt8.ofNat (ofL (c :: r)).size]) (ofL (c :: r))).run Tryz.prog u = .ok (.string R) u := fun u => by
          rw [← e1]; exact run_string_add_sum u _ _ (by rw [ofL_size, ofL_size]; simp at hd16 ⊢; omega)
        clear s2 s4 s3 e1 hcz2 hc hd
        generalize ofL [UInt8.ofNat (ofL (c :: r)).size] = E1 at *
        generalize ofL (c :: r) = S at *
        obtain ⟨n, hn⟩ : ∃ n, r.length + 1 = n := ⟨_, rfl⟩
        rw [hn] at s1
        rw [s1] at hw hcv
        have hpn : (0 : Int) < (n : Int) := by omega
        clear hn
        generalize (c.toNat : Int) = x at *
        go_wp2
        go_ret
        exact ⟨rfl, chainA L1 _⟩
theorem rnum_any (l : Int) (hl : Word l) (w : World) : Calls Tryz.prog 62 #[.int .u64 l] w (Tells (.string (ofL (wideL 0 l))) w.heap.size w) := by
  have c := fun u => rwide_any 0 l word0 hl u
  generalize ofL (wideL 0 l) = R at *
  go_enter Tryz.func62, Tryz.ntmps62
  go_wp2_with (first | (go_at_call 105; refine (c _).mono ?_; rintro e w1 ⟨rfl, b1⟩))
  go_ret
  exact ⟨rfl, b1⟩
theorem rflag_any (b : Bool) (w : World) : Calls Tryz.prog 103 #[.bool b] w (Still (.string (ofL [b01 b])) w) := by
  cases b with
  | true =>
    go_enter Tryz.func103, Tryz.ntmps103
    go_wp2
    go_ret
    exact ⟨rfl, rfl⟩
  | false =>
    go_enter Tryz.func103, Tryz.ntmps103
    go_wp2
    go_ret
    exact ⟨rfl, rfl⟩
theorem rtext_any (s : ByteArray) (hs : s.size ≤ 1000000000) (w : World) : Calls Tryz.prog 104 #[.string s] w (Tells (.string (ofL (textL s))) w.heap.size w) := by
  have c := fun u => rnum_any (s.size : Int) ⟨by omega, by omega⟩ u
  have hz := wideL_len 0 (s.size : Int)
  have eA : ofL (wideL 0 (s.size : Int)) ++ s = ofL (textL s) := by unfold textL; rw [ofL_app, ofL_data]
  have hadd : ∀ u : World, (Op.stringOp .add (ofL (wideL 0 (s.size : Int))) s).run Tryz.prog u = .ok (.string (ofL (textL s))) u := fun u => by
    rw [← eA]; exact run_string_add_sum u _ _ (by rw [ofL_size]; omega)
  have hw : IntKind.u64.wrap (s.size : Int) = (s.size : Int) := by rw [IntKind.wrap_u64]; omega
  clear eA hz
  generalize ofL (wideL 0 (s.size : Int)) = A at *
  generalize ofL (textL s) = R at *
  go_enter Tryz.func104, Tryz.ntmps104
  go_wp2_with (first | (go_at_call 62; refine (c _).mono ?_; rintro e w1 ⟨rfl, b1⟩))
  go_ret
  exact ⟨rfl, b1⟩
end Go.Proofs.YtmflhodiibjpnaaGreatDoor
