/-
  u128.From, walked: the number whose sixteen bytes they are; any text.
-/
import Derived.Test.YtmflhodiibjpnaaGreatDoorU1Bytes
import Derived.Laws.Bits64b
import Derived.RegionTactic
import Derived.Deep.RegionWith
namespace Go.Proofs.YtmflhodiibjpnaaGreatDoor
set_option linter.unusedVariables false
set_option linter.unusedSimpArgs false
set_option maxRecDepth 10000
open Go.RowKit

/-- The number of bytes, the greatest first. -/
def beN (l : List UInt8) : Nat := l.foldl (fun a c => a * 256 + c.toNat) 0
theorem beN_snoc (l : List UInt8) (c : UInt8) : beN (l ++ [c]) = beN l * 256 + c.toNat := by simp [beN]
theorem be_fold : ∀ (l : List UInt8) (a : Nat), l.foldl (fun a c => a * 256 + c.toNat) a + 1 ≤ (a + 1) * 256 ^ l.length
  | [], a => by simp
  | c :: r, a => by
    have h := be_fold r (a * 256 + c.toNat)
    have hc := c.toNat_lt
    have h2 : (a * 256 + c.toNat + 1) * 256 ^ r.length ≤ (a + 1) * 256 * 256 ^ r.length := Nat.mul_le_mul_right _ (by omega)
    rw [List.foldl_cons, List.length_cons, Nat.pow_succ, Nat.mul_comm (256 ^ r.length), ← Nat.mul_assoc]
    exact Nat.le_trans h h2
theorem beN_lt (l : List UInt8) : beN l < 256 ^ l.length := by
  have := be_fold l 0
  unfold beN
  omega
theorem or_byte (a c : Int) (ha : 0 ≤ a) (ha' : a < 72057594037927936) (hc : 0 ≤ c) (hc' : c < 256) : bits .or .u64 (a * 256) c = a * 256 + c := by
  obtain ⟨a, rfl⟩ := Int.eq_ofNat_of_zero_le ha
  obtain ⟨c, rfl⟩ := Int.eq_ofNat_of_zero_le hc
  have h := bits_or_u64_nat (a * 256) c (by omega) (by omega)
  have e : a * 256 ||| c = a * 256 + c := by
    rw [Nat.mul_comm, show (256 : Nat) = 2 ^ 8 from rfl, ← Nat.two_pow_add_eq_or_of_lt (by omega)]
  rw [e] at h
  exact h

set_option maxHeartbeats 2000000 in
theorem half_any (s : ByteArray) (hs : s.size ≤ 8) (w : World) :
    Calls Tryz.prog 177 #[.string s] w fun e w' => e = .returned (.int .u64 (beN s.data.toList : Nat)) ∧ w = w' := by
  go_enter Tryz.func177, Tryz.ntmps177
  go_wp2
  go_loop [3, 7] (fun n i => ∃ k : Nat, k ≤ s.size ∧ i = .int .i64 k ∧ n = .int .u64 (beN (s.data.toList.take k) : Nat)) (fun _ i => s.size - (intOf i).toNat)
  case atStart => exact ⟨0, Nat.zero_le _, rfl, rfl⟩
  case round =>
    obtain ⟨k, hk, rfl, rfl⟩ := hrel
    by_cases hlt : k < s.size
    · have hl : (s.data.toList.take k).length ≤ 7 := by rw [List.length_take]; omega
      have hb := beN_lt (s.data.toList.take k)
      have hb2 : 256 ^ (s.data.toList.take k).length ≤ 256 ^ 7 := Nat.pow_le_pow_right (by omega) hl
      have hb3 : (256 : Nat) ^ 7 = 72057594037927936 := rfl
      have hts : s.data.toList.take (k + 1) = s.data.toList.take k ++ [s[k]] := by
        rw [List.take_succ_eq_append_getElem (by simpa using hlt)]; rfl
      have hn := beN_snoc (s.data.toList.take k) s[k]
      rw [← hts] at hn
      have HN := hideIt hn
      clear hts hn
      have ha0 : beN (s.data.toList.take k) < 72057594037927936 := by omega
      clear hb hb2 hb3 hl
      generalize beN (s.data.toList.take k) = a at *
      have ho := or_byte a (s[k].toNat : Int) (by omega) (by omega) (by omega) (by have := s[k].toNat_lt; omega)
      have hw : IntKind.u64.wrap (s[k].toNat : Int) = (s[k].toNat : Int) := by rw [IntKind.wrap_u64]; have := s[k].toNat_lt; omega
      have ha : (a : Int) * 256 < 18446744073709551616 := by omega
      go_wp2
      all_goals
        go_round
        case rel => exact ⟨k + 1, by omega, by go_num, by rw [HN.out]; go_num⟩
        case measure => simp [intOf]; omega
    · have hts : s.data.toList.take k = s.data.toList := List.take_of_length_le (by simpa using hlt)
      have HT := hideIt hts
      clear hts
      go_wp2
      go_ret
      exact ⟨by rw [HT.out]; rfl, rfl⟩

/-- What From tells of a text. -/
def fromH (s : ByteArray) : Int := if s.size = 16 then (beN (s.data.toList.take 8) : Nat) else 0
def fromL (s : ByteArray) : Int := if s.size = 16 then (beN (s.data.toList.drop 8) : Nat) else 0
def fromE (s : ByteArray) : Int := if s.size = 16 then 0 else 2
def FromTells (s : ByteArray) (B : Nat) (w : World) (e : Ending) (w' : World) : Prop :=
  e = .returned (.tuple #[.agg #[.int .u64 (fromH s), .int .u64 (fromL s)], .int .i64 (fromE s)]) ∧ Below B w w'

set_option maxHeartbeats 2000000 in
theorem from_any (s : ByteArray) (hmax : s.size ≤ 9223372036854775807) (w : World) : Calls Tryz.prog 170 #[.string s] w (FromTells s w.heap.size w) := by
  by_cases h16 : s.size = 16
  · have H16 := hideIt h16
    have A0 := Box.made w 24 #[.int .u64 0, .int .u64 0]
    have h16' : (s.size : Int) = 16 := by omega
    have c1 := fun u => half_any (s.extract 0 8) (by simp [ByteArray.size_extract]; omega) u
    have c2 := fun u => half_any (s.extract 8 s.size) (by simp [ByteArray.size_extract]; omega) u
    clear h16
    go_enter Tryz.func170, Tryz.ntmps170
    go_wp2
    go_region_with (first
      | (go_at_call_of 177 (Value.string (s.extract 0 8)); refine (c1 _).mono ?_; rintro e w' ⟨rfl, rfl⟩)
      | (go_at_call_of 177 (Value.string (s.extract 8 s.size)); refine (c2 _).mono ?_; rintro e w' ⟨rfl, rfl⟩))
    go_wp2
    have e2 : List.take (s.size - 8) (List.drop 8 s.data.toList) = List.drop 8 s.data.toList := List.take_of_length_le (by rw [List.length_drop]; exact Nat.le_refl _)
    exact bodyPost_ret (v := .tuple #[.agg #[.int .u64 (beN (List.take 8 s.data.toList) : Nat), .int .u64 (beN (List.take (s.size - 8) (List.drop 8 s.data.toList)) : Nat)], .int .i64 0]) (by simp [results, Tryz.results170, go_sem]) rfl
      ⟨by rw [e2, fromH, fromL, fromE, if_pos H16.out, if_pos H16.out, if_pos H16.out], by repeat (first | exact Below.refl _ _ | apply Below.drew | apply below_drewN | refine Below.alloc ?_ (by simp; try omega) _ | refine Below.setCell ?_ (by simp; try omega) _)⟩
  · go_enter Tryz.func170, Tryz.ntmps170
    go_wp2
    exact bodyPost_ret (v := .tuple #[.agg #[.int .u64 0, .int .u64 0], .int .i64 2]) (by simp [results, Tryz.results170, go_sem]) rfl ⟨by simp [fromH, fromL, fromE, h16], by repeat (first | exact Below.refl _ _ | apply Below.drew | apply below_drewN | refine Below.alloc ?_ (by simp; try omega) _ | refine Below.setCell ?_ (by simp; try omega) _)⟩
end Go.Proofs.YtmflhodiibjpnaaGreatDoor
