/-
  Package block's turn, s0, s1, walked: words turned and moved.
-/
import Derived.Test.YtngofpdpangajaaDoorD4Words
import Derived.Test.YtngofpdpangajaaDoorW1Has
import Derived.Test.YtngofpdpangajaaDoorRows
import Derived.WalkKit
import Derived.WalkSpells
import Derived.StillTactics
import Derived.Laws.Pointers
import Derived.Laws.Bits64b
import Derived.RowKit3
import Derived.Outline
import Derived.BigQuiet
import Derived.Deep.QuietTactic
import Derived.LoopTactic
import Derived.Deep.RegionWith
import Derived.Deep.LoopGhost
namespace Go.Proofs.YtngofpdpangajaaDoor
set_option linter.unusedVariables false
set_option linter.unusedSimpArgs false
set_option maxRecDepth 10000
open Go.RowKit

theorem neg_and31 : ∀ n : Nat, n < 32 → 1 ≤ n → bits .and .u64 (IntKind.u64.wrap (-(n : Int))) 31 = 32 - n := by decide +kernel

set_option maxHeartbeats 2000000 in
theorem rotl_any (x : B32) (n : Nat) (h1 : 1 ≤ n) (h2 : n < 32) (w : World) : Calls Tryd.prog 137 #[.int .u32 (iv x), .int .i64 (-(n : Int))] w (Plain (.int .u32 (iv (rot x n))) w) := by
  have e1 := neg_and31 n h2 h1
  go_enter Tryd.func137, Tryd.ntmps137
  go_wp2
  have e : bits .or .u32 (iv x * 2 ^ (32 - n) % 4294967296) (iv x / 2 ^ (32 - (32 - n))) = iv (rot x n) := by
    rw [iv_shlm, iv_shr, iv_or, show 32 - (32 - n) = n by omega, BitVec.or_comm]
    rfl
  rw [e]
  go_ret
  exact ⟨rfl, rfl⟩

set_option maxHeartbeats 2000000 in
theorem turn_any (x : B32) (n : Nat) (h1 : 1 ≤ n) (h2 : n < 32) (w : World) : Calls Tryd.prog 136 #[.int .u32 (iv x), .int .i64 n] w (Plain (.int .u32 (iv (rot x n))) w) := by
  have c := fun u => rotl_any x n h1 h2 u
  go_enter Tryd.func136, Tryd.ntmps136
  go_wp2_with (first | (go_at_call 137; refine (c _).mono ?_; rintro e w' ⟨rfl, rfl⟩))
  go_ret
  exact ⟨rfl, rfl⟩

theorem turn_lit (x : B32) (n : Nat) (k : Int) (hk : k = n) (h1 : 1 ≤ n) (h2 : n < 32) (w : World) : Calls Tryd.prog 136 #[.int .u32 (iv x), .int .i64 k] w (Plain (.int .u32 (iv (rot x n))) w) := by
  subst hk
  exact turn_any x n h1 h2 w

set_option maxHeartbeats 2000000 in
theorem sched0_any (x : B32) (w : World) : Calls Tryd.prog 130 #[.int .u32 (iv x)] w (Plain (.int .u32 (iv (sig0 x))) w) := by
  have c1 := fun u => turn_lit x 7 7 rfl (by decide) (by decide) u
  have c2 := fun u => turn_lit x 18 18 rfl (by decide) (by decide) u
  have e1 := iv_xor
  go_enter Tryd.func130, Tryd.ntmps130
  go_wp2_with (first
    | (go_at_call_of 136 (Value.int .i64 7); refine (c1 _).mono ?_; rintro e w' ⟨rfl, rfl⟩)
    | (go_at_call_of 136 (Value.int .i64 18); refine (c2 _).mono ?_; rintro e w' ⟨rfl, rfl⟩))
  rw [shr3, iv_xor]
  go_ret
  exact ⟨rfl, rfl⟩
set_option maxHeartbeats 2000000 in
theorem sched1_any (x : B32) (w : World) : Calls Tryd.prog 131 #[.int .u32 (iv x)] w (Plain (.int .u32 (iv (sig1 x))) w) := by
  have c1 := fun u => turn_lit x 17 17 rfl (by decide) (by decide) u
  have c2 := fun u => turn_lit x 19 19 rfl (by decide) (by decide) u
  have e1 := iv_xor
  go_enter Tryd.func131, Tryd.ntmps131
  go_wp2_with (first
    | (go_at_call_of 136 (Value.int .i64 17); refine (c1 _).mono ?_; rintro e w' ⟨rfl, rfl⟩)
    | (go_at_call_of 136 (Value.int .i64 19); refine (c2 _).mono ?_; rintro e w' ⟨rfl, rfl⟩))
  rw [shr10, iv_xor]
  go_ret
  exact ⟨rfl, rfl⟩

theorem or_byte4 (a c : Int) (ha : 0 ≤ a) (ha' : a < 16777216) (hc : 0 ≤ c) (hc' : c < 256) : bits .or .u32 (a * 256) c = a * 256 + c := by
  obtain ⟨a, rfl⟩ := Int.eq_ofNat_of_zero_le ha
  obtain ⟨c, rfl⟩ := Int.eq_ofNat_of_zero_le hc
  have h := u32_or_nat (a * 256) c (by omega) (by omega)
  have e : a * 256 ||| c = a * 256 + c := by
    rw [Nat.mul_comm, show (256 : Nat) = 2 ^ 8 from rfl, ← Nat.two_pow_add_eq_or_of_lt (by omega)]
  rw [e] at h
  exact h

set_option maxHeartbeats 2000000 in
theorem word_any (s : ByteArray) (hs : s.size = 4) (w : World) : Calls Tryd.prog 129 #[.string s] w (Plain (.int .u32 (beI s.data.toList)) w) := by
  have HS := hideIt hs
  have hle : s.size ≤ 4 := by omega
  clear hs
  go_enter Tryd.func129, Tryd.ntmps129
  go_wp2
  go_loop [3, 7] (fun n i => ∃ k : Nat, k ≤ s.size ∧ i = .int .i64 k ∧ n = .int .u32 (beI (s.data.toList.take k))) (fun _ i => s.size - (intOf i).toNat)
  case atStart => exact ⟨0, Nat.zero_le _, rfl, rfl⟩
  case round =>
    obtain ⟨k, hk, rfl, rfl⟩ := hrel
    by_cases hlt : k < s.size
    · have hl : (s.data.toList.take k).length ≤ 3 := by rw [List.length_take]; omega
      have hb := beI_bd (s.data.toList.take k)
      have hts : s.data.toList.take (k + 1) = s.data.toList.take k ++ [s[k]] := by
        rw [List.take_succ_eq_append_getElem (by simpa using hlt)]; rfl
      have hn := beI_snoc (s.data.toList.take k) s[k]
      rw [← hts] at hn
      have HN := hideIt hn
      clear hts hn
      have ha0 := beI_lt3 _ hl
      have ha1 := hb.1
      clear hb hl
      generalize beI (s.data.toList.take k) = a at *
      have ho := or_byte4 a (s[k].toNat : Int) (by omega) (by omega) (by omega) (by have := s[k].toNat_lt; omega)
      have hw : (s[k].toNat : Int) % 4294967296 = (s[k].toNat : Int) := by have := s[k].toNat_lt; omega
      have ha : a * 256 % 4294967296 = a * 256 := by omega
      go_wp2
      all_goals
        go_round
        case rel => exact ⟨k + 1, by omega, by go_num, by rw [HN.out]⟩
        case measure => simp [intOf]; omega
    · have hts : s.data.toList.take k = s.data.toList := List.take_of_length_le (by simpa using hlt)
      have HT := hideIt hts
      clear hts
      go_wp2
      go_ret
      exact ⟨by rw [HT.out]; rfl, rfl⟩
end Go.Proofs.YtngofpdpangajaaDoor
