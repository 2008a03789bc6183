/-
  paymasterref07's Ids, walked: within, MayId.
-/
import Derived.Test.YtngofpdpangajaaDoorR7Rune
import Derived.Test.YtngofpdpangajaaDoorU7Id
namespace Go.Proofs.YtngofpdpangajaaDoor
set_option linter.unusedVariables false
set_option linter.unusedSimpArgs false
set_option maxRecDepth 10000
open Go.RowKit Go.Lib

set_option maxHeartbeats 2000000 in
theorem within_any (c : Nat) (w : World) : Calls Tryd.prog 73 #[.int .i64 c] w (Plain (.bool (idRune c)) w) := by
  rw [idRune_def]
  obtain ⟨A, hA⟩ : ∃ A, decide ((97 ≤ c ∧ c ≤ 122) ∨ (65 ≤ c ∧ c ≤ 90) ∨ (48 ≤ c ∧ c ≤ 57) ∨ c = 46 ∨ c = 95 ∨ c = 45 ∨ 161 ≤ c) = A := ⟨_, rfl⟩
  rw [hA]
  have HA := hideIt hA
  clear hA
  go_enter Tryd.func73, Tryd.ntmps73
  go_wp2
  all_goals go_ret
  all_goals refine ⟨(congrArg (fun b => Ending.returned (Value.bool b)) ?_ : Ending.returned (Value.bool _) = Ending.returned (Value.bool A)), rfl⟩
  all_goals rw [← HA.out, Bool.eq_iff_iff]
  all_goals (simp only [Bool.or_eq_true, decide_eq_true_eq, beq_iff_eq, true_iff]; omega)

set_option maxHeartbeats 2000000 in
theorem rmayId_any (s : ByteArray) (hs : s.size ≤ 1000000) (w : World) : Calls Tryd.prog 56 #[.string s] w (Plain (.bool (isId s.data.toList)) w) := by
  obtain ⟨A, hA⟩ : ∃ A, isId s.data.toList = A := ⟨_, rfl⟩
  have HA := hideIt hA
  rw [hA]
  clear hA
  go_enter Tryd.func56, Tryd.ntmps56
  go_wp2
  go_loopg [3, 4] (s.size + 1) (fun gk n p wr => ∃ (a k : Nat), gk + a = s.size + 1 ∧ p = .int .i64 a ∧ n = .int .i64 k ∧ k ≤ a ∧ idK k (s.data.toList.drop a) = A ∧ wr = w)
  case atStart => exact ⟨0, 0, by omega, rfl, rfl, by omega, HA.out, rfl⟩
  case round =>
    obtain ⟨a, k, hg, rfl, rfl, hk, hid, rfl⟩ := hrel
    by_cases hp : a < s.size
    · have hpi : (a : Int) < (s.size : Int) := by omega
      have hne := drop_ne hp
      have hw := decodeL_width (s.data.toList.drop a)
      have hle := decodeL_le _ hne
      have hrl := decodeL_rune (s.data.toList.drop a)
      have cR := fun u => rune_any s a hp hs u
      rw [List.length_drop, ba_size] at hle
      rw [idK_step _ _ hne, List.drop_drop] at hid
      unfold runeR at cR
      by_cases hb : badR (s.data.toList.drop a)
      · rw [if_pos hb] at hid
        simp only [if_pos hb] at cR
        subst hid
        go_wp2_with (first | (go_at_call 72; refine (cR _).mono ?_; rintro e w' ⟨rfl, rfl⟩))
        go_ret
        exact ⟨rfl, rfl⟩
      · rw [if_neg hb] at hid
        simp only [if_neg hb] at cR
        generalize decodeL (s.data.toList.drop a) = d at *
        obtain ⟨r, z⟩ := d
        simp only at hw hle hrl hid cR
        have cL := fun u => within_any r u
        have hz : ((z : Int) == 0) = false := by simp; omega
        by_cases hr : idRune r = true
        · rw [if_pos hr] at hid
          rw [hr] at cL
          clear hne
          go_wp2_with (first
            | (go_at_call 72; refine (cR _).mono ?_; rintro e w' ⟨rfl, rfl⟩)
            | (go_at_call 73; refine (cL _).mono ?_; rintro e w' ⟨rfl, rfl⟩))
          go_roundg (s.size + 1 - (a + z))
          case measure => omega
          case rel => exact ⟨a + z, k + 1, by omega, by go_num, by go_num, by omega, hid, rfl⟩
        · rw [if_neg hr] at hid
          rw [Bool.not_eq_true] at hr
          rw [hr] at cL
          subst hid
          go_wp2_with (first
            | (go_at_call 72; refine (cR _).mono ?_; rintro e w' ⟨rfl, rfl⟩)
            | (go_at_call 73; refine (cL _).mono ?_; rintro e w' ⟨rfl, rfl⟩))
          go_ret
          exact ⟨rfl, rfl⟩
    · have hpi : ¬ (a : Int) < (s.size : Int) := by omega
      rw [List.drop_of_length_le (by rw [ba_size]; omega), idK_nil] at hid
      by_cases hk1 : 1 ≤ k
      · have hk1i : (1 : Int) ≤ k := by omega
        have e : decide ((k : Int) ≤ 24) = A := by rw [← hid]; exact decide_eq_decide.2 (by omega)
        clear hid HA
        go_wp2
        go_ret
        exact ⟨rfl, rfl⟩
      · have hk1i : ¬ (1 : Int) ≤ k := by omega
        rw [decide_eq_false (by omega)] at hid
        subst hid
        go_wp2
        go_ret
        exact ⟨rfl, rfl⟩
end Go.Proofs.YtngofpdpangajaaDoor
