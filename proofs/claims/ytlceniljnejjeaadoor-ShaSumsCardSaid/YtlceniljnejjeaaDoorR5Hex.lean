/-
  The document's Hex, walked.
-/
import Derived.Test.YtlceniljnejjeaaDoorU5Hex
namespace Go.Proofs.YtlceniljnejjeaaDoor
set_option linter.unusedVariables false
set_option linter.unusedSimpArgs false
open Go.RowKit

set_option maxHeartbeats 1000000 in
theorem rdig0 (w : World) : Calls Tryd.prog 53 #[.int .u8 0] w (Plain (.int .u8 48) w) := by
  go_enter Tryd.func53, Tryd.ntmps53
  go_wp2
  go_ret
  exact ⟨rfl, rfl⟩
set_option maxHeartbeats 1000000 in
theorem rdig1 (w : World) : Calls Tryd.prog 53 #[.int .u8 1] w (Plain (.int .u8 49) w) := by
  go_enter Tryd.func53, Tryd.ntmps53
  go_wp2
  go_ret
  exact ⟨rfl, rfl⟩
set_option maxHeartbeats 1000000 in
theorem rdig2 (w : World) : Calls Tryd.prog 53 #[.int .u8 2] w (Plain (.int .u8 50) w) := by
  go_enter Tryd.func53, Tryd.ntmps53
  go_wp2
  go_ret
  exact ⟨rfl, rfl⟩
set_option maxHeartbeats 1000000 in
theorem rdig3 (w : World) : Calls Tryd.prog 53 #[.int .u8 3] w (Plain (.int .u8 51) w) := by
  go_enter Tryd.func53, Tryd.ntmps53
  go_wp2
  go_ret
  exact ⟨rfl, rfl⟩
set_option maxHeartbeats 1000000 in
theorem rdig4 (w : World) : Calls Tryd.prog 53 #[.int .u8 4] w (Plain (.int .u8 52) w) := by
  go_enter Tryd.func53, Tryd.ntmps53
  go_wp2
  go_ret
  exact ⟨rfl, rfl⟩
set_option maxHeartbeats 1000000 in
theorem rdig5 (w : World) : Calls Tryd.prog 53 #[.int .u8 5] w (Plain (.int .u8 53) w) := by
  go_enter Tryd.func53, Tryd.ntmps53
  go_wp2
  go_ret
  exact ⟨rfl, rfl⟩
set_option maxHeartbeats 1000000 in
theorem rdig6 (w : World) : Calls Tryd.prog 53 #[.int .u8 6] w (Plain (.int .u8 54) w) := by
  go_enter Tryd.func53, Tryd.ntmps53
  go_wp2
  go_ret
  exact ⟨rfl, rfl⟩
set_option maxHeartbeats 1000000 in
theorem rdig7 (w : World) : Calls Tryd.prog 53 #[.int .u8 7] w (Plain (.int .u8 55) w) := by
  go_enter Tryd.func53, Tryd.ntmps53
  go_wp2
  go_ret
  exact ⟨rfl, rfl⟩
set_option maxHeartbeats 1000000 in
theorem rdig8 (w : World) : Calls Tryd.prog 53 #[.int .u8 8] w (Plain (.int .u8 56) w) := by
  go_enter Tryd.func53, Tryd.ntmps53
  go_wp2
  go_ret
  exact ⟨rfl, rfl⟩
set_option maxHeartbeats 1000000 in
theorem rdig9 (w : World) : Calls Tryd.prog 53 #[.int .u8 9] w (Plain (.int .u8 57) w) := by
  go_enter Tryd.func53, Tryd.ntmps53
  go_wp2
  go_ret
  exact ⟨rfl, rfl⟩
set_option maxHeartbeats 1000000 in
theorem rdig10 (w : World) : Calls Tryd.prog 53 #[.int .u8 10] w (Plain (.int .u8 97) w) := by
  go_enter Tryd.func53, Tryd.ntmps53
  go_wp2
  go_ret
  exact ⟨rfl, rfl⟩
set_option maxHeartbeats 1000000 in
theorem rdig11 (w : World) : Calls Tryd.prog 53 #[.int .u8 11] w (Plain (.int .u8 98) w) := by
  go_enter Tryd.func53, Tryd.ntmps53
  go_wp2
  go_ret
  exact ⟨rfl, rfl⟩
set_option maxHeartbeats 1000000 in
theorem rdig12 (w : World) : Calls Tryd.prog 53 #[.int .u8 12] w (Plain (.int .u8 99) w) := by
  go_enter Tryd.func53, Tryd.ntmps53
  go_wp2
  go_ret
  exact ⟨rfl, rfl⟩
set_option maxHeartbeats 1000000 in
theorem rdig13 (w : World) : Calls Tryd.prog 53 #[.int .u8 13] w (Plain (.int .u8 100) w) := by
  go_enter Tryd.func53, Tryd.ntmps53
  go_wp2
  go_ret
  exact ⟨rfl, rfl⟩
set_option maxHeartbeats 1000000 in
theorem rdig14 (w : World) : Calls Tryd.prog 53 #[.int .u8 14] w (Plain (.int .u8 101) w) := by
  go_enter Tryd.func53, Tryd.ntmps53
  go_wp2
  go_ret
  exact ⟨rfl, rfl⟩
set_option maxHeartbeats 1000000 in
theorem rdig15 (w : World) : Calls Tryd.prog 53 #[.int .u8 15] w (Plain (.int .u8 102) w) := by
  go_enter Tryd.func53, Tryd.ntmps53
  go_wp2
  go_ret
  exact ⟨rfl, rfl⟩
theorem rdigit_any (d : Nat) (hd : d < 16) (w : World) : Calls Tryd.prog 53 #[.int .u8 d] w (Plain (.int .u8 (hexd d)) w) := by
  match d, hd with
  | 0, _ => exact rdig0 w
  | 1, _ => exact rdig1 w
  | 2, _ => exact rdig2 w
  | 3, _ => exact rdig3 w
  | 4, _ => exact rdig4 w
  | 5, _ => exact rdig5 w
  | 6, _ => exact rdig6 w
  | 7, _ => exact rdig7 w
  | 8, _ => exact rdig8 w
  | 9, _ => exact rdig9 w
  | 10, _ => exact rdig10 w
  | 11, _ => exact rdig11 w
  | 12, _ => exact rdig12 w
  | 13, _ => exact rdig13 w
  | 14, _ => exact rdig14 w
  | 15, _ => exact rdig15 w
  | n + 16, h => exact absurd h (by omega)

set_option maxRecDepth 100000 in
set_option maxHeartbeats 4000000 in
theorem rhex_any (s : ByteArray) (hs : s.size ≤ 1000000) (w : World) : Calls Tryd.prog 32 #[.string s] w (Tells (.string (hexB s)) w.heap.size w) := by
  obtain ⟨i0, hi, hzi0, hzi1, hzi2⟩ := info_parts info_u8
  have hl : s.data.toList.length = s.size := by simp
  have HL := hideIt hl
  have HS := hideIt hs
  clear hl
  go_enter Tryd.func32, Tryd.ntmps32
  go_wp2
  go_loopg [3, 4] s.size (fun gk v i wr => ∃ k : Nat, k ≤ s.size ∧ gk = s.size - k ∧ i = .int .i64 k ∧ wr.ownsRow w.heap.size 5 1 v (2 * k) (u8s (hexI (s.data.toList.take k))) ∧ Below w.heap.size w wr)
  case atStart => exact ⟨0, by omega, rfl, rfl, World.ownsRow_nil _ _ _ _, Below.refl _ _⟩
  case round =>
    obtain ⟨k, hk, hgk, rfl, hown, L⟩ := hrel
    have HG := hideIt hgk
    clear hgk
    have hgs := L.size
    by_cases hlt : k < s.size
    · have hst := hexI_step s.data.toList k (by rw [HL.out]; exact hlt)
      have hg : s.data.toList[k]'(by rw [HL.out]; exact hlt) = s[k] := rfl
      rw [hg] at hst
      have hb := (s[k]).toNat_lt
      obtain ⟨d1, hd1⟩ : ∃ d1, (s[k]).toNat / 16 = d1 := ⟨_, rfl⟩
      obtain ⟨d2, hd2⟩ : ∃ d2, (s[k]).toNat % 16 = d2 := ⟨_, rfl⟩
      have hq : ((s[k]).toNat : Int) / 16 = (d1 : Int) := by omega
      have hr : ((s[k]).toNat : Int) % 16 = (d2 : Int) := by omega
      rw [hq, hr] at hst
      have hq2 : ((s[k]).toNat : Int).tdiv 16 = (d1 : Int) := by rw [Int.tdiv_eq_ediv_of_nonneg (by omega)]; exact hq
      have hr2 : ((s[k]).toNat : Int).tmod 16 = (d2 : Int) := by rw [Int.tmod_eq_emod_of_nonneg (by omega)]; exact hr
      have hw1 : IntKind.u8.wrap (d1 : Int) = (d1 : Int) := by rw [IntKind.wrap_u8]; omega
      have hw2 : IntKind.u8.wrap (d2 : Int) = (d2 : Int) := by rw [IntKind.wrap_u8]; omega
      have x1 := fun u => rdigit_any d1 (by omega) u
      have x2 := fun u => rdigit_any d2 (by omega) u
      generalize hexd (d1 : Int) = y1 at *
      generalize hexd (d2 : Int) = y2 at *
      have HST := hideIt hst
      have b1 : (k : Int) < (s.size : Int) := by omega
      have hks : k ≤ 1000000 := Nat.le_trans hk HS.out
      clear hst hg hd1 hd2 hb
      go_wp2
      go_region_held3 (fun _ => True) (first | exact trivial | fail)
        (first
          | (go_at_call_of 53 (Value.int .u8 (d1 : Int)); refine (x1 _).mono ?_; rintro e w' ⟨rfl, rfl⟩)
          | (go_at_call_of 53 (Value.int .u8 (d2 : Int)); refine (x2 _).mono ?_; rintro e w' ⟨rfl, rfl⟩)
          | (refine step_append_lies _ (by rfl) _ _ _ (by rfl) w.heap.size 5 i0 _ 1 1 Tryd.underlying77 hi hzi0 hzi1 hzi2 rfl (by omega) _ _ _ (by rfl) ((hown.alloc _).drew)
              ⟨wr.heap.size, 0, none⟩ 2 2 [.int .u8 y1, .int .u8 y2] (by rfl) (by rfl) (World.news_of_block (cs := #[.int .u8 y1, .int .u8 y2]) (t := 5) (fr := (0, 0)) (heap_alloc_new wr _)) (by simp [Value.oneCell'])
              (by omega) (by unfold maxLen; omega) (by omega) (by simp; omega) (wr.heap.size + 1) (by simp) ?_; intro gg cap w2 hown1 hgrow hat hlt2)
          | fail)
      all_goals
        go_wp2
        go_roundg (s.size - (k + 1))
        case measure => have := HG.out; omega
        case rel =>
          refine ⟨k + 1, by omega, rfl, by go_num, ?_, L.trans (((Below.refl w.heap.size wr).alloc hgs _).drew.grown hgrow (by simp; omega) (fun k hk => by have := (hown.lt k hk).1; omega))⟩
          rw [HST.out, u8s_app, show 2 * (k + 1) = 2 * k + 2 by omega]
          exact hown1
    · have e : k = s.size := by omega
      subst e
      rw [List.take_of_length_le (Nat.le_of_eq HL.out)] at hown
      have hcv : (convert 77 9 u3).run Tryd.prog wr = .ok (.string (hexB s)) wr := by
        by_cases h0 : s.size = 0
        · have e1 : hexI s.data.toList = [] := List.length_eq_zero_iff.1 (by rw [hexI_len, HL.out]; omega)
          rw [e1, h0] at hown
          unfold hexB
          rw [e1]
          exact conv_row0 hown
        · exact conv_row hown (by omega)
      clear HG hown
      go_wp2
      go_ret
      exact ⟨rfl, L⟩
end Go.Proofs.YtlceniljnejjeaaDoor
