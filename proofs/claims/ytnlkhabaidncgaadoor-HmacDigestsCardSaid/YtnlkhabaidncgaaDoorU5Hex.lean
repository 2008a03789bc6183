/-
  sha.Hex, walked: each byte as two digits.
-/
import Derived.Test.YtnlkhabaidncgaaDoorU5Pad
import Derived.Test.YtnlkhabaidncgaaDoorD5Abc
import Derived.Deep.AppendLies
import Derived.Deep.CutRange
import Derived.Deep.DeepCutAuto
namespace Go.Proofs.YtnlkhabaidncgaaDoor
set_option linter.unusedVariables false
set_option linter.unusedSimpArgs false
open Go.RowKit

theorem dig0 (w : World) : (Instr.index 9 (.string ⟨#[48, 49, 50, 51, 52, 53, 54, 55, 56, 57, 97, 98, 99, 100, 101, 102]⟩) (.int .u8 0)).run Tryd.prog w = .ok (.int .u8 48) w := by kernel_rfl
theorem dig1 (w : World) : (Instr.index 9 (.string ⟨#[48, 49, 50, 51, 52, 53, 54, 55, 56, 57, 97, 98, 99, 100, 101, 102]⟩) (.int .u8 1)).run Tryd.prog w = .ok (.int .u8 49) w := by kernel_rfl
theorem dig2 (w : World) : (Instr.index 9 (.string ⟨#[48, 49, 50, 51, 52, 53, 54, 55, 56, 57, 97, 98, 99, 100, 101, 102]⟩) (.int .u8 2)).run Tryd.prog w = .ok (.int .u8 50) w := by kernel_rfl
theorem dig3 (w : World) : (Instr.index 9 (.string ⟨#[48, 49, 50, 51, 52, 53, 54, 55, 56, 57, 97, 98, 99, 100, 101, 102]⟩) (.int .u8 3)).run Tryd.prog w = .ok (.int .u8 51) w := by kernel_rfl
theorem dig4 (w : World) : (Instr.index 9 (.string ⟨#[48, 49, 50, 51, 52, 53, 54, 55, 56, 57, 97, 98, 99, 100, 101, 102]⟩) (.int .u8 4)).run Tryd.prog w = .ok (.int .u8 52) w := by kernel_rfl
theorem dig5 (w : World) : (Instr.index 9 (.string ⟨#[48, 49, 50, 51, 52, 53, 54, 55, 56, 57, 97, 98, 99, 100, 101, 102]⟩) (.int .u8 5)).run Tryd.prog w = .ok (.int .u8 53) w := by kernel_rfl
theorem dig6 (w : World) : (Instr.index 9 (.string ⟨#[48, 49, 50, 51, 52, 53, 54, 55, 56, 57, 97, 98, 99, 100, 101, 102]⟩) (.int .u8 6)).run Tryd.prog w = .ok (.int .u8 54) w := by kernel_rfl
theorem dig7 (w : World) : (Instr.index 9 (.string ⟨#[48, 49, 50, 51, 52, 53, 54, 55, 56, 57, 97, 98, 99, 100, 101, 102]⟩) (.int .u8 7)).run Tryd.prog w = .ok (.int .u8 55) w := by kernel_rfl
theorem dig8 (w : World) : (Instr.index 9 (.string ⟨#[48, 49, 50, 51, 52, 53, 54, 55, 56, 57, 97, 98, 99, 100, 101, 102]⟩) (.int .u8 8)).run Tryd.prog w = .ok (.int .u8 56) w := by kernel_rfl
theorem dig9 (w : World) : (Instr.index 9 (.string ⟨#[48, 49, 50, 51, 52, 53, 54, 55, 56, 57, 97, 98, 99, 100, 101, 102]⟩) (.int .u8 9)).run Tryd.prog w = .ok (.int .u8 57) w := by kernel_rfl
theorem dig10 (w : World) : (Instr.index 9 (.string ⟨#[48, 49, 50, 51, 52, 53, 54, 55, 56, 57, 97, 98, 99, 100, 101, 102]⟩) (.int .u8 10)).run Tryd.prog w = .ok (.int .u8 97) w := by kernel_rfl
theorem dig11 (w : World) : (Instr.index 9 (.string ⟨#[48, 49, 50, 51, 52, 53, 54, 55, 56, 57, 97, 98, 99, 100, 101, 102]⟩) (.int .u8 11)).run Tryd.prog w = .ok (.int .u8 98) w := by kernel_rfl
theorem dig12 (w : World) : (Instr.index 9 (.string ⟨#[48, 49, 50, 51, 52, 53, 54, 55, 56, 57, 97, 98, 99, 100, 101, 102]⟩) (.int .u8 12)).run Tryd.prog w = .ok (.int .u8 99) w := by kernel_rfl
theorem dig13 (w : World) : (Instr.index 9 (.string ⟨#[48, 49, 50, 51, 52, 53, 54, 55, 56, 57, 97, 98, 99, 100, 101, 102]⟩) (.int .u8 13)).run Tryd.prog w = .ok (.int .u8 100) w := by kernel_rfl
theorem dig14 (w : World) : (Instr.index 9 (.string ⟨#[48, 49, 50, 51, 52, 53, 54, 55, 56, 57, 97, 98, 99, 100, 101, 102]⟩) (.int .u8 14)).run Tryd.prog w = .ok (.int .u8 101) w := by kernel_rfl
theorem dig15 (w : World) : (Instr.index 9 (.string ⟨#[48, 49, 50, 51, 52, 53, 54, 55, 56, 57, 97, 98, 99, 100, 101, 102]⟩) (.int .u8 15)).run Tryd.prog w = .ok (.int .u8 102) w := by kernel_rfl
theorem digit_at (n : Nat) (hn : n < 16) (w : World) : (Instr.index 9 (.string ⟨#[48, 49, 50, 51, 52, 53, 54, 55, 56, 57, 97, 98, 99, 100, 101, 102]⟩) (.int .u8 n)).run Tryd.prog w = .ok (.int .u8 (hexd n)) w := by
  match n, hn with
  | 0, _ => exact dig0 w
  | 1, _ => exact dig1 w
  | 2, _ => exact dig2 w
  | 3, _ => exact dig3 w
  | 4, _ => exact dig4 w
  | 5, _ => exact dig5 w
  | 6, _ => exact dig6 w
  | 7, _ => exact dig7 w
  | 8, _ => exact dig8 w
  | 9, _ => exact dig9 w
  | 10, _ => exact dig10 w
  | 11, _ => exact dig11 w
  | 12, _ => exact dig12 w
  | 13, _ => exact dig13 w
  | 14, _ => exact dig14 w
  | 15, _ => exact dig15 w
  | n + 16, h => exact absurd h (by omega)
theorem conv_nil (w : World) : (convert 53 9 (.slice none 0 0)).run Tryd.prog w = .ok (.string (strOfNums [])) w := by kernel_rfl
theorem conv_row0 {w : World} {base : Nat} {v : Value} (h : w.ownsRow base 5 1 v (2 * 0) (u8s [])) : (convert 53 9 v).run Tryd.prog w = .ok (.string (strOfNums [])) w := by
  rcases h.2 with ⟨rfl, _⟩ | ⟨g, cap, cur, rfl, hb, hg, hc, hm, r⟩
  · exact conv_nil w
  · exact run_convert_bytes_arg (P := Tryd.prog) w 53 5 Tryd.underlying53 Tryd.underlying5 g 0 0 cap [] rfl (fun i hi => absurd hi (by omega)) 9 Tryd.underlying9
theorem and15 : ∀ n : Nat, n < 256 → bits .and .u8 (n : Int) 15 = ((n % 16 : Nat) : Int) := by decide +kernel
theorem hexI_step (l : List UInt8) (k : Nat) (hk : k < l.length) : hexI (l.take (k + 1)) = hexI (l.take k) ++ [hexd ((l[k].toNat : Int) / 16), hexd ((l[k].toNat : Int) % 16)] := by
  rw [List.take_succ_eq_append_getElem hk, hexI_app]
  rfl

set_option maxRecDepth 100000 in
set_option maxHeartbeats 4000000 in
theorem hex_any (s : ByteArray) (hs : s.size ≤ 1000000) (w : World) : Calls Tryd.prog 34 #[.string s] w (Tells (.string (hexB s)) w.heap.size w) := by
  obtain ⟨c, hc⟩ : ∃ c, 2 * s.size = c := ⟨_, rfl⟩
  obtain ⟨i0, hi, hzi0, hzi1, hzi2⟩ := info_parts info_u8
  have hmk : ∀ u : World, (Instr.makeSlice 53 (.int .i64 0) (.int .i64 (c : Int))).run Tryd.prog u = .ok (.slice (some ⟨u.heap.size, 0, none⟩) 0 c) (u.alloc (.cells (b8s (List.replicate c 0)) 5)) := fun u => by
    have h := run_make (P := Tryd.prog) u 53 5 i0 (.int .u8 0) Tryd.underlying53 hi hzi0 .i64 .i64 0 (c : Int) (by omega) (by omega) (by rw [hzi2]; omega) (by omega)
    have e : madeCells (Value.int .u8 0).cells ((c : Int).toNat * i0.size) = b8s (List.replicate c 0) := by
      rw [hzi1]
      apply Array.ext'
      rw [u8s_b8s, show (Value.int .u8 0).cells = #[Value.int .u8 0] from rfl, toList_madeCells_one]
      simp [u8s]
    rw [e] at h
    simpa using h
  have hw1 : IntKind.i64.wrap (2 * (s.size : Int)) = (c : Int) := by rw [IntWalk.i64_in _ (by omega)]; omega
  have hw2 : 2 * (s.size : Int) = (c : Int) := by omega
  have hl : s.data.toList.length = s.size := by simp
  have HL := hideIt hl
  have HC := hideIt hc
  have hown0 := World.ownsRow_made (base := w.heap.size) (e := 5) (size := 1) w (b8s (List.replicate c 0)) c (Nat.le_refl _) (by unfold maxLen; omega) (by rw [b8s_size]; simp)
  have L0 : Below w.heap.size w (w.alloc (.cells (b8s (List.replicate c 0)) 5)) := (Below.refl _ w).alloc (Nat.le_refl _) _
  have HS := hideIt hs
  clear hl hc
  go_enter Tryd.func34, Tryd.ntmps34
  go_upto_region 2 with fail
  generalize w.alloc (.cells (b8s (List.replicate c 0)) 5) = W at *
  clear hmk hw1 hw2
  go_wp2
  go_loopg [3, 11] s.size (fun gk v i wr => ∃ k : Nat, k ≤ s.size ∧ gk = s.size - k ∧ i = .int .i64 k ∧ wr.ownsRow w.heap.size 5 1 v (2 * k) (u8s (hexI (s.data.toList.take k))) ∧ Below w.heap.size w wr)
  case atStart => exact ⟨0, by omega, rfl, rfl, hown0, L0⟩
  case round =>
    clear hown0 L0
    obtain ⟨k, hk, hgk, rfl, hown, L⟩ := hrel
    have HG := hideIt hgk
    clear hgk
    have hgs := L.size
    by_cases hlt : k < s.size
    · have hst := hexI_step s.data.toList k (by rw [HL.out]; exact hlt)
      have hg : s.data.toList[k]'(by rw [HL.out]; exact hlt) = s[k] := rfl
      rw [hg] at hst
      have hb := (s[k]).toNat_lt
      obtain ⟨d1, hd1⟩ : ∃ d1, (s[k]).toNat / 16 = d1 := ⟨_, rfl⟩
      obtain ⟨d2, hd2⟩ : ∃ d2, (s[k]).toNat % 16 = d2 := ⟨_, rfl⟩
      have ha := and15 (s[k]).toNat hb
      rw [hd2] at ha
      have hq : ((s[k]).toNat : Int) / 16 = (d1 : Int) := by omega
      have hr : ((s[k]).toNat : Int) % 16 = (d2 : Int) := by omega
      rw [hq, hr] at hst
      have x1 := fun u => digit_at d1 (by omega) u
      have x2 := fun u => digit_at d2 (by omega) u
      generalize hexd (d1 : Int) = y1 at *
      generalize hexd (d2 : Int) = y2 at *
      have HST := hideIt hst
      have b1 : (k : Int) < (s.size : Int) := by omega
      have hks : k ≤ 1000000 := Nat.le_trans hk HS.out
      clear hst hg hd1 hd2 hb hr
      go_wp2
      go_region_held3 (fun _ => True) (first | exact trivial | fail)
        ((refine step_append_lies _ (by rfl) _ _ _ (by rfl) w.heap.size 5 i0 _ 1 1 Tryd.underlying53 hi hzi0 hzi1 hzi2 rfl (by omega) _ _ _ (by rfl) ((hown.alloc _).drew)
              ⟨wr.heap.size, 0, none⟩ 2 2 [.int .u8 y1, .int .u8 y2] (by rfl) (by rfl) (World.news_of_block (cs := #[.int .u8 y1, .int .u8 y2]) (t := 5) (fr := (0, 0)) (heap_alloc_new wr _)) (by simp [Value.oneCell'])
              (by omega) (by unfold maxLen; omega) (by omega) (by simp; omega) (wr.heap.size + 1) (by simp) ?_; intro gg cap w2 hown1 hgrow hat hlt2))
      all_goals
        go_wp2
        go_roundg (s.size - (k + 1))
        case measure => have := HG.out; omega
        case rel =>
          refine ⟨k + 1, by omega, rfl, by go_num, ?_, L.trans (((Below.refl w.heap.size wr).alloc hgs _).drew.grown hgrow (by simp; omega) (fun k hk => by have := (hown.lt k hk).1; omega))⟩
          rw [HST.out, u8s_app, show 2 * (k + 1) = 2 * k + 2 by omega]
          exact hown1
    · have e : k = s.size := by omega
      subst e
      rw [List.take_of_length_le (Nat.le_of_eq HL.out)] at hown
      have hcv : (convert 53 9 u3).run Tryd.prog wr = .ok (.string (hexB s)) wr := by
        by_cases h0 : s.size = 0
        · have e1 : hexI s.data.toList = [] := List.length_eq_zero_iff.1 (by rw [hexI_len, HL.out]; omega)
          rw [e1, h0] at hown
          unfold hexB
          rw [e1]
          exact conv_row0 hown
        · exact conv_row hown (by omega)
      clear HG hown
      go_wp2
      go_ret
      exact ⟨rfl, L⟩
end Go.Proofs.YtnlkhabaidncgaaDoor
