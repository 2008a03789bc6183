/-
  block.Words, walked: the 64 words of a text of 64 bytes; nothing of any other one.
-/
import Derived.Test.YtkmnfogcocppjaaDoorU4Turn
import Derived.Deep.RegionHeld3
import Derived.Deep.RegionWith
import Derived.RegionTactic
import Derived.Deep.CutRange
import Derived.Deep.DeepCutAuto
import Derived.IntWalk
namespace Go.Proofs.YtkmnfogcocppjaaDoor
set_option linter.unusedVariables false
set_option linter.unusedSimpArgs false
set_option maxRecDepth 10000
open Go.RowKit

theorem make_words (w : World) : (Instr.makeSlice 84 (.int .i64 64) (.int .i64 64)).run Tryd.prog w =
    .ok (.slice (some ⟨w.heap.size, 0, none⟩) 64 64) (w.alloc (.cells (arr z64) 86)) := by kernel_rfl

/-- What stands in the words' block when the first t words are laid. -/
def LaidW (w : World) (t : Nat) (m : List B32) (wr : World) : Prop := ∃ l : List B32, l.length = 64 ∧ l.take t = m ∧ Box wr w.heap.size 86 (arr l) ∧ Below w.heap.size w wr
theorem LaidW.call {w wr w' : World} {t : Nat} {m : List B32} (h : LaidW w t m wr) (hb : Below wr.heap.size wr w') : LaidW w t m w' := by
  obtain ⟨l, h1, h2, h3, h4⟩ := h
  exact ⟨l, h1, h2, h3.call hb, chain h4 hb⟩
theorem LaidW.put {w wr : World} {t : Nat} {m : List B32} (h : LaidW w t m wr) (v : B32) (ht : t < 64) : LaidW w (t + 1) (m ++ [v]) (wr.setCell ⟨w.heap.size, t, none⟩ (.int .u32 (iv v))) := by
  obtain ⟨l, h1, h2, h3, h4⟩ := h
  refine ⟨l.set t v, by simpa using h1, by rw [take_set _ _ _ (by omega), h2], ?_, h4.setCell (by simp) _⟩
  rw [← arr_set]; exact h3.wrote t _
theorem LaidW.read {w wr : World} {t : Nat} {m : List B32} (h : LaidW w t m wr) (i : Nat) (hi : i < t) (ht : t ≤ 64) : wr.cell? ⟨w.heap.size, i, none⟩ = some (.int .u32 (iv (m.getD i 0))) := by
  obtain ⟨l, h1, h2, h3, h4⟩ := h
  rw [h3.read i, arr_at l i (by omega), take_getD l m t i h2 hi]
theorem LaidW.any {w wr : World} {t : Nat} {m : List B32} (h : LaidW w t m wr) (i : Nat) (hi : i < 64) : ∃ u, wr.cell? ⟨w.heap.size, i, none⟩ = some u := by
  obtain ⟨l, h1, h2, h3, h4⟩ := h
  exact ⟨_, by rw [h3.read i, arr_at l i (by omega)]⟩
theorem LaidW.free {w wr : World} {t : Nat} {m : List B32} (h : LaidW w t m wr) (i : Nat) : wr.frozen? ⟨w.heap.size, i, none⟩ = false := by
  obtain ⟨l, h1, h2, h3, h4⟩ := h
  exact h3.free i
theorem LaidW.inside {w wr : World} {t : Nat} {m : List B32} (h : LaidW w t m wr) : w.heap.size < wr.heap.size := by
  obtain ⟨l, h1, h2, h3, h4⟩ := h
  exact h3.inside
theorem LaidW.drew {w wr : World} {t : Nat} {m : List B32} (h : LaidW w t m wr) : LaidW w t m wr.drew := by
  obtain ⟨l, h1, h2, h3, h4⟩ := h
  exact ⟨l, h1, h2, h3.draw, h4.drew⟩
theorem LaidW.drewN {w wr : World} {t : Nat} {m : List B32} (h : LaidW w t m wr) (n : Nat) : LaidW w t m (wr.drewN n) := by
  obtain ⟨l, h1, h2, h3, h4⟩ := h
  exact ⟨l, h1, h2, h3.draws n, below_drewN h4 n⟩

theorem be_part (s : ByteArray) (hs : s.size = 64) (t : Nat) (ht : t < 16) : beI (s.extract (t * 4) ((t + 1) * 4)).data.toList =
    iv (be4 (s.data.toList.getD (4 * t) 0) (s.data.toList.getD (4 * t + 1) 0) (s.data.toList.getD (4 * t + 2) 0) (s.data.toList.getD (4 * t + 3) 0)) := by
  have hl : s.data.toList.length = 64 := by simpa using hs
  rw [← be4_eq]
  congr 1
  rw [ByteArray.data_extract, Array.toList_extract]
  generalize s.data.toList = l at *
  apply List.ext_getElem?
  intro i
  rw [List.extract_eq_take_drop, show (t + 1) * 4 - t * 4 = 4 by omega]
  have g : ∀ j, j < 4 → l[4 * t + j]? = some (l.getD (4 * t + j) 0) := fun j hj => by
    rw [List.getD_eq_getElem?_getD, List.getElem?_eq_getElem (by omega)]; rfl
  by_cases hi : i < 4
  · rw [List.getElem?_take_of_lt hi, List.getElem?_drop, Nat.mul_comm t 4, g i hi]
    match i, hi with
    | 0, _ => rfl
    | 1, _ => rfl
    | 2, _ => rfl
    | 3, _ => rfl
  · rw [List.getElem?_eq_none (by simp; omega), List.getElem?_eq_none (by simp; omega)]

set_option maxHeartbeats 4000000 in
theorem words_ok (s : ByteArray) (hs : s.size = 64) (w : World) : Calls Tryd.prog 79 #[.string s] w fun e w' =>
    e = .returned (.tuple #[.slice (some ⟨w.heap.size, 0, none⟩) 64 64, .int .i64 0]) ∧ Box w' w.heap.size 86 (arr (words64 s.data.toList)) ∧ Below w.heap.size w w' := by
  have hmk := make_words
  have h0 : LaidW w 0 [] (w.alloc (.cells (arr z64) 86)) := ⟨_, z64_len, rfl, Box.made w _ _, (Below.refl _ w).alloc (Nat.le_refl _) _⟩
  go_enter Tryd.func79, Tryd.ntmps79
  go_wp2
  generalize w.alloc (.cells (arr z64) 86) = W at *
  go_loopg [5, 11] 16 (fun gk _ i wr => ∃ k : Nat, k ≤ 16 ∧ gk = 16 - k ∧ i = .int .i64 k ∧ LaidW w k ((own16 s.data.toList).take k) wr)
  case atStart => exact ⟨0, by omega, rfl, rfl, h0⟩
  case round =>
    clear h0
    obtain ⟨k, hk, hgk, rfl, hl⟩ := hrel
    have HG := hideIt hgk
    clear hgk
    by_cases hlt : k < 16
    · have hw := fun u => word_any (s.extract (k * 4) ((k + 1) * 4)) (by simp [ByteArray.size_extract]; omega) u
      rw [be_part s hs k hlt] at hw
      have HS := hideIt (own16_step s.data.toList k hlt)
      generalize be4 (s.data.toList.getD (4 * k) 0) (s.data.toList.getD (4 * k + 1) 0) (s.data.toList.getD (4 * k + 2) 0) (s.data.toList.getD (4 * k + 3) 0) = x at *
      obtain ⟨u, hu⟩ := hl.any k (by omega)
      have hf := hl.free k
      go_wp2_with (first | (go_at_call 82; refine (hw _).mono ?_; rintro e w' ⟨rfl, rfl⟩))
      all_goals
        go_roundg (16 - (k + 1))
        case measure => have := HG.out; omega
        case rel => exact ⟨k + 1, by omega, rfl, by go_num, by rw [HS.out]; exact hl.put x (by omega)⟩
    · have e : k = 16 := by omega
      subst e
      rw [List.take_of_length_le (Nat.le_of_eq (own16_len _))] at hl
      have hl0 : LaidW w 16 (grow 0 (own16 s.data.toList)) wr := hl
      clear hl
      go_wp2
      have ho : (own16 s.data.toList).length = 16 := own16_len _
      have hfin : words64 s.data.toList = grow 48 (own16 s.data.toList) := rfl
      have HF := hideIt hfin
      clear hfin
      generalize own16 s.data.toList = o at *
      go_loopg [6] 48 (fun gk i wr => ∃ k : Nat, 16 ≤ k ∧ k ≤ 64 ∧ gk = 64 - k ∧ i = .int .i64 k ∧ LaidW w k (grow (k - 16) o) wr)
      case atStart => exact ⟨16, by omega, by omega, by omega, rfl, hl0⟩
      case round =>
        clear hl0 HG
        obtain ⟨k, hk0, hk, hgk, rfl, hl⟩ := hrel
        have HG := hideIt hgk
        clear hgk
        by_cases hlt : k < 64
        · have hlen : (grow (k - 16) o).length = k := by rw [grow_len]; omega
          have hst : grow (k + 1 - 16) o = grow (k - 16) o ++ [nextW (grow (k - 16) o)] := by rw [show k + 1 - 16 = (k - 16) + 1 by omega, grow_snoc]
          have HS := hideIt hst
          clear hst
          generalize grow (k - 16) o = m at *
          have hn : nextW m = m.getD (k - 16) 0 + sig0 (m.getD (k - 15) 0) + m.getD (k - 7) 0 + sig1 (m.getD (k - 2) 0) := by unfold nextW; rw [hlen]
          have HN := hideIt hn
          clear hn
          have r1 := hl.read (k - 16) (by omega) (by omega)
          have r2 := hl.read (k - 15) (by omega) (by omega)
          have r3 := hl.read (k - 7) (by omega) (by omega)
          have r4 := hl.read (k - 2) (by omega) (by omega)
          generalize m.getD (k - 16) 0 = x1 at *
          generalize m.getD (k - 15) 0 = x2 at *
          generalize m.getD (k - 7) 0 = x3 at *
          generalize m.getD (k - 2) 0 = x4 at *
          have c2 := fun u => sched0_any x2 u
          have c4 := fun u => sched1_any x4 u
          have e1 := iv_addm
          obtain ⟨u, hu⟩ := hl.any k (by omega)
          have hf := hl.free k
          obtain ⟨K, hK⟩ : ∃ K : Int, (k : Int) = K := ⟨_, rfl⟩
          have K0 : 0 ≤ K := by omega
          have K1 : K < 64 := by omega
          have K2 : K.toNat = k := by omega
          rw [hK]
          obtain ⟨i1, f1⟩ : ∃ i, K - 16 = i := ⟨_, rfl⟩
          obtain ⟨j1, g1⟩ : ∃ j, k - 16 = j := ⟨_, rfl⟩
          have w1 : IntKind.i64.wrap (K - 16) = i1 := by rw [f1]; exact IntWalk.i64_in _ (by omega)
          have s1 : 0 ≤ i1 := by omega
          have t1 : i1 < 64 := by omega
          have n1 : i1.toNat = j1 := by omega
          have q1 : j1 ≠ k := by omega
          rw [g1] at r1
          obtain ⟨i2, f2⟩ : ∃ i, K - 15 = i := ⟨_, rfl⟩
          obtain ⟨j2, g2⟩ : ∃ j, k - 15 = j := ⟨_, rfl⟩
          have w2 : IntKind.i64.wrap (K - 15) = i2 := by rw [f2]; exact IntWalk.i64_in _ (by omega)
          have s2 : 0 ≤ i2 := by omega
          have t2 : i2 < 64 := by omega
          have n2 : i2.toNat = j2 := by omega
          have q2 : j2 ≠ k := by omega
          rw [g2] at r2
          obtain ⟨i3, f3⟩ : ∃ i, K - 7 = i := ⟨_, rfl⟩
          obtain ⟨j3, g3⟩ : ∃ j, k - 7 = j := ⟨_, rfl⟩
          have w3 : IntKind.i64.wrap (K - 7) = i3 := by rw [f3]; exact IntWalk.i64_in _ (by omega)
          have s3 : 0 ≤ i3 := by omega
          have t3 : i3 < 64 := by omega
          have n3 : i3.toNat = j3 := by omega
          have q3 : j3 ≠ k := by omega
          rw [g3] at r3
          obtain ⟨i4, f4⟩ : ∃ i, K - 2 = i := ⟨_, rfl⟩
          obtain ⟨j4, g4⟩ : ∃ j, k - 2 = j := ⟨_, rfl⟩
          have w4 : IntKind.i64.wrap (K - 2) = i4 := by rw [f4]; exact IntWalk.i64_in _ (by omega)
          have s4 : 0 ≤ i4 := by omega
          have t4 : i4 < 64 := by omega
          have n4 : i4.toNat = j4 := by omega
          have q4 : j4 ≠ k := by omega
          rw [g4] at r4
          have hin := hl.inside
          have HK := hideIt hk0
          have HKK := hideIt hK
          clear hk0 hmk HF ho hK g1 g2 g3 g4 hlen f1 f2 f3 f4
          go_wp2
          have hfar : ∀ (u : World) (v : Value) (i : Nat), i ≠ k → (u.setCell ⟨w.heap.size, k, none⟩ v).cell? ⟨w.heap.size, i, none⟩ = u.cell? ⟨w.heap.size, i, none⟩ :=
            fun u v i hi => World.cell?_setCell_other _ _ _ _ (by intro h; injection h with h1 h2 h3; omega)
          have sf : ∀ v : Value, ((wr.drew.setCell ⟨w.heap.size, k, none⟩ v).cell? ⟨w.heap.size, j1, none⟩ = some (.int .u32 (iv x1)) ∧ (wr.drew.setCell ⟨w.heap.size, k, none⟩ v).cell? ⟨w.heap.size, j2, none⟩ = some (.int .u32 (iv x2)) ∧
              (wr.drew.setCell ⟨w.heap.size, k, none⟩ v).cell? ⟨w.heap.size, j3, none⟩ = some (.int .u32 (iv x3)) ∧ (wr.drew.setCell ⟨w.heap.size, k, none⟩ v).cell? ⟨w.heap.size, j4, none⟩ = some (.int .u32 (iv x4))) :=
            fun v => ⟨(hfar _ _ _ q1).trans r1, (hfar _ _ _ q2).trans r2, (hfar _ _ _ q3).trans r3, (hfar _ _ _ q4).trans r4⟩
          go_region_held3 (fun w' => w'.cell? ⟨w.heap.size, j1, none⟩ = some (.int .u32 (iv x1)) ∧ w'.cell? ⟨w.heap.size, j2, none⟩ = some (.int .u32 (iv x2)) ∧
              w'.cell? ⟨w.heap.size, j3, none⟩ = some (.int .u32 (iv x3)) ∧ w'.cell? ⟨w.heap.size, j4, none⟩ = some (.int .u32 (iv x4)))
            (first | exact ⟨r1, r2, r3, r4⟩ | exact sf _)
            (first
            | (go_at_call 83; refine (c2 _).mono ?_; rintro e w' ⟨rfl, rfl⟩)
            | (go_at_call 84; refine (c4 _).mono ?_; rintro e w' ⟨rfl, rfl⟩))
          simp only [iv_add]
          have hl2 := hl.put (x1 + sig0 x2 + x3 + sig1 x4) hlt
          rw [← HN.out, ← HS.out] at hl2
          have hl3 := hl2.drew
          rw [HN.out] at hl3
          rw [← HKK.out]
          clear hfar sf e1 c2 c4 q1 q2 q3 q4 hin
          clear K0 K1 K2 hl hl2 w1 w2 w3 w4 s1 s2 s3 s4 t1 t2 t3 t4 n1 n2 n3 n4 r1 r2 r3 r4 hu hf
          go_wp2
          all_goals
            go_roundg (64 - (k + 1))
            case measure => have := HG.out; omega
            case rel => exact ⟨k + 1, by have := HK.out; omega, by omega, rfl, by go_num, hl3⟩
        · have e : k = 64 := by omega
          subst e
          clear hk0 HG
          go_wp2
          obtain ⟨l, l1, l2, l3, l4⟩ := hl
          rw [List.take_of_length_le (Nat.le_of_eq l1)] at l2
          have hh : Box wr w.heap.size 86 (arr (words64 s.data.toList)) := by rw [HF.out, show 48 = 64 - 16 from rfl, ← l2]; exact l3
          clear l2
          exact bodyPost_ret (v := .tuple #[.slice (some ⟨w.heap.size, 0, none⟩) 64 64, .int .i64 0]) (by simp [results, Tryd.results79, go_sem]) rfl ⟨rfl, hh, l4⟩

theorem words_no (s : ByteArray) (hs : s.size ≠ 64) (hm : s.size ≤ 9223372036854775807) (w : World) : Calls Tryd.prog 79 #[.string s] w fun e w' =>
    e = .returned (.tuple #[.slice none 0 0, .int .i64 2]) ∧ w = w' := by
  have h : ¬ ((s.size : Int) = 64) := by omega
  go_enter Tryd.func79, Tryd.ntmps79
  go_wp2
  exact bodyPost_ret (v := .tuple #[.slice none 0 0, .int .i64 2]) (by simp [results, Tryd.results79, go_sem]) rfl ⟨rfl, rfl⟩
end Go.Proofs.YtkmnfogcocppjaaDoor
