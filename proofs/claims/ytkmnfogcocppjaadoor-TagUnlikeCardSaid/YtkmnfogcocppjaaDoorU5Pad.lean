/-
  sha.Padding, walked: what is put behind a text of whatever length.
-/
import Derived.Test.YtkmnfogcocppjaaDoorU5Sha
import Derived.Laws.MakeOwn
import Derived.Laws.OwnMore
import Derived.Deep.RegionHeld3
namespace Go.Proofs.YtkmnfogcocppjaaDoor
set_option linter.unusedVariables false
set_option linter.unusedSimpArgs false
set_option maxRecDepth 10000
open Go.RowKit

/-- Bytes as cells, in a row. -/
def u8s (l : List Int) : List Value := l.map (Value.int .u8)
theorem u8s_len (l : List Int) : (u8s l).length = l.length := by simp [u8s]
theorem u8s_app (l m : List Int) : u8s (l ++ m) = u8s l ++ u8s m := by simp [u8s]
theorem u8s_b8s (l : List Int) : (b8s l).toList = u8s l := by simp [b8s, u8s]
theorem b8s_size (l : List Int) : (b8s l).size = l.length := by simp [b8s]
theorem u8s_one (l : List Int) : ∀ u ∈ u8s l, u.oneCell' = true := by
  intro u hu
  simp only [u8s, List.mem_map] at hu
  obtain ⟨x, -, rfl⟩ := hu
  rfl
theorem info_u8 : (Tryd.prog.info? 5).map (fun i => (i.zero, i.size, i.bytes)) = some (some (.int .u8 0), 1, 1) := by kernel_rfl
/-- A row of bytes as a text. -/
theorem conv_row {w : World} {base n : Nat} {v : Value} {xs : List Int} (h : w.ownsRow base 5 1 v n (u8s xs)) (hn : 0 < n) : (convert 66 9 v).run Tryd.prog w = .ok (.string (strOfNums xs)) w := by
  obtain ⟨g, cap, rfl, hg, hlt, hc, hm, hr, hf⟩ := own_row h hn
  have hl : xs.length = n := by have := h.1; rw [u8s_len] at this; omega
  exact run_convert_bytes_arg (P := Tryd.prog) w 66 5 Tryd.underlying66 Tryd.underlying5 g 0 n cap xs hl (fun i hi => by
    rw [Nat.zero_add]
    refine hr i _ ?_
    simp [u8s, List.getD_eq_getElem?_getD, hl, hi]) 9 Tryd.underlying9
/-- The first cells of a block that is known whole are a row. -/
theorem own_of_box {w : World} {base g n cap : Nat} {xs ys : List Int} (h : Box w g 5 (b8s (xs ++ ys))) (hb : base ≤ g) (hn : xs.length = n) (hc : xs.length + ys.length = cap) (hm : cap ≤ maxLen) :
    w.ownsRow base 5 1 (.slice (some ⟨g, 0, none⟩) n cap) n (u8s xs) := by
  refine ⟨by rw [u8s_len]; omega, .inr ⟨g, cap, b8s (xs ++ ys), rfl, hb, h, by omega, hm, by rw [b8s_size, List.length_append]; omega, ?_⟩⟩
  rw [u8s_b8s, u8s_app]
  simp [u8s_len, hn]

set_option maxRecDepth 100000 in
set_option maxHeartbeats 2000000 in
theorem padding_any (n : Nat) (hn : n < 18446744073709551616) (w : World) : Calls Tryd.prog 72 #[.int .u64 n] w (Tells (.string (padB n)) w.heap.size w) := by
  obtain ⟨z, hz⟩ : ∃ z, padN n = z := ⟨_, rfl⟩
  have hz64 : z < 64 := by rw [← hz]; exact pad_bd n
  have hzm : (IntKind.u64.wrap (-IntKind.u64.wrap (IntKind.u64.wrap ((n : Int) + 1) + 8))).tmod 64 = (z : Int) := by
    simp only [IntKind.wrap_u64]
    rw [Int.tmod_eq_emod_of_nonneg (by omega), ← hz]
    unfold padN
    omega
  obtain ⟨a, ha⟩ : ∃ a, z + 1 = a := ⟨_, rfl⟩
  obtain ⟨c, hc⟩ : ∃ c, z + 9 = c := ⟨_, rfl⟩
  have hw1 : IntKind.u64.wrap (1 + (z : Int)) = (a : Int) := by rw [IntKind.wrap_u64]; omega
  have hw2 : IntKind.u64.wrap ((a : Int) + 8) = (c : Int) := by rw [IntKind.wrap_u64]; omega
  obtain ⟨i0, hi, hzi0, hzi1, hzi2⟩ := info_parts info_u8
  have hmk : ∀ u : World, (Instr.makeSlice 66 (.int .u64 (a : Int)) (.int .u64 (c : Int))).run Tryd.prog u = .ok (.slice (some ⟨u.heap.size, 0, none⟩) a c) (u.alloc (.cells (b8s (List.replicate c 0)) 5)) := fun u => by
    have h := run_make (P := Tryd.prog) u 66 5 i0 (.int .u8 0) Tryd.underlying66 hi hzi0 .u64 .u64 (a : Int) (c : Int) (by omega) (by omega) (by rw [hzi2]; omega) (by omega)
    have e : madeCells (Value.int .u8 0).cells ((c : Int).toNat * i0.size) = b8s (List.replicate c 0) := by
      rw [hzi1]
      apply Array.ext'
      rw [u8s_b8s, show (Value.int .u8 0).cells = #[Value.int .u8 0] from rfl, toList_madeCells_one]
      simp [u8s]
    rw [e] at h
    simpa using h
  have hlo : (IntKind.u64.wrap ((n : Int) * 8)) % 4294967296 = iv (loB n) := by
    rw [IntKind.wrap_u64]; unfold loB iv; rw [BitVec.toNat_ofNat]; omega
  have hhi : (IntKind.u64.wrap ((n : Int) * 8)) / 4294967296 = iv (hiB n) := by
    rw [IntKind.wrap_u64]; unfold hiB iv; rw [BitVec.toNat_ofNat]; omega
  have hhi2 := iv_mod (hiB n)
  have hlo2 := iv_mod (loB n)
  have hpad : padI n = 128 :: List.replicate z 0 ++ wbI (hiB n) ++ wbI (loB n) := by unfold padI; rw [hz]; simp
  have HP := hideIt hpad
  have hpB : padB n = strOfNums (padI n) := rfl
  have HPB := hideIt hpB
  clear hpad hpB
  have c1 := fun u => sword_any (hiB n) u
  have c2 := fun u => sword_any (loB n) u
  generalize hiB n = xh at *
  generalize loB n = xl at *
  generalize padB n = pB at *
  generalize padI n = pI at *
  obtain ⟨bits, hbits⟩ : ∃ bits, IntKind.u64.wrap ((n : Int) * 8) = bits := ⟨_, rfl⟩
  rw [hbits] at hlo hhi
  go_enter Tryd.func72, Tryd.ntmps72
  have B0 := Box.made w 5 (b8s (List.replicate c 0))
  have L0 : Below w.heap.size w (w.alloc (.cells (b8s (List.replicate c 0)) 5)) := (Below.refl _ w).alloc (Nat.le_refl _) _
  go_upto_region 3 with fail
  generalize w.alloc (.cells (b8s (List.replicate c 0)) 5) = W at *
  have h0 : W.cell? ⟨w.heap.size, 0, none⟩ = some (.int .u8 0) := by rw [B0.read 0, b8s_at _ 0 (by simp; omega)]; simp [List.getD_eq_getElem?_getD, show 0 < c by omega]
  have f0 := B0.free 0
  have B1 := B0.wrote 0 (.int .u8 128)
  rw [b8s_set] at B1
  have L1 := L0.setCell (p := ⟨w.heap.size, 0, none⟩) (Nat.le_refl _) (.int .u8 128)
  have hin := B0.inside
  have ha0 : (0 : Int) < (a : Int) := by omega
  have e1 : (List.replicate c 0).set 0 (128 : Int) = (128 :: List.replicate z 0) ++ List.replicate 8 0 := by
    rw [← hc, show z + 9 = (z + 8) + 1 by omega, List.replicate_succ, List.set_cons_zero, List.cons_append, List.replicate_append_replicate]
  rw [e1] at B1
  clear e1 B0 L0 hmk
  go_upto_region 5 with fail
  generalize W.setCell ⟨w.heap.size, 0, none⟩ (.int .u8 128) = W1 at *
  have hown := own_of_box (base := w.heap.size) (n := a) (cap := c) B1 (Nat.le_refl _) (by simp; omega) (by simp; omega) (by unfold maxLen; omega)
  have hgs : w.heap.size ≤ W1.heap.size := L1.size
  clear h0 f0 hin B1
  have ec : (b8s (wbI xh)).size = 4 := rfl
  have el : (b8s (wbI xl)).size = 4 := rfl
  clear hzm hw1 hw2
  go_upto_region 6 with (first
    | (go_at_call 73; refine (c1 _).mono ?_; rintro e w' ⟨rfl, rfl⟩)
    | (at_builtin; refine wp_append_new rfl _ _ 66 rfl w.heap.size 5 i0 (.int .u8 0) 1 Tryd.underlying66 hi hzi0 hzi1 hzi2 rfl _ _ _ rfl hown (b8s (wbI xh)) rfl (by rw [u8s_b8s]; exact u8s_one _) (by rw [ec]; omega) (by omega) hgs ?_))
  intro v1 w1 hown1 hb1 hk1
  have L2 := L1.trans (hb1 _ (Nat.le_refl _))
  have hgs1 : w.heap.size ≤ w1.heap.size := L2.size
  rw [u8s_b8s, ← u8s_app] at hown1
  clear hk1 hb1 hown L1 hgs
  go_upto_region 6 with fail
  have fin_ : ∀ (v2 : Value) (w2 : World), w2.ownsRow w.heap.size 5 1 v2 (a + 4 + 4) (u8s (128 :: List.replicate z 0 ++ wbI xh) ++ (b8s (wbI xl)).toList) → (convert 66 9 v2).run Tryd.prog w2 = .ok (.string pB) w2 := fun v2 w2 h => by
    rw [u8s_b8s, ← u8s_app] at h
    have h2 := conv_row h (by omega)
    rw [HPB.out, HP.out]
    exact h2
  go_wp2_with (first
    | (go_at_call 73; refine (c2 _).mono ?_; rintro e w' ⟨rfl, rfl⟩)
    | (at_builtin; refine wp_append_new rfl _ _ 66 rfl w.heap.size 5 i0 (.int .u8 0) 1 Tryd.underlying66 hi hzi0 hzi1 hzi2 rfl _ _ _ rfl hown1 (b8s (wbI xl)) rfl (by rw [u8s_b8s]; exact u8s_one _) (by rw [el]; omega) (by omega) hgs1 ?_))
  intro v2 w2 hown2 hb2 hk2
  have L3 := L2.trans (hb2 _ (Nat.le_refl _))
  have hcv := fin_ v2 w2 hown2
  clear hk2 hb2 hown2 fin_
  go_wp2
  go_ret
  exact ⟨rfl, L3⟩
end Go.Proofs.YtkmnfogcocppjaaDoor
