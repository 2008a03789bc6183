/-
  paymasterlaw04.awake, walked: the chapter's examples are answered as the chapter has them.
-/
import Derived.Test.YtlceniljnejjeaaDoorU4Next
import Derived.Test.YtlceniljnejjeaaDoorD4Abc
import Derived.Test.YtlceniljnejjeaaDoorE4Same
import Derived.Laws.BytesArg
import Derived.Laws.Pointers
namespace Go.Proofs.YtlceniljnejjeaaDoor
set_option linter.unusedVariables false
set_option linter.unusedSimpArgs false
open Go.RowKit

/-- Bytes as cells. -/
def b8s (l : List Int) : Array Value := (l.map (Value.int .u8)).toArray
theorem b8s_at (l : List Int) (i : Nat) (hi : i < l.length) : (b8s l)[i]? = some (.int .u8 (l.getD i 0)) := by
  simp [b8s, List.getD_eq_getElem?_getD, hi]
theorem b8s_set (l : List Int) (i : Nat) (v : Int) : (b8s l).setIfInBounds i (.int .u8 v) = b8s (l.set i v) := by simp [b8s, List.map_set]
def n64 : List Int := List.replicate 64 0
def abcN : List Int := ((((n64.set 0 97).set 1 98).set 2 99).set 3 128).set 63 24
theorem make_b64 (w : World) : (Instr.makeSlice 77 (.int .i64 64) (.int .i64 64)).run Tryd.prog w =
    .ok (.slice (some ⟨w.heap.size, 0, none⟩) 64 64) (w.alloc (.cells (b8s n64) 5)) := by kernel_rfl

set_option maxHeartbeats 2000000 in
theorem abc_any (w : World) : Calls Tryd.prog 49 #[] w (Tells (.string abcB) w.heap.size w) := by
  have hmk := make_b64
  have B0 := Box.made w 5 (b8s n64)
  have L0 : Below w.heap.size w (w.alloc (.cells (b8s n64) 5)) := (Below.refl _ w).alloc (Nat.le_refl _) _
  have hn : n64.length = 64 := by simp [n64]
  go_enter Tryd.func49, Tryd.ntmps49
  go_upto_region 2 with fail
  generalize w.alloc (.cells (b8s n64) 5) = W at *
  have e : ∀ i, i < 64 → ∃ u, W.cell? ⟨w.heap.size, i, none⟩ = some u := fun i hi => ⟨_, by rw [B0.read i, b8s_at _ i (by omega)]⟩
  obtain ⟨u0, h0⟩ := e 0 (by decide)
  obtain ⟨u1, h1⟩ := e 1 (by decide)
  obtain ⟨u2, h2⟩ := e 2 (by decide)
  obtain ⟨u3, h3⟩ := e 3 (by decide)
  obtain ⟨u63, h63⟩ := e 63 (by decide)
  have f0 := B0.free 0
  have f1 := B0.free 1
  have f2 := B0.free 2
  have f3 := B0.free 3
  have f63 := B0.free 63
  have B5 := ((((B0.wrote 0 (.int .u8 97)).wrote 1 (.int .u8 98)).wrote 2 (.int .u8 99)).wrote 3 (.int .u8 128)).wrote 63 (.int .u8 24)
  rw [b8s_set, b8s_set, b8s_set, b8s_set, b8s_set] at B5
  have L5 := ((((L0.setCell (p := ⟨w.heap.size, 0, none⟩) (Nat.le_refl _) (.int .u8 97)).setCell (p := ⟨w.heap.size, 1, none⟩) (Nat.le_refl _) (.int .u8 98)).setCell (p := ⟨w.heap.size, 2, none⟩) (Nat.le_refl _) (.int .u8 99)).setCell (p := ⟨w.heap.size, 3, none⟩) (Nat.le_refl _) (.int .u8 128)).setCell (p := ⟨w.heap.size, 63, none⟩) (Nat.le_refl _) (.int .u8 24)
  clear e hmk
  go_upto_region 3 with fail
  generalize hX : World.setCell (World.setCell _ _ _) _ _ = X
  rw [hX] at B5 L5
  clear hX h0 h1 h2 h3 h63 f0 f1 f2 f3 f63 B0 L0
  have hconv := run_convert_bytes_arg (P := Tryd.prog) X 77 5 Tryd.underlying77 Tryd.underlying5 w.heap.size 0 64 64 abcN (by simp [abcN, n64]) (fun i hi => by
    rw [Nat.zero_add, B5.read i]; exact b8s_at abcN i (by simp [abcN, n64]; omega)) 9 Tryd.underlying9
  have hs : strOfNums abcN = abcB := by decide +kernel
  rw [hs] at hconv
  go_wp2
  go_ret
  exact ⟨rfl, L5⟩

theorem stAbc_iv : (Value.agg #[.int .u32 (iv stAbc.a), .int .u32 (iv stAbc.b), .int .u32 (iv stAbc.c), .int .u32 (iv stAbc.d), .int .u32 (iv stAbc.e), .int .u32 (iv stAbc.f), .int .u32 (iv stAbc.g), .int .u32 (iv stAbc.h)]) = .agg #[.int .u32 3128432319, .int .u32 2399260650, .int .u32 1094795486, .int .u32 1571693091, .int .u32 2953011619, .int .u32 2518121116, .int .u32 3021012833, .int .u32 4060091821] := by
  have h : iv stAbc.a = 3128432319 ∧ iv stAbc.b = 2399260650 ∧ iv stAbc.c = 1094795486 ∧ iv stAbc.d = 1571693091 ∧ iv stAbc.e = 2953011619 ∧ iv stAbc.f = 2518121116 ∧ iv stAbc.g = 3021012833 ∧ iv stAbc.h = 4060091821 := by decide +kernel
  obtain ⟨h0, h1, h2, h3, h4, h5, h6, h7⟩ := h
  rw [h0, h1, h2, h3, h4, h5, h6, h7]
theorem eql_abc (w : World) : (binOp .eql 24 (.agg #[.int .u32 3128432319, .int .u32 2399260650, .int .u32 1094795486, .int .u32 1571693091, .int .u32 2953011619, .int .u32 2518121116, .int .u32 3021012833, .int .u32 4060091821]) (.agg #[.int .u32 3128432319, .int .u32 2399260650, .int .u32 1094795486, .int .u32 1571693091, .int .u32 2953011619, .int .u32 2518121116, .int .u32 3021012833, .int .u32 4060091821])).run Tryd.prog w = .ok (.bool true) w := by
  rw [← stAbc_iv]; exact eql_st stAbc w
theorem next_abc (w : World) (hT : Tab w) : Calls Tryd.prog 21 #[.agg #[.int .u32 (iv st0.a), .int .u32 (iv st0.b), .int .u32 (iv st0.c), .int .u32 (iv st0.d), .int .u32 (iv st0.e), .int .u32 (iv st0.f), .int .u32 (iv st0.g), .int .u32 (iv st0.h)], .string abcB] w (Tells (.tuple #[.agg #[.int .u32 3128432319, .int .u32 2399260650, .int .u32 1094795486, .int .u32 1571693091, .int .u32 2953011619, .int .u32 2518121116, .int .u32 3021012833, .int .u32 4060091821], .int .i64 0]) w.heap.size w) := by
  have h := next_ok st0 abcB (by decide) w hT
  rw [abc_next, stAbc_iv] at h
  exact h
theorem const_lit (k x : Int) (h : iv (kAt k) = x) (w : World) (hT : Tab w) : Calls Tryd.prog 16 #[.int .i64 k] w (Plain (.int .u32 x) w) := by
  subst h; exact const_any k w hT

theorem index0 (s : St) (w : World) : (Instr.index 24 (.agg #[.int .u32 (iv s.a), .int .u32 (iv s.b), .int .u32 (iv s.c), .int .u32 (iv s.d), .int .u32 (iv s.e), .int .u32 (iv s.f), .int .u32 (iv s.g), .int .u32 (iv s.h)]) (.int .i64 0)).run Tryd.prog w = .ok (.int .u32 (iv s.a)) w := by kernel_rfl
theorem index_st0 (w : World) : (Instr.index 24 (.agg #[.int .u32 1779033703, .int .u32 (iv st0.b), .int .u32 (iv st0.c), .int .u32 (iv st0.d), .int .u32 (iv st0.e), .int .u32 (iv st0.f), .int .u32 (iv st0.g), .int .u32 (iv st0.h)]) (.int .i64 0)).run Tryd.prog w = .ok (.int .u32 1779033703) w := by
  have h := index0 st0 w
  rw [st0_iv.1] at h
  exact h

set_option maxHeartbeats 4000000 in
theorem awake_any (w : World) (hT : Tab w) : Calls Tryd.prog 26 #[] w (Tells (.bool true) w.heap.size w) := by
  have cF := fun u => first_any u
  have cB := fun u => abc_any u
  have cN := fun u hu => next_abc u hu
  have cM := fun u => next_no st0 ⟨#[97, 98, 99]⟩ (by decide) (by decide) u
  generalize abcB = B at *
  go_enter Tryd.func26, Tryd.ntmps26
  go_upto_region 2 with (first
    | (go_at_call 18; refine (cF _).mono ?_; rintro e w1 ⟨rfl, b1⟩; have t1 := hT.call b1)
    | (go_at_call 49; refine (cB _).mono ?_; rintro e w2 ⟨rfl, b2⟩; have t2 := t1.call b2)
    | (go_at_call 21; refine (cN _ t2).mono ?_; rintro e w3 ⟨rfl, b3⟩; have t3 := t2.call b3))
  have H3 := ((Has.start w).call (chain (chain b1 b2) b3)).add 24 #[.int .u32 3128432319, .int .u32 2399260650, .int .u32 1094795486, .int .u32 1571693091, .int .u32 2953011619, .int .u32 2518121116, .int .u32 3021012833, .int .u32 4060091821]
  have t4 := t3.past (.cells #[.int .u32 3128432319, .int .u32 2399260650, .int .u32 1094795486, .int .u32 1571693091, .int .u32 2953011619, .int .u32 2518121116, .int .u32 3021012833, .int .u32 4060091821] 24)
  generalize hn3 : w3.heap.size = n3 at *
  generalize w3.alloc _ = W4 at *
  clear cB cN t1 t2 t3 b1 b2 b3
  go_upto_region 3 with (first
    | (go_at_call 18; refine (cF _).mono ?_; rintro e w5 ⟨rfl, b5⟩; have H5 := H3.call b5; have t5 := t4.call b5)
    | (go_at_call 21; refine (cM _).mono ?_; rintro e w6 ⟨rfl, b6⟩; have H6 := H5.call b6; have t6 := t5.call b6))
  have H7 := H6.past (.cells #[.int .u32 0, .int .u32 0, .int .u32 0, .int .u32 0, .int .u32 0, .int .u32 0, .int .u32 0, .int .u32 0] 24)
  have t7 := t6.past (.cells #[.int .u32 0, .int .u32 0, .int .u32 0, .int .u32 0, .int .u32 0, .int .u32 0, .int .u32 0, .int .u32 0] 24)
  generalize w6.alloc _ = W8 at *
  clear H3 H5 H6 t4 t5 t6 b5 b6 cM
  have hb := H7.box 0
  have r0 := hb.read 0
  have r1 := hb.read 1
  have r2 := hb.read 2
  have r3 := hb.read 3
  have r4 := hb.read 4
  have r5 := hb.read 5
  have r6 := hb.read 6
  have r7 := hb.read 7
  simp only [List.getElem?_toArray, List.getElem?_cons_zero, List.getElem?_cons_succ] at r0 r1 r2 r3 r4 r5 r6 r7
  have hin := hb.inside
  have hq := fun u => eql_abc u
  have k0 := const_lit 0 1116352408 (by decide +kernel) W8 t7
  have k63 := const_lit 63 3329325298 (by decide +kernel) W8 t7
  have k64 := const_lit 64 0 (by decide +kernel) W8 t7
  have i0 : iv st0.a = 1779033703 := st0_iv.1
  have ix := fun u => index_st0 u
  go_wp2_with (first
    | (go_at_call_of 16 (Value.int .i64 0); refine k0.mono ?_; rintro e w9 ⟨rfl, rfl⟩)
    | (go_at_call_of 16 (Value.int .i64 63); refine k63.mono ?_; rintro e w9 ⟨rfl, rfl⟩)
    | (go_at_call_of 16 (Value.int .i64 64); refine k64.mono ?_; rintro e w9 ⟨rfl, rfl⟩)
    | (go_at_call 18; refine (cF _).mono ?_; rintro e w9 ⟨rfl, b9⟩; have H9 := H7.call b9))
  go_ret
  exact ⟨rfl, H9.below⟩
end Go.Proofs.YtlceniljnejjeaaDoor
