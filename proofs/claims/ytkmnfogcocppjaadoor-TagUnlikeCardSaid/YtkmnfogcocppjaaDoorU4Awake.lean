/-
  paymasterlaw04.awake, walked: the chapter's examples are answered as the chapter has them.
-/
import Derived.Test.YtkmnfogcocppjaaDoorU4Next
import Derived.Test.YtkmnfogcocppjaaDoorD4Abc
import Derived.Test.YtkmnfogcocppjaaDoorE4Same
import Derived.Laws.BytesArg
import Derived.Laws.Pointers
namespace Go.Proofs.YtkmnfogcocppjaaDoor
set_option linter.unusedVariables false
set_option linter.unusedSimpArgs false
set_option maxRecDepth 10000
open Go.RowKit

/-- Bytes as cells. -/
def b8s (l : List Int) : Array Value := (l.map (Value.int .u8)).toArray
theorem b8s_at (l : List Int) (i : Nat) (hi : i < l.length) : (b8s l)[i]? = some (.int .u8 (l.getD i 0)) := by
  simp [b8s, List.getD_eq_getElem?_getD, hi]
theorem b8s_set (l : List Int) (i : Nat) (v : Int) : (b8s l).setIfInBounds i (.int .u8 v) = b8s (l.set i v) := by simp [b8s, List.map_set]
def n64 : List Int := List.replicate 64 0
def abcN : List Int := ((((n64.set 0 97).set 1 98).set 2 99).set 3 128).set 63 24
theorem make_b64 (w : World) : (Instr.makeSlice 66 (.int .i64 64) (.int .i64 64)).run Tryd.prog w =
    .ok (.slice (some ⟨w.heap.size, 0, none⟩) 64 64) (w.alloc (.cells (b8s n64) 5)) := by kernel_rfl

theorem stAbc_iv : (Value.agg #[.int .u32 (iv stAbc.a), .int .u32 (iv stAbc.b), .int .u32 (iv stAbc.c), .int .u32 (iv stAbc.d), .int .u32 (iv stAbc.e), .int .u32 (iv stAbc.f), .int .u32 (iv stAbc.g), .int .u32 (iv stAbc.h)]) = .agg #[.int .u32 3128432319, .int .u32 2399260650, .int .u32 1094795486, .int .u32 1571693091, .int .u32 2953011619, .int .u32 2518121116, .int .u32 3021012833, .int .u32 4060091821] := by
  have h : iv stAbc.a = 3128432319 ∧ iv stAbc.b = 2399260650 ∧ iv stAbc.c = 1094795486 ∧ iv stAbc.d = 1571693091 ∧ iv stAbc.e = 2953011619 ∧ iv stAbc.f = 2518121116 ∧ iv stAbc.g = 3021012833 ∧ iv stAbc.h = 4060091821 := by decide +kernel
  obtain ⟨h0, h1, h2, h3, h4, h5, h6, h7⟩ := h
  rw [h0, h1, h2, h3, h4, h5, h6, h7]
theorem eql_abc (w : World) : (binOp .eql 90 (.agg #[.int .u32 3128432319, .int .u32 2399260650, .int .u32 1094795486, .int .u32 1571693091, .int .u32 2953011619, .int .u32 2518121116, .int .u32 3021012833, .int .u32 4060091821]) (.agg #[.int .u32 3128432319, .int .u32 2399260650, .int .u32 1094795486, .int .u32 1571693091, .int .u32 2953011619, .int .u32 2518121116, .int .u32 3021012833, .int .u32 4060091821])).run Tryd.prog w = .ok (.bool true) w := by
  rw [← stAbc_iv]; exact eql_st stAbc w
theorem next_abc (w : World) (hT : Tab w) : Calls Tryd.prog 71 #[.agg #[.int .u32 (iv st0.a), .int .u32 (iv st0.b), .int .u32 (iv st0.c), .int .u32 (iv st0.d), .int .u32 (iv st0.e), .int .u32 (iv st0.f), .int .u32 (iv st0.g), .int .u32 (iv st0.h)], .string abcB] w (Tells (.tuple #[.agg #[.int .u32 3128432319, .int .u32 2399260650, .int .u32 1094795486, .int .u32 1571693091, .int .u32 2953011619, .int .u32 2518121116, .int .u32 3021012833, .int .u32 4060091821], .int .i64 0]) w.heap.size w) := by
  have h := next_ok st0 abcB (by decide) w hT
  rw [abc_next, stAbc_iv] at h
  exact h
theorem const_lit (k x : Int) (h : iv (kAt k) = x) (w : World) (hT : Tab w) : Calls Tryd.prog 86 #[.int .i64 k] w (Plain (.int .u32 x) w) := by
  subst h; exact const_any k w hT

theorem index0 (s : St) (w : World) : (Instr.index 90 (.agg #[.int .u32 (iv s.a), .int .u32 (iv s.b), .int .u32 (iv s.c), .int .u32 (iv s.d), .int .u32 (iv s.e), .int .u32 (iv s.f), .int .u32 (iv s.g), .int .u32 (iv s.h)]) (.int .i64 0)).run Tryd.prog w = .ok (.int .u32 (iv s.a)) w := by kernel_rfl
theorem index_st0 (w : World) : (Instr.index 90 (.agg #[.int .u32 1779033703, .int .u32 (iv st0.b), .int .u32 (iv st0.c), .int .u32 (iv st0.d), .int .u32 (iv st0.e), .int .u32 (iv st0.f), .int .u32 (iv st0.g), .int .u32 (iv st0.h)]) (.int .i64 0)).run Tryd.prog w = .ok (.int .u32 1779033703) w := by
  have h := index0 st0 w
  rw [st0_iv.1] at h
  exact h

end Go.Proofs.YtkmnfogcocppjaaDoor
