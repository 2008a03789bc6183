/-
  '==' and '!=' on states that are the same.
-/
import Derived.Test.YtkmnfogcocppjaaDoorU4Round
import Derived.BigQuiet
import Derived.ChangeKeysEq
import Derived.Deep.QuietTactic
namespace Go.Proofs.YtkmnfogcocppjaaDoor
set_option linter.unusedVariables false
set_option linter.unusedSimpArgs false
set_option maxRecDepth 10000
open Go.RowKit

theorem info_b32 : (Tryd.prog.info? 86).map (fun i => (i.zero, i.size, i.bytes)) = some (some (.int .u32 0), 1, 4) := by kernel_rfl
theorem cells_b32 : Tryd.prog.cellsOf 86 = 1 := by kernel_rfl
theorem equal_st (d : Nat) (s : St) (w : World) : (Op.equalIn (d + 2) 90 (.agg #[.int .u32 (iv s.a), .int .u32 (iv s.b), .int .u32 (iv s.c), .int .u32 (iv s.d), .int .u32 (iv s.e), .int .u32 (iv s.f), .int .u32 (iv s.g), .int .u32 (iv s.h)]) (.agg #[.int .u32 (iv s.a), .int .u32 (iv s.b), .int .u32 (iv s.c), .int .u32 (iv s.d), .int .u32 (iv s.e), .int .u32 (iv s.f), .int .u32 (iv s.g), .int .u32 (iv s.h)])).run Tryd.prog w = .ok true w := by
  obtain ⟨i, hi, -⟩ := info_parts info_b32
  rw [run_equalIn_array (P := Tryd.prog) w (d + 1) _ _ Tryd.underlying90 hi, cells_b32]
  simp only [show List.range 8 = [0, 1, 2, 3, 4, 5, 6, 7] from rfl, Op.eqItems]
  simp [go_sem, run_equalIn_int, Tryd.underlying86, Op.eqItems]
theorem eql_st (s : St) (w : World) : (binOp .eql 90 (.agg #[.int .u32 (iv s.a), .int .u32 (iv s.b), .int .u32 (iv s.c), .int .u32 (iv s.d), .int .u32 (iv s.e), .int .u32 (iv s.f), .int .u32 (iv s.g), .int .u32 (iv s.h)]) (.agg #[.int .u32 (iv s.a), .int .u32 (iv s.b), .int .u32 (iv s.c), .int .u32 (iv s.d), .int .u32 (iv s.e), .int .u32 (iv s.f), .int .u32 (iv s.g), .int .u32 (iv s.h)])).run Tryd.prog w = .ok (.bool true) w := by
  rw [run_eql_struct, equal_st 9998]
  rfl
theorem neq_st (s : St) (w : World) : (binOp .neq 90 (.agg #[.int .u32 (iv s.a), .int .u32 (iv s.b), .int .u32 (iv s.c), .int .u32 (iv s.d), .int .u32 (iv s.e), .int .u32 (iv s.f), .int .u32 (iv s.g), .int .u32 (iv s.h)]) (.agg #[.int .u32 (iv s.a), .int .u32 (iv s.b), .int .u32 (iv s.c), .int .u32 (iv s.d), .int .u32 (iv s.e), .int .u32 (iv s.f), .int .u32 (iv s.g), .int .u32 (iv s.h)])).run Tryd.prog w = .ok (.bool false) w := by
  rw [run_neq_struct, equal_st 9998]
  rfl
theorem equal_a8 (d : Nat) (s : St) (w : World) : (Op.equalIn (d + 2) 87 (.agg #[.int .u32 (iv s.a), .int .u32 (iv s.b), .int .u32 (iv s.c), .int .u32 (iv s.d), .int .u32 (iv s.e), .int .u32 (iv s.f), .int .u32 (iv s.g), .int .u32 (iv s.h)]) (.agg #[.int .u32 (iv s.a), .int .u32 (iv s.b), .int .u32 (iv s.c), .int .u32 (iv s.d), .int .u32 (iv s.e), .int .u32 (iv s.f), .int .u32 (iv s.g), .int .u32 (iv s.h)])).run Tryd.prog w = .ok true w := by
  obtain ⟨i, hi, -⟩ := info_parts info_b32
  rw [run_equalIn_array (P := Tryd.prog) w (d + 1) _ _ Tryd.underlying87 hi, cells_b32]
  simp only [show List.range 8 = [0, 1, 2, 3, 4, 5, 6, 7] from rfl, Op.eqItems]
  simp [go_sem, run_equalIn_int, Tryd.underlying86, Op.eqItems]
theorem eql_a8 (s : St) (w : World) : (binOp .eql 87 (.agg #[.int .u32 (iv s.a), .int .u32 (iv s.b), .int .u32 (iv s.c), .int .u32 (iv s.d), .int .u32 (iv s.e), .int .u32 (iv s.f), .int .u32 (iv s.g), .int .u32 (iv s.h)]) (.agg #[.int .u32 (iv s.a), .int .u32 (iv s.b), .int .u32 (iv s.c), .int .u32 (iv s.d), .int .u32 (iv s.e), .int .u32 (iv s.f), .int .u32 (iv s.g), .int .u32 (iv s.h)])).run Tryd.prog w = .ok (.bool true) w := by
  rw [run_eql_struct, equal_a8 9998]
  rfl
theorem neq_a8 (s : St) (w : World) : (binOp .neq 87 (.agg #[.int .u32 (iv s.a), .int .u32 (iv s.b), .int .u32 (iv s.c), .int .u32 (iv s.d), .int .u32 (iv s.e), .int .u32 (iv s.f), .int .u32 (iv s.g), .int .u32 (iv s.h)]) (.agg #[.int .u32 (iv s.a), .int .u32 (iv s.b), .int .u32 (iv s.c), .int .u32 (iv s.d), .int .u32 (iv s.e), .int .u32 (iv s.f), .int .u32 (iv s.g), .int .u32 (iv s.h)])).run Tryd.prog w = .ok (.bool false) w := by
  rw [run_neq_struct, equal_a8 9998]
  rfl
end Go.Proofs.YtkmnfogcocppjaaDoor
