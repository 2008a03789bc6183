/-
  '==' on numbers, and texts, whatever they are.
-/
import Derived.Test.YtakhdhbalmcohaaDoorW8Off
import Derived.WalkKit
import Derived.WalkSpells
import Derived.BigQuiet
import Derived.Deep.QuietTactic
namespace Go.Proofs.YtakhdhbalmcohaaDoor
set_option linter.unusedVariables false
set_option linter.unusedSimpArgs false
set_option maxRecDepth 10000
open Go.RowKit

theorem equal_n8 (d : Nat) (x y a b : Int) (w : World) : (Op.equalIn (d + 2) 35 (.agg #[.int .u64 x, .int .u64 y]) (.agg #[.int .u64 a, .int .u64 b])).run Tryd.prog w = .ok (x == a && y == b) w := by
  rw [run_equalIn_agg w (d + 1) 35 _ _ (by kernel_rfl) (by kernel_rfl)]
  simp only [Program.fieldsOf, Tryd.underlying35, Op.eqFields]
  cases h : x == a <;> cases h2 : y == b <;> simp [go_sem, run_equalIn_int, Tryd.underlying30, h, h2]
theorem run_eql_n8 (x y a b : Int) (w : World) : (binOp .eql 35 (.agg #[.int .u64 x, .int .u64 y]) (.agg #[.int .u64 a, .int .u64 b])).run Tryd.prog w = .ok (.bool (x == a && y == b)) w := by
  rw [run_eql_struct, equal_n8 9998]
  rfl
theorem eql_n8_same (h l : Int) (w : World) : (binOp .eql 35 (.agg #[.int .u64 h, .int .u64 l]) (.agg #[.int .u64 h, .int .u64 l])).run Tryd.prog w = .ok (.bool true) w := by rw [run_eql_n8]; simp
end Go.Proofs.YtakhdhbalmcohaaDoor
