/-
  '==' on lines.
-/
import Derived.Test.YtpblnhphkikfaaaU9All
import Derived.BigQuiet
import Derived.Deep.QuietTactic
namespace Go.Proofs.Ytpblnhphkikfaaa
set_option linter.unusedVariables false
set_option linter.unusedSimpArgs false
set_option maxRecDepth 10000
open Go.RowKit

theorem equal_line (d : Nat) (n n' k k' e e' : Int) (s s' : ByteArray) (w : World) : (Op.equalIn (d + 3) 28 (.agg #[.int .i64 n, .string s, .int .u8 k, .int .i64 e]) (.agg #[.int .i64 n', .string s', .int .u8 k', .int .i64 e'])).run Try.prog w =
    .ok (n == n' && (s.toList == s'.toList && (k == k' && e == e'))) w := by
  rw [run_equalIn_agg w (d + 2) 28 _ _ (by kernel_rfl) (by kernel_rfl)]
  simp only [Program.fieldsOf, Try.underlying28, Op.eqFields]
  cases h1 : n == n' <;> cases h2 : s.toList == s'.toList <;> cases h3 : k == k' <;> cases h4 : e == e' <;>
    simp [go_sem, run_equalIn_int, Try.underlying3, Try.underlying9, Try.underlying5, Try.underlying26, h1, h2, h3, h4]
theorem run_eql_line (n k e : Int) (s : ByteArray) (w : World) : (binOp .eql 28 (.agg #[.int .i64 n, .string s, .int .u8 k, .int .i64 e]) (.agg #[.int .i64 n, .string s, .int .u8 k, .int .i64 e])).run Try.prog w = .ok (.bool true) w := by
  have h := equal_line 9997 n n k k e e s s w
  rw [run_eql_struct, h]
  simp [go_sem]
theorem run_neq_line (n k e : Int) (s : ByteArray) (w : World) : (binOp .neq 28 (.agg #[.int .i64 n, .string s, .int .u8 k, .int .i64 e]) (.agg #[.int .i64 n, .string s, .int .u8 k, .int .i64 e])).run Try.prog w = .ok (.bool false) w := by
  have h := equal_line 9997 n n k k e e s s w
  rw [run_neq_struct, h]
  simp [go_sem]
end Go.Proofs.Ytpblnhphkikfaaa
