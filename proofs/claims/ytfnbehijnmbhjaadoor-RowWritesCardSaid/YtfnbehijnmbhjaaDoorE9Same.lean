/-
  '==' on lines.
-/
import Derived.Test.YtfnbehijnmbhjaaDoorU9All
import Derived.BigQuiet
import Derived.Deep.QuietTactic
namespace Go.Proofs.YtfnbehijnmbhjaaDoor
set_option linter.unusedVariables false
set_option linter.unusedSimpArgs false
set_option maxRecDepth 10000
open Go.RowKit

theorem equal_line (d : Nat) (n n' k k' e e' : Int) (s s' : ByteArray) (w : World) : (Op.equalIn (d + 3) 38 (.agg #[.int .i64 n, .string s, .int .u8 k, .int .i64 e]) (.agg #[.int .i64 n', .string s', .int .u8 k', .int .i64 e'])).run Tryd.prog w =
    .ok (n == n' && (s.toList == s'.toList && (k == k' && e == e'))) w := by
  rw [run_equalIn_agg w (d + 2) 38 _ _ (by kernel_rfl) (by kernel_rfl)]
  simp only [Program.fieldsOf, Tryd.underlying38, Op.eqFields]
  cases h1 : n == n' <;> cases h2 : s.toList == s'.toList <;> cases h3 : k == k' <;> cases h4 : e == e' <;>
    simp [go_sem, run_equalIn_int, Tryd.underlying3, Tryd.underlying9, Tryd.underlying5, Tryd.underlying27, h1, h2, h3, h4]
theorem run_eql_line (n k e : Int) (s : ByteArray) (w : World) : (binOp .eql 38 (.agg #[.int .i64 n, .string s, .int .u8 k, .int .i64 e]) (.agg #[.int .i64 n, .string s, .int .u8 k, .int .i64 e])).run Tryd.prog w = .ok (.bool true) w := by
  have h := equal_line 9997 n n k k e e s s w
  rw [run_eql_struct, h]
  simp [go_sem]
theorem run_neq_line (n k e : Int) (s : ByteArray) (w : World) : (binOp .neq 38 (.agg #[.int .i64 n, .string s, .int .u8 k, .int .i64 e]) (.agg #[.int .i64 n, .string s, .int .u8 k, .int .i64 e])).run Tryd.prog w = .ok (.bool false) w := by
  have h := equal_line 9997 n n k k e e s s w
  rw [run_neq_struct, h]
  simp [go_sem]
theorem run_neq_lines (x y : Nat × List UInt8) (w : World) : (binOp .neq 38 (.agg #[.int .i64 x.1, .string (bA x.2), .int .u8 (kindL x.2), .int .i64 (wrongL x.2)]) (.agg #[.int .i64 y.1, .string (bA y.2), .int .u8 (kindL y.2), .int .i64 (wrongL y.2)])).run Tryd.prog w = .ok (.bool (!decide (x = y))) w := by
  by_cases hxy : x = y
  · subst hxy
    rw [run_neq_line, decide_eq_true rfl]
    rfl
  · have h := equal_line 9997 x.1 y.1 (kindL x.2) (kindL y.2) (wrongL x.2) (wrongL y.2) (bA x.2) (bA y.2) w
    rw [run_neq_struct, h, decide_eq_false hxy]
    have e : ((x.1 : Int) == (y.1 : Int) && ((bA x.2).toList == (bA y.2).toList && ((kindL x.2 : Int) == (kindL y.2 : Int) && (wrongL x.2 : Int) == (wrongL y.2 : Int)))) = false := by
      rw [Bool.eq_false_iff]
      intro he
      simp only [Bool.and_eq_true, beq_iff_eq] at he
      apply hxy
      obtain ⟨h1, h2, -⟩ := he
      rw [Lib.toList_data, Lib.toList_data, bA_list, bA_list] at h2
      exact Prod.ext (by omega) h2
    rw [e]
    rfl
end Go.Proofs.YtfnbehijnmbhjaaDoor
