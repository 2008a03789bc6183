/-
  '==' and '!=' on numbers and wide numbers that are the same.
-/
import Derived.Test.YtpafamlegfdclaaU3Calls
import Derived.BigQuiet
import Derived.Deep.QuietTactic
namespace Go.Proofs.Ytpafamlegfdclaa
set_option linter.unusedVariables false
set_option linter.unusedSimpArgs false
open Go.RowKit

theorem equal_nm (d : Nat) (x y a b : Int) (w : World) : (Op.equalIn (d + 2) 24 (.agg #[.int .u64 x, .int .u64 y]) (.agg #[.int .u64 a, .int .u64 b])).run Try.prog w = .ok (x == a && y == b) w := by
  rw [run_equalIn_agg w (d + 1) 24 _ _ (by kernel_rfl) (by kernel_rfl)]
  simp only [Program.fieldsOf, Try.underlying24, Op.eqFields]
  cases h : x == a <;> cases h2 : y == b <;> simp [go_sem, run_equalIn_int, Try.underlying22, h, h2]
theorem run_eql_nm (x y a b : Int) (w : World) : (binOp .eql 24 (.agg #[.int .u64 x, .int .u64 y]) (.agg #[.int .u64 a, .int .u64 b])).run Try.prog w = .ok (.bool (x == a && y == b)) w := by
  rw [run_eql_struct, equal_nm 9998]
  rfl
theorem run_neq_nm (x y a b : Int) (w : World) : (binOp .neq 24 (.agg #[.int .u64 x, .int .u64 y]) (.agg #[.int .u64 a, .int .u64 b])).run Try.prog w = .ok (.bool (!(x == a && y == b))) w := by
  rw [run_neq_struct, equal_nm 9998]
  rfl
theorem equal_wide (d : Nat) (H h l K j m : Int) (w : World) : (Op.equalIn (d + 3) 26 (wide H h l) (wide K j m)).run Try.prog w = .ok (H == K && (h == j && l == m)) w := by
  rw [run_equalIn_agg w (d + 2) 26 _ _ (by kernel_rfl) (by kernel_rfl)]
  simp only [Program.fieldsOf, Try.underlying26, Op.eqFields]
  have e := fun (u : World) => equal_nm d h l j m u
  cases h1 : H == K <;> cases h2 : (h == j && l == m) <;> (rw [h2] at e; simp [go_sem, run_equalIn_int, Try.underlying22, h1, e])
theorem run_eql_wide (H h l K j m : Int) (w : World) : (binOp .eql 26 (wide H h l) (wide K j m)).run Try.prog w = .ok (.bool (H == K && (h == j && l == m))) w := by
  rw [run_eql_struct, equal_wide 9997]
  rfl
theorem run_neq_wide (H h l K j m : Int) (w : World) : (binOp .neq 26 (wide H h l) (wide K j m)).run Try.prog w = .ok (.bool (!(H == K && (h == j && l == m)))) w := by
  rw [run_neq_struct, equal_wide 9997]
  rfl
theorem fit_tells (s : Int) (B : Nat) (w : World) : Fit s B w = Tells (.tuple #[.agg #[.int .u64 (rh s), .int .u64 (rl s)], .int .i64 (re s)]) B w := rfl
theorem neq_wide_same (H h l : Int) (w : World) : (binOp .neq 26 (wide H h l) (wide H h l)).run Try.prog w = .ok (.bool false) w := by rw [run_neq_wide]; simp
theorem eql_wide_same (H h l : Int) (w : World) : (binOp .eql 26 (wide H h l) (wide H h l)).run Try.prog w = .ok (.bool true) w := by rw [run_eql_wide]; simp
theorem neq_num_same (h l : Int) (w : World) : (binOp .neq 24 (.agg #[.int .u64 h, .int .u64 l]) (.agg #[.int .u64 h, .int .u64 l])).run Try.prog w = .ok (.bool false) w := by rw [run_neq_nm]; simp
theorem eql_num_same (h l : Int) (w : World) : (binOp .eql 24 (.agg #[.int .u64 h, .int .u64 l]) (.agg #[.int .u64 h, .int .u64 l])).run Try.prog w = .ok (.bool true) w := by rw [run_eql_nm]; simp
end Go.Proofs.Ytpafamlegfdclaa
