/-
  '==' on numbers, leaves and nodes.
-/
import Derived.Test.YtjndabnegmecmaaDoorD7Tag
import Derived.BigQuiet
import Derived.Deep.QuietTactic
namespace Go.Proofs.YtjndabnegmecmaaDoor
set_option linter.unusedVariables false
set_option linter.unusedSimpArgs false
set_option maxRecDepth 10000
open Go.RowKit

theorem equal_n7 (d : Nat) (x y a b : Int) (w : World) : (Op.equalIn (d + 2) 31 (.agg #[.int .u64 x, .int .u64 y]) (.agg #[.int .u64 a, .int .u64 b])).run Tryd.prog w = .ok (x == a && y == b) w := by
  rw [run_equalIn_agg w (d + 1) 31 _ _ (by kernel_rfl) (by kernel_rfl)]
  simp only [Program.fieldsOf, Tryd.underlying31, Op.eqFields]
  cases h : x == a <;> cases h2 : y == b <;> simp [go_sem, run_equalIn_int, Tryd.underlying29, h, h2]
theorem run_eql_n7 (x y a b : Int) (w : World) : (binOp .eql 31 (.agg #[.int .u64 x, .int .u64 y]) (.agg #[.int .u64 a, .int .u64 b])).run Tryd.prog w = .ok (.bool (x == a && y == b)) w := by
  rw [run_eql_struct, equal_n7 9998]
  rfl

/-- The same leaf? -/
def Lf.same (x y : Lf) : Bool := x.pad == y.pad && (x.id.toList == y.id.toList && (x.salt.toList == y.salt.toList && (x.h == y.h && x.l == y.l)))
theorem Lf.same_iff (x y : Lf) : x.same y = true ↔ x = y := by
  obtain ⟨p, i, s, h, l⟩ := x
  obtain ⟨p', i', s', h', l'⟩ := y
  unfold Lf.same
  simp only [same_str7, Bool.and_eq_true, beq_iff_eq, decide_eq_true_eq, Lf.mk.injEq]
theorem Lf.same_self (x : Lf) : x.same x = true := (Lf.same_iff x x).2 rfl
theorem equal_lf (d : Nat) (x y : Lf) (w : World) : (Op.equalIn (d + 3) 36 x.val y.val).run Tryd.prog w = .ok (x.same y) w := by
  obtain ⟨p, i, s, h, l⟩ := x
  obtain ⟨p', i', s', h', l'⟩ := y
  unfold Lf.val Lf.same
  rw [run_equalIn_agg w (d + 2) 36 _ _ (by kernel_rfl) (by kernel_rfl)]
  simp only [Program.fieldsOf, Tryd.underlying36, Op.eqFields]
  have e := fun (u : World) => equal_n7 d h l h' l' u
  cases h1 : p == p' <;> cases h2 : i.toList == i'.toList <;> cases h3 : s.toList == s'.toList <;> cases h4 : (h == h' && l == l') <;>
    (rw [h4] at e; simp [go_sem, Tryd.underlying4, Tryd.underlying9, h1, h2, h3, e])
theorem run_eql_lf (x y : Lf) (w : World) : (binOp .eql 36 x.val y.val).run Tryd.prog w = .ok (.bool (x.same y)) w := by
  have e := equal_lf 9997 x y w
  unfold Lf.val at *
  rw [run_eql_struct, e]
  rfl
theorem run_neq_lf (x y : Lf) (w : World) : (binOp .neq 36 x.val y.val).run Tryd.prog w = .ok (.bool (!x.same y)) w := by
  have e := equal_lf 9997 x y w
  unfold Lf.val at *
  rw [run_neq_struct, e]
  rfl

/-- A node, plainly. -/
structure Nd where
  hash : ByteArray
  h : Int
  l : Int
def Nd.val (x : Nd) : Value := .agg #[.string x.hash, .int .u64 x.h, .int .u64 x.l]
def Nd.zero : Nd := ⟨⟨#[]⟩, 0, 0⟩
def Nd.same (x y : Nd) : Bool := x.hash.toList == y.hash.toList && (x.h == y.h && x.l == y.l)
theorem Nd.same_iff (x y : Nd) : x.same y = true ↔ x = y := by
  obtain ⟨s, h, l⟩ := x
  obtain ⟨s', h', l'⟩ := y
  unfold Nd.same
  simp only [same_str7, Bool.and_eq_true, beq_iff_eq, decide_eq_true_eq, Nd.mk.injEq]
theorem Nd.same_self (x : Nd) : x.same x = true := (Nd.same_iff x x).2 rfl
theorem equal_nd (d : Nat) (x y : Nd) (w : World) : (Op.equalIn (d + 3) 46 x.val y.val).run Tryd.prog w = .ok (x.same y) w := by
  obtain ⟨s, h, l⟩ := x
  obtain ⟨s', h', l'⟩ := y
  unfold Nd.val Nd.same
  rw [run_equalIn_agg w (d + 2) 46 _ _ (by kernel_rfl) (by kernel_rfl)]
  simp only [Program.fieldsOf, Tryd.underlying46, Op.eqFields]
  have e := fun (u : World) => equal_n7 d h l h' l' u
  cases h3 : s.toList == s'.toList <;> cases h4 : (h == h' && l == l') <;>
    (rw [h4] at e; simp [go_sem, Tryd.underlying9, h3, e])
theorem run_eql_nd (x y : Nd) (w : World) : (binOp .eql 46 x.val y.val).run Tryd.prog w = .ok (.bool (x.same y)) w := by
  have e := equal_nd 9997 x y w
  unfold Nd.val at *
  rw [run_eql_struct, e]
  rfl
end Go.Proofs.YtjndabnegmecmaaDoor
