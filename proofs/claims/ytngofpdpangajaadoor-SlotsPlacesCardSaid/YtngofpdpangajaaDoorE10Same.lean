/-
  '==' on rows.
-/
import Derived.Test.YtngofpdpangajaaDoorRows
import Derived.Test.YtngofpdpangajaaDoorD0Row
import Derived.Test.YtngofpdpangajaaDoorD7Id
import Derived.Test.YtngofpdpangajaaDoorW0Libs
import Derived.BigQuiet
import Derived.Deep.QuietTactic
namespace Go.Proofs.YtngofpdpangajaaDoor
set_option linter.unusedVariables false
set_option linter.unusedSimpArgs false
set_option maxRecDepth 10000
open Go.RowKit

/-- The same row? -/
def Rw.same (x y : Rw) : Bool := x.id.toList == y.id.toList && (x.h == y.h && x.l == y.l)
theorem Rw.same_iff (x y : Rw) : x.same y = true ↔ x = y := by
  obtain ⟨s, h, l⟩ := x
  obtain ⟨s', h', l'⟩ := y
  unfold Rw.same
  simp only [same_str7, Bool.and_eq_true, beq_iff_eq, decide_eq_true_eq, Rw.mk.injEq]
theorem Rw.same_self (x : Rw) : x.same x = true := (Rw.same_iff x x).2 rfl
theorem equal_n10 (d : Nat) (x y a b : Int) (w : World) : (Op.equalIn (d + 2) 36 (.agg #[.int .u64 x, .int .u64 y]) (.agg #[.int .u64 a, .int .u64 b])).run Tryd.prog w = .ok (x == a && y == b) w := by
  rw [run_equalIn_agg w (d + 1) 36 _ _ (by kernel_rfl) (by kernel_rfl)]
  simp only [Program.fieldsOf, Tryd.underlying36, Op.eqFields]
  cases h : x == a <;> cases h2 : y == b <;> simp [go_sem, run_equalIn_int, Tryd.underlying34, h, h2]
theorem equal_rw (d : Nat) (x y : Rw) (w : World) : (Op.equalIn (d + 3) 59 x.val y.val).run Tryd.prog w = .ok (x.same y) w := by
  obtain ⟨s, h, l⟩ := x
  obtain ⟨s', h', l'⟩ := y
  unfold Rw.val Rw.same
  rw [run_equalIn_agg w (d + 2) 59 _ _ (by kernel_rfl) (by kernel_rfl)]
  simp only [Program.fieldsOf, Tryd.underlying59, Op.eqFields]
  have e := fun (u : World) => equal_n10 d h l h' l' u
  cases h3 : s.toList == s'.toList <;> cases h4 : (h == h' && l == l') <;>
    (rw [h4] at e; simp [go_sem, Tryd.underlying9, h3, e])
theorem run_eql_rw (x y : Rw) (w : World) : (binOp .eql 59 x.val y.val).run Tryd.prog w = .ok (.bool (x.same y)) w := by
  have e := equal_rw 9997 x y w
  unfold Rw.val at *
  rw [run_eql_struct, e]
  rfl
theorem run_neq_rw (x y : Rw) (w : World) : (binOp .neq 59 x.val y.val).run Tryd.prog w = .ok (.bool (!x.same y)) w := by
  have e := equal_rw 9997 x y w
  unfold Rw.val at *
  rw [run_neq_struct, e]
  rfl
end Go.Proofs.YtngofpdpangajaaDoor
