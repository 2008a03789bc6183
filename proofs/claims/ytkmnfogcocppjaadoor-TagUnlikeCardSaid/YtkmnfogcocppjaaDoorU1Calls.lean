/-
  What each plain call of package u128 tells (Of, Most, Add, Sub, Cmp), as a contract on the translated code: any halves below 2^64; old memory is as it was.
-/
import Derived.Test.YtkmnfogcocppjaaDoorRows
import Derived.Test.YtkmnfogcocppjaaDoorU1Nums
import Derived.WalkKit
import Derived.WalkSpells
import Derived.StillTactics
import Derived.Laws.Pointers
import Derived.Laws.Externs
import Derived.Shelf.Spec.BitsCarry
import Derived.RowKit3
import Derived.Outline
import Derived.BigQuiet
import Derived.Deep.QuietTactic
namespace Go.Proofs.YtkmnfogcocppjaaDoor
set_option linter.unusedVariables false
set_option linter.unusedSimpArgs false
set_option maxRecDepth 10000
open Go.RowKit

theorem of_any (n : Int) (w : World) : Calls Tryd.prog 47 #[.int .u64 n] w (Tells (.agg #[.int .u64 0, .int .u64 n]) w.heap.size w) := by
  go_enter Tryd.func47, Tryd.ntmps47
  go_wp2
  exact bodyPost_ret (v := .agg #[.int .u64 0, .int .u64 n]) (by simp [results, Tryd.results47, go_sem]) rfl ⟨rfl, by repeat (first | exact Below.refl _ _ | apply Below.drew | apply below_drewN | refine Below.alloc ?_ (by simp; try omega) _ | refine Below.setCell ?_ (by simp; try omega) _)⟩

end Go.Proofs.YtkmnfogcocppjaaDoor
