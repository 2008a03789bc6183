/-
  paymasterref01.Bytes under the name of the text that it makes.
-/
import Derived.Test.YtkmnfogcocppjaaDoorR1Bytes
import Derived.Test.YtkmnfogcocppjaaDoorU1Lex
namespace Go.Proofs.YtkmnfogcocppjaaDoor
set_option linter.unusedVariables false
set_option linter.unusedSimpArgs false
set_option maxRecDepth 10000
open Go.RowKit

theorem rubytes_any (h l : Int) (hh : Word h) (hl : Word l) (w : World) : Calls Tryd.prog 50 #[.agg #[.int .u64 h, .int .u64 l]] w (Tells (.string (textOf h l)) w.heap.size w) := rbytes_any h l hh hl w
end Go.Proofs.YtkmnfogcocppjaaDoor
