/- Several of my texts, laid as one. -/
import Derived.Test.YtkecekfapiegjaaDoorM1Ref
import Derived.Test.YtkecekfapiegjaaDoorM1Lex
/-
  paymasterref01.Bytes under the name of the text that it makes.
-/
namespace Go.Proofs.YtkecekfapiegjaaDoor
set_option linter.unusedVariables false
set_option linter.unusedSimpArgs false
set_option maxRecDepth 10000
open Go.RowKit

theorem rubytes_any (h l : Int) (hh : Word h) (hl : Word l) (w : World) : Calls Tryd.prog 88 #[.agg #[.int .u64 h, .int .u64 l]] w (Tells (.string (textOf h l)) w.heap.size w) := rbytes_any h l hh hl w
end Go.Proofs.YtkecekfapiegjaaDoor
