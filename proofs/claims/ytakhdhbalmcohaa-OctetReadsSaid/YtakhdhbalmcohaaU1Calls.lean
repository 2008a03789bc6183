/-
  What each plain call of package u128 tells (Of, Most, Add, Sub, Cmp), as a contract on the translated code: any halves below 2^64; old memory is as it was.
-/
import Derived.Test.YtakhdhbalmcohaaRows
import Derived.Test.YtakhdhbalmcohaaU1Nums
import Derived.WalkKit
import Derived.WalkSpells
import Derived.StillTactics
import Derived.Laws.Pointers
import Derived.Laws.Externs
import Derived.Shelf.Spec.BitsCarry
import Derived.RowKit3
import Derived.Outline
import Derived.BigQuiet
import Derived.Deep.QuietTactic
namespace Go.Proofs.Ytakhdhbalmcohaa
set_option linter.unusedVariables false
set_option linter.unusedSimpArgs false
set_option maxRecDepth 10000
open Go.RowKit

end Go.Proofs.Ytakhdhbalmcohaa
