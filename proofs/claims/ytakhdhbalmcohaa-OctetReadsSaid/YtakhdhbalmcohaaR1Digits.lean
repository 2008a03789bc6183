/-
  paymasterref01.digits, walked: the eight digits of base 65536, the least first.
-/
import Derived.Test.YtakhdhbalmcohaaU1Calls
import Derived.Test.YtakhdhbalmcohaaW0Words
import Derived.LoopTactic
import Derived.Deep.LoopGhost
namespace Go.Proofs.Ytakhdhbalmcohaa
set_option linter.unusedVariables false
set_option linter.unusedSimpArgs false
set_option maxRecDepth 10000
open Go.RowKit

/-- The k lowest digits. -/
def digs (l : Int) (k : Nat) : List Int := (List.range k).map fun i => l / 65536 ^ i % 65536
theorem digs_succ (l : Int) (k : Nat) : digs l (k + 1) = digs l k ++ [l / 65536 ^ k % 65536] := by simp [digs, List.range_succ]
theorem digs_length (l : Int) (k : Nat) : (digs l k).length = k := by simp [digs]
def u64s (l : List Int) : List Value := l.map (Value.int .u64)

theorem info_u64 : (Try.prog.info? 30).map (fun i => (i.zero, i.size, i.bytes)) = some (some (.int .u64 0), 1, 8) := by kernel_rfl

end Go.Proofs.Ytakhdhbalmcohaa
