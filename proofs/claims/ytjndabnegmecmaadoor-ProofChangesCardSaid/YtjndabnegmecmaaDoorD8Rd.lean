/-
  Plain words on what is read of bytes: what is told, what is left.
-/
import Derived.Test.YtjndabnegmecmaaDoorD8Oct
namespace Go.Proofs.YtjndabnegmecmaaDoor
set_option linter.unusedVariables false
set_option linter.unusedSimpArgs false
set_option maxRecDepth 10000
open Go.RowKit

/-- What is told of what was read; what is left. -/
def nxt {α : Type} (r : Option (α × List UInt8)) : Option (List UInt8) := r.map (·.2)
def bV (r : Option (UInt8 × List UInt8)) : Int := match r with | none => 0 | some x => (x.1.toNat : Int)
def fV (r : Option (Bool × List UInt8)) : Bool := match r with | none => false | some x => x.1
def hV (r : Option (List UInt8 × List UInt8)) : Int := match r with | none => 0 | some x => hiD x.1
def lV (r : Option (List UInt8 × List UInt8)) : Int := match r with | none => 0 | some x => loD x.1
def tV (r : Option (List UInt8 × List UInt8)) : ByteArray := match r with | none => ⟨#[]⟩ | some x => ofL x.1
def opB (st : Option (List UInt8)) := st.bind rByte
def opF (st : Option (List UInt8)) := st.bind rFlag
def opN (most : Nat) (st : Option (List UInt8)) := st.bind (rNum most)
def opT (m : Nat) (st : Option (List UInt8)) := st.bind (rText m)
end Go.Proofs.YtjndabnegmecmaaDoor
