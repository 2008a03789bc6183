/-
  No cell of these rows narrows 'for every input' (looked for: loops, veiled, ifaces, maps, wideKeys, modest, calm, conditions, laid).
  DERIVED. THE GIVEN ROWS OF THIS SEAT. 6 by the template 'for every input the law returns true; each argument reads behind the call as it read before'; 0 by the template 'total and deterministic' (their statements: YtieieafjakcnpaaTotals.lean).
  GIVEN WITH THE SEED: the statements are not yours to turn. If you find one false, say at which input.
  Laid BY PROGRAM, IN A SANDBOX (cutbox-rows.mjs): the forced cells as the released guide's own fill.sh prints them over the translation 8ade7c31e4aa1983… (all of the seat's roots in one cut). By AI agents, Wed Nov 11 2026. No macro, syntax, notation, axiom, sorry.
-/
import Derived.Test.YtieieafjakcnpaaChecked
import GoSem.Claim
import GoSem.ClaimJoined
import GoSem.ClaimMapViews
import Derived.JoinedTies
import Derived.KernelRfl
namespace Go.Proofs.Ytieieafjakcnpaa
/- THE CELL 'sum', in the pinned program and in every row, IS THE sha256 OF THE DUMP (.gsa) THAT YtieieafjakcnpaaProg.lean LOADS. Nothing in Lean hashes anything: it is a label: what it is worth is what the hold of that sum in a sandbox is worth. -/
noncomputable def Try.pinned : Pinned := { name := "ytieieafjakcnpaa", sum := "8ade7c31e4aa1983eff54f7bf0574a7c33f07732cd2cd3ebc525e603e2d79e9d", checked := Try.checked }
namespace Rows
def none {H : Type} : Left H := { results := [], args := [] }

/-- 'paymasterlaw02.DecimalTexts': WHATEVER THE INPUT: true; the input reads as it did. -/
def decimalTextsSpec : ChangeSpec := { name := "decimalTexts", fn := fun _ => fun
  | [d1, d2] => { results := [.lit (.bool true)], args := [d1, d2] }
  | _ => none }
def decimalTextsRow : OpenClaim := { program := "ytieieafjakcnpaa", sum := "8ade7c31e4aa1983eff54f7bf0574a7c33f07732cd2cd3ebc525e603e2d79e9d", func := "paymaster/paymasterlaw02.DecimalTexts", spec := "decimalTexts", inPlace := ["math/bits.Add64"], unfollowed := true, recurses := true, named := ["math/bits.divideError", "math/bits.overflowError"], apart := false }
def DecimalTextsSaid : Prop := decimalTextsRow.holds Try.pinned (OpenSpec.ofChange decimalTextsSpec)

/-- ITS FALSE NEIGHBOUR: 'it returns false'. Refute it at one input. -/
def decimalTextsWrong : ChangeSpec := { name := "decimalTexts", fn := fun _ => fun
  | [d1, d2] => { results := [.lit (.bool false)], args := [d1, d2] }
  | _ => none }
def DecimalTextsWrongFalsely : Prop := decimalTextsRow.holds Try.pinned (OpenSpec.ofChange decimalTextsWrong)

/-- 'paymasterlaw02.DecimalDigits': WHATEVER THE INPUT: true; the input reads as it did. -/
def decimalDigitsSpec : ChangeSpec := { name := "decimalDigits", fn := fun _ => fun
  | [d1, d2] => { results := [.lit (.bool true)], args := [d1, d2] }
  | _ => none }
def decimalDigitsRow : OpenClaim := { program := "ytieieafjakcnpaa", sum := "8ade7c31e4aa1983eff54f7bf0574a7c33f07732cd2cd3ebc525e603e2d79e9d", func := "paymaster/paymasterlaw02.DecimalDigits", spec := "decimalDigits", inPlace := ["math/bits.Add64"], recurses := true, named := ["math/bits.divideError", "math/bits.overflowError"], apart := false }
def DecimalDigitsSaid : Prop := decimalDigitsRow.holds Try.pinned (OpenSpec.ofChange decimalDigitsSpec)

/-- ITS FALSE NEIGHBOUR: 'it returns false'. Refute it at one input. -/
def decimalDigitsWrong : ChangeSpec := { name := "decimalDigits", fn := fun _ => fun
  | [d1, d2] => { results := [.lit (.bool false)], args := [d1, d2] }
  | _ => none }
def DecimalDigitsWrongFalsely : Prop := decimalDigitsRow.holds Try.pinned (OpenSpec.ofChange decimalDigitsWrong)

/-- 'paymasterlaw02.DecimalBack': WHATEVER THE INPUT: true; the input reads as it did. -/
def decimalBackSpec : ChangeSpec := { name := "decimalBack", fn := fun _ => fun
  | [d1, d2] => { results := [.lit (.bool true)], args := [d1, d2] }
  | _ => none }
def decimalBackRow : OpenClaim := { program := "ytieieafjakcnpaa", sum := "8ade7c31e4aa1983eff54f7bf0574a7c33f07732cd2cd3ebc525e603e2d79e9d", func := "paymaster/paymasterlaw02.DecimalBack", spec := "decimalBack", inPlace := ["math/bits.Add64"], unfollowed := true, recurses := true, named := ["math/bits.divideError", "math/bits.overflowError"], apart := false }
def DecimalBackSaid : Prop := decimalBackRow.holds Try.pinned (OpenSpec.ofChange decimalBackSpec)

/-- ITS FALSE NEIGHBOUR: 'it returns false'. Refute it at one input. -/
def decimalBackWrong : ChangeSpec := { name := "decimalBack", fn := fun _ => fun
  | [d1, d2] => { results := [.lit (.bool false)], args := [d1, d2] }
  | _ => none }
def DecimalBackWrongFalsely : Prop := decimalBackRow.holds Try.pinned (OpenSpec.ofChange decimalBackWrong)

/-- 'paymasterlaw02.DecimalOrder': WHATEVER THE INPUT: true; the input reads as it did. -/
def decimalOrderSpec : ChangeSpec := { name := "decimalOrder", fn := fun _ => fun
  | [d1, d2] => { results := [.lit (.bool true)], args := [d1, d2] }
  | _ => none }
def decimalOrderRow : OpenClaim := { program := "ytieieafjakcnpaa", sum := "8ade7c31e4aa1983eff54f7bf0574a7c33f07732cd2cd3ebc525e603e2d79e9d", func := "paymaster/paymasterlaw02.DecimalOrder", spec := "decimalOrder", inPlace := ["math/bits.Add64"], unfollowed := true, recurses := true, named := ["math/bits.divideError", "math/bits.overflowError"], apart := false }
def DecimalOrderSaid : Prop := decimalOrderRow.holds Try.pinned (OpenSpec.ofChange decimalOrderSpec)

/-- ITS FALSE NEIGHBOUR: 'it returns false'. Refute it at one input. -/
def decimalOrderWrong : ChangeSpec := { name := "decimalOrder", fn := fun _ => fun
  | [d1, d2] => { results := [.lit (.bool false)], args := [d1, d2] }
  | _ => none }
def DecimalOrderWrongFalsely : Prop := decimalOrderRow.holds Try.pinned (OpenSpec.ofChange decimalOrderWrong)

/-- 'paymasterlaw02.DecimalPlaces': WHATEVER THE INPUT: true; the input reads as it did. -/
def decimalPlacesSpec : ChangeSpec := { name := "decimalPlaces", fn := fun _ => fun
  | [d] => { results := [.lit (.bool true)], args := [d] }
  | _ => none }
def decimalPlacesRow : OpenClaim := { program := "ytieieafjakcnpaa", sum := "8ade7c31e4aa1983eff54f7bf0574a7c33f07732cd2cd3ebc525e603e2d79e9d", func := "paymaster/paymasterlaw02.DecimalPlaces", spec := "decimalPlaces", inPlace := ["math/bits.Add64"], unfollowed := true, recurses := true, named := ["math/bits.divideError", "math/bits.overflowError"], apart := false }
def DecimalPlacesSaid : Prop := decimalPlacesRow.holds Try.pinned (OpenSpec.ofChange decimalPlacesSpec)

/-- ITS FALSE NEIGHBOUR: 'it returns false'. Refute it at one input. -/
def decimalPlacesWrong : ChangeSpec := { name := "decimalPlaces", fn := fun _ => fun
  | [d] => { results := [.lit (.bool false)], args := [d] }
  | _ => none }
def DecimalPlacesWrongFalsely : Prop := decimalPlacesRow.holds Try.pinned (OpenSpec.ofChange decimalPlacesWrong)

/-- 'paymasterlaw02.DecimalGroups': WHATEVER THE INPUT: true; the input reads as it did. -/
def decimalGroupsSpec : ChangeSpec := { name := "decimalGroups", fn := fun _ => fun
  | [d] => { results := [.lit (.bool true)], args := [d] }
  | _ => none }
def decimalGroupsRow : OpenClaim := { program := "ytieieafjakcnpaa", sum := "8ade7c31e4aa1983eff54f7bf0574a7c33f07732cd2cd3ebc525e603e2d79e9d", func := "paymaster/paymasterlaw02.DecimalGroups", spec := "decimalGroups", inPlace := ["math/bits.Add64"], unfollowed := true, recurses := true, named := ["math/bits.divideError", "math/bits.overflowError"], apart := false }
def DecimalGroupsSaid : Prop := decimalGroupsRow.holds Try.pinned (OpenSpec.ofChange decimalGroupsSpec)

/-- ITS FALSE NEIGHBOUR: 'it returns false'. Refute it at one input. -/
def decimalGroupsWrong : ChangeSpec := { name := "decimalGroups", fn := fun _ => fun
  | [d] => { results := [.lit (.bool false)], args := [d] }
  | _ => none }
def DecimalGroupsWrongFalsely : Prop := decimalGroupsRow.holds Try.pinned (OpenSpec.ofChange decimalGroupsWrong)

/- THE SECOND FORM. 'bulk': how many values and letters a reading holds, each counted each time it is reached (what is shared counts as often as it is met; a slice's spare places count too). A statement '..UptoSaid' is the law's where the arguments, and the package variables that the reading takes, are together of bulk at most 1048576: NARROWER than '..Said'. Prove '..Said' where nothing that the law and all that it calls make is longer than what came in: it says more and counts as full. Else prove '..UptoSaid'. A law counts once. -/
mutual
def uptoBulk {H : Type} : DataW H → Nat
  | .lit (.string bytes) => bytes.length + 1
  | .lit _ => 1
  | .nil => 1
  | .ptr d => uptoBulk d + 1
  | .slice elems spare => uptoBulkAll elems + uptoBulkAll spare + 1
  | .agg parts => uptoBulkAll parts + 1
  | .iface _ d => uptoBulk d + 1
  | .map entries => uptoBulkEntries entries + 1
  | .held _ => 1
def uptoBulkAll {H : Type} : List (DataW H) → Nat
  | [] => 0
  | d :: r => uptoBulk d + uptoBulkAll r
def uptoBulkEntries {H : Type} : List (Lit × DataW H) → Nat
  | [] => 0
  | x :: r => uptoBulkEntry x + uptoBulkEntries r
def uptoBulkEntry {H : Type} : Lit × DataW H → Nat
  | (.string bytes, d) => bytes.length + uptoBulk d + 1
  | (_, d) => uptoBulk d + 1
 end
def uptoSmall : (H : Type) → List (DataW H) → Bool := fun _ ds => decide (uptoBulkAll ds ≤ 1048576)
def OpenSpec.upto (s : _root_.Go.ChangeSpec) : _root_.Go.OpenSpec := { _root_.Go.OpenSpec.ofChange s with cond := some uptoSmall }

/-- 'paymasterlaw02.DecimalTexts', WHERE WHAT IT READS IS OF BULK AT MOST 1048576: true; the input reads as it did. -/
def decimalTextsUptoRow : OpenClaim := { program := "ytieieafjakcnpaa", sum := "8ade7c31e4aa1983eff54f7bf0574a7c33f07732cd2cd3ebc525e603e2d79e9d", func := "paymaster/paymasterlaw02.DecimalTexts", spec := "decimalTexts", inPlace := ["math/bits.Add64"], unfollowed := true, recurses := true, named := ["math/bits.divideError", "math/bits.overflowError"], apart := false, narrowed := true }
def DecimalTextsUptoSaid : Prop := decimalTextsUptoRow.holds Try.pinned (OpenSpec.upto decimalTextsSpec)

/-- 'paymasterlaw02.DecimalDigits', WHERE WHAT IT READS IS OF BULK AT MOST 1048576: true; the input reads as it did. -/
def decimalDigitsUptoRow : OpenClaim := { program := "ytieieafjakcnpaa", sum := "8ade7c31e4aa1983eff54f7bf0574a7c33f07732cd2cd3ebc525e603e2d79e9d", func := "paymaster/paymasterlaw02.DecimalDigits", spec := "decimalDigits", inPlace := ["math/bits.Add64"], recurses := true, named := ["math/bits.divideError", "math/bits.overflowError"], apart := false, narrowed := true }
def DecimalDigitsUptoSaid : Prop := decimalDigitsUptoRow.holds Try.pinned (OpenSpec.upto decimalDigitsSpec)

/-- 'paymasterlaw02.DecimalBack', WHERE WHAT IT READS IS OF BULK AT MOST 1048576: true; the input reads as it did. -/
def decimalBackUptoRow : OpenClaim := { program := "ytieieafjakcnpaa", sum := "8ade7c31e4aa1983eff54f7bf0574a7c33f07732cd2cd3ebc525e603e2d79e9d", func := "paymaster/paymasterlaw02.DecimalBack", spec := "decimalBack", inPlace := ["math/bits.Add64"], unfollowed := true, recurses := true, named := ["math/bits.divideError", "math/bits.overflowError"], apart := false, narrowed := true }
def DecimalBackUptoSaid : Prop := decimalBackUptoRow.holds Try.pinned (OpenSpec.upto decimalBackSpec)

/-- 'paymasterlaw02.DecimalOrder', WHERE WHAT IT READS IS OF BULK AT MOST 1048576: true; the input reads as it did. -/
def decimalOrderUptoRow : OpenClaim := { program := "ytieieafjakcnpaa", sum := "8ade7c31e4aa1983eff54f7bf0574a7c33f07732cd2cd3ebc525e603e2d79e9d", func := "paymaster/paymasterlaw02.DecimalOrder", spec := "decimalOrder", inPlace := ["math/bits.Add64"], unfollowed := true, recurses := true, named := ["math/bits.divideError", "math/bits.overflowError"], apart := false, narrowed := true }
def DecimalOrderUptoSaid : Prop := decimalOrderUptoRow.holds Try.pinned (OpenSpec.upto decimalOrderSpec)

/-- 'paymasterlaw02.DecimalPlaces', WHERE WHAT IT READS IS OF BULK AT MOST 1048576: true; the input reads as it did. -/
def decimalPlacesUptoRow : OpenClaim := { program := "ytieieafjakcnpaa", sum := "8ade7c31e4aa1983eff54f7bf0574a7c33f07732cd2cd3ebc525e603e2d79e9d", func := "paymaster/paymasterlaw02.DecimalPlaces", spec := "decimalPlaces", inPlace := ["math/bits.Add64"], unfollowed := true, recurses := true, named := ["math/bits.divideError", "math/bits.overflowError"], apart := false, narrowed := true }
def DecimalPlacesUptoSaid : Prop := decimalPlacesUptoRow.holds Try.pinned (OpenSpec.upto decimalPlacesSpec)

/-- 'paymasterlaw02.DecimalGroups', WHERE WHAT IT READS IS OF BULK AT MOST 1048576: true; the input reads as it did. -/
def decimalGroupsUptoRow : OpenClaim := { program := "ytieieafjakcnpaa", sum := "8ade7c31e4aa1983eff54f7bf0574a7c33f07732cd2cd3ebc525e603e2d79e9d", func := "paymaster/paymasterlaw02.DecimalGroups", spec := "decimalGroups", inPlace := ["math/bits.Add64"], unfollowed := true, recurses := true, named := ["math/bits.divideError", "math/bits.overflowError"], apart := false, narrowed := true }
def DecimalGroupsUptoSaid : Prop := decimalGroupsUptoRow.holds Try.pinned (OpenSpec.upto decimalGroupsSpec)

end Rows
end Go.Proofs.Ytieieafjakcnpaa
