/-
  DERIVED. GIVEN WITH THE SEED: THE CARDS: each row of YtbhgcmdodjgpmaaDoorRows.lean that lists a variable, with what it lists TIED to the program's text (the seventh form; the later family's looks); each row that meets fmt, with fmt's text TOLD by the authors' own Lean function (tested against real Go, not proved from fmt's source: count such statements apart). THE CARD IS WHAT COUNTS. Prove the row's statement (the work); the ties are given (YtbhgcmdodjgpmaaDoorTie.lean); close each card by the builder's one call (the guide's Derived/Test/ToyasCard.lean, 'card_holds'). Laid BY PROGRAM, IN A SANDBOX (cutbox-door.mjs). By AI agents, Wed Nov 11 2026. No macro, syntax, notation, axiom, sorry.
-/
import Derived.Test.YtbhgcmdodjgpmaaDoorRows
import GoSem.ClaimSeven
namespace Go.Proofs.YtbhgcmdodjgpmaaDoor
namespace Rows

/-- THE TIED CARD OF 'paymasterlaw15.TreeNil'. -/
def treeNilCard : Claim7 := { stood := { row := treeNilRow, standIns := [], harness := (true, "6925c616202a3616daa0a1f9bb33c3bb33de7702e53183a2a1bd3f148ba45d86"), looks := false }, kinds := [], alts := [], laidByText := true, laidKinds := [.data, .data, .pinned], laidTests := true, laidLooks := .later }
def TreeNilCardSaid : Prop := Claim7.holds Tryd.pinned (.plain (OpenSpec.ofChange treeNilSpec)) treeNilCard

/-- THE TIED CARD OF 'paymasterlaw15.TreeFolded'. -/
def treeFoldedCard : Claim7 := { stood := { row := treeFoldedRow, standIns := [], harness := (true, "6925c616202a3616daa0a1f9bb33c3bb33de7702e53183a2a1bd3f148ba45d86"), looks := false }, kinds := [], alts := [], laidByText := true, laidKinds := [.data, .data, .pinned], laidTests := true, laidLooks := .later }
def TreeFoldedCardSaid : Prop := Claim7.holds Tryd.pinned (.plain (OpenSpec.ofChange treeFoldedSpec)) treeFoldedCard

/-- THE TIED CARD OF 'paymasterlaw15.TreeBack'. -/
def treeBackCard : Claim7 := { stood := { row := treeBackRow, standIns := [], harness := (true, "6925c616202a3616daa0a1f9bb33c3bb33de7702e53183a2a1bd3f148ba45d86"), looks := false }, kinds := [], alts := [], laidByText := true, laidKinds := [.data, .data, .pinned], laidTests := true, laidLooks := .later }
def TreeBackCardSaid : Prop := Claim7.holds Tryd.pinned (.plain (OpenSpec.ofChange treeBackSpec)) treeBackCard

/-- THE TIED CARD OF 'paymasterlaw15.TreeOther'. -/
def treeOtherCard : Claim7 := { stood := { row := treeOtherRow, standIns := [], harness := (true, "6925c616202a3616daa0a1f9bb33c3bb33de7702e53183a2a1bd3f148ba45d86"), looks := false }, kinds := [], alts := [], laidByText := true, laidKinds := [.data, .data, .pinned], laidTests := true, laidLooks := .later }
def TreeOtherCardSaid : Prop := Claim7.holds Tryd.pinned (.plain (OpenSpec.ofChange treeOtherSpec)) treeOtherCard

/-- THE SECOND FORM's CARD OF 'paymasterlaw15.TreeNil'. -/
def treeNilUptoCard : Claim7 := { stood := { row := treeNilUptoRow, standIns := [], harness := (true, "6925c616202a3616daa0a1f9bb33c3bb33de7702e53183a2a1bd3f148ba45d86"), looks := false }, kinds := [], alts := [], laidByText := true, laidKinds := [.data, .data, .pinned], laidTests := true, laidLooks := .later }
def TreeNilUptoCardSaid : Prop := Claim7.holds Tryd.pinned (.plain (OpenSpec.upto treeNilSpec)) treeNilUptoCard

/-- THE SECOND FORM's CARD OF 'paymasterlaw15.TreeFolded'. -/
def treeFoldedUptoCard : Claim7 := { stood := { row := treeFoldedUptoRow, standIns := [], harness := (true, "6925c616202a3616daa0a1f9bb33c3bb33de7702e53183a2a1bd3f148ba45d86"), looks := false }, kinds := [], alts := [], laidByText := true, laidKinds := [.data, .data, .pinned], laidTests := true, laidLooks := .later }
def TreeFoldedUptoCardSaid : Prop := Claim7.holds Tryd.pinned (.plain (OpenSpec.upto treeFoldedSpec)) treeFoldedUptoCard

/-- THE SECOND FORM's CARD OF 'paymasterlaw15.TreeBack'. -/
def treeBackUptoCard : Claim7 := { stood := { row := treeBackUptoRow, standIns := [], harness := (true, "6925c616202a3616daa0a1f9bb33c3bb33de7702e53183a2a1bd3f148ba45d86"), looks := false }, kinds := [], alts := [], laidByText := true, laidKinds := [.data, .data, .pinned], laidTests := true, laidLooks := .later }
def TreeBackUptoCardSaid : Prop := Claim7.holds Tryd.pinned (.plain (OpenSpec.upto treeBackSpec)) treeBackUptoCard

/-- THE SECOND FORM's CARD OF 'paymasterlaw15.TreeOther'. -/
def treeOtherUptoCard : Claim7 := { stood := { row := treeOtherUptoRow, standIns := [], harness := (true, "6925c616202a3616daa0a1f9bb33c3bb33de7702e53183a2a1bd3f148ba45d86"), looks := false }, kinds := [], alts := [], laidByText := true, laidKinds := [.data, .data, .pinned], laidTests := true, laidLooks := .later }
def TreeOtherUptoCardSaid : Prop := Claim7.holds Tryd.pinned (.plain (OpenSpec.upto treeOtherSpec)) treeOtherUptoCard
end Rows
end Go.Proofs.YtbhgcmdodjgpmaaDoor
