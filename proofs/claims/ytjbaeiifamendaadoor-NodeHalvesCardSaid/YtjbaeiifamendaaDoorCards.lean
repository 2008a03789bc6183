/-
  DERIVED. GIVEN WITH THE SEED: THE CARDS: each row of YtjbaeiifamendaaDoorRows.lean that lists a variable, with what it lists TIED to the program's text (the seventh form; the later family's looks); each row that meets fmt, with fmt's text TOLD by the authors' own Lean function (tested against real Go, not proved from fmt's source: count such statements apart). THE CARD IS WHAT COUNTS. Prove the row's statement (the work); the ties are given (YtjbaeiifamendaaDoorTie.lean); close each card by the builder's one call (the guide's Derived/Test/ToyasCard.lean, 'card_holds'). Laid BY PROGRAM, IN A SANDBOX (cutbox-door.mjs). By AI agents, Wed Nov 11 2026. No macro, syntax, notation, axiom, sorry.
-/
import Derived.Test.YtjbaeiifamendaaDoorRows
import GoSem.ClaimSeven
namespace Go.Proofs.YtjbaeiifamendaaDoor
namespace Rows

/-- THE TIED CARD OF 'paymasterlaw14.NodeJoins'. -/
def nodeJoinsCard : Claim7 := { stood := { row := nodeJoinsRow, standIns := [], harness := (true, "745e973e756d420365d85d7b15a09b11ae4bdfe50577f45371134ee1e0dd69ce"), looks := false }, kinds := [], alts := [], laidByText := true, laidKinds := [.data], laidTests := true, laidLooks := .later }
def NodeJoinsCardSaid : Prop := Claim7.holds Tryd.pinned (.plain (OpenSpec.ofChange nodeJoinsSpec)) nodeJoinsCard

/-- THE TIED CARD OF 'paymasterlaw14.NodeClimbs'. -/
def nodeClimbsCard : Claim7 := { stood := { row := nodeClimbsRow, standIns := [], harness := (true, "745e973e756d420365d85d7b15a09b11ae4bdfe50577f45371134ee1e0dd69ce"), looks := false }, kinds := [], alts := [], laidByText := true, laidKinds := [.data], laidTests := true, laidLooks := .later }
def NodeClimbsCardSaid : Prop := Claim7.holds Tryd.pinned (.plain (OpenSpec.ofChange nodeClimbsSpec)) nodeClimbsCard

/-- THE TIED CARD OF 'paymasterlaw14.NodeFolds'. -/
def nodeFoldsCard : Claim7 := { stood := { row := nodeFoldsRow, standIns := [], harness := (true, "745e973e756d420365d85d7b15a09b11ae4bdfe50577f45371134ee1e0dd69ce"), looks := false }, kinds := [], alts := [], laidByText := true, laidKinds := [.data], laidTests := true, laidLooks := .later }
def NodeFoldsCardSaid : Prop := Claim7.holds Tryd.pinned (.plain (OpenSpec.ofChange nodeFoldsSpec)) nodeFoldsCard

/-- THE TIED CARD OF 'paymasterlaw14.NodeSums'. -/
def nodeSumsCard : Claim7 := { stood := { row := nodeSumsRow, standIns := [], harness := (true, "745e973e756d420365d85d7b15a09b11ae4bdfe50577f45371134ee1e0dd69ce"), looks := false }, kinds := [], alts := [], laidByText := true, laidKinds := [.data], laidTests := true, laidLooks := .later }
def NodeSumsCardSaid : Prop := Claim7.holds Tryd.pinned (.plain (OpenSpec.ofChange nodeSumsSpec)) nodeSumsCard

/-- THE TIED CARD OF 'paymasterlaw14.NodePlaces'. -/
def nodePlacesCard : Claim7 := { stood := { row := nodePlacesRow, standIns := [], harness := (true, "745e973e756d420365d85d7b15a09b11ae4bdfe50577f45371134ee1e0dd69ce"), looks := false }, kinds := [], alts := [], laidByText := true, laidKinds := [.data], laidTests := true, laidLooks := .later }
def NodePlacesCardSaid : Prop := Claim7.holds Tryd.pinned (.plain (OpenSpec.ofChange nodePlacesSpec)) nodePlacesCard

/-- THE TIED CARD OF 'paymasterlaw14.NodeHalves'. -/
def nodeHalvesCard : Claim7 := { stood := { row := nodeHalvesRow, standIns := [], harness := (true, "745e973e756d420365d85d7b15a09b11ae4bdfe50577f45371134ee1e0dd69ce"), looks := false }, kinds := [], alts := [], laidByText := true, laidKinds := [.data], laidTests := true, laidLooks := .later }
def NodeHalvesCardSaid : Prop := Claim7.holds Tryd.pinned (.plain (OpenSpec.ofChange nodeHalvesSpec)) nodeHalvesCard

/-- THE SECOND FORM's CARD OF 'paymasterlaw14.NodeJoins'. -/
def nodeJoinsUptoCard : Claim7 := { stood := { row := nodeJoinsUptoRow, standIns := [], harness := (true, "745e973e756d420365d85d7b15a09b11ae4bdfe50577f45371134ee1e0dd69ce"), looks := false }, kinds := [], alts := [], laidByText := true, laidKinds := [.data], laidTests := true, laidLooks := .later }
def NodeJoinsUptoCardSaid : Prop := Claim7.holds Tryd.pinned (.plain (OpenSpec.upto nodeJoinsSpec)) nodeJoinsUptoCard

/-- THE SECOND FORM's CARD OF 'paymasterlaw14.NodeClimbs'. -/
def nodeClimbsUptoCard : Claim7 := { stood := { row := nodeClimbsUptoRow, standIns := [], harness := (true, "745e973e756d420365d85d7b15a09b11ae4bdfe50577f45371134ee1e0dd69ce"), looks := false }, kinds := [], alts := [], laidByText := true, laidKinds := [.data], laidTests := true, laidLooks := .later }
def NodeClimbsUptoCardSaid : Prop := Claim7.holds Tryd.pinned (.plain (OpenSpec.upto nodeClimbsSpec)) nodeClimbsUptoCard

/-- THE SECOND FORM's CARD OF 'paymasterlaw14.NodeFolds'. -/
def nodeFoldsUptoCard : Claim7 := { stood := { row := nodeFoldsUptoRow, standIns := [], harness := (true, "745e973e756d420365d85d7b15a09b11ae4bdfe50577f45371134ee1e0dd69ce"), looks := false }, kinds := [], alts := [], laidByText := true, laidKinds := [.data], laidTests := true, laidLooks := .later }
def NodeFoldsUptoCardSaid : Prop := Claim7.holds Tryd.pinned (.plain (OpenSpec.upto nodeFoldsSpec)) nodeFoldsUptoCard

/-- THE SECOND FORM's CARD OF 'paymasterlaw14.NodeSums'. -/
def nodeSumsUptoCard : Claim7 := { stood := { row := nodeSumsUptoRow, standIns := [], harness := (true, "745e973e756d420365d85d7b15a09b11ae4bdfe50577f45371134ee1e0dd69ce"), looks := false }, kinds := [], alts := [], laidByText := true, laidKinds := [.data], laidTests := true, laidLooks := .later }
def NodeSumsUptoCardSaid : Prop := Claim7.holds Tryd.pinned (.plain (OpenSpec.upto nodeSumsSpec)) nodeSumsUptoCard

/-- THE SECOND FORM's CARD OF 'paymasterlaw14.NodePlaces'. -/
def nodePlacesUptoCard : Claim7 := { stood := { row := nodePlacesUptoRow, standIns := [], harness := (true, "745e973e756d420365d85d7b15a09b11ae4bdfe50577f45371134ee1e0dd69ce"), looks := false }, kinds := [], alts := [], laidByText := true, laidKinds := [.data], laidTests := true, laidLooks := .later }
def NodePlacesUptoCardSaid : Prop := Claim7.holds Tryd.pinned (.plain (OpenSpec.upto nodePlacesSpec)) nodePlacesUptoCard

/-- THE SECOND FORM's CARD OF 'paymasterlaw14.NodeHalves'. -/
def nodeHalvesUptoCard : Claim7 := { stood := { row := nodeHalvesUptoRow, standIns := [], harness := (true, "745e973e756d420365d85d7b15a09b11ae4bdfe50577f45371134ee1e0dd69ce"), looks := false }, kinds := [], alts := [], laidByText := true, laidKinds := [.data], laidTests := true, laidLooks := .later }
def NodeHalvesUptoCardSaid : Prop := Claim7.holds Tryd.pinned (.plain (OpenSpec.upto nodeHalvesSpec)) nodeHalvesUptoCard
end Rows
end Go.Proofs.YtjbaeiifamendaaDoor
