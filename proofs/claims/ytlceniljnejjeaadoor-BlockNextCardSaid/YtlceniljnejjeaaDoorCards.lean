/-
  DERIVED. GIVEN WITH THE SEED: THE CARDS: each row of YtlceniljnejjeaaDoorRows.lean that lists a variable, with what it lists TIED to the program's text (the seventh form; the later family's looks); each row that meets fmt, with fmt's text TOLD by the authors' own Lean function (tested against real Go, not proved from fmt's source: count such statements apart). THE CARD IS WHAT COUNTS. Prove the row's statement (the work); the ties are given (YtlceniljnejjeaaDoorTie.lean); close each card by the builder's one call (the guide's Derived/Test/ToyasCard.lean, 'card_holds'). Laid BY PROGRAM, IN A SANDBOX (cutbox-door.mjs). By AI agents, Wed Nov 11 2026. No macro, syntax, notation, axiom, sorry.
-/
import Derived.Test.YtlceniljnejjeaaDoorRows
import GoSem.ClaimSeven
namespace Go.Proofs.YtlceniljnejjeaaDoor
namespace Rows

/-- THE TIED CARD OF 'paymasterlaw04.BlockRounds'. -/
def blockRoundsCard : Claim7 := { stood := { row := blockRoundsRow, standIns := [], harness := (true, "a5e8cffaa33e945fd6eb7ee52c2b1466487787b79816c6dab6be9ba5429d9f83"), looks := false }, kinds := [], alts := [], laidByText := true, laidKinds := [.data], laidTests := true, laidLooks := .later }
def BlockRoundsCardSaid : Prop := Claim7.holds Tryd.pinned (.plain (OpenSpec.ofChange blockRoundsSpec)) blockRoundsCard

/-- THE TIED CARD OF 'paymasterlaw04.BlockNext'. -/
def blockNextCard : Claim7 := { stood := { row := blockNextRow, standIns := [], harness := (true, "a5e8cffaa33e945fd6eb7ee52c2b1466487787b79816c6dab6be9ba5429d9f83"), looks := false }, kinds := [], alts := [], laidByText := true, laidKinds := [.data], laidTests := true, laidLooks := .later }
def BlockNextCardSaid : Prop := Claim7.holds Tryd.pinned (.plain (OpenSpec.ofChange blockNextSpec)) blockNextCard

/-- THE TIED CARD OF 'paymasterlaw04.BlockShifts'. -/
def blockShiftsCard : Claim7 := { stood := { row := blockShiftsRow, standIns := [], harness := (true, "a5e8cffaa33e945fd6eb7ee52c2b1466487787b79816c6dab6be9ba5429d9f83"), looks := false }, kinds := [], alts := [], laidByText := true, laidKinds := [.data], laidTests := true, laidLooks := .later }
def BlockShiftsCardSaid : Prop := Claim7.holds Tryd.pinned (.plain (OpenSpec.ofChange blockShiftsSpec)) blockShiftsCard

/-- THE TIED CARD OF 'paymasterlaw05.ShaSums'. -/
def shaSumsCard : Claim7 := { stood := { row := shaSumsRow, standIns := [], harness := (true, "a5e8cffaa33e945fd6eb7ee52c2b1466487787b79816c6dab6be9ba5429d9f83"), looks := false }, kinds := [], alts := [], laidByText := true, laidKinds := [.data], laidTests := true, laidLooks := .later }
def ShaSumsCardSaid : Prop := Claim7.holds Tryd.pinned (.plain (OpenSpec.ofChange shaSumsSpec)) shaSumsCard

/-- THE TIED CARD OF 'paymasterlaw05.ShaRuns'. -/
def shaRunsCard : Claim7 := { stood := { row := shaRunsRow, standIns := [], harness := (true, "a5e8cffaa33e945fd6eb7ee52c2b1466487787b79816c6dab6be9ba5429d9f83"), looks := false }, kinds := [], alts := [], laidByText := true, laidKinds := [.data], laidTests := true, laidLooks := .later }
def ShaRunsCardSaid : Prop := Claim7.holds Tryd.pinned (.plain (OpenSpec.ofChange shaRunsSpec)) shaRunsCard

/-- THE TIED CARD OF 'paymasterlaw05.ShaNil'. -/
def shaNilCard : Claim7 := { stood := { row := shaNilRow, standIns := [], harness := (true, "a5e8cffaa33e945fd6eb7ee52c2b1466487787b79816c6dab6be9ba5429d9f83"), looks := false }, kinds := [], alts := [], laidByText := true, laidKinds := [.data], laidTests := true, laidLooks := .later }
def ShaNilCardSaid : Prop := Claim7.holds Tryd.pinned (.plain (OpenSpec.ofChange shaNilSpec)) shaNilCard

/-- THE TIED CARD OF 'paymasterlaw05.ShaPieces'. -/
def shaPiecesCard : Claim7 := { stood := { row := shaPiecesRow, standIns := [], harness := (true, "a5e8cffaa33e945fd6eb7ee52c2b1466487787b79816c6dab6be9ba5429d9f83"), looks := false }, kinds := [], alts := [], laidByText := true, laidKinds := [.data], laidTests := true, laidLooks := .later }
def ShaPiecesCardSaid : Prop := Claim7.holds Tryd.pinned (.plain (OpenSpec.ofChange shaPiecesSpec)) shaPiecesCard

/-- THE TIED CARD OF 'paymasterlaw05.ShaBlocks'. -/
def shaBlocksCard : Claim7 := { stood := { row := shaBlocksRow, standIns := [], harness := (true, "a5e8cffaa33e945fd6eb7ee52c2b1466487787b79816c6dab6be9ba5429d9f83"), looks := false }, kinds := [], alts := [], laidByText := true, laidKinds := [.data], laidTests := true, laidLooks := .later }
def ShaBlocksCardSaid : Prop := Claim7.holds Tryd.pinned (.plain (OpenSpec.ofChange shaBlocksSpec)) shaBlocksCard

/-- THE TIED CARD OF 'paymasterlaw05.ShaPadded'. -/
def shaPaddedCard : Claim7 := { stood := { row := shaPaddedRow, standIns := [], harness := (true, "a5e8cffaa33e945fd6eb7ee52c2b1466487787b79816c6dab6be9ba5429d9f83"), looks := false }, kinds := [], alts := [], laidByText := true, laidKinds := [.data], laidTests := true, laidLooks := .later }
def ShaPaddedCardSaid : Prop := Claim7.holds Tryd.pinned (.plain (OpenSpec.ofChange shaPaddedSpec)) shaPaddedCard

/-- THE TIED CARD OF 'paymasterlaw05.ShaHex'. -/
def shaHexCard : Claim7 := { stood := { row := shaHexRow, standIns := [], harness := (true, "a5e8cffaa33e945fd6eb7ee52c2b1466487787b79816c6dab6be9ba5429d9f83"), looks := false }, kinds := [], alts := [], laidByText := true, laidKinds := [.data], laidTests := true, laidLooks := .later }
def ShaHexCardSaid : Prop := Claim7.holds Tryd.pinned (.plain (OpenSpec.ofChange shaHexSpec)) shaHexCard

/-- THE SECOND FORM's CARD OF 'paymasterlaw04.BlockRounds'. -/
def blockRoundsUptoCard : Claim7 := { stood := { row := blockRoundsUptoRow, standIns := [], harness := (true, "a5e8cffaa33e945fd6eb7ee52c2b1466487787b79816c6dab6be9ba5429d9f83"), looks := false }, kinds := [], alts := [], laidByText := true, laidKinds := [.data], laidTests := true, laidLooks := .later }
def BlockRoundsUptoCardSaid : Prop := Claim7.holds Tryd.pinned (.plain (OpenSpec.upto blockRoundsSpec)) blockRoundsUptoCard

/-- THE SECOND FORM's CARD OF 'paymasterlaw04.BlockNext'. -/
def blockNextUptoCard : Claim7 := { stood := { row := blockNextUptoRow, standIns := [], harness := (true, "a5e8cffaa33e945fd6eb7ee52c2b1466487787b79816c6dab6be9ba5429d9f83"), looks := false }, kinds := [], alts := [], laidByText := true, laidKinds := [.data], laidTests := true, laidLooks := .later }
def BlockNextUptoCardSaid : Prop := Claim7.holds Tryd.pinned (.plain (OpenSpec.upto blockNextSpec)) blockNextUptoCard

/-- THE SECOND FORM's CARD OF 'paymasterlaw04.BlockShifts'. -/
def blockShiftsUptoCard : Claim7 := { stood := { row := blockShiftsUptoRow, standIns := [], harness := (true, "a5e8cffaa33e945fd6eb7ee52c2b1466487787b79816c6dab6be9ba5429d9f83"), looks := false }, kinds := [], alts := [], laidByText := true, laidKinds := [.data], laidTests := true, laidLooks := .later }
def BlockShiftsUptoCardSaid : Prop := Claim7.holds Tryd.pinned (.plain (OpenSpec.upto blockShiftsSpec)) blockShiftsUptoCard

/-- THE SECOND FORM's CARD OF 'paymasterlaw05.ShaSums'. -/
def shaSumsUptoCard : Claim7 := { stood := { row := shaSumsUptoRow, standIns := [], harness := (true, "a5e8cffaa33e945fd6eb7ee52c2b1466487787b79816c6dab6be9ba5429d9f83"), looks := false }, kinds := [], alts := [], laidByText := true, laidKinds := [.data], laidTests := true, laidLooks := .later }
def ShaSumsUptoCardSaid : Prop := Claim7.holds Tryd.pinned (.plain (OpenSpec.upto shaSumsSpec)) shaSumsUptoCard

/-- THE SECOND FORM's CARD OF 'paymasterlaw05.ShaRuns'. -/
def shaRunsUptoCard : Claim7 := { stood := { row := shaRunsUptoRow, standIns := [], harness := (true, "a5e8cffaa33e945fd6eb7ee52c2b1466487787b79816c6dab6be9ba5429d9f83"), looks := false }, kinds := [], alts := [], laidByText := true, laidKinds := [.data], laidTests := true, laidLooks := .later }
def ShaRunsUptoCardSaid : Prop := Claim7.holds Tryd.pinned (.plain (OpenSpec.upto shaRunsSpec)) shaRunsUptoCard

/-- THE SECOND FORM's CARD OF 'paymasterlaw05.ShaNil'. -/
def shaNilUptoCard : Claim7 := { stood := { row := shaNilUptoRow, standIns := [], harness := (true, "a5e8cffaa33e945fd6eb7ee52c2b1466487787b79816c6dab6be9ba5429d9f83"), looks := false }, kinds := [], alts := [], laidByText := true, laidKinds := [.data], laidTests := true, laidLooks := .later }
def ShaNilUptoCardSaid : Prop := Claim7.holds Tryd.pinned (.plain (OpenSpec.upto shaNilSpec)) shaNilUptoCard

/-- THE SECOND FORM's CARD OF 'paymasterlaw05.ShaPieces'. -/
def shaPiecesUptoCard : Claim7 := { stood := { row := shaPiecesUptoRow, standIns := [], harness := (true, "a5e8cffaa33e945fd6eb7ee52c2b1466487787b79816c6dab6be9ba5429d9f83"), looks := false }, kinds := [], alts := [], laidByText := true, laidKinds := [.data], laidTests := true, laidLooks := .later }
def ShaPiecesUptoCardSaid : Prop := Claim7.holds Tryd.pinned (.plain (OpenSpec.upto shaPiecesSpec)) shaPiecesUptoCard

/-- THE SECOND FORM's CARD OF 'paymasterlaw05.ShaBlocks'. -/
def shaBlocksUptoCard : Claim7 := { stood := { row := shaBlocksUptoRow, standIns := [], harness := (true, "a5e8cffaa33e945fd6eb7ee52c2b1466487787b79816c6dab6be9ba5429d9f83"), looks := false }, kinds := [], alts := [], laidByText := true, laidKinds := [.data], laidTests := true, laidLooks := .later }
def ShaBlocksUptoCardSaid : Prop := Claim7.holds Tryd.pinned (.plain (OpenSpec.upto shaBlocksSpec)) shaBlocksUptoCard

/-- THE SECOND FORM's CARD OF 'paymasterlaw05.ShaPadded'. -/
def shaPaddedUptoCard : Claim7 := { stood := { row := shaPaddedUptoRow, standIns := [], harness := (true, "a5e8cffaa33e945fd6eb7ee52c2b1466487787b79816c6dab6be9ba5429d9f83"), looks := false }, kinds := [], alts := [], laidByText := true, laidKinds := [.data], laidTests := true, laidLooks := .later }
def ShaPaddedUptoCardSaid : Prop := Claim7.holds Tryd.pinned (.plain (OpenSpec.upto shaPaddedSpec)) shaPaddedUptoCard

/-- THE SECOND FORM's CARD OF 'paymasterlaw05.ShaHex'. -/
def shaHexUptoCard : Claim7 := { stood := { row := shaHexUptoRow, standIns := [], harness := (true, "a5e8cffaa33e945fd6eb7ee52c2b1466487787b79816c6dab6be9ba5429d9f83"), looks := false }, kinds := [], alts := [], laidByText := true, laidKinds := [.data], laidTests := true, laidLooks := .later }
def ShaHexUptoCardSaid : Prop := Claim7.holds Tryd.pinned (.plain (OpenSpec.upto shaHexSpec)) shaHexUptoCard
end Rows
end Go.Proofs.YtlceniljnejjeaaDoor
