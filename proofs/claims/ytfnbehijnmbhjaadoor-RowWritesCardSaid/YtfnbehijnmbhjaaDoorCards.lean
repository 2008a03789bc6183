/-
  DERIVED. GIVEN WITH THE SEED: THE CARDS: each row of YtfnbehijnmbhjaaDoorRows.lean that lists a variable, with what it lists TIED to the program's text (the seventh form; the later family's looks); each row that meets fmt, with fmt's text TOLD by the authors' own Lean function (tested against real Go, not proved from fmt's source: count such statements apart). THE CARD IS WHAT COUNTS. Prove the row's statement (the work); the ties are given (YtfnbehijnmbhjaaDoorTie.lean); close each card by the builder's one call (the guide's Derived/Test/ToyasCard.lean, 'card_holds'). Laid BY PROGRAM, IN A SANDBOX (cutbox-door.mjs). By AI agents, Wed Nov 11 2026. No macro, syntax, notation, axiom, sorry.
-/
import Derived.Test.YtfnbehijnmbhjaaDoorRows
import GoSem.ClaimSeven
namespace Go.Proofs.YtfnbehijnmbhjaaDoor
namespace Rows

/-- THE TIED CARD OF 'paymasterlaw10.RowParses'. -/
def rowParsesCard : Claim7 := { stood := { row := rowParsesRow, standIns := [], harness := (true, "cc0ffe8c5cf96ea56f5a7a67b8ae2a7726cfd051d5165827f91b467c87df1d0e"), looks := false }, kinds := [], alts := [], laidByText := true, laidKinds := [.data, .pinned], laidTests := true, laidLooks := .later }
def RowParsesCardSaid : Prop := Claim7.holds Tryd.pinned (.plain (OpenSpec.ofChange rowParsesSpec)) rowParsesCard

/-- THE TIED CARD OF 'paymasterlaw10.RowAll'. -/
def rowAllCard : Claim7 := { stood := { row := rowAllRow, standIns := [], harness := (true, "cc0ffe8c5cf96ea56f5a7a67b8ae2a7726cfd051d5165827f91b467c87df1d0e"), looks := false }, kinds := [], alts := [], laidByText := true, laidKinds := [.data, .pinned], laidTests := true, laidLooks := .later }
def RowAllCardSaid : Prop := Claim7.holds Tryd.pinned (.plain (OpenSpec.ofChange rowAllSpec)) rowAllCard

/-- THE TIED CARD OF 'paymasterlaw10.RowWrites'. -/
def rowWritesCard : Claim7 := { stood := { row := rowWritesRow, standIns := [], harness := (true, "cc0ffe8c5cf96ea56f5a7a67b8ae2a7726cfd051d5165827f91b467c87df1d0e"), looks := false }, kinds := [], alts := [], laidByText := true, laidKinds := [.data, .pinned], laidTests := true, laidLooks := .later }
def RowWritesCardSaid : Prop := Claim7.holds Tryd.pinned (.plain (OpenSpec.ofChange rowWritesSpec)) rowWritesCard

/-- THE TIED CARD OF 'paymasterlaw10.RowBack'. -/
def rowBackCard : Claim7 := { stood := { row := rowBackRow, standIns := [], harness := (true, "cc0ffe8c5cf96ea56f5a7a67b8ae2a7726cfd051d5165827f91b467c87df1d0e"), looks := false }, kinds := [], alts := [], laidByText := true, laidKinds := [.data, .pinned], laidTests := true, laidLooks := .later }
def RowBackCardSaid : Prop := Claim7.holds Tryd.pinned (.plain (OpenSpec.ofChange rowBackSpec)) rowBackCard

/-- THE TIED CARD OF 'paymasterlaw10.RowWritten'. -/
def rowWrittenCard : Claim7 := { stood := { row := rowWrittenRow, standIns := [], harness := (true, "cc0ffe8c5cf96ea56f5a7a67b8ae2a7726cfd051d5165827f91b467c87df1d0e"), looks := false }, kinds := [], alts := [], laidByText := true, laidKinds := [.data, .pinned], laidTests := true, laidLooks := .later }
def RowWrittenCardSaid : Prop := Claim7.holds Tryd.pinned (.plain (OpenSpec.ofChange rowWrittenSpec)) rowWrittenCard

/-- THE TIED CARD OF 'paymasterlaw10.RowSorted'. -/
def rowSortedCard : Claim7 := { stood := { row := rowSortedRow, standIns := [], harness := (true, "cc0ffe8c5cf96ea56f5a7a67b8ae2a7726cfd051d5165827f91b467c87df1d0e"), looks := false }, kinds := [], alts := [], laidByText := true, laidKinds := [.data, .pinned], laidTests := true, laidLooks := .later }
def RowSortedCardSaid : Prop := Claim7.holds Tryd.pinned (.plain (OpenSpec.ofChange rowSortedSpec)) rowSortedCard

/-- THE TIED CARD OF 'paymasterlaw10.RowFirst'. -/
def rowFirstCard : Claim7 := { stood := { row := rowFirstRow, standIns := [], harness := (true, "cc0ffe8c5cf96ea56f5a7a67b8ae2a7726cfd051d5165827f91b467c87df1d0e"), looks := false }, kinds := [], alts := [], laidByText := true, laidKinds := [.data, .pinned], laidTests := true, laidLooks := .later }
def RowFirstCardSaid : Prop := Claim7.holds Tryd.pinned (.plain (OpenSpec.ofChange rowFirstSpec)) rowFirstCard

/-- THE SECOND FORM's CARD OF 'paymasterlaw10.RowParses'. -/
def rowParsesUptoCard : Claim7 := { stood := { row := rowParsesUptoRow, standIns := [], harness := (true, "cc0ffe8c5cf96ea56f5a7a67b8ae2a7726cfd051d5165827f91b467c87df1d0e"), looks := false }, kinds := [], alts := [], laidByText := true, laidKinds := [.data, .pinned], laidTests := true, laidLooks := .later }
def RowParsesUptoCardSaid : Prop := Claim7.holds Tryd.pinned (.plain (OpenSpec.upto rowParsesSpec)) rowParsesUptoCard

/-- THE SECOND FORM's CARD OF 'paymasterlaw10.RowAll'. -/
def rowAllUptoCard : Claim7 := { stood := { row := rowAllUptoRow, standIns := [], harness := (true, "cc0ffe8c5cf96ea56f5a7a67b8ae2a7726cfd051d5165827f91b467c87df1d0e"), looks := false }, kinds := [], alts := [], laidByText := true, laidKinds := [.data, .pinned], laidTests := true, laidLooks := .later }
def RowAllUptoCardSaid : Prop := Claim7.holds Tryd.pinned (.plain (OpenSpec.upto rowAllSpec)) rowAllUptoCard

/-- THE SECOND FORM's CARD OF 'paymasterlaw10.RowWrites'. -/
def rowWritesUptoCard : Claim7 := { stood := { row := rowWritesUptoRow, standIns := [], harness := (true, "cc0ffe8c5cf96ea56f5a7a67b8ae2a7726cfd051d5165827f91b467c87df1d0e"), looks := false }, kinds := [], alts := [], laidByText := true, laidKinds := [.data, .pinned], laidTests := true, laidLooks := .later }
def RowWritesUptoCardSaid : Prop := Claim7.holds Tryd.pinned (.plain (OpenSpec.upto rowWritesSpec)) rowWritesUptoCard

/-- THE SECOND FORM's CARD OF 'paymasterlaw10.RowBack'. -/
def rowBackUptoCard : Claim7 := { stood := { row := rowBackUptoRow, standIns := [], harness := (true, "cc0ffe8c5cf96ea56f5a7a67b8ae2a7726cfd051d5165827f91b467c87df1d0e"), looks := false }, kinds := [], alts := [], laidByText := true, laidKinds := [.data, .pinned], laidTests := true, laidLooks := .later }
def RowBackUptoCardSaid : Prop := Claim7.holds Tryd.pinned (.plain (OpenSpec.upto rowBackSpec)) rowBackUptoCard

/-- THE SECOND FORM's CARD OF 'paymasterlaw10.RowWritten'. -/
def rowWrittenUptoCard : Claim7 := { stood := { row := rowWrittenUptoRow, standIns := [], harness := (true, "cc0ffe8c5cf96ea56f5a7a67b8ae2a7726cfd051d5165827f91b467c87df1d0e"), looks := false }, kinds := [], alts := [], laidByText := true, laidKinds := [.data, .pinned], laidTests := true, laidLooks := .later }
def RowWrittenUptoCardSaid : Prop := Claim7.holds Tryd.pinned (.plain (OpenSpec.upto rowWrittenSpec)) rowWrittenUptoCard

/-- THE SECOND FORM's CARD OF 'paymasterlaw10.RowSorted'. -/
def rowSortedUptoCard : Claim7 := { stood := { row := rowSortedUptoRow, standIns := [], harness := (true, "cc0ffe8c5cf96ea56f5a7a67b8ae2a7726cfd051d5165827f91b467c87df1d0e"), looks := false }, kinds := [], alts := [], laidByText := true, laidKinds := [.data, .pinned], laidTests := true, laidLooks := .later }
def RowSortedUptoCardSaid : Prop := Claim7.holds Tryd.pinned (.plain (OpenSpec.upto rowSortedSpec)) rowSortedUptoCard

/-- THE SECOND FORM's CARD OF 'paymasterlaw10.RowFirst'. -/
def rowFirstUptoCard : Claim7 := { stood := { row := rowFirstUptoRow, standIns := [], harness := (true, "cc0ffe8c5cf96ea56f5a7a67b8ae2a7726cfd051d5165827f91b467c87df1d0e"), looks := false }, kinds := [], alts := [], laidByText := true, laidKinds := [.data, .pinned], laidTests := true, laidLooks := .later }
def RowFirstUptoCardSaid : Prop := Claim7.holds Tryd.pinned (.plain (OpenSpec.upto rowFirstSpec)) rowFirstUptoCard
end Rows
end Go.Proofs.YtfnbehijnmbhjaaDoor
