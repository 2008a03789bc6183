/-
  DERIVED. GIVEN WITH THE SEED: THE CARDS: each row of YtkpkncgcbghlcaaDoorRows.lean that lists a variable, with what it lists TIED to the program's text (the seventh form; the later family's looks); each row that meets fmt, with fmt's text TOLD by the authors' own Lean function (tested against real Go, not proved from fmt's source: count such statements apart). THE CARD IS WHAT COUNTS. Prove the row's statement (the work); the ties are given (YtkpkncgcbghlcaaDoorTie.lean); close each card by the builder's one call (the guide's Derived/Test/ToyasCard.lean, 'card_holds'). Laid BY PROGRAM, IN A SANDBOX (cutbox-door.mjs). By AI agents, Wed Nov 11 2026. No macro, syntax, notation, axiom, sorry.
-/
import Derived.Test.YtkpkncgcbghlcaaDoorRows
import GoSem.ClaimSeven
namespace Go.Proofs.YtkpkncgcbghlcaaDoor
namespace Rows

/-- THE TIED CARD OF 'paymasterlaw04.BlockRounds'. -/
def blockRoundsCard : Claim7 := { stood := { row := blockRoundsRow, standIns := [], harness := (true, "aa310d6b8497223a5d9458c41f8b0f4351d509783a37d1c7c0e1d5be272dc387"), looks := false }, kinds := [], alts := [], laidByText := true, laidKinds := [.data], laidTests := true, laidLooks := .later }
def BlockRoundsCardSaid : Prop := Claim7.holds Tryd.pinned (.plain (OpenSpec.ofChange blockRoundsSpec)) blockRoundsCard

/-- THE TIED CARD OF 'paymasterlaw04.BlockNext'. -/
def blockNextCard : Claim7 := { stood := { row := blockNextRow, standIns := [], harness := (true, "aa310d6b8497223a5d9458c41f8b0f4351d509783a37d1c7c0e1d5be272dc387"), looks := false }, kinds := [], alts := [], laidByText := true, laidKinds := [.data], laidTests := true, laidLooks := .later }
def BlockNextCardSaid : Prop := Claim7.holds Tryd.pinned (.plain (OpenSpec.ofChange blockNextSpec)) blockNextCard

/-- THE TIED CARD OF 'paymasterlaw04.BlockBack'. -/
def blockBackCard : Claim7 := { stood := { row := blockBackRow, standIns := [], harness := (true, "aa310d6b8497223a5d9458c41f8b0f4351d509783a37d1c7c0e1d5be272dc387"), looks := false }, kinds := [], alts := [], laidByText := true, laidKinds := [.data], laidTests := true, laidLooks := .later }
def BlockBackCardSaid : Prop := Claim7.holds Tryd.pinned (.plain (OpenSpec.ofChange blockBackSpec)) blockBackCard

/-- THE TIED CARD OF 'paymasterlaw04.BlockHang'. -/
def blockHangCard : Claim7 := { stood := { row := blockHangRow, standIns := [], harness := (true, "aa310d6b8497223a5d9458c41f8b0f4351d509783a37d1c7c0e1d5be272dc387"), looks := false }, kinds := [], alts := [], laidByText := true, laidKinds := [.data], laidTests := true, laidLooks := .later }
def BlockHangCardSaid : Prop := Claim7.holds Tryd.pinned (.plain (OpenSpec.ofChange blockHangSpec)) blockHangCard

/-- THE TIED CARD OF 'paymasterlaw04.BlockShifts'. -/
def blockShiftsCard : Claim7 := { stood := { row := blockShiftsRow, standIns := [], harness := (true, "aa310d6b8497223a5d9458c41f8b0f4351d509783a37d1c7c0e1d5be272dc387"), looks := false }, kinds := [], alts := [], laidByText := true, laidKinds := [.data], laidTests := true, laidLooks := .later }
def BlockShiftsCardSaid : Prop := Claim7.holds Tryd.pinned (.plain (OpenSpec.ofChange blockShiftsSpec)) blockShiftsCard

/-- THE SECOND FORM's CARD OF 'paymasterlaw04.BlockRounds'. -/
def blockRoundsUptoCard : Claim7 := { stood := { row := blockRoundsUptoRow, standIns := [], harness := (true, "aa310d6b8497223a5d9458c41f8b0f4351d509783a37d1c7c0e1d5be272dc387"), looks := false }, kinds := [], alts := [], laidByText := true, laidKinds := [.data], laidTests := true, laidLooks := .later }
def BlockRoundsUptoCardSaid : Prop := Claim7.holds Tryd.pinned (.plain (OpenSpec.upto blockRoundsSpec)) blockRoundsUptoCard

/-- THE SECOND FORM's CARD OF 'paymasterlaw04.BlockNext'. -/
def blockNextUptoCard : Claim7 := { stood := { row := blockNextUptoRow, standIns := [], harness := (true, "aa310d6b8497223a5d9458c41f8b0f4351d509783a37d1c7c0e1d5be272dc387"), looks := false }, kinds := [], alts := [], laidByText := true, laidKinds := [.data], laidTests := true, laidLooks := .later }
def BlockNextUptoCardSaid : Prop := Claim7.holds Tryd.pinned (.plain (OpenSpec.upto blockNextSpec)) blockNextUptoCard

/-- THE SECOND FORM's CARD OF 'paymasterlaw04.BlockBack'. -/
def blockBackUptoCard : Claim7 := { stood := { row := blockBackUptoRow, standIns := [], harness := (true, "aa310d6b8497223a5d9458c41f8b0f4351d509783a37d1c7c0e1d5be272dc387"), looks := false }, kinds := [], alts := [], laidByText := true, laidKinds := [.data], laidTests := true, laidLooks := .later }
def BlockBackUptoCardSaid : Prop := Claim7.holds Tryd.pinned (.plain (OpenSpec.upto blockBackSpec)) blockBackUptoCard

/-- THE SECOND FORM's CARD OF 'paymasterlaw04.BlockHang'. -/
def blockHangUptoCard : Claim7 := { stood := { row := blockHangUptoRow, standIns := [], harness := (true, "aa310d6b8497223a5d9458c41f8b0f4351d509783a37d1c7c0e1d5be272dc387"), looks := false }, kinds := [], alts := [], laidByText := true, laidKinds := [.data], laidTests := true, laidLooks := .later }
def BlockHangUptoCardSaid : Prop := Claim7.holds Tryd.pinned (.plain (OpenSpec.upto blockHangSpec)) blockHangUptoCard

/-- THE SECOND FORM's CARD OF 'paymasterlaw04.BlockShifts'. -/
def blockShiftsUptoCard : Claim7 := { stood := { row := blockShiftsUptoRow, standIns := [], harness := (true, "aa310d6b8497223a5d9458c41f8b0f4351d509783a37d1c7c0e1d5be272dc387"), looks := false }, kinds := [], alts := [], laidByText := true, laidKinds := [.data], laidTests := true, laidLooks := .later }
def BlockShiftsUptoCardSaid : Prop := Claim7.holds Tryd.pinned (.plain (OpenSpec.upto blockShiftsSpec)) blockShiftsUptoCard
end Rows
end Go.Proofs.YtkpkncgcbghlcaaDoor
