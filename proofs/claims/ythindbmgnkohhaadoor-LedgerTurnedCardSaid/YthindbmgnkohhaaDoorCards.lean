/-
  DERIVED. GIVEN WITH THE SEED: THE CARDS: each row of YthindbmgnkohhaaDoorRows.lean that lists a variable, with what it lists TIED to the program's text (the seventh form; the later family's looks); each row that meets fmt, with fmt's text TOLD by the authors' own Lean function (tested against real Go, not proved from fmt's source: count such statements apart). THE CARD IS WHAT COUNTS. Prove the row's statement (the work); the ties are given (YthindbmgnkohhaaDoorTie.lean); close each card by the builder's one call (the guide's Derived/Test/ToyasCard.lean, 'card_holds'). Laid BY PROGRAM, IN A SANDBOX (cutbox-door.mjs). By AI agents, Wed Nov 11 2026. No macro, syntax, notation, axiom, sorry.
-/
import Derived.Test.YthindbmgnkohhaaDoorRows
import GoSem.ClaimSeven
namespace Go.Proofs.YthindbmgnkohhaaDoor
namespace Rows

/-- THE TIED CARD OF 'paymasterlaw11.LedgerImports'. -/
def ledgerImportsCard : Claim7 := { stood := { row := ledgerImportsRow, standIns := [], harness := (true, "cf337a6b1c87ac0fe3c7bd63bee39a6aba1fa7f770f04d768f29c71d17c6c285"), looks := false }, kinds := [], alts := [], laidByText := true, laidKinds := [.data, .pinned], laidTests := true, laidLooks := .later }
def LedgerImportsCardSaid : Prop := Claim7.holds Tryd.pinned (.plain (OpenSpec.ofChange ledgerImportsSpec)) ledgerImportsCard

/-- THE TIED CARD OF 'paymasterlaw11.LedgerTurned'. -/
def ledgerTurnedCard : Claim7 := { stood := { row := ledgerTurnedRow, standIns := [], harness := (true, "cf337a6b1c87ac0fe3c7bd63bee39a6aba1fa7f770f04d768f29c71d17c6c285"), looks := false }, kinds := [], alts := [], laidByText := true, laidKinds := [.data, .pinned], laidTests := true, laidLooks := .later }
def LedgerTurnedCardSaid : Prop := Claim7.holds Tryd.pinned (.plain (OpenSpec.ofChange ledgerTurnedSpec)) ledgerTurnedCard

/-- THE TIED CARD OF 'paymasterlaw11.LedgerBack'. -/
def ledgerBackCard : Claim7 := { stood := { row := ledgerBackRow, standIns := [], harness := (true, "cf337a6b1c87ac0fe3c7bd63bee39a6aba1fa7f770f04d768f29c71d17c6c285"), looks := false }, kinds := [], alts := [], laidByText := true, laidKinds := [.data, .pinned], laidTests := true, laidLooks := .later }
def LedgerBackCardSaid : Prop := Claim7.holds Tryd.pinned (.plain (OpenSpec.ofChange ledgerBackSpec)) ledgerBackCard

/-- THE TIED CARD OF 'paymasterlaw11.LedgerFirst'. -/
def ledgerFirstCard : Claim7 := { stood := { row := ledgerFirstRow, standIns := [], harness := (true, "cf337a6b1c87ac0fe3c7bd63bee39a6aba1fa7f770f04d768f29c71d17c6c285"), looks := false }, kinds := [], alts := [], laidByText := true, laidKinds := [.data, .pinned], laidTests := true, laidLooks := .later }
def LedgerFirstCardSaid : Prop := Claim7.holds Tryd.pinned (.plain (OpenSpec.ofChange ledgerFirstSpec)) ledgerFirstCard

/-- THE TIED CARD OF 'paymasterlaw11.LedgerBetween'. -/
def ledgerBetweenCard : Claim7 := { stood := { row := ledgerBetweenRow, standIns := [], harness := (true, "cf337a6b1c87ac0fe3c7bd63bee39a6aba1fa7f770f04d768f29c71d17c6c285"), looks := false }, kinds := [], alts := [], laidByText := true, laidKinds := [.data, .pinned], laidTests := true, laidLooks := .later }
def LedgerBetweenCardSaid : Prop := Claim7.holds Tryd.pinned (.plain (OpenSpec.ofChange ledgerBetweenSpec)) ledgerBetweenCard

/-- THE SECOND FORM's CARD OF 'paymasterlaw11.LedgerImports'. -/
def ledgerImportsUptoCard : Claim7 := { stood := { row := ledgerImportsUptoRow, standIns := [], harness := (true, "cf337a6b1c87ac0fe3c7bd63bee39a6aba1fa7f770f04d768f29c71d17c6c285"), looks := false }, kinds := [], alts := [], laidByText := true, laidKinds := [.data, .pinned], laidTests := true, laidLooks := .later }
def LedgerImportsUptoCardSaid : Prop := Claim7.holds Tryd.pinned (.plain (OpenSpec.upto ledgerImportsSpec)) ledgerImportsUptoCard

/-- THE SECOND FORM's CARD OF 'paymasterlaw11.LedgerTurned'. -/
def ledgerTurnedUptoCard : Claim7 := { stood := { row := ledgerTurnedUptoRow, standIns := [], harness := (true, "cf337a6b1c87ac0fe3c7bd63bee39a6aba1fa7f770f04d768f29c71d17c6c285"), looks := false }, kinds := [], alts := [], laidByText := true, laidKinds := [.data, .pinned], laidTests := true, laidLooks := .later }
def LedgerTurnedUptoCardSaid : Prop := Claim7.holds Tryd.pinned (.plain (OpenSpec.upto ledgerTurnedSpec)) ledgerTurnedUptoCard

/-- THE SECOND FORM's CARD OF 'paymasterlaw11.LedgerBack'. -/
def ledgerBackUptoCard : Claim7 := { stood := { row := ledgerBackUptoRow, standIns := [], harness := (true, "cf337a6b1c87ac0fe3c7bd63bee39a6aba1fa7f770f04d768f29c71d17c6c285"), looks := false }, kinds := [], alts := [], laidByText := true, laidKinds := [.data, .pinned], laidTests := true, laidLooks := .later }
def LedgerBackUptoCardSaid : Prop := Claim7.holds Tryd.pinned (.plain (OpenSpec.upto ledgerBackSpec)) ledgerBackUptoCard

/-- THE SECOND FORM's CARD OF 'paymasterlaw11.LedgerFirst'. -/
def ledgerFirstUptoCard : Claim7 := { stood := { row := ledgerFirstUptoRow, standIns := [], harness := (true, "cf337a6b1c87ac0fe3c7bd63bee39a6aba1fa7f770f04d768f29c71d17c6c285"), looks := false }, kinds := [], alts := [], laidByText := true, laidKinds := [.data, .pinned], laidTests := true, laidLooks := .later }
def LedgerFirstUptoCardSaid : Prop := Claim7.holds Tryd.pinned (.plain (OpenSpec.upto ledgerFirstSpec)) ledgerFirstUptoCard

/-- THE SECOND FORM's CARD OF 'paymasterlaw11.LedgerBetween'. -/
def ledgerBetweenUptoCard : Claim7 := { stood := { row := ledgerBetweenUptoRow, standIns := [], harness := (true, "cf337a6b1c87ac0fe3c7bd63bee39a6aba1fa7f770f04d768f29c71d17c6c285"), looks := false }, kinds := [], alts := [], laidByText := true, laidKinds := [.data, .pinned], laidTests := true, laidLooks := .later }
def LedgerBetweenUptoCardSaid : Prop := Claim7.holds Tryd.pinned (.plain (OpenSpec.upto ledgerBetweenSpec)) ledgerBetweenUptoCard
end Rows
end Go.Proofs.YthindbmgnkohhaaDoor
