/-
  DERIVED. GIVEN WITH THE SEED: THE CARDS: each row of YtjndabnegmecmaaDoorRows.lean that lists a variable, with what it lists TIED to the program's text (the seventh form; the later family's looks); each row that meets fmt, with fmt's text TOLD by the authors' own Lean function (tested against real Go, not proved from fmt's source: count such statements apart). THE CARD IS WHAT COUNTS. Prove the row's statement (the work); the ties are given (YtjndabnegmecmaaDoorTie.lean); close each card by the builder's one call (the guide's Derived/Test/ToyasCard.lean, 'card_holds'). Laid BY PROGRAM, IN A SANDBOX (cutbox-door.mjs). By AI agents, Wed Nov 11 2026. No macro, syntax, notation, axiom, sorry.
-/
import Derived.Test.YtjndabnegmecmaaDoorRows
import GoSem.ClaimSeven
namespace Go.Proofs.YtjndabnegmecmaaDoor
namespace Rows

/-- THE TIED CARD OF 'paymasterlaw16.ProofClimbs'. -/
def proofClimbsCard : Claim7 := { stood := { row := proofClimbsRow, standIns := [], harness := (true, "1c6ecb2e3ab37d538d8da5b49fe26afb6e8a797ca81904d1d403b296821fccb8"), looks := false }, kinds := [], alts := [], laidByText := true, laidKinds := [.data, .data, .pinned], laidTests := true, laidLooks := .later }
def ProofClimbsCardSaid : Prop := Claim7.holds Tryd.pinned (.plain (OpenSpec.ofChange proofClimbsSpec)) proofClimbsCard

/-- THE TIED CARD OF 'paymasterlaw16.ProofBeside'. -/
def proofBesideCard : Claim7 := { stood := { row := proofBesideRow, standIns := [], harness := (true, "1c6ecb2e3ab37d538d8da5b49fe26afb6e8a797ca81904d1d403b296821fccb8"), looks := false }, kinds := [], alts := [], laidByText := true, laidKinds := [.data, .data, .pinned], laidTests := true, laidLooks := .later }
def ProofBesideCardSaid : Prop := Claim7.holds Tryd.pinned (.plain (OpenSpec.ofChange proofBesideSpec)) proofBesideCard

/-- THE TIED CARD OF 'paymasterlaw16.ProofChanges'. -/
def proofChangesCard : Claim7 := { stood := { row := proofChangesRow, standIns := [], harness := (true, "1c6ecb2e3ab37d538d8da5b49fe26afb6e8a797ca81904d1d403b296821fccb8"), looks := false }, kinds := [], alts := [], laidByText := true, laidKinds := [.data, .data, .pinned], laidTests := true, laidLooks := .later }
def ProofChangesCardSaid : Prop := Claim7.holds Tryd.pinned (.plain (OpenSpec.ofChange proofChangesSpec)) proofChangesCard

/-- THE SECOND FORM's CARD OF 'paymasterlaw16.ProofClimbs'. -/
def proofClimbsUptoCard : Claim7 := { stood := { row := proofClimbsUptoRow, standIns := [], harness := (true, "1c6ecb2e3ab37d538d8da5b49fe26afb6e8a797ca81904d1d403b296821fccb8"), looks := false }, kinds := [], alts := [], laidByText := true, laidKinds := [.data, .data, .pinned], laidTests := true, laidLooks := .later }
def ProofClimbsUptoCardSaid : Prop := Claim7.holds Tryd.pinned (.plain (OpenSpec.upto proofClimbsSpec)) proofClimbsUptoCard

/-- THE SECOND FORM's CARD OF 'paymasterlaw16.ProofBeside'. -/
def proofBesideUptoCard : Claim7 := { stood := { row := proofBesideUptoRow, standIns := [], harness := (true, "1c6ecb2e3ab37d538d8da5b49fe26afb6e8a797ca81904d1d403b296821fccb8"), looks := false }, kinds := [], alts := [], laidByText := true, laidKinds := [.data, .data, .pinned], laidTests := true, laidLooks := .later }
def ProofBesideUptoCardSaid : Prop := Claim7.holds Tryd.pinned (.plain (OpenSpec.upto proofBesideSpec)) proofBesideUptoCard

/-- THE SECOND FORM's CARD OF 'paymasterlaw16.ProofChanges'. -/
def proofChangesUptoCard : Claim7 := { stood := { row := proofChangesUptoRow, standIns := [], harness := (true, "1c6ecb2e3ab37d538d8da5b49fe26afb6e8a797ca81904d1d403b296821fccb8"), looks := false }, kinds := [], alts := [], laidByText := true, laidKinds := [.data, .data, .pinned], laidTests := true, laidLooks := .later }
def ProofChangesUptoCardSaid : Prop := Claim7.holds Tryd.pinned (.plain (OpenSpec.upto proofChangesSpec)) proofChangesUptoCard
end Rows
end Go.Proofs.YtjndabnegmecmaaDoor
