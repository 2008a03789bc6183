/-
  DERIVED. GIVEN WITH THE SEED: THE CARDS: each row of YtjndabnegmecmaaGreatDoorRows.lean that lists a variable, with what it lists TIED to the program's text (the seventh form; the later family's looks); each row that meets fmt, with fmt's text TOLD by the authors' own Lean function (tested against real Go, not proved from fmt's source: count such statements apart). THE CARD IS WHAT COUNTS. Prove the row's statement (the work); the ties are given (YtjndabnegmecmaaGreatDoorTie.lean); close each card by the builder's one call (the guide's Derived/Test/ToyasCard.lean, 'card_holds'). Laid BY PROGRAM, IN A SANDBOX (cutbox-door.mjs). By AI agents, Wed Nov 11 2026. No macro, syntax, notation, axiom, sorry.
-/
import Derived.Test.YtjndabnegmecmaaGreatDoorRows
import GoSem.ClaimSeven
namespace Go.Proofs.YtjndabnegmecmaaGreatDoor
namespace Rows

/-- THE TIED CARD OF 'paymasterlaw16.ProofOf'. -/
def proofOfCard : Claim7 := { stood := { row := proofOfRow, standIns := [], harness := (true, "ad57d2141b4fc4283d998f5fb5081236f0fc184f9b3962d386a983ca41aa3243"), looks := false }, kinds := [], alts := [], laidByText := true, laidKinds := [.data, .data, .pinned], laidTests := true, laidLooks := .later }
def ProofOfCardSaid : Prop := Claim7.holds Tryz.pinned (.plain (OpenSpec.ofChange proofOfSpec)) proofOfCard

/-- THE SECOND FORM's CARD OF 'paymasterlaw16.ProofOf'. -/
def proofOfUptoCard : Claim7 := { stood := { row := proofOfUptoRow, standIns := [], harness := (true, "ad57d2141b4fc4283d998f5fb5081236f0fc184f9b3962d386a983ca41aa3243"), looks := false }, kinds := [], alts := [], laidByText := true, laidKinds := [.data, .data, .pinned], laidTests := true, laidLooks := .later }
def ProofOfUptoCardSaid : Prop := Claim7.holds Tryz.pinned (.plain (OpenSpec.upto proofOfSpec)) proofOfUptoCard
end Rows
end Go.Proofs.YtjndabnegmecmaaGreatDoor
