/-
  DERIVED. GIVEN WITH THE SEED: THE CARDS: each row of YtmflhodiibjpnaaDoorRows.lean that lists a variable, with what it lists TIED to the program's text (the seventh form; the later family's looks); each row that meets fmt, with fmt's text TOLD by the authors' own Lean function (tested against real Go, not proved from fmt's source: count such statements apart). THE CARD IS WHAT COUNTS. Prove the row's statement (the work); the ties are given (YtmflhodiibjpnaaDoorTie.lean); close each card by the builder's one call (the guide's Derived/Test/ToyasCard.lean, 'card_holds'). Laid BY PROGRAM, IN A SANDBOX (cutbox-door.mjs). By AI agents, Wed Nov 11 2026. No macro, syntax, notation, axiom, sorry.
-/
import Derived.Test.YtmflhodiibjpnaaDoorRows
import GoSem.ClaimSeven
namespace Go.Proofs.YtmflhodiibjpnaaDoor
namespace Rows

/-- THE TIED CARD OF 'paymasterlaw13.PackRoots'. -/
def packRootsCard : Claim7 := { stood := { row := packRootsRow, standIns := [], harness := (true, "ba78a45e11083cd44958bf028d1ec35a12a27d5ab31891c80ee2e57284454f26"), looks := false }, kinds := [], alts := [], laidByText := true, laidKinds := [.data, .pinned], laidTests := true, laidLooks := .later }
def PackRootsCardSaid : Prop := Claim7.holds Tryd.pinned (.plain (OpenSpec.ofChange packRootsSpec)) packRootsCard

/-- THE SECOND FORM's CARD OF 'paymasterlaw13.PackRoots'. -/
def packRootsUptoCard : Claim7 := { stood := { row := packRootsUptoRow, standIns := [], harness := (true, "ba78a45e11083cd44958bf028d1ec35a12a27d5ab31891c80ee2e57284454f26"), looks := false }, kinds := [], alts := [], laidByText := true, laidKinds := [.data, .pinned], laidTests := true, laidLooks := .later }
def PackRootsUptoCardSaid : Prop := Claim7.holds Tryd.pinned (.plain (OpenSpec.upto packRootsSpec)) packRootsUptoCard
end Rows
end Go.Proofs.YtmflhodiibjpnaaDoor
