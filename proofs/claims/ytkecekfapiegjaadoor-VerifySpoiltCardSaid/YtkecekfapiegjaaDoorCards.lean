/-
  DERIVED. GIVEN WITH THE SEED: THE CARDS: each row of YtkecekfapiegjaaDoorRows.lean that lists a variable, with what it lists TIED to the program's text (the seventh form; the later family's looks); each row that meets fmt, with fmt's text TOLD by the authors' own Lean function (tested against real Go, not proved from fmt's source: count such statements apart). THE CARD IS WHAT COUNTS. Prove the row's statement (the work); the ties are given (YtkecekfapiegjaaDoorTie.lean); close each card by the builder's one call (the guide's Derived/Test/ToyasCard.lean, 'card_holds'). Laid BY PROGRAM, IN A SANDBOX (cutbox-door.mjs). By AI agents, Wed Nov 11 2026. No macro, syntax, notation, axiom, sorry.
-/
import Derived.Test.YtkecekfapiegjaaDoorRows
import GoSem.ClaimSeven
namespace Go.Proofs.YtkecekfapiegjaaDoor
namespace Rows

/-- THE TIED CARD OF 'paymasterlaw17.VerifyTells'. -/
def verifyTellsCard : Claim7 := { stood := { row := verifyTellsRow, standIns := [], harness := (true, "2131d7026534015d368bd575f56fa7a9d5a1cfcc77ee4b22fcf06fd663ff16a5"), looks := false }, kinds := [], alts := [], laidByText := true, laidKinds := [.data, .data, .pinned], laidTests := true, laidLooks := .later }
def VerifyTellsCardSaid : Prop := Claim7.holds Tryd.pinned (.plain (OpenSpec.ofChange verifyTellsSpec)) verifyTellsCard

/-- THE TIED CARD OF 'paymasterlaw17.VerifyUps'. -/
def verifyUpsCard : Claim7 := { stood := { row := verifyUpsRow, standIns := [], harness := (true, "2131d7026534015d368bd575f56fa7a9d5a1cfcc77ee4b22fcf06fd663ff16a5"), looks := false }, kinds := [], alts := [], laidByText := true, laidKinds := [.data, .data, .pinned], laidTests := true, laidLooks := .later }
def VerifyUpsCardSaid : Prop := Claim7.holds Tryd.pinned (.plain (OpenSpec.ofChange verifyUpsSpec)) verifyUpsCard

/-- THE TIED CARD OF 'paymasterlaw17.VerifyHigh'. -/
def verifyHighCard : Claim7 := { stood := { row := verifyHighRow, standIns := [], harness := (true, "2131d7026534015d368bd575f56fa7a9d5a1cfcc77ee4b22fcf06fd663ff16a5"), looks := false }, kinds := [], alts := [], laidByText := true, laidKinds := [.data, .data, .pinned], laidTests := true, laidLooks := .later }
def VerifyHighCardSaid : Prop := Claim7.holds Tryd.pinned (.plain (OpenSpec.ofChange verifyHighSpec)) verifyHighCard

/-- THE TIED CARD OF 'paymasterlaw17.VerifyHonest'. -/
def verifyHonestCard : Claim7 := { stood := { row := verifyHonestRow, standIns := [], harness := (true, "2131d7026534015d368bd575f56fa7a9d5a1cfcc77ee4b22fcf06fd663ff16a5"), looks := false }, kinds := [], alts := [], laidByText := true, laidKinds := [.data, .data, .pinned], laidTests := true, laidLooks := .later }
def VerifyHonestCardSaid : Prop := Claim7.holds Tryd.pinned (.plain (OpenSpec.ofChange verifyHonestSpec)) verifyHonestCard

/-- THE TIED CARD OF 'paymasterlaw17.VerifyOne'. -/
def verifyOneCard : Claim7 := { stood := { row := verifyOneRow, standIns := [], harness := (true, "2131d7026534015d368bd575f56fa7a9d5a1cfcc77ee4b22fcf06fd663ff16a5"), looks := false }, kinds := [], alts := [], laidByText := true, laidKinds := [.data, .data, .pinned], laidTests := true, laidLooks := .later }
def VerifyOneCardSaid : Prop := Claim7.holds Tryd.pinned (.plain (OpenSpec.ofChange verifyOneSpec)) verifyOneCard

/-- THE TIED CARD OF 'paymasterlaw17.VerifySpoilt'. -/
def verifySpoiltCard : Claim7 := { stood := { row := verifySpoiltRow, standIns := [], harness := (true, "2131d7026534015d368bd575f56fa7a9d5a1cfcc77ee4b22fcf06fd663ff16a5"), looks := false }, kinds := [], alts := [], laidByText := true, laidKinds := [.data, .data, .pinned], laidTests := true, laidLooks := .later }
def VerifySpoiltCardSaid : Prop := Claim7.holds Tryd.pinned (.plain (OpenSpec.ofChange verifySpoiltSpec)) verifySpoiltCard

/-- THE SECOND FORM's CARD OF 'paymasterlaw17.VerifyTells'. -/
def verifyTellsUptoCard : Claim7 := { stood := { row := verifyTellsUptoRow, standIns := [], harness := (true, "2131d7026534015d368bd575f56fa7a9d5a1cfcc77ee4b22fcf06fd663ff16a5"), looks := false }, kinds := [], alts := [], laidByText := true, laidKinds := [.data, .data, .pinned], laidTests := true, laidLooks := .later }
def VerifyTellsUptoCardSaid : Prop := Claim7.holds Tryd.pinned (.plain (OpenSpec.upto verifyTellsSpec)) verifyTellsUptoCard

/-- THE SECOND FORM's CARD OF 'paymasterlaw17.VerifyUps'. -/
def verifyUpsUptoCard : Claim7 := { stood := { row := verifyUpsUptoRow, standIns := [], harness := (true, "2131d7026534015d368bd575f56fa7a9d5a1cfcc77ee4b22fcf06fd663ff16a5"), looks := false }, kinds := [], alts := [], laidByText := true, laidKinds := [.data, .data, .pinned], laidTests := true, laidLooks := .later }
def VerifyUpsUptoCardSaid : Prop := Claim7.holds Tryd.pinned (.plain (OpenSpec.upto verifyUpsSpec)) verifyUpsUptoCard

/-- THE SECOND FORM's CARD OF 'paymasterlaw17.VerifyHigh'. -/
def verifyHighUptoCard : Claim7 := { stood := { row := verifyHighUptoRow, standIns := [], harness := (true, "2131d7026534015d368bd575f56fa7a9d5a1cfcc77ee4b22fcf06fd663ff16a5"), looks := false }, kinds := [], alts := [], laidByText := true, laidKinds := [.data, .data, .pinned], laidTests := true, laidLooks := .later }
def VerifyHighUptoCardSaid : Prop := Claim7.holds Tryd.pinned (.plain (OpenSpec.upto verifyHighSpec)) verifyHighUptoCard

/-- THE SECOND FORM's CARD OF 'paymasterlaw17.VerifyHonest'. -/
def verifyHonestUptoCard : Claim7 := { stood := { row := verifyHonestUptoRow, standIns := [], harness := (true, "2131d7026534015d368bd575f56fa7a9d5a1cfcc77ee4b22fcf06fd663ff16a5"), looks := false }, kinds := [], alts := [], laidByText := true, laidKinds := [.data, .data, .pinned], laidTests := true, laidLooks := .later }
def VerifyHonestUptoCardSaid : Prop := Claim7.holds Tryd.pinned (.plain (OpenSpec.upto verifyHonestSpec)) verifyHonestUptoCard

/-- THE SECOND FORM's CARD OF 'paymasterlaw17.VerifyOne'. -/
def verifyOneUptoCard : Claim7 := { stood := { row := verifyOneUptoRow, standIns := [], harness := (true, "2131d7026534015d368bd575f56fa7a9d5a1cfcc77ee4b22fcf06fd663ff16a5"), looks := false }, kinds := [], alts := [], laidByText := true, laidKinds := [.data, .data, .pinned], laidTests := true, laidLooks := .later }
def VerifyOneUptoCardSaid : Prop := Claim7.holds Tryd.pinned (.plain (OpenSpec.upto verifyOneSpec)) verifyOneUptoCard

/-- THE SECOND FORM's CARD OF 'paymasterlaw17.VerifySpoilt'. -/
def verifySpoiltUptoCard : Claim7 := { stood := { row := verifySpoiltUptoRow, standIns := [], harness := (true, "2131d7026534015d368bd575f56fa7a9d5a1cfcc77ee4b22fcf06fd663ff16a5"), looks := false }, kinds := [], alts := [], laidByText := true, laidKinds := [.data, .data, .pinned], laidTests := true, laidLooks := .later }
def VerifySpoiltUptoCardSaid : Prop := Claim7.holds Tryd.pinned (.plain (OpenSpec.upto verifySpoiltSpec)) verifySpoiltUptoCard
end Rows
end Go.Proofs.YtkecekfapiegjaaDoor
