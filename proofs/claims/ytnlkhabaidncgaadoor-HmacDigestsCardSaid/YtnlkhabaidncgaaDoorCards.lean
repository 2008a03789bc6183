/-
  DERIVED. GIVEN WITH THE SEED: THE CARDS: each row of YtnlkhabaidncgaaDoorRows.lean that lists a variable, with what it lists TIED to the program's text (the seventh form; the later family's looks); each row that meets fmt, with fmt's text TOLD by the authors' own Lean function (tested against real Go, not proved from fmt's source: count such statements apart). THE CARD IS WHAT COUNTS. Prove the row's statement (the work); the ties are given (YtnlkhabaidncgaaDoorTie.lean); close each card by the builder's one call (the guide's Derived/Test/ToyasCard.lean, 'card_holds'). Laid BY PROGRAM, IN A SANDBOX (cutbox-door.mjs). By AI agents, Wed Nov 11 2026. No macro, syntax, notation, axiom, sorry.
-/
import Derived.Test.YtnlkhabaidncgaaDoorRows
import GoSem.ClaimSeven
namespace Go.Proofs.YtnlkhabaidncgaaDoor
namespace Rows

/-- THE TIED CARD OF 'paymasterlaw06.HmacSums'. -/
def hmacSumsCard : Claim7 := { stood := { row := hmacSumsRow, standIns := [], harness := (true, "6685686f617c8781ff4fce07f34b9f8a4ff0d698c34ae467b96ad81e85a7b2f6"), looks := false }, kinds := [], alts := [], laidByText := true, laidKinds := [.data], laidTests := true, laidLooks := .later }
def HmacSumsCardSaid : Prop := Claim7.holds Tryd.pinned (.plain (OpenSpec.ofChange hmacSumsSpec)) hmacSumsCard

/-- THE TIED CARD OF 'paymasterlaw06.HmacRuns'. -/
def hmacRunsCard : Claim7 := { stood := { row := hmacRunsRow, standIns := [], harness := (true, "6685686f617c8781ff4fce07f34b9f8a4ff0d698c34ae467b96ad81e85a7b2f6"), looks := false }, kinds := [], alts := [], laidByText := true, laidKinds := [.data], laidTests := true, laidLooks := .later }
def HmacRunsCardSaid : Prop := Claim7.holds Tryd.pinned (.plain (OpenSpec.ofChange hmacRunsSpec)) hmacRunsCard

/-- THE TIED CARD OF 'paymasterlaw06.HmacNil'. -/
def hmacNilCard : Claim7 := { stood := { row := hmacNilRow, standIns := [], harness := (true, "6685686f617c8781ff4fce07f34b9f8a4ff0d698c34ae467b96ad81e85a7b2f6"), looks := false }, kinds := [], alts := [], laidByText := true, laidKinds := [.data], laidTests := true, laidLooks := .later }
def HmacNilCardSaid : Prop := Claim7.holds Tryd.pinned (.plain (OpenSpec.ofChange hmacNilSpec)) hmacNilCard

/-- THE TIED CARD OF 'paymasterlaw06.HmacPieces'. -/
def hmacPiecesCard : Claim7 := { stood := { row := hmacPiecesRow, standIns := [], harness := (true, "6685686f617c8781ff4fce07f34b9f8a4ff0d698c34ae467b96ad81e85a7b2f6"), looks := false }, kinds := [], alts := [], laidByText := true, laidKinds := [.data], laidTests := true, laidLooks := .later }
def HmacPiecesCardSaid : Prop := Claim7.holds Tryd.pinned (.plain (OpenSpec.ofChange hmacPiecesSpec)) hmacPiecesCard

/-- THE TIED CARD OF 'paymasterlaw06.HmacKeys'. -/
def hmacKeysCard : Claim7 := { stood := { row := hmacKeysRow, standIns := [], harness := (true, "6685686f617c8781ff4fce07f34b9f8a4ff0d698c34ae467b96ad81e85a7b2f6"), looks := false }, kinds := [], alts := [], laidByText := true, laidKinds := [.data], laidTests := true, laidLooks := .later }
def HmacKeysCardSaid : Prop := Claim7.holds Tryd.pinned (.plain (OpenSpec.ofChange hmacKeysSpec)) hmacKeysCard

/-- THE TIED CARD OF 'paymasterlaw06.HmacDigests'. -/
def hmacDigestsCard : Claim7 := { stood := { row := hmacDigestsRow, standIns := [], harness := (true, "6685686f617c8781ff4fce07f34b9f8a4ff0d698c34ae467b96ad81e85a7b2f6"), looks := false }, kinds := [], alts := [], laidByText := true, laidKinds := [.data], laidTests := true, laidLooks := .later }
def HmacDigestsCardSaid : Prop := Claim7.holds Tryd.pinned (.plain (OpenSpec.ofChange hmacDigestsSpec)) hmacDigestsCard

/-- THE TIED CARD OF 'paymasterlaw06.HmacIs'. -/
def hmacIsCard : Claim7 := { stood := { row := hmacIsRow, standIns := [], harness := (true, "6685686f617c8781ff4fce07f34b9f8a4ff0d698c34ae467b96ad81e85a7b2f6"), looks := false }, kinds := [], alts := [], laidByText := true, laidKinds := [.data], laidTests := true, laidLooks := .later }
def HmacIsCardSaid : Prop := Claim7.holds Tryd.pinned (.plain (OpenSpec.ofChange hmacIsSpec)) hmacIsCard

/-- THE SECOND FORM's CARD OF 'paymasterlaw06.HmacSums'. -/
def hmacSumsUptoCard : Claim7 := { stood := { row := hmacSumsUptoRow, standIns := [], harness := (true, "6685686f617c8781ff4fce07f34b9f8a4ff0d698c34ae467b96ad81e85a7b2f6"), looks := false }, kinds := [], alts := [], laidByText := true, laidKinds := [.data], laidTests := true, laidLooks := .later }
def HmacSumsUptoCardSaid : Prop := Claim7.holds Tryd.pinned (.plain (OpenSpec.upto hmacSumsSpec)) hmacSumsUptoCard

/-- THE SECOND FORM's CARD OF 'paymasterlaw06.HmacRuns'. -/
def hmacRunsUptoCard : Claim7 := { stood := { row := hmacRunsUptoRow, standIns := [], harness := (true, "6685686f617c8781ff4fce07f34b9f8a4ff0d698c34ae467b96ad81e85a7b2f6"), looks := false }, kinds := [], alts := [], laidByText := true, laidKinds := [.data], laidTests := true, laidLooks := .later }
def HmacRunsUptoCardSaid : Prop := Claim7.holds Tryd.pinned (.plain (OpenSpec.upto hmacRunsSpec)) hmacRunsUptoCard

/-- THE SECOND FORM's CARD OF 'paymasterlaw06.HmacNil'. -/
def hmacNilUptoCard : Claim7 := { stood := { row := hmacNilUptoRow, standIns := [], harness := (true, "6685686f617c8781ff4fce07f34b9f8a4ff0d698c34ae467b96ad81e85a7b2f6"), looks := false }, kinds := [], alts := [], laidByText := true, laidKinds := [.data], laidTests := true, laidLooks := .later }
def HmacNilUptoCardSaid : Prop := Claim7.holds Tryd.pinned (.plain (OpenSpec.upto hmacNilSpec)) hmacNilUptoCard

/-- THE SECOND FORM's CARD OF 'paymasterlaw06.HmacPieces'. -/
def hmacPiecesUptoCard : Claim7 := { stood := { row := hmacPiecesUptoRow, standIns := [], harness := (true, "6685686f617c8781ff4fce07f34b9f8a4ff0d698c34ae467b96ad81e85a7b2f6"), looks := false }, kinds := [], alts := [], laidByText := true, laidKinds := [.data], laidTests := true, laidLooks := .later }
def HmacPiecesUptoCardSaid : Prop := Claim7.holds Tryd.pinned (.plain (OpenSpec.upto hmacPiecesSpec)) hmacPiecesUptoCard

/-- THE SECOND FORM's CARD OF 'paymasterlaw06.HmacKeys'. -/
def hmacKeysUptoCard : Claim7 := { stood := { row := hmacKeysUptoRow, standIns := [], harness := (true, "6685686f617c8781ff4fce07f34b9f8a4ff0d698c34ae467b96ad81e85a7b2f6"), looks := false }, kinds := [], alts := [], laidByText := true, laidKinds := [.data], laidTests := true, laidLooks := .later }
def HmacKeysUptoCardSaid : Prop := Claim7.holds Tryd.pinned (.plain (OpenSpec.upto hmacKeysSpec)) hmacKeysUptoCard

/-- THE SECOND FORM's CARD OF 'paymasterlaw06.HmacDigests'. -/
def hmacDigestsUptoCard : Claim7 := { stood := { row := hmacDigestsUptoRow, standIns := [], harness := (true, "6685686f617c8781ff4fce07f34b9f8a4ff0d698c34ae467b96ad81e85a7b2f6"), looks := false }, kinds := [], alts := [], laidByText := true, laidKinds := [.data], laidTests := true, laidLooks := .later }
def HmacDigestsUptoCardSaid : Prop := Claim7.holds Tryd.pinned (.plain (OpenSpec.upto hmacDigestsSpec)) hmacDigestsUptoCard

/-- THE SECOND FORM's CARD OF 'paymasterlaw06.HmacIs'. -/
def hmacIsUptoCard : Claim7 := { stood := { row := hmacIsUptoRow, standIns := [], harness := (true, "6685686f617c8781ff4fce07f34b9f8a4ff0d698c34ae467b96ad81e85a7b2f6"), looks := false }, kinds := [], alts := [], laidByText := true, laidKinds := [.data], laidTests := true, laidLooks := .later }
def HmacIsUptoCardSaid : Prop := Claim7.holds Tryd.pinned (.plain (OpenSpec.upto hmacIsSpec)) hmacIsUptoCard
end Rows
end Go.Proofs.YtnlkhabaidncgaaDoor
