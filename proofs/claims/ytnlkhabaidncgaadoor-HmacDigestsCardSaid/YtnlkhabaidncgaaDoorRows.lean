/-
  NARROWER THAN 'FOR EVERY INPUT', by the rows' own cells (each row's printed sentence says how): HmacSums: laid · HmacRuns: laid · HmacNil: laid · HmacPieces: laid · HmacKeys: laid · HmacDigests: laid · HmacIs: laid.
  DERIVED. THE GIVEN ROWS OF THIS SEAT. 7 by the template 'for every input the law returns true; each argument reads behind the call as it read before'; 0 by the template 'total and deterministic' (their statements: YtnlkhabaidncgaaDoorTotals.lean).
  GIVEN WITH THE SEED: the statements are not yours to turn. If you find one false, say at which input.
  Laid BY PROGRAM, IN A SANDBOX (cutbox-rows.mjs): the forced cells as the released guide's own fill.sh prints them over the translation 1b63f5d18da53275… (all of the seat's roots in one cut). By AI agents, Wed Nov 11 2026. No macro, syntax, notation, axiom, sorry.
-/
import Derived.Test.YtnlkhabaidncgaaDoorChecked
import GoSem.Claim
import GoSem.ClaimJoined
import GoSem.ClaimMapViews
import Derived.JoinedTies
import Derived.KernelRfl
namespace Go.Proofs.YtnlkhabaidncgaaDoor
/- THE CELL 'sum', in the pinned program and in every row, IS THE sha256 OF THE DUMP (.gsa) THAT YtnlkhabaidncgaaDoorProg.lean LOADS. Nothing in Lean hashes anything: it is a label: what it is worth is what the hold of that sum in a sandbox is worth. -/
noncomputable def Tryd.pinned : Pinned := { name := "ytnlkhabaidncgaadoor", sum := "1b63f5d18da53275bd0e1d0f54f7fada8305e8db01c8d6fee89bcd62a7f417a1", checked := Tryd.checked }
namespace Rows
def none {H : Type} : Left H := { results := [], args := [] }

/- WHAT THE LISTED PACKAGE-LEVEL VARIABLES READ AS WHEN THE CALL BEGINS. Each datum BY PROGRAM (the guide's laid-datum.mjs) off the statement by which the dump's own 'gosem.cut.vars' lays the variable. In a bare row this is a premise. The card (YtnlkhabaidncgaaDoorCards.lean) ties it to the program's text. -/
def laid_paymaster_block_constants {H : Type} : DataW H := .agg [.lit (.int .u32 1116352408), .lit (.int .u32 1899447441), .lit (.int .u32 3049323471), .lit (.int .u32 3921009573), .lit (.int .u32 961987163), .lit (.int .u32 1508970993), .lit (.int .u32 2453635748), .lit (.int .u32 2870763221), .lit (.int .u32 3624381080), .lit (.int .u32 310598401), .lit (.int .u32 607225278), .lit (.int .u32 1426881987), .lit (.int .u32 1925078388), .lit (.int .u32 2162078206), .lit (.int .u32 2614888103), .lit (.int .u32 3248222580), .lit (.int .u32 3835390401), .lit (.int .u32 4022224774), .lit (.int .u32 264347078), .lit (.int .u32 604807628), .lit (.int .u32 770255983), .lit (.int .u32 1249150122), .lit (.int .u32 1555081692), .lit (.int .u32 1996064986), .lit (.int .u32 2554220882), .lit (.int .u32 2821834349), .lit (.int .u32 2952996808), .lit (.int .u32 3210313671), .lit (.int .u32 3336571891), .lit (.int .u32 3584528711), .lit (.int .u32 113926993), .lit (.int .u32 338241895), .lit (.int .u32 666307205), .lit (.int .u32 773529912), .lit (.int .u32 1294757372), .lit (.int .u32 1396182291), .lit (.int .u32 1695183700), .lit (.int .u32 1986661051), .lit (.int .u32 2177026350), .lit (.int .u32 2456956037), .lit (.int .u32 2730485921), .lit (.int .u32 2820302411), .lit (.int .u32 3259730800), .lit (.int .u32 3345764771), .lit (.int .u32 3516065817), .lit (.int .u32 3600352804), .lit (.int .u32 4094571909), .lit (.int .u32 275423344), .lit (.int .u32 430227734), .lit (.int .u32 506948616), .lit (.int .u32 659060556), .lit (.int .u32 883997877), .lit (.int .u32 958139571), .lit (.int .u32 1322822218), .lit (.int .u32 1537002063), .lit (.int .u32 1747873779), .lit (.int .u32 1955562222), .lit (.int .u32 2024104815), .lit (.int .u32 2227730452), .lit (.int .u32 2361852424), .lit (.int .u32 2428436474), .lit (.int .u32 2756734187), .lit (.int .u32 3204031479), .lit (.int .u32 3329325298)]

/-- 'paymasterlaw06.HmacSums': WHATEVER THE INPUT: true; the input reads as it did. -/
def hmacSumsSpec : ChangeSpec := { name := "hmacSums", fn := fun _ => fun
  | [d1, d2, d3, d4] => { results := [.lit (.bool true)], args := [d1, d2, d3, d4] }
  | _ => none }
def hmacSumsRow : OpenClaim := { program := "ytnlkhabaidncgaadoor", sum := "1b63f5d18da53275bd0e1d0f54f7fada8305e8db01c8d6fee89bcd62a7f417a1", func := "paymaster/paymasterlaw06.HmacSums", spec := "hmacSums", unfollowed := true, recurses := true, named := ["paymaster/block.constants"], apart := false, laid := [("paymaster/block.constants", laid_paymaster_block_constants)] }
def HmacSumsSaid : Prop := hmacSumsRow.holds Tryd.pinned (OpenSpec.ofChange hmacSumsSpec)

/-- ITS FALSE NEIGHBOUR: 'it returns false'. Refute it at one input. -/
def hmacSumsWrong : ChangeSpec := { name := "hmacSums", fn := fun _ => fun
  | [d1, d2, d3, d4] => { results := [.lit (.bool false)], args := [d1, d2, d3, d4] }
  | _ => none }
def HmacSumsWrongFalsely : Prop := hmacSumsRow.holds Tryd.pinned (OpenSpec.ofChange hmacSumsWrong)

/-- 'paymasterlaw06.HmacRuns': WHATEVER THE INPUT: true; the input reads as it did. -/
def hmacRunsSpec : ChangeSpec := { name := "hmacRuns", fn := fun _ => fun
  | [d1, d2, d3] => { results := [.lit (.bool true)], args := [d1, d2, d3] }
  | _ => none }
def hmacRunsRow : OpenClaim := { program := "ytnlkhabaidncgaadoor", sum := "1b63f5d18da53275bd0e1d0f54f7fada8305e8db01c8d6fee89bcd62a7f417a1", func := "paymaster/paymasterlaw06.HmacRuns", spec := "hmacRuns", unfollowed := true, recurses := true, named := ["paymaster/block.constants"], apart := false, laid := [("paymaster/block.constants", laid_paymaster_block_constants)] }
def HmacRunsSaid : Prop := hmacRunsRow.holds Tryd.pinned (OpenSpec.ofChange hmacRunsSpec)

/-- ITS FALSE NEIGHBOUR: 'it returns false'. Refute it at one input. -/
def hmacRunsWrong : ChangeSpec := { name := "hmacRuns", fn := fun _ => fun
  | [d1, d2, d3] => { results := [.lit (.bool false)], args := [d1, d2, d3] }
  | _ => none }
def HmacRunsWrongFalsely : Prop := hmacRunsRow.holds Tryd.pinned (OpenSpec.ofChange hmacRunsWrong)

/-- 'paymasterlaw06.HmacNil': WHATEVER THE INPUT: true; the input reads as it did. -/
def hmacNilSpec : ChangeSpec := { name := "hmacNil", fn := fun _ => fun
  | [d] => { results := [.lit (.bool true)], args := [d] }
  | _ => none }
def hmacNilRow : OpenClaim := { program := "ytnlkhabaidncgaadoor", sum := "1b63f5d18da53275bd0e1d0f54f7fada8305e8db01c8d6fee89bcd62a7f417a1", func := "paymaster/paymasterlaw06.HmacNil", spec := "hmacNil", unfollowed := true, recurses := true, named := ["paymaster/block.constants"], apart := false, laid := [("paymaster/block.constants", laid_paymaster_block_constants)] }
def HmacNilSaid : Prop := hmacNilRow.holds Tryd.pinned (OpenSpec.ofChange hmacNilSpec)

/-- ITS FALSE NEIGHBOUR: 'it returns false'. Refute it at one input. -/
def hmacNilWrong : ChangeSpec := { name := "hmacNil", fn := fun _ => fun
  | [d] => { results := [.lit (.bool false)], args := [d] }
  | _ => none }
def HmacNilWrongFalsely : Prop := hmacNilRow.holds Tryd.pinned (OpenSpec.ofChange hmacNilWrong)

/-- 'paymasterlaw06.HmacPieces': WHATEVER THE INPUT: true; the input reads as it did. -/
def hmacPiecesSpec : ChangeSpec := { name := "hmacPieces", fn := fun _ => fun
  | [d1, d2] => { results := [.lit (.bool true)], args := [d1, d2] }
  | _ => none }
def hmacPiecesRow : OpenClaim := { program := "ytnlkhabaidncgaadoor", sum := "1b63f5d18da53275bd0e1d0f54f7fada8305e8db01c8d6fee89bcd62a7f417a1", func := "paymaster/paymasterlaw06.HmacPieces", spec := "hmacPieces", unfollowed := true, recurses := true, named := ["paymaster/block.constants"], apart := false, laid := [("paymaster/block.constants", laid_paymaster_block_constants)] }
def HmacPiecesSaid : Prop := hmacPiecesRow.holds Tryd.pinned (OpenSpec.ofChange hmacPiecesSpec)

/-- ITS FALSE NEIGHBOUR: 'it returns false'. Refute it at one input. -/
def hmacPiecesWrong : ChangeSpec := { name := "hmacPieces", fn := fun _ => fun
  | [d1, d2] => { results := [.lit (.bool false)], args := [d1, d2] }
  | _ => none }
def HmacPiecesWrongFalsely : Prop := hmacPiecesRow.holds Tryd.pinned (OpenSpec.ofChange hmacPiecesWrong)

/-- 'paymasterlaw06.HmacKeys': WHATEVER THE INPUT: true; the input reads as it did. -/
def hmacKeysSpec : ChangeSpec := { name := "hmacKeys", fn := fun _ => fun
  | [d1, d2, d3] => { results := [.lit (.bool true)], args := [d1, d2, d3] }
  | _ => none }
def hmacKeysRow : OpenClaim := { program := "ytnlkhabaidncgaadoor", sum := "1b63f5d18da53275bd0e1d0f54f7fada8305e8db01c8d6fee89bcd62a7f417a1", func := "paymaster/paymasterlaw06.HmacKeys", spec := "hmacKeys", unfollowed := true, recurses := true, named := ["paymaster/block.constants"], apart := false, laid := [("paymaster/block.constants", laid_paymaster_block_constants)] }
def HmacKeysSaid : Prop := hmacKeysRow.holds Tryd.pinned (OpenSpec.ofChange hmacKeysSpec)

/-- ITS FALSE NEIGHBOUR: 'it returns false'. Refute it at one input. -/
def hmacKeysWrong : ChangeSpec := { name := "hmacKeys", fn := fun _ => fun
  | [d1, d2, d3] => { results := [.lit (.bool false)], args := [d1, d2, d3] }
  | _ => none }
def HmacKeysWrongFalsely : Prop := hmacKeysRow.holds Tryd.pinned (OpenSpec.ofChange hmacKeysWrong)

/-- 'paymasterlaw06.HmacDigests': WHATEVER THE INPUT: true; the input reads as it did. -/
def hmacDigestsSpec : ChangeSpec := { name := "hmacDigests", fn := fun _ => fun
  | [d1, d2, d3] => { results := [.lit (.bool true)], args := [d1, d2, d3] }
  | _ => none }
def hmacDigestsRow : OpenClaim := { program := "ytnlkhabaidncgaadoor", sum := "1b63f5d18da53275bd0e1d0f54f7fada8305e8db01c8d6fee89bcd62a7f417a1", func := "paymaster/paymasterlaw06.HmacDigests", spec := "hmacDigests", unfollowed := true, recurses := true, named := ["paymaster/block.constants"], apart := false, laid := [("paymaster/block.constants", laid_paymaster_block_constants)] }
def HmacDigestsSaid : Prop := hmacDigestsRow.holds Tryd.pinned (OpenSpec.ofChange hmacDigestsSpec)

/-- ITS FALSE NEIGHBOUR: 'it returns false'. Refute it at one input. -/
def hmacDigestsWrong : ChangeSpec := { name := "hmacDigests", fn := fun _ => fun
  | [d1, d2, d3] => { results := [.lit (.bool false)], args := [d1, d2, d3] }
  | _ => none }
def HmacDigestsWrongFalsely : Prop := hmacDigestsRow.holds Tryd.pinned (OpenSpec.ofChange hmacDigestsWrong)

/-- 'paymasterlaw06.HmacIs': WHATEVER THE INPUT: true; the input reads as it did. -/
def hmacIsSpec : ChangeSpec := { name := "hmacIs", fn := fun _ => fun
  | [d1, d2, d3, d4] => { results := [.lit (.bool true)], args := [d1, d2, d3, d4] }
  | _ => none }
def hmacIsRow : OpenClaim := { program := "ytnlkhabaidncgaadoor", sum := "1b63f5d18da53275bd0e1d0f54f7fada8305e8db01c8d6fee89bcd62a7f417a1", func := "paymaster/paymasterlaw06.HmacIs", spec := "hmacIs", unfollowed := true, recurses := true, named := ["paymaster/block.constants"], apart := false, laid := [("paymaster/block.constants", laid_paymaster_block_constants)] }
def HmacIsSaid : Prop := hmacIsRow.holds Tryd.pinned (OpenSpec.ofChange hmacIsSpec)

/-- ITS FALSE NEIGHBOUR: 'it returns false'. Refute it at one input. -/
def hmacIsWrong : ChangeSpec := { name := "hmacIs", fn := fun _ => fun
  | [d1, d2, d3, d4] => { results := [.lit (.bool false)], args := [d1, d2, d3, d4] }
  | _ => none }
def HmacIsWrongFalsely : Prop := hmacIsRow.holds Tryd.pinned (OpenSpec.ofChange hmacIsWrong)

/- THE SECOND FORM. 'bulk': how many values and letters a reading holds, each counted each time it is reached (what is shared counts as often as it is met; a slice's spare places count too). A statement '..UptoSaid' is the law's where the arguments, and the package variables that the reading takes, are together of bulk at most 1048576: NARROWER than '..Said'. Prove '..Said' where nothing that the law and all that it calls make is longer than what came in: it says more and counts as full. Else prove '..UptoSaid'. A law counts once. -/
mutual
def uptoBulk {H : Type} : DataW H → Nat
  | .lit (.string bytes) => bytes.length + 1
  | .lit _ => 1
  | .nil => 1
  | .ptr d => uptoBulk d + 1
  | .slice elems spare => uptoBulkAll elems + uptoBulkAll spare + 1
  | .agg parts => uptoBulkAll parts + 1
  | .iface _ d => uptoBulk d + 1
  | .map entries => uptoBulkEntries entries + 1
  | .held _ => 1
def uptoBulkAll {H : Type} : List (DataW H) → Nat
  | [] => 0
  | d :: r => uptoBulk d + uptoBulkAll r
def uptoBulkEntries {H : Type} : List (Lit × DataW H) → Nat
  | [] => 0
  | x :: r => uptoBulkEntry x + uptoBulkEntries r
def uptoBulkEntry {H : Type} : Lit × DataW H → Nat
  | (.string bytes, d) => bytes.length + uptoBulk d + 1
  | (_, d) => uptoBulk d + 1
 end
def uptoSmall : (H : Type) → List (DataW H) → Bool := fun _ ds => decide (uptoBulkAll ds ≤ 1048576)
def OpenSpec.upto (s : _root_.Go.ChangeSpec) : _root_.Go.OpenSpec := { _root_.Go.OpenSpec.ofChange s with cond := some uptoSmall }

/-- 'paymasterlaw06.HmacSums', WHERE WHAT IT READS IS OF BULK AT MOST 1048576: true; the input reads as it did. -/
def hmacSumsUptoRow : OpenClaim := { program := "ytnlkhabaidncgaadoor", sum := "1b63f5d18da53275bd0e1d0f54f7fada8305e8db01c8d6fee89bcd62a7f417a1", func := "paymaster/paymasterlaw06.HmacSums", spec := "hmacSums", unfollowed := true, recurses := true, named := ["paymaster/block.constants"], apart := false, laid := [("paymaster/block.constants", laid_paymaster_block_constants)], narrowed := true }
def HmacSumsUptoSaid : Prop := hmacSumsUptoRow.holds Tryd.pinned (OpenSpec.upto hmacSumsSpec)

/-- 'paymasterlaw06.HmacRuns', WHERE WHAT IT READS IS OF BULK AT MOST 1048576: true; the input reads as it did. -/
def hmacRunsUptoRow : OpenClaim := { program := "ytnlkhabaidncgaadoor", sum := "1b63f5d18da53275bd0e1d0f54f7fada8305e8db01c8d6fee89bcd62a7f417a1", func := "paymaster/paymasterlaw06.HmacRuns", spec := "hmacRuns", unfollowed := true, recurses := true, named := ["paymaster/block.constants"], apart := false, laid := [("paymaster/block.constants", laid_paymaster_block_constants)], narrowed := true }
def HmacRunsUptoSaid : Prop := hmacRunsUptoRow.holds Tryd.pinned (OpenSpec.upto hmacRunsSpec)

/-- 'paymasterlaw06.HmacNil', WHERE WHAT IT READS IS OF BULK AT MOST 1048576: true; the input reads as it did. -/
def hmacNilUptoRow : OpenClaim := { program := "ytnlkhabaidncgaadoor", sum := "1b63f5d18da53275bd0e1d0f54f7fada8305e8db01c8d6fee89bcd62a7f417a1", func := "paymaster/paymasterlaw06.HmacNil", spec := "hmacNil", unfollowed := true, recurses := true, named := ["paymaster/block.constants"], apart := false, laid := [("paymaster/block.constants", laid_paymaster_block_constants)], narrowed := true }
def HmacNilUptoSaid : Prop := hmacNilUptoRow.holds Tryd.pinned (OpenSpec.upto hmacNilSpec)

/-- 'paymasterlaw06.HmacPieces', WHERE WHAT IT READS IS OF BULK AT MOST 1048576: true; the input reads as it did. -/
def hmacPiecesUptoRow : OpenClaim := { program := "ytnlkhabaidncgaadoor", sum := "1b63f5d18da53275bd0e1d0f54f7fada8305e8db01c8d6fee89bcd62a7f417a1", func := "paymaster/paymasterlaw06.HmacPieces", spec := "hmacPieces", unfollowed := true, recurses := true, named := ["paymaster/block.constants"], apart := false, laid := [("paymaster/block.constants", laid_paymaster_block_constants)], narrowed := true }
def HmacPiecesUptoSaid : Prop := hmacPiecesUptoRow.holds Tryd.pinned (OpenSpec.upto hmacPiecesSpec)

/-- 'paymasterlaw06.HmacKeys', WHERE WHAT IT READS IS OF BULK AT MOST 1048576: true; the input reads as it did. -/
def hmacKeysUptoRow : OpenClaim := { program := "ytnlkhabaidncgaadoor", sum := "1b63f5d18da53275bd0e1d0f54f7fada8305e8db01c8d6fee89bcd62a7f417a1", func := "paymaster/paymasterlaw06.HmacKeys", spec := "hmacKeys", unfollowed := true, recurses := true, named := ["paymaster/block.constants"], apart := false, laid := [("paymaster/block.constants", laid_paymaster_block_constants)], narrowed := true }
def HmacKeysUptoSaid : Prop := hmacKeysUptoRow.holds Tryd.pinned (OpenSpec.upto hmacKeysSpec)

/-- 'paymasterlaw06.HmacDigests', WHERE WHAT IT READS IS OF BULK AT MOST 1048576: true; the input reads as it did. -/
def hmacDigestsUptoRow : OpenClaim := { program := "ytnlkhabaidncgaadoor", sum := "1b63f5d18da53275bd0e1d0f54f7fada8305e8db01c8d6fee89bcd62a7f417a1", func := "paymaster/paymasterlaw06.HmacDigests", spec := "hmacDigests", unfollowed := true, recurses := true, named := ["paymaster/block.constants"], apart := false, laid := [("paymaster/block.constants", laid_paymaster_block_constants)], narrowed := true }
def HmacDigestsUptoSaid : Prop := hmacDigestsUptoRow.holds Tryd.pinned (OpenSpec.upto hmacDigestsSpec)

/-- 'paymasterlaw06.HmacIs', WHERE WHAT IT READS IS OF BULK AT MOST 1048576: true; the input reads as it did. -/
def hmacIsUptoRow : OpenClaim := { program := "ytnlkhabaidncgaadoor", sum := "1b63f5d18da53275bd0e1d0f54f7fada8305e8db01c8d6fee89bcd62a7f417a1", func := "paymaster/paymasterlaw06.HmacIs", spec := "hmacIs", unfollowed := true, recurses := true, named := ["paymaster/block.constants"], apart := false, laid := [("paymaster/block.constants", laid_paymaster_block_constants)], narrowed := true }
def HmacIsUptoSaid : Prop := hmacIsUptoRow.holds Tryd.pinned (OpenSpec.upto hmacIsSpec)

end Rows
end Go.Proofs.YtnlkhabaidncgaaDoor
