/-
  The digests that all know, reckoned: of the empty text, of abc, of FIPS 180-4's 56 letters.
-/
import Derived.Test.YtnlkhabaidncgaaDoorD5Sha
namespace Go.Proofs.YtnlkhabaidncgaaDoor
set_option linter.unusedVariables false
set_option linter.unusedSimpArgs false
open Go.RowKit

/-- A digit's byte. -/
def hexd (n : Int) : Int := if n < 10 then 48 + n else 87 + n
/-- A text's digits. -/
def hexI (l : List UInt8) : List Int := l.flatMap fun b => [hexd ((b.toNat : Int) / 16), hexd ((b.toNat : Int) % 16)]
def hexB (s : ByteArray) : ByteArray := strOfNums (hexI s.data.toList)
theorem hexI_len : ∀ l : List UInt8, (hexI l).length = 2 * l.length
  | [] => rfl
  | b :: r => by
    have h := hexI_len r
    unfold hexI at h ⊢
    rw [List.flatMap_cons, List.length_append, h, List.length_cons]
    simp; omega
theorem hexI_app (l m : List UInt8) : hexI (l ++ m) = hexI l ++ hexI m := by simp [hexI]
theorem hexB_size (s : ByteArray) : (hexB s).size = 2 * s.size := by rw [hexB, strOfNums_size, hexI_len]; simp

def nilT : ByteArray := ⟨#[]⟩
def nilS : St := ⟨0xe3b0c442, 0x98fc1c14, 0x9afbf4c8, 0x996fb924, 0x27ae41e4, 0x649b934c, 0xa495991b, 0x7852b855⟩
set_option maxRecDepth 100000 in
theorem nil_fin : fin (nilT.data.toList ++ pad nilT.data.toList.length) = nilS := St.eq_of_key (by decide +kernel)
set_option maxRecDepth 100000 in
theorem nil_hex : hexB (digB nilT.data.toList) = ⟨#[101, 51, 98, 48, 99, 52, 52, 50, 57, 56, 102, 99, 49, 99, 49, 52, 57, 97, 102, 98, 102, 52, 99, 56, 57, 57, 54, 102, 98, 57, 50, 52, 50, 55, 97, 101, 52, 49, 101, 52, 54, 52, 57, 98, 57, 51, 52, 99, 97, 52, 57, 53, 57, 57, 49, 98, 55, 56, 53, 50, 98, 56, 53, 53]⟩ := by
  unfold digB
  rw [nil_fin]
  decide +kernel

def abcT : ByteArray := ⟨#[97, 98, 99]⟩
def abcS : St := ⟨0xba7816bf, 0x8f01cfea, 0x414140de, 0x5dae2223, 0xb00361a3, 0x96177a9c, 0xb410ff61, 0xf20015ad⟩
set_option maxRecDepth 100000 in
theorem abc_fin : fin (abcT.data.toList ++ pad abcT.data.toList.length) = abcS := St.eq_of_key (by decide +kernel)
set_option maxRecDepth 100000 in
theorem abc_hex : hexB (digB abcT.data.toList) = ⟨#[98, 97, 55, 56, 49, 54, 98, 102, 56, 102, 48, 49, 99, 102, 101, 97, 52, 49, 52, 49, 52, 48, 100, 101, 53, 100, 97, 101, 50, 50, 50, 51, 98, 48, 48, 51, 54, 49, 97, 51, 57, 54, 49, 55, 55, 97, 57, 99, 98, 52, 49, 48, 102, 102, 54, 49, 102, 50, 48, 48, 49, 53, 97, 100]⟩ := by
  unfold digB
  rw [abc_fin]
  decide +kernel

def letT : ByteArray := ⟨#[97, 98, 99, 100, 98, 99, 100, 101, 99, 100, 101, 102, 100, 101, 102, 103, 101, 102, 103, 104, 102, 103, 104, 105, 103, 104, 105, 106, 104, 105, 106, 107, 105, 106, 107, 108, 106, 107, 108, 109, 107, 108, 109, 110, 108, 109, 110, 111, 109, 110, 111, 112, 110, 111, 112, 113]⟩
def letS : St := ⟨0x248d6a61, 0xd20638b8, 0xe5c02693, 0x0c3e6039, 0xa33ce459, 0x64ff2167, 0xf6ecedd4, 0x19db06c1⟩
set_option maxRecDepth 100000 in
theorem let_fin : fin (letT.data.toList ++ pad letT.data.toList.length) = letS := St.eq_of_key (by decide +kernel)
set_option maxRecDepth 100000 in
theorem let_hex : hexB (digB letT.data.toList) = ⟨#[50, 52, 56, 100, 54, 97, 54, 49, 100, 50, 48, 54, 51, 56, 98, 56, 101, 53, 99, 48, 50, 54, 57, 51, 48, 99, 51, 101, 54, 48, 51, 57, 97, 51, 51, 99, 101, 52, 53, 57, 54, 52, 102, 102, 50, 49, 54, 55, 102, 54, 101, 99, 101, 100, 100, 52, 49, 57, 100, 98, 48, 54, 99, 49]⟩ := by
  unfold digB
  rw [let_fin]
  decide +kernel
end Go.Proofs.YtnlkhabaidncgaaDoor
