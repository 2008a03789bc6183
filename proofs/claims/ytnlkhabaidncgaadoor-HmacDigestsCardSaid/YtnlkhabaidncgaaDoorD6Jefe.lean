/-
  The chapter's example, reckoned: the mac by RFC 4231's key Jefe; another text's by it is another one.
-/
import Derived.Test.YtnlkhabaidncgaaDoorD6Hmac
import Derived.Test.YtnlkhabaidncgaaDoorD5Abc
namespace Go.Proofs.YtnlkhabaidncgaaDoor
set_option linter.unusedVariables false
set_option linter.unusedSimpArgs false
open Go.RowKit

theorem same_str (a b : ByteArray) : (a.toList == b.toList) = decide (a = b) := by
  rw [ByteArray.toList_eq, ByteArray.toList_eq]
  by_cases h : a = b
  · subst h; simp
  · rw [decide_eq_false h]
    apply beq_false_of_ne
    intro e
    exact h (ByteArray.ext (Array.ext' e))
def jefe : ByteArray := ⟨#[74, 101, 102, 101]⟩
def whatT : ByteArray := ⟨#[119, 104, 97, 116, 32, 100, 111, 32, 121, 97, 32, 119, 97, 110, 116, 32, 102, 111, 114, 32, 110, 111, 116, 104, 105, 110, 103, 63]⟩
def innS : St := ⟨0xa2e48586, 0x3d27f9d8, 0x64ac8d80, 0x2432a1ed, 0x477d8c4c, 0x6f349d16, 0xd4e7e917, 0xc629cad7⟩
def macS : St := ⟨0x5bdcc146, 0xbf60754e, 0x6a042426, 0x089575c7, 0x5a003f08, 0x9d273983, 0x9dec58b9, 0x64ec3843⟩
def innO : St := ⟨0x26751bfb, 0xe422db3d, 0x9a40d65f, 0xf027e072, 0xd223e033, 0x0df54bc6, 0xba693d08, 0xe01cd654⟩
def macO : St := ⟨0x923598ca, 0x6d64af2a, 0x5dba79dc, 0xd021a8a0, 0xfe5c5f55, 0x7519adaa, 0xf0ad532d, 0x4506dd30⟩
set_option maxRecDepth 100000 in
theorem inn_fin : fin (((maskB 54 jefe).data.toList ++ whatT.data.toList) ++ pad ((maskB 54 jefe).data.toList ++ whatT.data.toList).length) = innS := St.eq_of_key (by decide +kernel)
theorem inn_jefe : innB jefe whatT.data.toList = strOfNums (stI innS) := by unfold innB digB; rw [inn_fin]
set_option maxRecDepth 100000 in
theorem mac_fin : fin ((maskB 92 jefe ++ strOfNums (stI innS)).data.toList ++ pad (maskB 92 jefe ++ strOfNums (stI innS)).data.toList.length) = macS := St.eq_of_key (by decide +kernel)
theorem mac_jefe : macB jefe whatT.data.toList = strOfNums (stI macS) := by unfold macB; rw [inn_jefe]; unfold digB; rw [mac_fin]
set_option maxRecDepth 100000 in
theorem inn_finO : fin (((maskB 54 jefe).data.toList ++ []) ++ pad ((maskB 54 jefe).data.toList ++ []).length) = innO := St.eq_of_key (by decide +kernel)
theorem inn_none : innB jefe [] = strOfNums (stI innO) := by unfold innB digB; rw [inn_finO]
set_option maxRecDepth 100000 in
theorem mac_finO : fin ((maskB 92 jefe ++ strOfNums (stI innO)).data.toList ++ pad (maskB 92 jefe ++ strOfNums (stI innO)).data.toList.length) = macO := St.eq_of_key (by decide +kernel)
theorem mac_none : macB jefe [] = strOfNums (stI macO) := by unfold macB; rw [inn_none]; unfold digB; rw [mac_finO]
set_option maxRecDepth 100000 in
theorem mac_hex : hexB (macB jefe whatT.data.toList) = ⟨#[53, 98, 100, 99, 99, 49, 52, 54, 98, 102, 54, 48, 55, 53, 52, 101, 54, 97, 48, 52, 50, 52, 50, 54, 48, 56, 57, 53, 55, 53, 99, 55, 53, 97, 48, 48, 51, 102, 48, 56, 57, 100, 50, 55, 51, 57, 56, 51, 57, 100, 101, 99, 53, 56, 98, 57, 54, 52, 101, 99, 51, 56, 52, 51]⟩ := by rw [mac_jefe]; decide +kernel
set_option maxRecDepth 100000 in
theorem mac_number : macN jefe whatT.data.toList = 6619378061930427726 := by unfold macN; rw [mac_jefe]; decide +kernel
theorem mac_other : ((macB jefe whatT.data.toList).toList == (macB jefe []).toList) = false := by
  rw [same_str, mac_jefe, mac_none]; decide +kernel
end Go.Proofs.YtnlkhabaidncgaaDoor
