/-
  Plain words: a text gone over block by block, by place.
-/
import Derived.Test.YtkmnfogcocppjaaDoorD5Sha
namespace Go.Proofs.YtkmnfogcocppjaaDoor
set_option linter.unusedVariables false
set_option linter.unusedSimpArgs false
set_option maxRecDepth 10000
open Go.RowKit

/-- Block j of a text. -/
def blkA (b : ByteArray) (j : Nat) : ByteArray := b.extract (64 * j) (64 * j + 64)
/-- What comes of a state by the first so many blocks. -/
def runJ (b : ByteArray) (s : St) : Nat → St
  | 0 => s
  | j + 1 => nextS kB (words64 (blkA b j).data.toList) (runJ b s j)
theorem runJ_succ (b : ByteArray) (s : St) (j : Nat) : runJ b s (j + 1) = nextS kB (words64 (blkA b j).data.toList) (runJ b s j) := rfl
theorem chunksN_snoc : ∀ (n : Nat) (l : List UInt8), chunksN (n + 1) l = chunksN n l ++ [bk (l.drop (64 * n))]
  | 0, l => rfl
  | n + 1, l => by
    rw [chunksN, chunksN_snoc n, chunksN, List.drop_drop, show 64 + 64 * n = 64 * (n + 1) by omega]; rfl
theorem blkA_size (b : ByteArray) (j : Nat) (h : 64 * j + 64 ≤ b.size) : (blkA b j).size = 64 := by
  unfold blkA; rw [ByteArray.size_extract]; omega
theorem blkA_data (b : ByteArray) (j : Nat) (h : 64 * j + 64 ≤ b.size) : (blkA b j).data.toList = (bk (b.data.toList.drop (64 * j))).1.data.toList := by
  rw [bk_list _ (by rw [List.length_drop]; simp; omega)]
  unfold blkA
  rw [ByteArray.data_extract, Array.toList_extract, List.extract_eq_take_drop, show 64 * j + 64 - 64 * j = 64 by omega]
theorem runJ_eq (b : ByteArray) (s : St) : ∀ n, 64 * n ≤ b.size → runJ b s n = runB s (chunksN n b.data.toList)
  | 0, _ => rfl
  | n + 1, h => by
    rw [runJ_succ, runJ_eq b s n (by omega), chunksN_snoc, runB_snoc, blkA_data b n (by omega)]; rfl
theorem runJ_all (b : ByteArray) (M : Nat) (h : b.size = 64 * M) : runJ b st0 M = fin b.data.toList := by
  rw [runJ_eq b st0 M (by omega)]
  unfold fin chunks
  rw [show b.data.toList.length / 64 = M by simp; omega]
/-- The digest's bytes, by place. -/
theorem stI_at (s : St) (a r : Nat) (ha : a < 8) (hr : r < 4) : (stI s).getD (4 * a + r) 0 = byteOf (s.at a) r := by
  rcases (by omega : a = 0 ∨ a = 1 ∨ a = 2 ∨ a = 3 ∨ a = 4 ∨ a = 5 ∨ a = 6 ∨ a = 7) with rfl | rfl | rfl | rfl | rfl | rfl | rfl | rfl <;>
  rcases (by omega : r = 0 ∨ r = 1 ∨ r = 2 ∨ r = 3) with rfl | rfl | rfl | rfl <;> rfl
theorem stI_all (s : St) : ∀ x ∈ stI s, 0 ≤ x ∧ x < 256 := by
  intro x hx
  simp only [stI, wbI, List.mem_append, List.mem_cons, List.not_mem_nil, or_false] at hx
  rcases hx with ((((((h | h) | h) | h) | h) | h) | h) | h <;> (rcases h with rfl | rfl | rfl | rfl <;> exact byteOf_bd _ _)
theorem dig_byte (D : ByteArray) (s : St) (hD : D = strOfNums (stI s)) (k a r : Nat) (hk : k < D.size) (ha : a < 8) (hr : r < 4) (e : k = 4 * a + r) : (D[k].toNat : Int) = byteOf (s.at a) r := by
  have hl : D.data.toList.length = D.size := by simp
  have h1 : D[k] = D.data.toList[k]'(by omega) := rfl
  have h2 : D.data.toList = (stI s).map fun n => UInt8.ofNat n.toNat := by rw [hD]; rfl
  have hk32 : k < (stI s).length := by rw [stI_len]; omega
  have h3 : D.data.toList[k]'(by omega) = UInt8.ofNat ((stI s)[k]).toNat := by simp [h2]
  have h4 : (stI s)[k] = byteOf (s.at a) r := by
    rw [← stI_at s a r ha hr, ← e, List.getD_eq_getElem?_getD, List.getElem?_eq_getElem hk32]; rfl
  have hb := byteOf_bd (s.at a) r
  rw [h1, h3, h4, UInt8.toNat_ofNat_of_lt' (by show _ < 256; omega)]
  omega
end Go.Proofs.YtkmnfogcocppjaaDoor
