/-
  Plain words on SHA-256: a text by blocks of 64 bytes, what is put behind it, its digest. No program is named here.
-/
import Derived.Test.YtkmnfogcocppjaaDoorD4Abc
import Derived.Test.YtkmnfogcocppjaaDoorD4Hang
import Derived.Laws.BytesArg
import Derived.Shelf.Spec.RuneCount
namespace Go.Proofs.YtkmnfogcocppjaaDoor
set_option linter.unusedVariables false
set_option linter.unusedSimpArgs false
set_option maxRecDepth 10000
open Go.RowKit

/-- A block as a text. -/
abbrev B64 := { b : ByteArray // b.size = 64 }
/-- The first block of a text. -/
def bk (l : List UInt8) : B64 := ⟨⟨((l ++ List.replicate 64 0).take 64).toArray⟩, by simp [ByteArray.size]⟩
theorem bk_app (l m : List UInt8) (h : 64 ≤ l.length) : bk (l ++ m) = bk l := by
  apply Subtype.ext
  have e : (l ++ m ++ List.replicate 64 0).take 64 = (l ++ List.replicate 64 0).take 64 := by
    rw [List.append_assoc, List.take_append_of_le_length h, List.take_append_of_le_length h]
  show ByteArray.mk ((l ++ m ++ List.replicate 64 0).take 64).toArray = ByteArray.mk ((l ++ List.replicate 64 0).take 64).toArray
  rw [e]
theorem bk_list (l : List UInt8) (h : 64 ≤ l.length) : (bk l).1.data.toList = l.take 64 := by
  show (l ++ List.replicate 64 0).take 64 = _
  rw [List.take_append_of_le_length h]
theorem bk_extract (b : ByteArray) (h : 64 ≤ b.size) : (bk b.data.toList).1 = b.extract 0 64 := by
  have hl : 64 ≤ b.data.toList.length := by simpa using h
  apply ByteArray.ext
  apply Array.ext'
  rw [bk_list _ hl, ByteArray.data_extract, Array.toList_extract, List.extract_eq_take_drop]
  simp
def chunksN : Nat → List UInt8 → List B64
  | 0, _ => []
  | n + 1, l => bk l :: chunksN n (l.drop 64)
/-- The whole blocks of a text, from its beginning on. -/
def chunks (l : List UInt8) : List B64 := chunksN (l.length / 64) l
theorem chunks_step (l : List UInt8) (h : 64 ≤ l.length) : chunks l = bk l :: chunks (l.drop 64) := by
  unfold chunks
  have e : l.length / 64 = (l.drop 64).length / 64 + 1 := by rw [List.length_drop]; omega
  rw [e]; rfl
theorem chunks_short (l : List UInt8) (h : l.length < 64) : chunks l = [] := by
  unfold chunks; rw [show l.length / 64 = 0 by omega]; rfl
theorem chunksN_len : ∀ (n : Nat) (l : List UInt8), (chunksN n l).length = n
  | 0, _ => rfl
  | n + 1, l => by rw [chunksN, List.length_cons, chunksN_len n]
theorem chunks_len (l : List UInt8) : (chunks l).length = l.length / 64 := chunksN_len _ _
theorem chunks_app : ∀ (k : Nat) (l m : List UInt8), l.length = 64 * k → chunks (l ++ m) = chunks l ++ chunks m
  | 0, l, m, h => by
    have e : l = [] := List.length_eq_zero_iff.1 (by omega)
    subst e
    rw [chunks_short [] (by simp)]; rfl
  | k + 1, l, m, h => by
    rw [chunks_step (l ++ m) (by simp; omega), chunks_step l (by omega), bk_app _ _ (by omega), List.drop_append_of_le_length (by omega), chunks_app k _ _ (by rw [List.length_drop]; omega)]; rfl
/-- What comes of a state by a block, by blocks. -/
def stepS (s : St) (b : B64) : St := nextS kB (words64 b.1.data.toList) s
def runB (s : St) (l : List B64) : St := l.foldl stepS s
theorem runB_snoc (s : St) (l : List B64) (b : B64) : runB s (l ++ [b]) = stepS (runB s l) b := by simp [runB]
theorem runB_app (s : St) (l m : List B64) : runB s (l ++ m) = runB (runB s l) m := by simp [runB]
theorem runB_nil (s : St) : runB s [] = s := rfl
/-- What comes of the first state by a text's whole blocks. -/
def fin (t : List UInt8) : St := runB st0 (chunks t)
/-- What is left of a text. -/
def left (t : List UInt8) : List UInt8 := t.drop (64 * (t.length / 64))
theorem left_len (t : List UInt8) : (left t).length = t.length % 64 := by unfold left; rw [List.length_drop]; omega
theorem left_lt (t : List UInt8) : (left t).length < 64 := by rw [left_len]; omega
theorem left_short (t : List UInt8) (h : t.length < 64) : left t = t := by unfold left; rw [show t.length / 64 = 0 by omega]; rfl
theorem left_app (k : Nat) (l m : List UInt8) (h : l.length = 64 * k) : left (l ++ m) = left m := by
  unfold left
  rw [List.length_append, h, show (64 * k + m.length) / 64 = k + m.length / 64 by omega, Nat.mul_add, ← List.drop_drop, ← h, List.drop_left]
theorem parts (t : List UInt8) : ∃ t0, t = t0 ++ left t ∧ t0.length = 64 * (t.length / 64) :=
  ⟨t.take (64 * (t.length / 64)), (List.take_append_drop _ t).symm, by rw [List.length_take]; omega⟩
theorem fin_nil : fin [] = st0 := by unfold fin; rw [chunks_short [] (by simp)]; rfl
/-- What a text that is taken in makes of it: the block that was begun, and what is behind it. -/
theorem fin_take (t s b h : List UInt8) (e : left t ++ s = b ++ h) (hb : b.length = 64 ∨ b.length < 64 ∧ h = []) : fin (t ++ s) = runB (fin t) (chunks b ++ chunks h) := by
  obtain ⟨t0, h0, hl⟩ := parts t
  have e1 : t ++ s = t0 ++ (b ++ h) := by rw [← e, ← List.append_assoc, ← h0]
  have e2 : chunks t = chunks t0 := by
    rw [h0, chunks_app _ _ _ hl, chunks_short _ (left_lt t), List.append_nil]
  unfold fin
  rw [e1, chunks_app _ _ _ hl, e2, runB_app]
  congr 1
  rcases hb with hb | ⟨hb, rfl⟩
  · rw [chunks_app 1 _ _ (by omega)]
  · rw [List.append_nil, chunks_short b hb, chunks_short [] (by simp)]; rfl
theorem left_full (t s b h : List UInt8) (e : left t ++ s = b ++ h) (hb : b.length = 64) : left (t ++ s) = left h := by
  obtain ⟨t0, h0, hl⟩ := parts t
  have e1 : t ++ s = t0 ++ (b ++ h) := by rw [← e, ← List.append_assoc, ← h0]
  rw [e1, left_app _ _ _ hl, left_app 1 _ _ (by omega)]
theorem left_part (t s b : List UInt8) (e : left t ++ s = b) (hb : b.length < 64) : left (t ++ s) = b := by
  obtain ⟨t0, h0, hl⟩ := parts t
  have e1 : t ++ s = t0 ++ b := by rw [← e, ← List.append_assoc, ← h0]
  rw [e1, left_app _ _ _ hl, left_short _ hb]

/-- A word's four bytes, the greatest first. -/
def wbI (x : B32) : List Int := [byteOf x 0, byteOf x 1, byteOf x 2, byteOf x 3]
theorem wbI_len (x : B32) : (wbI x).length = 4 := rfl
/-- A state's bytes. -/
def stI (s : St) : List Int := wbI s.a ++ wbI s.b ++ wbI s.c ++ wbI s.d ++ wbI s.e ++ wbI s.f ++ wbI s.g ++ wbI s.h
theorem stI_len (s : St) : (stI s).length = 32 := rfl
/-- How many noughts are put behind a text. -/
def padN (n : Nat) : Nat := (119 - n % 64) % 64
/-- The upper and the lower half of the number of its bits. -/
def hiB (n : Nat) : B32 := BitVec.ofNat 32 (n * 8 % 18446744073709551616 / 4294967296)
def loB (n : Nat) : B32 := BitVec.ofNat 32 (n * 8)
/-- What is put behind a text of so many bytes. -/
def padI (n : Nat) : List Int := 128 :: (List.replicate (padN n) 0 ++ (wbI (hiB n) ++ wbI (loB n)))
theorem padI_len (n : Nat) : (padI n).length = padN n + 9 := by simp [padI, wbI_len]
def padB (n : Nat) : ByteArray := strOfNums (padI n)
def pad (n : Nat) : List UInt8 := (padB n).data.toList
theorem padB_size (n : Nat) : (padB n).size = padN n + 9 := by rw [padB, strOfNums_size, padI_len]
theorem pad_len (n : Nat) : (pad n).length = padN n + 9 := by rw [← padB_size]; simp [pad]
theorem pad_whole (n : Nat) : (n + (padN n + 9)) % 64 = 0 := by unfold padN; omega
theorem pad_bd (n : Nat) : padN n < 64 := by unfold padN; omega
/-- A text's digest. -/
def digB (t : List UInt8) : ByteArray := strOfNums (stI (fin (t ++ pad t.length)))
theorem digB_size (t : List UInt8) : (digB t).size = 32 := by rw [digB, strOfNums_size, stI_len]
end Go.Proofs.YtkmnfogcocppjaaDoor
