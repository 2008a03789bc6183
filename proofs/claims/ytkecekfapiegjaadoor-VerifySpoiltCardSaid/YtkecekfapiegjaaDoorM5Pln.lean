/- Several of my texts, laid as one. -/
import Derived.Test.YtkecekfapiegjaaDoorM4Pln
import Derived.Laws.BytesArg
import Derived.Shelf.Spec.RuneCount
import Derived.Laws.BitsAllLaws
import Derived.Laws.IdiomStrings
/-
  Plain words on SHA-256: a text by blocks of 64 bytes, what is put behind it, its digest. No program is named here.
-/
namespace Go.Proofs.YtkecekfapiegjaaDoor
set_option linter.unusedVariables false
set_option linter.unusedSimpArgs false
set_option maxRecDepth 10000
open Go.RowKit

/-- A block as a text. -/
abbrev B64 := { b : ByteArray // b.size = 64 }
/-- The first block of a text. -/
def bk (l : List UInt8) : B64 := ⟨⟨((l ++ List.replicate 64 0).take 64).toArray⟩, by simp [ByteArray.size]⟩
theorem bk_app (l m : List UInt8) (h : 64 ≤ l.length) : bk (l ++ m) = bk l := by
  apply Subtype.ext
  have e : (l ++ m ++ List.replicate 64 0).take 64 = (l ++ List.replicate 64 0).take 64 := by
    rw [List.append_assoc, List.take_append_of_le_length h, List.take_append_of_le_length h]
  show ByteArray.mk ((l ++ m ++ List.replicate 64 0).take 64).toArray = ByteArray.mk ((l ++ List.replicate 64 0).take 64).toArray
  rw [e]
theorem bk_list (l : List UInt8) (h : 64 ≤ l.length) : (bk l).1.data.toList = l.take 64 := by
  show (l ++ List.replicate 64 0).take 64 = _
  rw [List.take_append_of_le_length h]
theorem bk_extract (b : ByteArray) (h : 64 ≤ b.size) : (bk b.data.toList).1 = b.extract 0 64 := by
  have hl : 64 ≤ b.data.toList.length := by simpa using h
  apply ByteArray.ext
  apply Array.ext'
  rw [bk_list _ hl, ByteArray.data_extract, Array.toList_extract, List.extract_eq_take_drop]
  simp
def chunksN : Nat → List UInt8 → List B64
  | 0, _ => []
  | n + 1, l => bk l :: chunksN n (l.drop 64)
/-- The whole blocks of a text, from its beginning on. -/
def chunks (l : List UInt8) : List B64 := chunksN (l.length / 64) l
theorem chunks_step (l : List UInt8) (h : 64 ≤ l.length) : chunks l = bk l :: chunks (l.drop 64) := by
  unfold chunks
  have e : l.length / 64 = (l.drop 64).length / 64 + 1 := by rw [List.length_drop]; omega
  rw [e]; rfl
theorem chunks_short (l : List UInt8) (h : l.length < 64) : chunks l = [] := by
  unfold chunks; rw [show l.length / 64 = 0 by omega]; rfl
theorem chunksN_len : ∀ (n : Nat) (l : List UInt8), (chunksN n l).length = n
  | 0, _ => rfl
  | n + 1, l => by rw [chunksN, List.length_cons, chunksN_len n]
theorem chunks_len (l : List UInt8) : (chunks l).length = l.length / 64 := chunksN_len _ _
theorem chunks_app : ∀ (k : Nat) (l m : List UInt8), l.length = 64 * k → chunks (l ++ m) = chunks l ++ chunks m
  | 0, l, m, h => by
    have e : l = [] := List.length_eq_zero_iff.1 (by omega)
    subst e
    rw [chunks_short [] (by simp)]; rfl
  | k + 1, l, m, h => by
    rw [chunks_step (l ++ m) (by simp; omega), chunks_step l (by omega), bk_app _ _ (by omega), List.drop_append_of_le_length (by omega), chunks_app k _ _ (by rw [List.length_drop]; omega)]; rfl
/-- What comes of a state by a block, by blocks. -/
def stepS (s : St) (b : B64) : St := nextS kB (words64 b.1.data.toList) s
def runB (s : St) (l : List B64) : St := l.foldl stepS s
theorem runB_snoc (s : St) (l : List B64) (b : B64) : runB s (l ++ [b]) = stepS (runB s l) b := by simp [runB]
theorem runB_app (s : St) (l m : List B64) : runB s (l ++ m) = runB (runB s l) m := by simp [runB]
theorem runB_nil (s : St) : runB s [] = s := rfl
/-- What comes of the first state by a text's whole blocks. -/
def fin (t : List UInt8) : St := runB st0 (chunks t)
/-- What is left of a text. -/
def left (t : List UInt8) : List UInt8 := t.drop (64 * (t.length / 64))
theorem left_len (t : List UInt8) : (left t).length = t.length % 64 := by unfold left; rw [List.length_drop]; omega
theorem left_lt (t : List UInt8) : (left t).length < 64 := by rw [left_len]; omega
theorem left_short (t : List UInt8) (h : t.length < 64) : left t = t := by unfold left; rw [show t.length / 64 = 0 by omega]; rfl
theorem left_app (k : Nat) (l m : List UInt8) (h : l.length = 64 * k) : left (l ++ m) = left m := by
  unfold left
  rw [List.length_append, h, show (64 * k + m.length) / 64 = k + m.length / 64 by omega, Nat.mul_add, ← List.drop_drop, ← h, List.drop_left]
theorem parts (t : List UInt8) : ∃ t0, t = t0 ++ left t ∧ t0.length = 64 * (t.length / 64) :=
  ⟨t.take (64 * (t.length / 64)), (List.take_append_drop _ t).symm, by rw [List.length_take]; omega⟩
theorem fin_nil : fin [] = st0 := by unfold fin; rw [chunks_short [] (by simp)]; rfl
/-- What a text that is taken in makes of it: the block that was begun, and what is behind it. -/
theorem fin_take (t s b h : List UInt8) (e : left t ++ s = b ++ h) (hb : b.length = 64 ∨ b.length < 64 ∧ h = []) : fin (t ++ s) = runB (fin t) (chunks b ++ chunks h) := by
  obtain ⟨t0, h0, hl⟩ := parts t
  have e1 : t ++ s = t0 ++ (b ++ h) := by rw [← e, ← List.append_assoc, ← h0]
  have e2 : chunks t = chunks t0 := by
    rw [h0, chunks_app _ _ _ hl, chunks_short _ (left_lt t), List.append_nil]
  unfold fin
  rw [e1, chunks_app _ _ _ hl, e2, runB_app]
  congr 1
  rcases hb with hb | ⟨hb, rfl⟩
  · rw [chunks_app 1 _ _ (by omega)]
  · rw [List.append_nil, chunks_short b hb, chunks_short [] (by simp)]; rfl
theorem left_full (t s b h : List UInt8) (e : left t ++ s = b ++ h) (hb : b.length = 64) : left (t ++ s) = left h := by
  obtain ⟨t0, h0, hl⟩ := parts t
  have e1 : t ++ s = t0 ++ (b ++ h) := by rw [← e, ← List.append_assoc, ← h0]
  rw [e1, left_app _ _ _ hl, left_app 1 _ _ (by omega)]
theorem left_part (t s b : List UInt8) (e : left t ++ s = b) (hb : b.length < 64) : left (t ++ s) = b := by
  obtain ⟨t0, h0, hl⟩ := parts t
  have e1 : t ++ s = t0 ++ b := by rw [← e, ← List.append_assoc, ← h0]
  rw [e1, left_app _ _ _ hl, left_short _ hb]

/-- A word's four bytes, the greatest first. -/
def wbI (x : B32) : List Int := [byteOf x 0, byteOf x 1, byteOf x 2, byteOf x 3]
theorem wbI_len (x : B32) : (wbI x).length = 4 := rfl
/-- A state's bytes. -/
def stI (s : St) : List Int := wbI s.a ++ wbI s.b ++ wbI s.c ++ wbI s.d ++ wbI s.e ++ wbI s.f ++ wbI s.g ++ wbI s.h
theorem stI_len (s : St) : (stI s).length = 32 := rfl
/-- How many noughts are put behind a text. -/
def padN (n : Nat) : Nat := (119 - n % 64) % 64
/-- The upper and the lower half of the number of its bits. -/
def hiB (n : Nat) : B32 := BitVec.ofNat 32 (n * 8 % 18446744073709551616 / 4294967296)
def loB (n : Nat) : B32 := BitVec.ofNat 32 (n * 8)
/-- What is put behind a text of so many bytes. -/
def padI (n : Nat) : List Int := 128 :: (List.replicate (padN n) 0 ++ (wbI (hiB n) ++ wbI (loB n)))
theorem padI_len (n : Nat) : (padI n).length = padN n + 9 := by simp [padI, wbI_len]
def padB (n : Nat) : ByteArray := strOfNums (padI n)
def pad (n : Nat) : List UInt8 := (padB n).data.toList
theorem padB_size (n : Nat) : (padB n).size = padN n + 9 := by rw [padB, strOfNums_size, padI_len]
theorem pad_len (n : Nat) : (pad n).length = padN n + 9 := by rw [← padB_size]; simp [pad]
theorem pad_whole (n : Nat) : (n + (padN n + 9)) % 64 = 0 := by unfold padN; omega
theorem pad_bd (n : Nat) : padN n < 64 := by unfold padN; omega
/-- A text's digest. -/
def digB (t : List UInt8) : ByteArray := strOfNums (stI (fin (t ++ pad t.length)))
theorem digB_size (t : List UInt8) : (digB t).size = 32 := by rw [digB, strOfNums_size, stI_len]
end Go.Proofs.YtkecekfapiegjaaDoor
/-
  Plain words: a text gone over block by block, by place.
-/
namespace Go.Proofs.YtkecekfapiegjaaDoor
set_option linter.unusedVariables false
set_option linter.unusedSimpArgs false
set_option maxRecDepth 10000
open Go.RowKit

/-- Block j of a text. -/
def blkA (b : ByteArray) (j : Nat) : ByteArray := b.extract (64 * j) (64 * j + 64)
/-- What comes of a state by the first so many blocks. -/
def runJ (b : ByteArray) (s : St) : Nat → St
  | 0 => s
  | j + 1 => nextS kB (words64 (blkA b j).data.toList) (runJ b s j)
theorem runJ_succ (b : ByteArray) (s : St) (j : Nat) : runJ b s (j + 1) = nextS kB (words64 (blkA b j).data.toList) (runJ b s j) := rfl
theorem chunksN_snoc : ∀ (n : Nat) (l : List UInt8), chunksN (n + 1) l = chunksN n l ++ [bk (l.drop (64 * n))]
  | 0, l => rfl
  | n + 1, l => by
    rw [chunksN, chunksN_snoc n, chunksN, List.drop_drop, show 64 + 64 * n = 64 * (n + 1) by omega]; rfl
theorem blkA_size (b : ByteArray) (j : Nat) (h : 64 * j + 64 ≤ b.size) : (blkA b j).size = 64 := by
  unfold blkA; rw [ByteArray.size_extract]; omega
theorem blkA_data (b : ByteArray) (j : Nat) (h : 64 * j + 64 ≤ b.size) : (blkA b j).data.toList = (bk (b.data.toList.drop (64 * j))).1.data.toList := by
  rw [bk_list _ (by rw [List.length_drop]; simp; omega)]
  unfold blkA
  rw [ByteArray.data_extract, Array.toList_extract, List.extract_eq_take_drop, show 64 * j + 64 - 64 * j = 64 by omega]
theorem runJ_eq (b : ByteArray) (s : St) : ∀ n, 64 * n ≤ b.size → runJ b s n = runB s (chunksN n b.data.toList)
  | 0, _ => rfl
  | n + 1, h => by
    rw [runJ_succ, runJ_eq b s n (by omega), chunksN_snoc, runB_snoc, blkA_data b n (by omega)]; rfl
theorem runJ_all (b : ByteArray) (M : Nat) (h : b.size = 64 * M) : runJ b st0 M = fin b.data.toList := by
  rw [runJ_eq b st0 M (by omega)]
  unfold fin chunks
  rw [show b.data.toList.length / 64 = M by simp; omega]
/-- The digest's bytes, by place. -/
theorem stI_at (s : St) (a r : Nat) (ha : a < 8) (hr : r < 4) : (stI s).getD (4 * a + r) 0 = byteOf (s.at a) r := by
  rcases (by omega : a = 0 ∨ a = 1 ∨ a = 2 ∨ a = 3 ∨ a = 4 ∨ a = 5 ∨ a = 6 ∨ a = 7) with rfl | rfl | rfl | rfl | rfl | rfl | rfl | rfl <;>
  rcases (by omega : r = 0 ∨ r = 1 ∨ r = 2 ∨ r = 3) with rfl | rfl | rfl | rfl <;> rfl
theorem stI_all (s : St) : ∀ x ∈ stI s, 0 ≤ x ∧ x < 256 := by
  intro x hx
  simp only [stI, wbI, List.mem_append, List.mem_cons, List.not_mem_nil, or_false] at hx
  rcases hx with ((((((h | h) | h) | h) | h) | h) | h) | h <;> (rcases h with rfl | rfl | rfl | rfl <;> exact byteOf_bd _ _)
theorem dig_byte (D : ByteArray) (s : St) (hD : D = strOfNums (stI s)) (k a r : Nat) (hk : k < D.size) (ha : a < 8) (hr : r < 4) (e : k = 4 * a + r) : (D[k].toNat : Int) = byteOf (s.at a) r := by
  have hl : D.data.toList.length = D.size := by simp
  have h1 : D[k] = D.data.toList[k]'(by omega) := rfl
  have h2 : D.data.toList = (stI s).map fun n => UInt8.ofNat n.toNat := by rw [hD]; rfl
  have hk32 : k < (stI s).length := by rw [stI_len]; omega
  have h3 : D.data.toList[k]'(by omega) = UInt8.ofNat ((stI s)[k]).toNat := by simp [h2]
  have h4 : (stI s)[k] = byteOf (s.at a) r := by
    rw [← stI_at s a r ha hr, ← e, List.getD_eq_getElem?_getD, List.getElem?_eq_getElem hk32]; rfl
  have hb := byteOf_bd (s.at a) r
  rw [h1, h3, h4, UInt8.toNat_ofNat_of_lt' (by show _ < 256; omega)]
  omega
end Go.Proofs.YtkecekfapiegjaaDoor
/-
  Plain words on HMAC-SHA-256: a key's block, what it is put together with, the mac, its number; a row of bytes in memory, cell by cell.
-/
namespace Go.Proofs.YtkecekfapiegjaaDoor
set_option linter.unusedVariables false
set_option linter.unusedSimpArgs false
set_option maxRecDepth 10000
open Go.RowKit

/-- A text's bytes as numbers. -/
def nums (b : ByteArray) : List Int := b.data.toList.map fun u => (u.toNat : Int)
theorem nums_len (b : ByteArray) : (nums b).length = b.size := by simp [nums]
theorem nums_bd (b : ByteArray) : ∀ x ∈ nums b, 0 ≤ x ∧ x < 256 := by
  intro x hx
  simp only [nums, List.mem_map] at hx
  obtain ⟨u, -, rfl⟩ := hx
  have := u.toNat_lt
  omega
theorem str_nums (b : ByteArray) : strOfNums (nums b) = b := by
  apply ByteArray.ext
  apply Array.ext'
  rw [strOfNums_data, nums, List.map_map]
  have e : ∀ l : List UInt8, l.map ((fun n : Int => UInt8.ofNat n.toNat) ∘ fun u : UInt8 => (u.toNat : Int)) = l := by
    intro l
    induction l with
    | nil => rfl
    | cons a l ih => rw [List.map_cons, ih]; simp
  exact e _
theorem nums_str (l : List Int) (h : ∀ x ∈ l, 0 ≤ x ∧ x < 256) : nums (strOfNums l) = l := by
  unfold nums
  rw [strOfNums_data, List.map_map]
  induction l with
  | nil => rfl
  | cons a l ih =>
    have ha := h a (by simp)
    rw [List.map_cons, ih (fun x hx => h x (by simp [hx]))]
    congr 1
    show ((UInt8.ofNat a.toNat).toNat : Int) = a
    rw [UInt8.toNat_ofNat_of_lt' (by show _ < 256; omega)]
    omega
theorem nums_app (a b : ByteArray) : nums (a ++ b) = nums a ++ nums b := by simp [nums, ByteArray.data_append]
theorem nums_at (b : ByteArray) (i : Nat) (h : i < b.size) : (nums b).getD i 0 = (b[i].toNat : Int) := by
  have hl : i < b.data.toList.length := by simpa using h
  rw [List.getD_eq_getElem?_getD, nums, List.getElem?_map, List.getElem?_eq_getElem hl]
  rfl
theorem byte_str (l : List Int) (h : ∀ x ∈ l, 0 ≤ x ∧ x < 256) (B : ByteArray) (e : B = strOfNums l) (i : Nat) (hi : i < B.size) : (B[i].toNat : Int) = l.getD i 0 := by
  rw [← nums_at, e, nums_str l h]
theorem getD_bd (l : List Int) (h : ∀ x ∈ l, 0 ≤ x ∧ x < 256) (i : Nat) : 0 ≤ l.getD i 0 ∧ l.getD i 0 < 256 := by
  rw [List.getD_eq_getElem?_getD]
  cases hx : l[i]? with
  | none => exact ⟨by decide, by decide⟩
  | some x => exact h x (List.mem_of_getElem? hx)

/-- The key itself, or its digest. -/
def keyB (k : ByteArray) : ByteArray := if 64 < k.size then digB k.data.toList else k
theorem keyB_size (k : ByteArray) : (keyB k).size ≤ 64 := by
  unfold keyB
  split
  · rw [digB_size]; decide
  · omega
/-- A key's block. -/
def kblkI (k : ByteArray) : List Int := nums (keyB k) ++ List.replicate (64 - (keyB k).size) 0
def kblk (k : ByteArray) : ByteArray := strOfNums (kblkI k)
theorem kblkI_len (k : ByteArray) : (kblkI k).length = 64 := by
  have := keyB_size k
  unfold kblkI
  rw [List.length_append, nums_len, List.length_replicate]
  omega
theorem kblk_size (k : ByteArray) : (kblk k).size = 64 := by rw [kblk, strOfNums_size, kblkI_len]
theorem kblkI_bd (k : ByteArray) : ∀ x ∈ kblkI k, 0 ≤ x ∧ x < 256 := by
  intro x hx
  rcases List.mem_append.1 hx with h | h
  · exact nums_bd _ x h
  · rw [List.eq_of_mem_replicate h]; decide
theorem nums_kblk (k : ByteArray) : nums (kblk k) = kblkI k := nums_str _ (kblkI_bd k)
/-- Two bytes, put together bit by bit. -/
def xorI (a c : Int) : Int := ((a.toNat ^^^ c.toNat : Nat) : Int)
theorem xorI_bd (a c : Int) (ha : 0 ≤ a ∧ a < 256) (hc : 0 ≤ c ∧ c < 256) : 0 ≤ xorI a c ∧ xorI a c < 256 := by
  unfold xorI
  have := Nat.xor_lt_two_pow (n := 8) (x := a.toNat) (y := c.toNat) (by omega) (by omega)
  omega
theorem bits_xorI (a c : Int) (ha : 0 ≤ a ∧ a < 256) (hc : 0 ≤ c ∧ c < 256) : bits .xor .u8 a c = xorI a c := u8_xor a c ha.1 ha.2 hc.1 hc.2
/-- Each byte of a row, put together with c. -/
def maskI (c : Int) (l : List Int) : List Int := l.map fun a => xorI a c
theorem maskI_len (c : Int) (l : List Int) : (maskI c l).length = l.length := by simp [maskI]
theorem maskI_bd (c : Int) (hc : 0 ≤ c ∧ c < 256) (l : List Int) (h : ∀ x ∈ l, 0 ≤ x ∧ x < 256) : ∀ x ∈ maskI c l, 0 ≤ x ∧ x < 256 := by
  intro x hx
  simp only [maskI, List.mem_map] at hx
  obtain ⟨a, ha, rfl⟩ := hx
  exact xorI_bd a c (h a ha) hc
def maskS (c : Int) (b : ByteArray) : ByteArray := strOfNums (maskI c (nums b))
theorem maskS_size (c : Int) (b : ByteArray) : (maskS c b).size = b.size := by rw [maskS, strOfNums_size, maskI_len, nums_len]
/-- A key's inner, outer: its block put together with c. -/
def maskB (c : Int) (k : ByteArray) : ByteArray := maskS c (kblk k)
theorem maskB_size (c : Int) (k : ByteArray) : (maskB c k).size = 64 := by rw [maskB, maskS_size, kblk_size]
/-- The digest of inner and the text. -/
def innB (k : ByteArray) (t : List UInt8) : ByteArray := digB ((maskB 54 k).data.toList ++ t)
theorem innB_size (k : ByteArray) (t : List UInt8) : (innB k t).size = 32 := digB_size _
/-- The mac of a text by a key. -/
def macB (k : ByteArray) (t : List UInt8) : ByteArray := digB (maskB 92 k ++ innB k t).data.toList
theorem macB_size (k : ByteArray) (t : List UInt8) : (macB k t).size = 32 := digB_size _
theorem innB_text (k t : ByteArray) : innB k t.data.toList = digB (maskB 54 k ++ t).data.toList := by
  unfold innB
  rw [ByteArray.data_append, Array.toList_append]
/-- A number of bytes, the greatest first. -/
def numB (l : List Int) : Int := l.foldl (fun n b => n * 256 + b) 0
theorem numB_snoc (l : List Int) (b : Int) : numB (l ++ [b]) = numB l * 256 + b := by simp [numB]
theorem numB_bd (l : List Int) (h : ∀ x ∈ l, 0 ≤ x ∧ x < 256) : 0 ≤ numB l ∧ numB l < 256 ^ l.length := by
  have aux : ∀ (n : Nat) (l : List Int), l.length = n → (∀ x ∈ l, 0 ≤ x ∧ x < 256) → 0 ≤ numB l ∧ numB l < 256 ^ n := by
    intro n
    induction n with
    | zero => intro l hl _; rw [List.length_eq_zero_iff.1 hl]; decide
    | succ n ih =>
      intro l hl h
      have hne : l ≠ [] := by intro e; rw [e] at hl; simp at hl
      have e := List.dropLast_concat_getLast hne
      have h1 := ih l.dropLast (by rw [List.length_dropLast]; omega) (fun x hx => h x ((List.dropLast_sublist l).subset hx))
      have h2 := h (l.getLast hne) (List.getLast_mem hne)
      rw [← e, numB_snoc, Int.pow_succ]
      omega
  exact aux _ l rfl h
/-- A mac's number. -/
def macN (k : ByteArray) (t : List UInt8) : Int := numB ((nums (macB k t)).take 8)

/-- A row of bytes at the beginning of a block, each of which may be written. -/
def RowF (w : World) (g : Nat) (l : List Int) : Prop := ∀ i, i < l.length → w.cell? ⟨g, i, none⟩ = some (.int .u8 (l.getD i 0)) ∧ w.frozen? ⟨g, i, none⟩ = false
section
variable {w w' : World} {g : Nat} {l : List Int}
theorem RowF.inside (h : RowF w g l) (hl : 0 < l.length) : g < w.heap.size := World.block_lt_of_cell? w ⟨g, 0, none⟩ (h 0 hl).1
theorem RowF.set_ (h : RowF w g l) (i : Nat) (hi : i < l.length) (v : Int) : RowF (w.setCell ⟨g, i, none⟩ (.int .u8 v)) g (l.set i v) := by
  intro j hj
  rw [List.length_set] at hj
  refine ⟨?_, ?_⟩
  · by_cases e : j = i
    · subst e
      have hc := (h j hj).1
      rw [World.cell?_setCell_same _ _ _ hc]
      simp [List.getD_eq_getElem?_getD, hj]
    · have hne : (⟨g, i, none⟩ : Addr) ≠ ⟨g, j, none⟩ := by simp <;> omega
      rw [World.cell?_setCell_other _ _ _ _ hne, (h j hj).1, List.getD_eq_getElem?_getD, List.getD_eq_getElem?_getD, List.getElem?_set_ne (Ne.symm e)]
  · simpa using (h j hj).2
theorem RowF.conv {P : Program} {src e dst : TypeId} (h : RowF w g l) (hs : P.underlying src = some (.slice e)) (he : P.underlying e = some (.int .u8)) (hd : P.underlying dst = some .string) (n cap : Nat) (hn : l.length = n) :
    (convert src dst (.slice (some ⟨g, 0, none⟩) n cap)).run P w = .ok (.string (strOfNums l)) w :=
  run_convert_bytes_arg (P := P) w src e hs he g 0 n cap l hn (fun i hi => by rw [Nat.zero_add]; exact (h i (by omega)).1) dst hd
end
/-- A row, some of which is put together with c. -/
def mixI (c : Int) (l : List Int) (k : Nat) : List Int := maskI c (l.take k) ++ l.drop k
theorem mixI_zero (c : Int) (l : List Int) : mixI c l 0 = l := by simp [mixI, maskI]
theorem mixI_all (c : Int) (l : List Int) (n : Nat) (h : l.length = n) : mixI c l n = maskI c l := by
  unfold mixI
  rw [List.take_of_length_le (by omega), List.drop_of_length_le (by omega), List.append_nil]
theorem mixI_len (c : Int) (l : List Int) (k : Nat) : (mixI c l k).length = l.length := by
  unfold mixI
  rw [List.length_append, maskI_len, List.length_take, List.length_drop]
  omega
theorem mixI_at (c : Int) (l : List Int) (k : Nat) (hk : k < l.length) : (mixI c l k).getD k 0 = l.getD k 0 := by
  unfold mixI
  have e : (maskI c (l.take k)).length = k := by rw [maskI_len, List.length_take]; omega
  rw [List.getD_eq_getElem?_getD, List.getElem?_append_right (by omega), e, List.getElem?_drop, List.getD_eq_getElem?_getD]
  simp
theorem mixI_step (c : Int) (l : List Int) (k : Nat) (hk : k < l.length) : (mixI c l k).set k (xorI (l.getD k 0) c) = mixI c l (k + 1) := by
  unfold mixI
  have e : (maskI c (l.take k)).length = k := by rw [maskI_len, List.length_take]; omega
  have e1 : l.getD k 0 = l[k] := by rw [List.getD_eq_getElem?_getD, List.getElem?_eq_getElem hk]; rfl
  rw [List.set_append_right _ _ (by omega), e, Nat.sub_self, List.drop_eq_getElem_cons hk, List.set_cons_zero, e1, List.take_add_one, List.getElem?_eq_getElem hk]
  show _ = List.map _ (l.take k ++ [l[k]]) ++ _
  rw [List.map_append, List.append_assoc]
  rfl
end Go.Proofs.YtkecekfapiegjaaDoor
