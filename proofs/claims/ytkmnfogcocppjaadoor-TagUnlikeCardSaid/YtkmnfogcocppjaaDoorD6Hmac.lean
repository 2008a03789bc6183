/-
  Plain words on HMAC-SHA-256: a key's block, what it is put together with, the mac, its number; a row of bytes in memory, cell by cell.
-/
import Derived.Test.YtkmnfogcocppjaaDoorD5Run
import Derived.Laws.BitsAllLaws
import Derived.Laws.IdiomStrings
namespace Go.Proofs.YtkmnfogcocppjaaDoor
set_option linter.unusedVariables false
set_option linter.unusedSimpArgs false
set_option maxRecDepth 10000
open Go.RowKit

/-- A text's bytes as numbers. -/
def nums (b : ByteArray) : List Int := b.data.toList.map fun u => (u.toNat : Int)
theorem nums_len (b : ByteArray) : (nums b).length = b.size := by simp [nums]
theorem nums_bd (b : ByteArray) : ∀ x ∈ nums b, 0 ≤ x ∧ x < 256 := by
  intro x hx
  simp only [nums, List.mem_map] at hx
  obtain ⟨u, -, rfl⟩ := hx
  have := u.toNat_lt
  omega
theorem str_nums (b : ByteArray) : strOfNums (nums b) = b := by
  apply ByteArray.ext
  apply Array.ext'
  rw [strOfNums_data, nums, List.map_map]
  have e : ∀ l : List UInt8, l.map ((fun n : Int => UInt8.ofNat n.toNat) ∘ fun u : UInt8 => (u.toNat : Int)) = l := by
    intro l
    induction l with
    | nil => rfl
    | cons a l ih => rw [List.map_cons, ih]; simp
  exact e _
theorem nums_str (l : List Int) (h : ∀ x ∈ l, 0 ≤ x ∧ x < 256) : nums (strOfNums l) = l := by
  unfold nums
  rw [strOfNums_data, List.map_map]
  induction l with
  | nil => rfl
  | cons a l ih =>
    have ha := h a (by simp)
    rw [List.map_cons, ih (fun x hx => h x (by simp [hx]))]
    congr 1
    show ((UInt8.ofNat a.toNat).toNat : Int) = a
    rw [UInt8.toNat_ofNat_of_lt' (by show _ < 256; omega)]
    omega
theorem nums_app (a b : ByteArray) : nums (a ++ b) = nums a ++ nums b := by simp [nums, ByteArray.data_append]
theorem nums_at (b : ByteArray) (i : Nat) (h : i < b.size) : (nums b).getD i 0 = (b[i].toNat : Int) := by
  have hl : i < b.data.toList.length := by simpa using h
  rw [List.getD_eq_getElem?_getD, nums, List.getElem?_map, List.getElem?_eq_getElem hl]
  rfl
theorem byte_str (l : List Int) (h : ∀ x ∈ l, 0 ≤ x ∧ x < 256) (B : ByteArray) (e : B = strOfNums l) (i : Nat) (hi : i < B.size) : (B[i].toNat : Int) = l.getD i 0 := by
  rw [← nums_at, e, nums_str l h]
theorem getD_bd (l : List Int) (h : ∀ x ∈ l, 0 ≤ x ∧ x < 256) (i : Nat) : 0 ≤ l.getD i 0 ∧ l.getD i 0 < 256 := by
  rw [List.getD_eq_getElem?_getD]
  cases hx : l[i]? with
  | none => exact ⟨by decide, by decide⟩
  | some x => exact h x (List.mem_of_getElem? hx)

/-- The key itself, or its digest. -/
def keyB (k : ByteArray) : ByteArray := if 64 < k.size then digB k.data.toList else k
theorem keyB_size (k : ByteArray) : (keyB k).size ≤ 64 := by
  unfold keyB
  split
  · rw [digB_size]; decide
  · omega
/-- A key's block. -/
def kblkI (k : ByteArray) : List Int := nums (keyB k) ++ List.replicate (64 - (keyB k).size) 0
def kblk (k : ByteArray) : ByteArray := strOfNums (kblkI k)
theorem kblkI_len (k : ByteArray) : (kblkI k).length = 64 := by
  have := keyB_size k
  unfold kblkI
  rw [List.length_append, nums_len, List.length_replicate]
  omega
theorem kblk_size (k : ByteArray) : (kblk k).size = 64 := by rw [kblk, strOfNums_size, kblkI_len]
theorem kblkI_bd (k : ByteArray) : ∀ x ∈ kblkI k, 0 ≤ x ∧ x < 256 := by
  intro x hx
  rcases List.mem_append.1 hx with h | h
  · exact nums_bd _ x h
  · rw [List.eq_of_mem_replicate h]; decide
theorem nums_kblk (k : ByteArray) : nums (kblk k) = kblkI k := nums_str _ (kblkI_bd k)
/-- Two bytes, put together bit by bit. -/
def xorI (a c : Int) : Int := ((a.toNat ^^^ c.toNat : Nat) : Int)
theorem xorI_bd (a c : Int) (ha : 0 ≤ a ∧ a < 256) (hc : 0 ≤ c ∧ c < 256) : 0 ≤ xorI a c ∧ xorI a c < 256 := by
  unfold xorI
  have := Nat.xor_lt_two_pow (n := 8) (x := a.toNat) (y := c.toNat) (by omega) (by omega)
  omega
theorem bits_xorI (a c : Int) (ha : 0 ≤ a ∧ a < 256) (hc : 0 ≤ c ∧ c < 256) : bits .xor .u8 a c = xorI a c := u8_xor a c ha.1 ha.2 hc.1 hc.2
/-- Each byte of a row, put together with c. -/
def maskI (c : Int) (l : List Int) : List Int := l.map fun a => xorI a c
theorem maskI_len (c : Int) (l : List Int) : (maskI c l).length = l.length := by simp [maskI]
theorem maskI_bd (c : Int) (hc : 0 ≤ c ∧ c < 256) (l : List Int) (h : ∀ x ∈ l, 0 ≤ x ∧ x < 256) : ∀ x ∈ maskI c l, 0 ≤ x ∧ x < 256 := by
  intro x hx
  simp only [maskI, List.mem_map] at hx
  obtain ⟨a, ha, rfl⟩ := hx
  exact xorI_bd a c (h a ha) hc
def maskS (c : Int) (b : ByteArray) : ByteArray := strOfNums (maskI c (nums b))
theorem maskS_size (c : Int) (b : ByteArray) : (maskS c b).size = b.size := by rw [maskS, strOfNums_size, maskI_len, nums_len]
/-- A key's inner, outer: its block put together with c. -/
def maskB (c : Int) (k : ByteArray) : ByteArray := maskS c (kblk k)
theorem maskB_size (c : Int) (k : ByteArray) : (maskB c k).size = 64 := by rw [maskB, maskS_size, kblk_size]
/-- The digest of inner and the text. -/
def innB (k : ByteArray) (t : List UInt8) : ByteArray := digB ((maskB 54 k).data.toList ++ t)
theorem innB_size (k : ByteArray) (t : List UInt8) : (innB k t).size = 32 := digB_size _
/-- The mac of a text by a key. -/
def macB (k : ByteArray) (t : List UInt8) : ByteArray := digB (maskB 92 k ++ innB k t).data.toList
theorem macB_size (k : ByteArray) (t : List UInt8) : (macB k t).size = 32 := digB_size _
theorem innB_text (k t : ByteArray) : innB k t.data.toList = digB (maskB 54 k ++ t).data.toList := by
  unfold innB
  rw [ByteArray.data_append, Array.toList_append]
/-- A number of bytes, the greatest first. -/
def numB (l : List Int) : Int := l.foldl (fun n b => n * 256 + b) 0
theorem numB_snoc (l : List Int) (b : Int) : numB (l ++ [b]) = numB l * 256 + b := by simp [numB]
theorem numB_bd (l : List Int) (h : ∀ x ∈ l, 0 ≤ x ∧ x < 256) : 0 ≤ numB l ∧ numB l < 256 ^ l.length := by
  have aux : ∀ (n : Nat) (l : List Int), l.length = n → (∀ x ∈ l, 0 ≤ x ∧ x < 256) → 0 ≤ numB l ∧ numB l < 256 ^ n := by
    intro n
    induction n with
    | zero => intro l hl _; rw [List.length_eq_zero_iff.1 hl]; decide
    | succ n ih =>
      intro l hl h
      have hne : l ≠ [] := by intro e; rw [e] at hl; simp at hl
      have e := List.dropLast_concat_getLast hne
      have h1 := ih l.dropLast (by rw [List.length_dropLast]; omega) (fun x hx => h x ((List.dropLast_sublist l).subset hx))
      have h2 := h (l.getLast hne) (List.getLast_mem hne)
      rw [← e, numB_snoc, Int.pow_succ]
      omega
  exact aux _ l rfl h
/-- A mac's number. -/
def macN (k : ByteArray) (t : List UInt8) : Int := numB ((nums (macB k t)).take 8)

/-- A row of bytes at the beginning of a block, each of which may be written. -/
def RowF (w : World) (g : Nat) (l : List Int) : Prop := ∀ i, i < l.length → w.cell? ⟨g, i, none⟩ = some (.int .u8 (l.getD i 0)) ∧ w.frozen? ⟨g, i, none⟩ = false
section
variable {w w' : World} {g : Nat} {l : List Int}
theorem RowF.inside (h : RowF w g l) (hl : 0 < l.length) : g < w.heap.size := World.block_lt_of_cell? w ⟨g, 0, none⟩ (h 0 hl).1
theorem RowF.set_ (h : RowF w g l) (i : Nat) (hi : i < l.length) (v : Int) : RowF (w.setCell ⟨g, i, none⟩ (.int .u8 v)) g (l.set i v) := by
  intro j hj
  rw [List.length_set] at hj
  refine ⟨?_, ?_⟩
  · by_cases e : j = i
    · subst e
      have hc := (h j hj).1
      rw [World.cell?_setCell_same _ _ _ hc]
      simp [List.getD_eq_getElem?_getD, hj]
    · have hne : (⟨g, i, none⟩ : Addr) ≠ ⟨g, j, none⟩ := by simp <;> omega
      rw [World.cell?_setCell_other _ _ _ _ hne, (h j hj).1, List.getD_eq_getElem?_getD, List.getD_eq_getElem?_getD, List.getElem?_set_ne (Ne.symm e)]
  · simpa using (h j hj).2
theorem RowF.conv {P : Program} {src e dst : TypeId} (h : RowF w g l) (hs : P.underlying src = some (.slice e)) (he : P.underlying e = some (.int .u8)) (hd : P.underlying dst = some .string) (n cap : Nat) (hn : l.length = n) :
    (convert src dst (.slice (some ⟨g, 0, none⟩) n cap)).run P w = .ok (.string (strOfNums l)) w :=
  run_convert_bytes_arg (P := P) w src e hs he g 0 n cap l hn (fun i hi => by rw [Nat.zero_add]; exact (h i (by omega)).1) dst hd
end
/-- A row, some of which is put together with c. -/
def mixI (c : Int) (l : List Int) (k : Nat) : List Int := maskI c (l.take k) ++ l.drop k
theorem mixI_zero (c : Int) (l : List Int) : mixI c l 0 = l := by simp [mixI, maskI]
theorem mixI_all (c : Int) (l : List Int) (n : Nat) (h : l.length = n) : mixI c l n = maskI c l := by
  unfold mixI
  rw [List.take_of_length_le (by omega), List.drop_of_length_le (by omega), List.append_nil]
theorem mixI_len (c : Int) (l : List Int) (k : Nat) : (mixI c l k).length = l.length := by
  unfold mixI
  rw [List.length_append, maskI_len, List.length_take, List.length_drop]
  omega
theorem mixI_at (c : Int) (l : List Int) (k : Nat) (hk : k < l.length) : (mixI c l k).getD k 0 = l.getD k 0 := by
  unfold mixI
  have e : (maskI c (l.take k)).length = k := by rw [maskI_len, List.length_take]; omega
  rw [List.getD_eq_getElem?_getD, List.getElem?_append_right (by omega), e, List.getElem?_drop, List.getD_eq_getElem?_getD]
  simp
theorem mixI_step (c : Int) (l : List Int) (k : Nat) (hk : k < l.length) : (mixI c l k).set k (xorI (l.getD k 0) c) = mixI c l (k + 1) := by
  unfold mixI
  have e : (maskI c (l.take k)).length = k := by rw [maskI_len, List.length_take]; omega
  have e1 : l.getD k 0 = l[k] := by rw [List.getD_eq_getElem?_getD, List.getElem?_eq_getElem hk]; rfl
  rw [List.set_append_right _ _ (by omega), e, Nat.sub_self, List.drop_eq_getElem_cons hk, List.set_cons_zero, e1, List.take_add_one, List.getElem?_eq_getElem hk]
  show _ = List.map _ (l.take k ++ [l[k]]) ++ _
  rw [List.map_append, List.append_assoc]
  rfl
end Go.Proofs.YtkmnfogcocppjaaDoor
