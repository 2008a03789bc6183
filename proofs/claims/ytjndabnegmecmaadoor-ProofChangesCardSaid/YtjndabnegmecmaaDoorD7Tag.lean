/-
  Plain words on leaves, their texts, and the leaf that a text is read as.
-/
import Derived.Test.YtjndabnegmecmaaDoorU1Lex
import Derived.Test.YtjndabnegmecmaaDoorD7Id
namespace Go.Proofs.YtjndabnegmecmaaDoor
set_option linter.unusedVariables false
set_option linter.unusedSimpArgs false
set_option maxRecDepth 10000
open Go.RowKit Go.Lib

/-- A leaf, plainly. -/
structure Lf where
  pad : Bool
  id : ByteArray
  salt : ByteArray
  h : Int
  l : Int
def Lf.val (x : Lf) : Value := .agg #[.bool x.pad, .string x.id, .string x.salt, .int .u64 x.h, .int .u64 x.l]
def Lf.cells (x : Lf) : Array Value := #[.bool x.pad, .string x.id, .string x.salt, .int .u64 x.h, .int .u64 x.l]
def Lf.zero : Lf := ⟨false, ⟨#[]⟩, ⟨#[]⟩, 0, 0⟩
/-- May it be? -/
def Lf.may (x : Lf) : Bool := decide (x.salt.size ≤ 32) && (if x.pad then decide (x.id.size = 0) && (decide (x.h = 0) && decide (x.l = 0)) else isId x.id.data.toList)
/-- A text behind its length. -/
def szL (s : ByteArray) : List UInt8 := UInt8.ofNat s.size :: s.data.toList
/-- Its text. -/
def Lf.list (x : Lf) : List UInt8 :=
  if x.may then (if x.pad then 2 :: szL x.salt else 0 :: (szL x.id ++ szL x.salt ++ (textOf x.h x.l).data.toList)) else []
def Lf.text (x : Lf) : ByteArray := ⟨x.list.toArray⟩
theorem Lf.text_list (x : Lf) : x.text.data.toList = x.list := by simp [Lf.text]

theorem Lf.may_id (x : Lf) (h : x.may = true) (hp : x.pad = false) : 1 ≤ x.id.size ∧ x.id.size ≤ 96 ∧ x.salt.size ≤ 32 := by
  unfold Lf.may at h
  rw [Bool.and_eq_true, decide_eq_true_eq, hp] at h
  have h2 := isId_len _ (show isId x.id.data.toList = true by simpa using h.2)
  rw [ba_size] at h2
  exact ⟨h2.1, h2.2, h.1⟩
theorem Lf.may_pad (x : Lf) (h : x.may = true) (hp : x.pad = true) : x.id = ⟨#[]⟩ ∧ x.h = 0 ∧ x.l = 0 ∧ x.salt.size ≤ 32 := by
  unfold Lf.may at h
  rw [Bool.and_eq_true, decide_eq_true_eq, hp] at h
  obtain ⟨h1, h2⟩ := h
  simp only [if_true, Bool.and_eq_true, decide_eq_true_eq] at h2
  refine ⟨ba_ext ?_, h2.2.1, h2.2.2, h1⟩
  have := ba_size x.id
  rw [h2.1] at this
  rw [List.length_eq_zero_iff.1 this]
theorem Lf.list_pos (x : Lf) (h : x.may = true) : x.list ≠ [] := by
  unfold Lf.list
  rw [if_pos h]
  split <;> simp

/-- What is cut off behind its length, and what is left. -/
def cutA (s : ByteArray) : ByteArray := if s.size = 0 ∨ s.size ≤ (s.data.toList.getD 0 0).toNat then ⟨#[]⟩ else s.extract 1 (1 + (s.data.toList.getD 0 0).toNat)
def cutB (s : ByteArray) : ByteArray := if s.size = 0 ∨ s.size ≤ (s.data.toList.getD 0 0).toNat then ⟨#[]⟩ else s.extract (1 + (s.data.toList.getD 0 0).toNat) s.size
theorem cut_sized (a b s : ByteArray) (ha : a.size < 256) (hs : s.data.toList = szL a ++ b.data.toList) : cutA s = a ∧ cutB s = b := by
  have e0 : (s.data.toList.getD 0 0).toNat = a.size := by
    rw [hs]
    show (UInt8.ofNat a.size).toNat = a.size
    rw [UInt8.toNat_ofNat_of_lt' (by show _ < 256; omega)]
  have es : s.size = 1 + a.size + b.size := by
    rw [← ba_size s, hs, szL, List.length_append, List.length_cons, ba_size, ba_size]; omega
  have hn : ¬ (s.size = 0 ∨ s.size ≤ a.size) := by omega
  unfold cutA cutB
  rw [e0, if_neg hn, if_neg hn]
  refine ⟨ba_ext ?_, ba_ext ?_⟩
  · rw [ext_toList, hs, szL, List.cons_append, Nat.add_comm 1, List.take_succ_cons, List.drop_succ_cons, List.drop_zero, List.take_append_of_le_length (by rw [ba_size]; omega)]
    rw [List.take_of_length_le (by rw [ba_size]; omega)]
  · rw [ext_toList, List.take_of_length_le (by rw [ba_size]; omega), hs, szL, List.cons_append, Nat.add_comm 1, List.drop_succ_cons, List.drop_append_of_le_length (by rw [ba_size]; omega)]
    rw [List.drop_of_length_le (by rw [ba_size]; omega), List.nil_append]

/-- What the parts of a text would be. -/
def cand (t : ByteArray) : Lf :=
  if t.data.toList.getD 0 0 = 0 then ⟨false, cutA (t.extract 1 t.size), cutA (cutB (t.extract 1 t.size)), fromH (cutB (cutB (t.extract 1 t.size))), fromL (cutB (cutB (t.extract 1 t.size)))⟩
  else if t.data.toList.getD 0 0 = 2 then ⟨true, ⟨#[]⟩, cutA (t.extract 1 t.size), 0, 0⟩
  else ⟨false, ⟨#[]⟩, ⟨#[]⟩, fromH (t.extract 1 t.size), fromL (t.extract 1 t.size)⟩
/-- The leaf whose text it is. -/
def rd (t : ByteArray) : Option Lf := if t.size = 0 then none else if (cand t).text = t then some (cand t) else none
theorem fromH_word (s : ByteArray) : Word (fromH s) := by
  unfold fromH
  split
  · have h := beN_lt (s.data.toList.take 8)
    have hl : (s.data.toList.take 8).length ≤ 8 := by simp; omega
    have h2 : 256 ^ (s.data.toList.take 8).length ≤ 256 ^ 8 := Nat.pow_le_pow_right (by decide) hl
    exact ⟨by omega, by omega⟩
  · exact ⟨by decide, by decide⟩
theorem fromL_word (s : ByteArray) : Word (fromL s) := by
  unfold fromL
  split
  · rename_i h16
    have h := beN_lt (s.data.toList.drop 8)
    have hl : (s.data.toList.drop 8).length ≤ 8 := by simp; omega
    have h2 : 256 ^ (s.data.toList.drop 8).length ≤ 256 ^ 8 := Nat.pow_le_pow_right (by decide) hl
    exact ⟨by omega, by omega⟩
  · exact ⟨by decide, by decide⟩
theorem tail1 (t : ByteArray) : (t.extract 1 t.size).data.toList = t.data.toList.drop 1 := by
  rw [ext_toList, List.take_of_length_le (by rw [ba_size]; omega)]
theorem cand_text (x : Lf) (hm : x.may = true) (hh : Word x.h) (hl : Word x.l) : cand x.text = x := by
  obtain ⟨p, i, s, h, l⟩ := x
  have ht := Lf.text_list ⟨p, i, s, h, l⟩
  unfold Lf.list at ht
  rw [if_pos hm] at ht
  generalize Lf.text ⟨p, i, s, h, l⟩ = t at *
  cases p with
  | false =>
    obtain ⟨-, i96, s32⟩ := Lf.may_id _ hm rfl
    simp only at i96 s32 hh hl
    rw [if_neg (by simp)] at ht
    have h0 : t.data.toList.getD 0 0 = 0 := by rw [ht]; rfl
    have h1 := cut_sized i ⟨(szL s ++ (textOf h l).data.toList).toArray⟩ (t.extract 1 t.size) (by omega) (by rw [tail1, ht]; simp)
    have h2 := cut_sized s (textOf h l) ⟨(szL s ++ (textOf h l).data.toList).toArray⟩ (by omega) (by simp)
    unfold cand
    rw [if_pos h0, h1.1, h1.2, h2.1, h2.2, textOf_fromH hh, textOf_fromL hl]
  | true =>
    obtain ⟨rfl, rfl, rfl, s32⟩ := Lf.may_pad _ hm rfl
    simp only at s32
    rw [if_pos rfl] at ht
    have h0 : t.data.toList.getD 0 0 = 2 := by rw [ht]; rfl
    have h1 := cut_sized s ⟨#[]⟩ (t.extract 1 t.size) (by omega) (by rw [tail1, ht]; simp)
    unfold cand
    rw [if_neg (by rw [h0]; decide), if_pos h0, h1.1]
theorem Lf.text_size (x : Lf) (hm : x.may = true) : x.text.size ≠ 0 := by
  rw [← ba_size, Lf.text_list]
  exact fun e => x.list_pos hm (List.length_eq_zero_iff.1 e)
theorem rd_text (x : Lf) (hm : x.may = true) (hh : Word x.h) (hl : Word x.l) : rd x.text = some x := by
  unfold rd
  rw [if_neg (x.text_size hm), cand_text x hm hh hl, if_pos rfl]
theorem word_zero : Word 0 := ⟨by decide, by decide⟩
theorem cand_words (t : ByteArray) : Word (cand t).h ∧ Word (cand t).l := by
  obtain ⟨r, hr⟩ : ∃ r, t.extract 1 t.size = r := ⟨_, rfl⟩
  obtain ⟨q, hq⟩ : ∃ q, cutB (cutB r) = q := ⟨_, rfl⟩
  have a := fromH_word q
  have b := fromL_word q
  have c := fromH_word r
  have d := fromL_word r
  unfold cand
  rw [hr, hq]
  generalize fromH q = a1 at *
  generalize fromL q = b1 at *
  generalize fromH r = c1 at *
  generalize fromL r = d1 at *
  by_cases h0 : t.data.toList.getD 0 0 = 0
  · rw [if_pos h0]; exact ⟨a, b⟩
  · rw [if_neg h0]
    by_cases h2 : t.data.toList.getD 0 0 = 2
    · rw [if_pos h2]; exact ⟨word_zero, word_zero⟩
    · rw [if_neg h2]; exact ⟨c, d⟩
theorem Lf.may_of_text (x : Lf) (h : x.text.size ≠ 0) : x.may = true := by
  cases hm : x.may with
  | true => rfl
  | false =>
    exfalso
    rw [← ba_size, Lf.text_list, Lf.list, hm] at h
    exact h rfl
theorem rd_some {t : ByteArray} {x : Lf} (h : rd t = some x) : x.may = true ∧ x.text = t ∧ Word x.h ∧ Word x.l := by
  unfold rd at h
  split at h
  · cases h
  · rename_i h0
    split at h
    · rename_i he
      injection h with h
      subst h
      exact ⟨Lf.may_of_text _ (by rw [he]; exact h0), he, cand_words t⟩
    · cases h
/-- Unlike leaves that may be have unlike texts. -/
theorem text_inj (x y : Lf) (hx : x.may = true) (hy : y.may = true) (x1 : Word x.h) (x0 : Word x.l) (y1 : Word y.h) (y0 : Word y.l) (h : x.text = y.text) : x = y := by
  rw [← cand_text x hx x1 x0, h, cand_text y hy y1 y0]
end Go.Proofs.YtjndabnegmecmaaDoor
