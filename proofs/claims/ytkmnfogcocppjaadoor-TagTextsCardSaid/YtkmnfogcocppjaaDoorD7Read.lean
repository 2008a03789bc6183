/-
  Plain words on the definition's reading of a text: the parts that it would have; it is the program's.
-/
import Derived.Test.YtkmnfogcocppjaaDoorD7Tag
namespace Go.Proofs.YtkmnfogcocppjaaDoor
set_option linter.unusedVariables false
set_option linter.unusedSimpArgs false
set_option maxRecDepth 10000
open Go.RowKit

theorem be_inj : ∀ (a b : List UInt8), a.length = b.length → beN a = beN b → a = b
  | [], [], _, _ => rfl
  | [], _ :: _, h, _ => by simp at h
  | _ :: _, [], h, _ => by simp at h
  | x :: a, y :: b, hl, he => by
    have hl2 : a.length = b.length := by simpa using hl
    rw [beN_cons, beN_cons, hl2] at he
    have h1 := beN_lt a
    have h2 := beN_lt b
    rw [hl2] at h1
    have hp : 0 < 256 ^ b.length := Nat.pow_pos (by decide)
    have hx : x.toNat = y.toNat := by
      rcases Nat.lt_trichotomy x.toNat y.toNat with h | h | h
      · have : (x.toNat + 1) * 256 ^ b.length ≤ y.toNat * 256 ^ b.length := Nat.mul_le_mul_right _ h
        rw [Nat.add_mul] at this
        omega
      · exact h
      · have : (y.toNat + 1) * 256 ^ b.length ≤ x.toNat * 256 ^ b.length := Nat.mul_le_mul_right _ h
        rw [Nat.add_mul] at this
        omega
    rw [hx] at he
    rw [UInt8.toNat_inj.1 hx, be_inj a b hl2 (by omega)]
theorem text_from (s : ByteArray) (h : s.size = 16) : textOf (fromH s) (fromL s) = s := by
  have z := textOf_size (fromH s) (fromL s)
  have e1 := textOf_fromH (h := fromH s) (l := fromL s) (fromH_word s)
  have e2 := textOf_fromL (h := fromH s) (l := fromL s) (fromL_word s)
  generalize textOf (fromH s) (fromL s) = T at *
  unfold fromH at e1
  unfold fromL at e2
  rw [if_pos z, if_pos h] at e1 e2
  have lT := ba_size T
  have lS := ba_size s
  apply ba_ext
  rw [← List.take_append_drop 8 T.data.toList, ← List.take_append_drop 8 s.data.toList,
    be_inj _ _ (by rw [List.length_take, List.length_take, lT, lS, z, h]) (show beN (T.data.toList.take 8) = beN (s.data.toList.take 8) by omega),
    be_inj _ _ (by rw [List.length_drop, List.length_drop, lT, lS, z, h]) (show beN (T.data.toList.drop 8) = beN (s.data.toList.drop 8) by omega)]

/-- Byte k of a text. -/
def bt (t : ByteArray) (k : Nat) : Nat := (t.data.toList.getD k 0).toNat
theorem bt_lt (t : ByteArray) (k : Nat) : bt t k < 256 := by
  unfold bt
  have := (t.data.toList.getD k 0).toNat_lt
  omega
theorem bt_at (t : ByteArray) (k : Nat) (h : k < t.size) : t[k].toNat = bt t k := by
  unfold bt
  have hl : k < t.data.toList.length := by rw [ba_size]; exact h
  rw [List.getD_eq_getElem?_getD, List.getElem?_eq_getElem hl]
  rfl
/-- A pad's parts, an account's. -/
def padP (t : ByteArray) : Lf := ⟨true, ⟨#[]⟩, t.extract 2 t.size, 0, 0⟩
def accP (t : ByteArray) (n m : Nat) : Lf := ⟨false, t.extract 2 (2 + n), t.extract (3 + n) (3 + n + m), fromH (t.extract (3 + n + m) t.size), fromL (t.extract (3 + n + m) t.size)⟩
def rdR (t : ByteArray) : Option Lf :=
  if t.size < 2 then none
  else if bt t 0 = 2 then (if t.size = 2 + bt t 1 then (if (padP t).may = true then some (padP t) else none) else none)
  else if bt t 0 ≠ 0 ∨ t.size < 3 + bt t 1 then none
  else if t.size = 3 + bt t 1 + bt t (2 + bt t 1) + 16 then
    (if (accP t (bt t 1) (bt t (2 + bt t 1))).may = true then some (accP t (bt t 1) (bt t (2 + bt t 1))) else none)
  else none
theorem cut_at (t : ByteArray) (k : Nat) (h : k < t.size) : t.data.toList.drop k = UInt8.ofNat (bt t k) :: t.data.toList.drop (k + 1) := by
  have hl : k < t.data.toList.length := by rw [ba_size]; exact h
  rw [List.drop_eq_getElem_cons hl]
  congr 1
  unfold bt
  rw [List.getD_eq_getElem?_getD, List.getElem?_eq_getElem hl]
  exact (UInt8.ofNat_toNat).symm
theorem ext_size2 (t : ByteArray) (a b : Nat) (hb : b ≤ t.size) : (t.extract a b).size = b - a := by rw [ByteArray.size_extract]; omega

theorem padP_text (t : ByteArray) (h2 : 2 ≤ t.size) (h0 : bt t 0 = 2) (hz : t.size = 2 + bt t 1) (hm : (padP t).may = true) : (padP t).text = t := by
  apply ba_ext
  rw [Lf.text_list, Lf.list, if_pos hm, if_pos (show (padP t).pad = true from rfl)]
  show 2 :: szL (t.extract 2 t.size) = _
  have e0 := cut_at t 0 (by omega)
  have e1 := cut_at t 1 (by omega)
  rw [List.drop_zero, h0] at e0
  rw [szL, ext_size2 _ _ _ (Nat.le_refl _), ext_toList, List.take_of_length_le (by rw [ba_size]; omega), show t.size - 2 = bt t 1 by omega]
  rw [e0, e1]
  rfl
theorem accP_text (t : ByteArray) (h0 : bt t 0 = 0) (hz : t.size = 3 + bt t 1 + bt t (2 + bt t 1) + 16) (hm : (accP t (bt t 1) (bt t (2 + bt t 1))).may = true) : (accP t (bt t 1) (bt t (2 + bt t 1))).text = t := by
  apply ba_ext
  rw [Lf.text_list, Lf.list, if_pos hm, if_neg (by simp [accP])]
  have e0 := cut_at t 0 (by omega)
  have e1 := cut_at t 1 (by omega)
  have e2 := cut_at t (2 + bt t 1) (by omega)
  rw [List.drop_zero, h0] at e0
  generalize hn : bt t 1 = n at *
  generalize hmm : bt t (2 + n) = m at *
  show 0 :: (szL (t.extract 2 (2 + n)) ++ szL (t.extract (3 + n) (3 + n + m)) ++ (textOf (fromH (t.extract (3 + n + m) t.size)) (fromL (t.extract (3 + n + m) t.size))).data.toList) = _
  rw [text_from _ (by rw [ext_size2 _ _ _ (Nat.le_refl _)]; omega)]
  rw [szL, szL, ext_size2 _ _ _ (by omega), ext_size2 _ _ _ (by omega), ext_toList, ext_toList, ext_toList, List.take_of_length_le (i := t.size) (by rw [ba_size]; omega)]
  rw [show 2 + n - 2 = n by omega, show 3 + n + m - (3 + n) = m by omega]
  have f1 : t.data.toList.drop 2 = (t.data.toList.take (2 + n)).drop 2 ++ t.data.toList.drop (2 + n) := by
    have := List.take_append_drop n (t.data.toList.drop 2)
    rw [List.drop_drop] at this
    rw [List.drop_take, show 2 + n - 2 = n by omega]
    exact this.symm
  have f2 : t.data.toList.drop (3 + n) = (t.data.toList.take (3 + n + m)).drop (3 + n) ++ t.data.toList.drop (3 + n + m) := by
    have := List.take_append_drop m (t.data.toList.drop (3 + n))
    rw [List.drop_drop] at this
    rw [List.drop_take, show 3 + n + m - (3 + n) = m by omega]
    exact this.symm
  rw [show 2 + n + 1 = 3 + n by omega] at e2
  conv => rhs; rw [e0, e1, f1, e2, f2]
  simp

theorem accP_words (t : ByteArray) (n m : Nat) : Word (accP t n m).h ∧ Word (accP t n m).l := by
  unfold accP
  exact ⟨fromH_word _, fromL_word _⟩
theorem rdR_some {t : ByteArray} {x : Lf} (h : rdR t = some x) : x.may = true ∧ x.text = t ∧ Word x.h ∧ Word x.l := by
  unfold rdR at h
  by_cases h2 : t.size < 2
  · rw [if_pos h2] at h; cases h
  · rw [if_neg h2] at h
    by_cases hb : bt t 0 = 2
    · rw [if_pos hb] at h
      by_cases hz : t.size = 2 + bt t 1
      · rw [if_pos hz] at h
        by_cases hm : (padP t).may = true
        · rw [if_pos hm] at h
          injection h with h
          subst h
          exact ⟨hm, padP_text t (by omega) hb hz hm, word_zero, word_zero⟩
        · rw [if_neg hm] at h; cases h
      · rw [if_neg hz] at h; cases h
    · rw [if_neg hb] at h
      by_cases hc : bt t 0 ≠ 0 ∨ t.size < 3 + bt t 1
      · rw [if_pos hc] at h; cases h
      · rw [if_neg hc] at h
        by_cases hz : t.size = 3 + bt t 1 + bt t (2 + bt t 1) + 16
        · rw [if_pos hz] at h
          by_cases hm : (accP t (bt t 1) (bt t (2 + bt t 1))).may = true
          · rw [if_pos hm] at h
            injection h with h
            subst h
            exact ⟨hm, accP_text t (by omega) hz hm, accP_words t _ _⟩
          · rw [if_neg hm] at h; cases h
        · rw [if_neg hz] at h; cases h
theorem bt_list (t : ByteArray) (l : List UInt8) (h : t.data.toList = l) (k : Nat) : bt t k = (l.getD k 0).toNat := by rw [bt, h]
theorem ofNat_small (n : Nat) (h : n < 256) : (UInt8.ofNat n).toNat = n := UInt8.toNat_ofNat_of_lt' h
theorem ext_mid (t a b c : ByteArray) (h : t.data.toList = a.data.toList ++ b.data.toList ++ c.data.toList) : t.extract a.size (a.size + b.size) = b := by
  apply ba_ext
  rw [ext_toList, h, List.append_assoc, List.drop_take, List.drop_left' (by rw [ba_size]), show a.size + b.size - a.size = b.size by omega, List.take_left' (by rw [ba_size])]
theorem ext_end (t a b : ByteArray) (h : t.data.toList = a.data.toList ++ b.data.toList) : t.extract a.size t.size = b := by
  apply ba_ext
  rw [ext_toList, List.take_of_length_le (by rw [ba_size]; omega), h, List.drop_left' (by rw [ba_size])]
theorem rdR_text (x : Lf) (hm : x.may = true) (hh : Word x.h) (hl : Word x.l) : rdR x.text = some x := by
  obtain ⟨p, i, s, h, l⟩ := x
  have ht := Lf.text_list ⟨p, i, s, h, l⟩
  unfold Lf.list at ht
  rw [if_pos hm] at ht
  generalize Lf.text ⟨p, i, s, h, l⟩ = t at *
  simp only at ht
  have hz := congrArg List.length ht
  rw [ba_size] at hz
  cases p with
  | true =>
    obtain ⟨rfl, rfl, rfl, s32⟩ := Lf.may_pad _ hm rfl
    simp only at s32
    rw [if_pos rfl] at ht hz
    rw [szL, List.length_cons, List.length_cons, ba_size] at hz
    have b0 : bt t 0 = 2 := by rw [bt_list t _ ht]; rfl
    have b1 : bt t 1 = s.size := by rw [bt_list t _ ht]; exact ofNat_small _ (by omega)
    have es : t.extract 2 t.size = s := ext_end t ⟨#[2, UInt8.ofNat s.size]⟩ s (by rw [ht]; rfl)
    have ep : padP t = ⟨true, ⟨#[]⟩, s, 0, 0⟩ := by unfold padP; rw [es]
    unfold rdR
    rw [if_neg (by omega), if_pos b0, b1, if_pos (by omega), ep, if_pos hm]
  | false =>
    obtain ⟨-, i96, s32⟩ := Lf.may_id _ hm rfl
    simp only at i96 s32 hh hl
    rw [if_neg (by simp)] at ht hz
    have zt := textOf_size h l
    rw [List.length_cons, List.length_append, List.length_append, szL, szL, List.length_cons, List.length_cons, ba_size, ba_size, ba_size, zt] at hz
    have b0 : bt t 0 = 0 := by rw [bt_list t _ ht]; rfl
    have b1 : bt t 1 = i.size := by rw [bt_list t _ ht]; exact ofNat_small _ (by omega)
    have ei : t.extract 2 (2 + i.size) = i := ext_mid t ⟨#[0, UInt8.ofNat i.size]⟩ i ⟨(szL s ++ (textOf h l).data.toList).toArray⟩ (by rw [ht, szL, szL]; simp)
    have q1 : (⟨(0 :: szL i).toArray⟩ : ByteArray).size = 2 + i.size := by
      rw [← ba_size]; show (0 :: szL i).length = _
      rw [szL, List.length_cons, List.length_cons, ba_size]; omega
    have q2 : (⟨(0 :: (szL i ++ [UInt8.ofNat s.size])).toArray⟩ : ByteArray).size = 3 + i.size := by
      rw [← ba_size]; show (0 :: (szL i ++ [UInt8.ofNat s.size])).length = _
      rw [szL, List.length_cons, List.length_append, List.length_cons, ba_size]; simp; omega
    have q3 : (⟨(0 :: (szL i ++ szL s)).toArray⟩ : ByteArray).size = 3 + i.size + s.size := by
      rw [← ba_size]; show (0 :: (szL i ++ szL s)).length = _
      rw [szL, szL, List.length_cons, List.length_append, List.length_cons, List.length_cons, ba_size, ba_size]; omega
    have b2 : bt t (2 + i.size) = s.size := by
      rw [bt_list t _ ht, ← q1, ← ba_size]
      show ((0 :: (szL i ++ szL s ++ (textOf h l).data.toList)).getD (0 :: szL i).length 0).toNat = _
      rw [show (0 :: (szL i ++ szL s ++ (textOf h l).data.toList)) = (0 :: szL i) ++ (szL s ++ (textOf h l).data.toList) by simp]
      rw [List.getD_eq_getElem?_getD, List.getElem?_append_right (Nat.le_refl _), Nat.sub_self, szL]
      exact ofNat_small _ (by omega)
    have es : t.extract (3 + i.size) (3 + i.size + s.size) = s := by
      have := ext_mid t ⟨(0 :: (szL i ++ [UInt8.ofNat s.size])).toArray⟩ s (textOf h l) (by rw [ht, szL, szL]; simp)
      rw [q2] at this
      exact this
    have en : t.extract (3 + i.size + s.size) t.size = textOf h l := by
      have := ext_end t ⟨(0 :: (szL i ++ szL s)).toArray⟩ (textOf h l) (by rw [ht]; simp)
      rw [q3] at this
      exact this
    have ep : accP t i.size s.size = ⟨false, i, s, h, l⟩ := by unfold accP; rw [ei, es, en, textOf_fromH hh, textOf_fromL hl]
    unfold rdR
    rw [if_neg (by omega), if_neg (by omega), b1, b2, if_neg (by omega), if_pos (by omega), ep, if_pos hm]
/-- Both readings are the same. -/
theorem rdR_eq (t : ByteArray) : rdR t = rd t := by
  cases h : rd t with
  | some x =>
    obtain ⟨hm, ht, hh, hl⟩ := rd_some h
    rw [← ht]
    exact rdR_text x hm hh hl
  | none =>
    cases k : rdR t with
    | none => rfl
    | some x =>
      obtain ⟨hm, ht, hh, hl⟩ := rdR_some k
      have := rd_text x hm hh hl
      rw [ht, h] at this
      cases this
end Go.Proofs.YtkmnfogcocppjaaDoor
