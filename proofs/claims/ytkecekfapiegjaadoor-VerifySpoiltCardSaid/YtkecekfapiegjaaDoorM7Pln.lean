/- Several of my texts, laid as one. -/
import Derived.Test.YtkecekfapiegjaaDoorU1Nums
import Derived.Lib.TrimUEq
import Derived.Lib.ValidLaws
import Derived.Lib.MapLaws
import Derived.KernelRfl
import Derived.Laws.Strings
/-
  Plain words on bytes and runes: no rune begins here; the runes of bytes, or none; a text's lines; a line's kind, what is wrong with it.
-/
namespace Go.Proofs.YtkecekfapiegjaaDoor
set_option linter.unusedVariables false
set_option linter.unusedSimpArgs false
set_option maxRecDepth 10000
open Go.RowKit Go.Lib

/-- No rune begins here. -/
def badR (l : List UInt8) : Prop := (decodeL l).1 = 65533 ∧ (decodeL l).2 = 1
instance (l : List UInt8) : Decidable (badR l) := inferInstanceAs (Decidable (_ ∧ _))
theorem decodeN_le4 (n b0 b1 b2 b3 : Nat) : (decodeN n b0 b1 b2 b3).2 ≤ 4 := by
  unfold decodeN
  repeat' split
  all_goals simp
theorem decodeL_le4 (l : List UInt8) : (decodeL l).2 ≤ 4 := by rw [decodeL_N]; exact decodeN_le4 _ _ _ _ _
theorem ba_ext {a b : ByteArray} (h : a.data.toList = b.data.toList) : a = b := by
  apply ByteArray.ext
  exact Array.ext' h
theorem ba_list (a : ByteArray) (l : List UInt8) (h : a.data.toList = l) : a = ⟨l.toArray⟩ := ba_ext (by rw [h])
theorem ba_size (a : ByteArray) : a.data.toList.length = a.size := by simp
theorem ext_toList (t : ByteArray) (a b : Nat) : (t.extract a b).data.toList = (t.data.toList.take b).drop a := by
  rw [ByteArray.data_extract, Array.toList_extract, List.extract_eq_take_drop, List.drop_take]
theorem ext_all (t : ByteArray) (a : Nat) : (t.extract a t.size).data.toList = t.data.toList.drop a := by
  rw [ext_toList, List.take_of_length_le (by rw [ba_size]; exact Nat.le_refl _)]

/-- A text of these bytes. -/
def bA (l : List UInt8) : ByteArray := ⟨l.toArray⟩
theorem bA_list (l : List UInt8) : (bA l).data.toList = l := by simp [bA]
theorem bA_of (s : ByteArray) : bA s.data.toList = s := ba_ext (bA_list _)
theorem bA_size (l : List UInt8) : (bA l).size = l.length := by rw [← ba_size, bA_list]
theorem bA_inj {a b : List UInt8} (h : bA a = bA b) : a = b := by rw [← bA_list a, h, bA_list]
theorem bA_ext (s : ByteArray) (a : Nat) : s.extract a s.size = bA (s.data.toList.drop a) := ba_ext (by rw [ext_all, bA_list])

/-- The runes of bytes; none, where some are no rune's. -/
def runesN : Nat → List UInt8 → Option (List Nat)
  | 0, _ => some []
  | f + 1, l => if l = [] then some [] else if badR l then none else (runesN f (l.drop (decodeL l).2)).map ((decodeL l).1 :: ·)
def runesL (l : List UInt8) : Option (List Nat) := runesN l.length l
theorem runesN_nil (n : Nat) : runesN n [] = some [] := by cases n <;> simp [runesN]
theorem runesN_more (f : Nat) (l : List UInt8) (hl : l ≠ []) : runesN (f + 1) l = if badR l then none else (runesN f (l.drop (decodeL l).2)).map ((decodeL l).1 :: ·) := by
  rw [runesN, if_neg hl]
theorem runesN_fuel : ∀ (n m : Nat) (l : List UInt8), l.length ≤ n → l.length ≤ m → runesN n l = runesN m l
  | 0, m, l, h, _ => by
    have : l = [] := List.length_eq_zero_iff.1 (by omega)
    subst this
    rw [runesN_nil, runesN_nil]
  | n + 1, 0, l, _, h => by
    have : l = [] := List.length_eq_zero_iff.1 (by omega)
    subst this
    rw [runesN_nil, runesN_nil]
  | n + 1, m + 1, l, h1, h2 => by
    by_cases hl : l = []
    · subst hl; rw [runesN_nil, runesN_nil]
    · rw [runesN_more _ _ hl, runesN_more _ _ hl]
      have hw := decodeL_width l
      have hp := List.length_pos_iff.2 hl
      rw [runesN_fuel n m (l.drop (decodeL l).2) (by rw [List.length_drop]; omega) (by rw [List.length_drop]; omega)]
theorem runesL_nil : runesL [] = some [] := rfl
theorem runesL_step (l : List UInt8) (hl : l ≠ []) : runesL l = if badR l then none else (runesL (l.drop (decodeL l).2)).map ((decodeL l).1 :: ·) := by
  obtain ⟨n, hn⟩ : ∃ n, l.length = n + 1 := ⟨l.length - 1, by have := List.length_pos_iff.2 hl; omega⟩
  have hw := decodeL_width l
  show runesN l.length l = _
  rw [hn, runesN_more _ _ hl, runesN_fuel n (l.drop (decodeL l).2).length _ (by rw [List.length_drop]; omega) (Nat.le_refl _)]
  rfl
theorem runesL_bad (l : List UInt8) (hl : l ≠ []) (hb : badR l) : runesL l = none := by rw [runesL_step l hl, if_pos hb]
theorem runesL_good (l : List UInt8) (hl : l ≠ []) (hb : ¬ badR l) : runesL l = (runesL (l.drop (decodeL l).2)).map ((decodeL l).1 :: ·) := by rw [runesL_step l hl, if_neg hb]
theorem runesN_len : ∀ (n : Nat) (l : List UInt8) (r : List Nat), l.length ≤ n → runesN n l = some r → r.length ≤ l.length ∧ l.length ≤ 4 * r.length
  | 0, l, r, h, hs => by
    have : l = [] := List.length_eq_zero_iff.1 (by omega)
    subst this
    rw [runesN_nil] at hs
    injection hs with hs
    subst hs
    simp
  | n + 1, l, r, h, hs => by
    by_cases hl : l = []
    · subst hl
      rw [runesN_nil] at hs
      injection hs with hs
      subst hs
      simp
    · rw [runesN_more _ _ hl] at hs
      by_cases hb : badR l
      · rw [if_pos hb] at hs; cases hs
      · rw [if_neg hb] at hs
        have hw := decodeL_width l
        have h4 := decodeL_le4 l
        have hp := List.length_pos_iff.2 hl
        obtain ⟨j, hj, rfl⟩ := Option.map_eq_some_iff.1 hs
        have := runesN_len n _ j (by rw [List.length_drop]; omega) hj
        rw [List.length_drop] at this
        simp only [List.length_cons]
        have hin : (decodeL l).2 ≤ l.length := by
          by_cases hx : (decodeL l).2 ≤ l.length
          · exact hx
          · exfalso
            exact hx (decodeL_le l hl)
        omega
theorem runesL_len (l : List UInt8) (r : List Nat) (h : runesL l = some r) : r.length ≤ l.length ∧ l.length ≤ 4 * r.length := runesN_len l.length l r (Nat.le_refl _) h

/-- What is wrong with a line, what it is. -/
def wrongL (l : List UInt8) : Nat := match runesL l with
  | none => 90
  | some r => if 80 < r.length then 91 else 0
def kindL : List UInt8 → Nat
  | [] => 0
  | c :: _ => if c = 35 then 1 else 2
/-- The lines of bytes. -/
def splitL : List UInt8 → List (List UInt8)
  | [] => [[]]
  | c :: l => if c = 10 then [] :: splitL l else match splitL l with
    | [] => [[c]]
    | x :: r => (c :: x) :: r
/-- Lines, a byte 10 between. -/
def joinL : List (List UInt8) → List UInt8
  | [] => []
  | [x] => x
  | x :: y :: r => x ++ 10 :: joinL (y :: r)
/-- Numbered from k on. -/
def numb : Nat → List (List UInt8) → List (Nat × List UInt8)
  | _, [] => []
  | k, x :: r => (k, x) :: numb (k + 1) r
/-- A line's value, a line's cells. -/
def lineV (x : Nat × List UInt8) : Value := .agg #[.int .i64 x.1, .string (bA x.2), .int .u8 (kindL x.2), .int .i64 (wrongL x.2)]
def lineC (x : Nat × List UInt8) : List Value := [.int .i64 x.1, .string (bA x.2), .int .u8 (kindL x.2), .int .i64 (wrongL x.2)]
/-- May a number be a rune? -/
def okR (r : Int) : Bool := decide ((0 ≤ r ∧ r < 55296) ∨ (57343 < r ∧ r ≤ 1114111))
end Go.Proofs.YtkecekfapiegjaaDoor
/-
  Plain words on Ids.
-/
namespace Go.Proofs.YtkecekfapiegjaaDoor
set_option linter.unusedVariables false
set_option linter.unusedSimpArgs false
set_option maxRecDepth 10000
open Go.RowKit Go.Lib

theorem same_str7 (a b : ByteArray) : (a.toList == b.toList) = decide (a = b) := by
  rw [ByteArray.toList_eq, ByteArray.toList_eq]
  by_cases h : a = b
  · subst h; simp
  · rw [decide_eq_false h]
    apply beq_false_of_ne
    intro e
    apply h
    apply ByteArray.ext
    exact Array.ext' e
/-- May a rune stand in an Id? -/
def idRune (c : Nat) : Bool := decide ((97 ≤ c ∧ c ≤ 122) ∨ (65 ≤ c ∧ c ≤ 90) ∨ (48 ≤ c ∧ c ≤ 57) ∨ c = 46 ∨ c = 95 ∨ c = 45 ∨ 161 ≤ c)
/-- How many runes there are; none, where one of them may not stand in an Id, or is none. -/
def idN : Nat → List UInt8 → Option Nat
  | 0, _ => some 0
  | f + 1, l => if l = [] then some 0 else if badR l then none else if idRune (decodeL l).1 then (idN f (l.drop (decodeL l).2)).map (· + 1) else none
/-- Behind k runes: from 1 to 24 runes in all, each of which may stand in an Id? -/
def idK (k : Nat) (l : List UInt8) : Bool := match idN l.length l with
  | some n => decide (1 ≤ k + n ∧ k + n ≤ 24)
  | none => false
def isId (l : List UInt8) : Bool := idK 0 l
theorem idN_nil (n : Nat) : idN n [] = some 0 := by cases n <;> simp [idN]
theorem idN_more (f : Nat) (l : List UInt8) (hl : l ≠ []) : idN (f + 1) l = if badR l then none else if idRune (decodeL l).1 then (idN f (l.drop (decodeL l).2)).map (· + 1) else none := by
  rw [idN, if_neg hl]
theorem idN_fuel : ∀ (n m : Nat) (l : List UInt8), l.length ≤ n → l.length ≤ m → idN n l = idN m l
  | 0, m, l, h, _ => by
    have : l = [] := List.length_eq_zero_iff.1 (by omega)
    subst this
    rw [idN_nil, idN_nil]
  | n + 1, 0, l, _, h => by
    have : l = [] := List.length_eq_zero_iff.1 (by omega)
    subst this
    rw [idN_nil, idN_nil]
  | n + 1, m + 1, l, h1, h2 => by
    by_cases hl : l = []
    · subst hl; rw [idN_nil, idN_nil]
    · rw [idN_more _ _ hl, idN_more _ _ hl]
      have hw := decodeL_width l
      have hp := List.length_pos_iff.2 hl
      rw [idN_fuel n m (l.drop (decodeL l).2) (by rw [List.length_drop]; omega) (by rw [List.length_drop]; omega)]
theorem idK_nil (k : Nat) : idK k [] = decide (1 ≤ k ∧ k ≤ 24) := by
  unfold idK
  rw [idN_nil]
  rfl
theorem idK_step (k : Nat) (l : List UInt8) (hl : l ≠ []) : idK k l = if badR l then false else if idRune (decodeL l).1 then idK (k + 1) (l.drop (decodeL l).2) else false := by
  obtain ⟨n, hn⟩ : ∃ n, l.length = n + 1 := ⟨l.length - 1, by have := List.length_pos_iff.2 hl; omega⟩
  have hw := decodeL_width l
  unfold idK
  rw [hn, idN_more _ _ hl]
  by_cases hb : badR l
  · rw [if_pos hb, if_pos hb]
  · rw [if_neg hb, if_neg hb]
    by_cases hr : idRune (decodeL l).1 = true
    · rw [if_pos hr, if_pos hr, idN_fuel n (l.drop (decodeL l).2).length _ (by rw [List.length_drop]; omega) (Nat.le_refl _)]
      cases idN (l.drop (decodeL l).2).length (l.drop (decodeL l).2) with
      | none => rfl
      | some j =>
        show decide (1 ≤ k + (j + 1) ∧ k + (j + 1) ≤ 24) = decide (1 ≤ k + 1 + j ∧ k + 1 + j ≤ 24)
        rw [show k + (j + 1) = k + 1 + j by omega]
    · rw [if_neg hr, if_neg hr]
theorem idK_many (k : Nat) (l : List UInt8) (hk : 24 < k) : idK k l = false := by
  unfold idK
  split
  · exact decide_eq_false (by omega)
  · rfl
theorem idN_valid : ∀ (n : Nat) (l : List UInt8), l.length ≤ n → idN n l ≠ none → validD l = true
  | 0, l, h, _ => by
    have : l = [] := List.length_eq_zero_iff.1 (by omega)
    subst this
    exact validD_nil
  | n + 1, l, h, hs => by
    by_cases hl : l = []
    · subst hl; exact validD_nil
    · rw [idN_more _ _ hl] at hs
      rw [validD_step l hl]
      by_cases hb : badR l
      · rw [if_pos hb] at hs; exact absurd rfl hs
      · rw [if_neg hb] at hs
        rw [if_neg (show ¬ ((decodeL l).1 = 65533 ∧ (decodeL l).2 = 1) from hb)]
        by_cases hr : idRune (decodeL l).1 = true
        · rw [if_pos hr] at hs
          have hw := decodeL_width l
          refine idN_valid n _ (by rw [List.length_drop]; omega) (fun e => hs (by rw [e]; rfl))
        · rw [if_neg hr] at hs; exact absurd rfl hs
theorem isId_valid (l : List UInt8) (h : isId l = true) : validD l = true := by
  refine idN_valid l.length l (Nat.le_refl _) (fun e => ?_)
  unfold isId idK at h
  rw [e] at h
  cases h
theorem idN_len : ∀ (n : Nat) (l : List UInt8) (k : Nat), l.length ≤ n → idN n l = some k → l.length ≤ 4 * k
  | 0, l, k, h, _ => by omega
  | n + 1, l, k, h, hs => by
    by_cases hl : l = []
    · subst hl; simp
    · rw [idN_more _ _ hl] at hs
      by_cases hb : badR l
      · rw [if_pos hb] at hs; cases hs
      · rw [if_neg hb] at hs
        by_cases hr : idRune (decodeL l).1 = true
        · rw [if_pos hr] at hs
          have hw := decodeL_width l
          have h4 := decodeL_le4 l
          obtain ⟨j, hj, rfl⟩ := Option.map_eq_some_iff.1 hs
          have := idN_len n _ j (by rw [List.length_drop]; omega) hj
          rw [List.length_drop] at this
          omega
        · rw [if_neg hr] at hs; cases hs
theorem isId_len (l : List UInt8) (h : isId l = true) : 1 ≤ l.length ∧ l.length ≤ 96 := by
  unfold isId idK at h
  split at h
  · rename_i n hn
    have h1 := of_decide_eq_true h
    have h2 := idN_len l.length l n (Nat.le_refl _) hn
    refine ⟨?_, by omega⟩
    rcases Nat.eq_zero_or_pos l.length with e | e
    · have : l = [] := List.length_eq_zero_iff.1 e
      subst this
      rw [idN_nil] at hn
      injection hn with hn
      omega
    · exact e
  · cases h
theorem idRune_def (c : Nat) : idRune c = decide ((97 ≤ c ∧ c ≤ 122) ∨ (65 ≤ c ∧ c ≤ 90) ∨ (48 ≤ c ∧ c ≤ 57) ∨ c = 46 ∨ c = 95 ∨ c = 45 ∨ 161 ≤ c) := rfl
theorem drop_ne {s : ByteArray} {pos : Nat} (h : pos < s.size) : s.data.toList.drop pos ≠ [] := by
  intro e
  have := congrArg List.length e
  rw [List.length_drop, ba_size] at this
  simp at this
  omega
end Go.Proofs.YtkecekfapiegjaaDoor
