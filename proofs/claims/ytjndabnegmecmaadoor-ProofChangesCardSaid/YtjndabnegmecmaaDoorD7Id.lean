/-
  Plain words on Ids.
-/
import Derived.Laws.Strings
import Derived.Test.YtjndabnegmecmaaDoorD9Rune
import Derived.Lib.TrimUEq
import Derived.Lib.ValidLaws
import Derived.Lib.MapLaws
import Derived.KernelRfl
namespace Go.Proofs.YtjndabnegmecmaaDoor
set_option linter.unusedVariables false
set_option linter.unusedSimpArgs false
set_option maxRecDepth 10000
open Go.RowKit Go.Lib

theorem same_str7 (a b : ByteArray) : (a.toList == b.toList) = decide (a = b) := by
  rw [ByteArray.toList_eq, ByteArray.toList_eq]
  by_cases h : a = b
  · subst h; simp
  · rw [decide_eq_false h]
    apply beq_false_of_ne
    intro e
    apply h
    apply ByteArray.ext
    exact Array.ext' e
/-- May a rune stand in an Id? -/
def idRune (c : Nat) : Bool := decide ((97 ≤ c ∧ c ≤ 122) ∨ (65 ≤ c ∧ c ≤ 90) ∨ (48 ≤ c ∧ c ≤ 57) ∨ c = 46 ∨ c = 95 ∨ c = 45 ∨ 161 ≤ c)
/-- How many runes there are; none, where one of them may not stand in an Id, or is none. -/
def idN : Nat → List UInt8 → Option Nat
  | 0, _ => some 0
  | f + 1, l => if l = [] then some 0 else if badR l then none else if idRune (decodeL l).1 then (idN f (l.drop (decodeL l).2)).map (· + 1) else none
/-- Behind k runes: from 1 to 24 runes in all, each of which may stand in an Id? -/
def idK (k : Nat) (l : List UInt8) : Bool := match idN l.length l with
  | some n => decide (1 ≤ k + n ∧ k + n ≤ 24)
  | none => false
def isId (l : List UInt8) : Bool := idK 0 l
theorem idN_nil (n : Nat) : idN n [] = some 0 := by cases n <;> simp [idN]
theorem idN_more (f : Nat) (l : List UInt8) (hl : l ≠ []) : idN (f + 1) l = if badR l then none else if idRune (decodeL l).1 then (idN f (l.drop (decodeL l).2)).map (· + 1) else none := by
  rw [idN, if_neg hl]
theorem idN_fuel : ∀ (n m : Nat) (l : List UInt8), l.length ≤ n → l.length ≤ m → idN n l = idN m l
  | 0, m, l, h, _ => by
    have : l = [] := List.length_eq_zero_iff.1 (by omega)
    subst this
    rw [idN_nil, idN_nil]
  | n + 1, 0, l, _, h => by
    have : l = [] := List.length_eq_zero_iff.1 (by omega)
    subst this
    rw [idN_nil, idN_nil]
  | n + 1, m + 1, l, h1, h2 => by
    by_cases hl : l = []
    · subst hl; rw [idN_nil, idN_nil]
    · rw [idN_more _ _ hl, idN_more _ _ hl]
      have hw := decodeL_width l
      have hp := List.length_pos_iff.2 hl
      rw [idN_fuel n m (l.drop (decodeL l).2) (by rw [List.length_drop]; omega) (by rw [List.length_drop]; omega)]
theorem idK_nil (k : Nat) : idK k [] = decide (1 ≤ k ∧ k ≤ 24) := by
  unfold idK
  rw [idN_nil]
  rfl
theorem idK_step (k : Nat) (l : List UInt8) (hl : l ≠ []) : idK k l = if badR l then false else if idRune (decodeL l).1 then idK (k + 1) (l.drop (decodeL l).2) else false := by
  obtain ⟨n, hn⟩ : ∃ n, l.length = n + 1 := ⟨l.length - 1, by have := List.length_pos_iff.2 hl; omega⟩
  have hw := decodeL_width l
  unfold idK
  rw [hn, idN_more _ _ hl]
  by_cases hb : badR l
  · rw [if_pos hb, if_pos hb]
  · rw [if_neg hb, if_neg hb]
    by_cases hr : idRune (decodeL l).1 = true
    · rw [if_pos hr, if_pos hr, idN_fuel n (l.drop (decodeL l).2).length _ (by rw [List.length_drop]; omega) (Nat.le_refl _)]
      cases idN (l.drop (decodeL l).2).length (l.drop (decodeL l).2) with
      | none => rfl
      | some j =>
        show decide (1 ≤ k + (j + 1) ∧ k + (j + 1) ≤ 24) = decide (1 ≤ k + 1 + j ∧ k + 1 + j ≤ 24)
        rw [show k + (j + 1) = k + 1 + j by omega]
    · rw [if_neg hr, if_neg hr]
theorem idK_many (k : Nat) (l : List UInt8) (hk : 24 < k) : idK k l = false := by
  unfold idK
  split
  · exact decide_eq_false (by omega)
  · rfl
theorem idN_valid : ∀ (n : Nat) (l : List UInt8), l.length ≤ n → idN n l ≠ none → validD l = true
  | 0, l, h, _ => by
    have : l = [] := List.length_eq_zero_iff.1 (by omega)
    subst this
    exact validD_nil
  | n + 1, l, h, hs => by
    by_cases hl : l = []
    · subst hl; exact validD_nil
    · rw [idN_more _ _ hl] at hs
      rw [validD_step l hl]
      by_cases hb : badR l
      · rw [if_pos hb] at hs; exact absurd rfl hs
      · rw [if_neg hb] at hs
        rw [if_neg (show ¬ ((decodeL l).1 = 65533 ∧ (decodeL l).2 = 1) from hb)]
        by_cases hr : idRune (decodeL l).1 = true
        · rw [if_pos hr] at hs
          have hw := decodeL_width l
          refine idN_valid n _ (by rw [List.length_drop]; omega) (fun e => hs (by rw [e]; rfl))
        · rw [if_neg hr] at hs; exact absurd rfl hs
theorem isId_valid (l : List UInt8) (h : isId l = true) : validD l = true := by
  refine idN_valid l.length l (Nat.le_refl _) (fun e => ?_)
  unfold isId idK at h
  rw [e] at h
  cases h
theorem idN_len : ∀ (n : Nat) (l : List UInt8) (k : Nat), l.length ≤ n → idN n l = some k → l.length ≤ 4 * k
  | 0, l, k, h, _ => by omega
  | n + 1, l, k, h, hs => by
    by_cases hl : l = []
    · subst hl; simp
    · rw [idN_more _ _ hl] at hs
      by_cases hb : badR l
      · rw [if_pos hb] at hs; cases hs
      · rw [if_neg hb] at hs
        by_cases hr : idRune (decodeL l).1 = true
        · rw [if_pos hr] at hs
          have hw := decodeL_width l
          have h4 := decodeL_le4 l
          obtain ⟨j, hj, rfl⟩ := Option.map_eq_some_iff.1 hs
          have := idN_len n _ j (by rw [List.length_drop]; omega) hj
          rw [List.length_drop] at this
          omega
        · rw [if_neg hr] at hs; cases hs
theorem isId_len (l : List UInt8) (h : isId l = true) : 1 ≤ l.length ∧ l.length ≤ 96 := by
  unfold isId idK at h
  split at h
  · rename_i n hn
    have h1 := of_decide_eq_true h
    have h2 := idN_len l.length l n (Nat.le_refl _) hn
    refine ⟨?_, by omega⟩
    rcases Nat.eq_zero_or_pos l.length with e | e
    · have : l = [] := List.length_eq_zero_iff.1 e
      subst this
      rw [idN_nil] at hn
      injection hn with hn
      omega
    · exact e
  · cases h
theorem idRune_def (c : Nat) : idRune c = decide ((97 ≤ c ∧ c ≤ 122) ∨ (65 ≤ c ∧ c ≤ 90) ∨ (48 ≤ c ∧ c ≤ 57) ∨ c = 46 ∨ c = 95 ∨ c = 45 ∨ 161 ≤ c) := rfl
theorem drop_ne {s : ByteArray} {pos : Nat} (h : pos < s.size) : s.data.toList.drop pos ≠ [] := by
  intro e
  have := congrArg List.length e
  rw [List.length_drop, ba_size] at this
  simp at this
  omega
end Go.Proofs.YtjndabnegmecmaaDoor
