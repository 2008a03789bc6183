/-
  Plain words on a block's words: each is made of those before it, so from any sixteen of them the later ones come; bytes of words, and words of bytes.
-/
import Derived.Test.YtkmnfogcocppjaaDoorD4Words
namespace Go.Proofs.YtkmnfogcocppjaaDoor
set_option linter.unusedVariables false
set_option linter.unusedSimpArgs false
set_option maxRecDepth 10000
open Go.RowKit

/-- Each word from the sixteenth on is made of those before it. -/
def Made (m : List B32) : Prop := ∀ t, 16 ≤ t → t < m.length → m.getD t 0 = m.getD (t - 16) 0 + sig0 (m.getD (t - 15) 0) + m.getD (t - 7) 0 + sig1 (m.getD (t - 2) 0)
theorem getD_app (m k : List B32) (t : Nat) (h : t < m.length) : (m ++ k).getD t 0 = m.getD t 0 := by
  rw [List.getD_eq_getElem?_getD, List.getD_eq_getElem?_getD, List.getElem?_append_left h]
theorem getD_last (m : List B32) (x : B32) : (m ++ [x]).getD m.length 0 = x := by
  rw [List.getD_eq_getElem?_getD, List.getElem?_append_right (Nat.le_refl _)]; simp
theorem made_snoc (m : List B32) (h : Made m) (hl : 16 ≤ m.length) : Made (m ++ [nextW m]) := by
  intro t h16 ht
  simp only [List.length_append, List.length_cons, List.length_nil] at ht
  rw [getD_app m _ (t - 16) (by omega), getD_app m _ (t - 15) (by omega), getD_app m _ (t - 7) (by omega), getD_app m _ (t - 2) (by omega)]
  by_cases e : t < m.length
  · rw [getD_app m _ t e]; exact h t h16 e
  · have e2 : t = m.length := by omega
    subst e2
    rw [getD_last]
    rfl
theorem made_grow : ∀ (n : Nat) (m : List B32), Made m → 16 ≤ m.length → Made (grow n m)
  | 0, m, h, _ => h
  | n + 1, m, h, hl => by rw [grow]; exact made_grow n _ (made_snoc m h hl) (by simp; omega)
theorem made_own (l : List UInt8) : Made (own16 l) := fun t h16 ht => by rw [own16_len] at ht; omega
theorem made_words (l : List UInt8) : Made (words64 l) := made_grow 48 _ (made_own l) (by rw [own16_len]; exact Nat.le_refl _)
theorem grow_head : ∀ (n : Nat) (m : List B32) (t : Nat), t < m.length → (grow n m).getD t 0 = m.getD t 0
  | 0, m, t, _ => rfl
  | n + 1, m, t, h => by rw [grow, grow_head n _ t (by simp; omega), getD_app m _ t h]
theorem words_head (l : List UInt8) (t : Nat) (h : t < 16) : (words64 l).getD t 0 = (own16 l).getD t 0 := grow_head 48 _ t (by rw [own16_len]; exact h)
theorem getD_drop (m : List B32) (a t : Nat) : (m.drop a).getD t 0 = m.getD (a + t) 0 := by
  rw [List.getD_eq_getElem?_getD, List.getD_eq_getElem?_getD, List.getElem?_drop]
theorem made_drop (m : List B32) (a : Nat) (h : Made m) : Made (m.drop a) := by
  intro t h16 ht
  rw [List.length_drop] at ht
  simp only [getD_drop]
  have := h (a + t) (by omega) (by omega)
  rw [this, show a + t - 16 = a + (t - 16) by omega, show a + t - 15 = a + (t - 15) by omega, show a + t - 7 = a + (t - 7) by omega, show a + t - 2 = a + (t - 2) by omega]
/-- What begins with the same sixteen words goes on with the same. -/
theorem made_same (u v : List B32) (hu : Made u) (hv : Made v) (h : ∀ t, t < 16 → u.getD t 0 = v.getD t 0) (t : Nat) (h1 : t < u.length) (h2 : t < v.length) : u.getD t 0 = v.getD t 0 := by
  induction t using Nat.strongRecOn with
  | ind t ih =>
    by_cases e : t < 16
    · exact h t e
    · rw [hu t (by omega) h1, hv t (by omega) h2, ih (t - 16) (by omega) (by omega) (by omega), ih (t - 15) (by omega) (by omega) (by omega), ih (t - 7) (by omega) (by omega) (by omega), ih (t - 2) (by omega) (by omega) (by omega)]

/-- Byte r of a word, the greatest first. -/
def byteOf (x : B32) (r : Nat) : Int := iv x / 2 ^ (24 - 8 * r) % 256
theorem byteOf_bd (x : B32) (r : Nat) : 0 ≤ byteOf x r ∧ byteOf x r < 256 := by unfold byteOf; omega
theorem byteOf_be (p q r s : UInt8) : byteOf (be4 p q r s) 0 = (p.toNat : Int) ∧ byteOf (be4 p q r s) 1 = (q.toNat : Int) ∧ byteOf (be4 p q r s) 2 = (r.toNat : Int) ∧ byteOf (be4 p q r s) 3 = (s.toNat : Int) := by
  have := p.toNat_lt; have := q.toNat_lt; have := r.toNat_lt; have := s.toNat_lt
  unfold byteOf
  rw [← be4_eq]
  simp only [beI, List.foldl_cons, List.foldl_nil, Nat.reduceMul, Nat.reduceSub, Int.reducePow]
  refine ⟨by omega, by omega, by omega, by omega⟩
theorem own_getD (l : List UInt8) (a : Nat) (h : a < 16) : (own16 l).getD a 0 = be4 (l.getD (4 * a) 0) (l.getD (4 * a + 1) 0) (l.getD (4 * a + 2) 0) (l.getD (4 * a + 3) 0) := by
  simp [own16, List.getD_eq_getElem?_getD, h]
/-- The bytes of the first sixteen words are the text's. -/
theorem words_byte (l : List UInt8) (a r : Nat) (ha : a < 16) (hr : r < 4) : byteOf ((words64 l).getD a 0) r = ((l.getD (4 * a + r) 0).toNat : Int) := by
  rw [words_head l a ha, own_getD l a ha]
  obtain ⟨h0, h1, h2, h3⟩ := byteOf_be (l.getD (4 * a) 0) (l.getD (4 * a + 1) 0) (l.getD (4 * a + 2) 0) (l.getD (4 * a + 3) 0)
  match r, hr with
  | 0, _ => exact h0
  | 1, _ => exact h1
  | 2, _ => exact h2
  | 3, _ => exact h3
/-- The bytes of sixteen words, from a place on. -/
def winB (m : List B32) (a : Nat) (k : Nat) : List Int := (List.range k).map fun i => byteOf (m.getD (a + i / 4) 0) (i % 4)
theorem winB_succ (m : List B32) (a k : Nat) : winB m a (k + 1) = winB m a k ++ [byteOf (m.getD (a + k / 4) 0) (k % 4)] := by simp [winB, List.range_succ]
theorem winB_len (m : List B32) (a k : Nat) : (winB m a k).length = k := by simp [winB]
theorem take_setI (l : List Int) (t : Nat) (v : Int) (h : t < l.length) : (l.set t v).take (t + 1) = l.take t ++ [v] := by
  rw [List.take_succ_eq_append_getElem (by simpa using h), List.take_set_of_le (Nat.le_refl _), List.getElem_set_self]
theorem winB_at (m : List B32) (a k i : Nat) (h : i < k) : (winB m a k).getD i 0 = byteOf (m.getD (a + i / 4) 0) (i % 4) := by
  simp [winB, List.getD_eq_getElem?_getD, h]
/-- Those bytes' words are these words. -/
theorem be4_byteOf (x : B32) (p q r s : UInt8) (hp : (p.toNat : Int) = byteOf x 0) (hq : (q.toNat : Int) = byteOf x 1) (hr : (r.toNat : Int) = byteOf x 2) (hs : (s.toNat : Int) = byteOf x 3) : be4 p q r s = x := by
  rw [← iv_inj, ← be4_eq]
  have := iv_bd x
  unfold byteOf at hp hq hr hs
  simp only [Nat.reduceMul, Nat.reduceSub, Int.reducePow, Nat.mul_zero, Nat.sub_zero] at hp hq hr hs
  simp only [beI, List.foldl_cons, List.foldl_nil]
  omega
theorem own_win (m : List B32) (a : Nat) (b : List UInt8) (hb : ∀ i, i < 64 → ((b.getD i 0).toNat : Int) = byteOf (m.getD (a + i / 4) 0) (i % 4)) (t : Nat) (ht : t < 16) : (own16 b).getD t 0 = m.getD (a + t) 0 := by
  rw [own_getD b t ht]
  refine be4_byteOf _ _ _ _ _ ?_ ?_ ?_ ?_
  · have := hb (4 * t) (by omega)
    rwa [show 4 * t / 4 = t by omega, show 4 * t % 4 = 0 by omega] at this
  · have := hb (4 * t + 1) (by omega)
    rwa [show (4 * t + 1) / 4 = t by omega, show (4 * t + 1) % 4 = 1 by omega] at this
  · have := hb (4 * t + 2) (by omega)
    rwa [show (4 * t + 2) / 4 = t by omega, show (4 * t + 2) % 4 = 2 by omega] at this
  · have := hb (4 * t + 3) (by omega)
    rwa [show (4 * t + 3) / 4 = t by omega, show (4 * t + 3) % 4 = 3 by omega] at this
/-- From any sixteen words that follow one another those behind them come. -/
theorem hang (l b : List UInt8) (a : Nat) (ha : a ≤ 48) (hb : ∀ i, i < 64 → ((b.getD i 0).toNat : Int) = byteOf ((words64 l).getD (a + i / 4) 0) (i % 4)) (t : Nat) (ht : t < 64 - a) : (words64 b).getD t 0 = (words64 l).getD (a + t) 0 := by
  rw [← getD_drop]
  refine made_same _ _ (made_words b) (made_drop _ a (made_words l)) (fun j hj => ?_) t (by rw [words64_len]; omega) (by rw [List.length_drop, words64_len]; exact ht)
  rw [words_head b j hj, own_win (words64 l) a b hb j hj, getD_drop]
end Go.Proofs.YtkmnfogcocppjaaDoor
