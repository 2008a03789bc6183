/-
  Words on how wide numbers compare, and what is told of sums.
-/
import Derived.Test.YtpafamlegfdclaaU3All
namespace Go.Proofs.Ytpafamlegfdclaa
set_option linter.unusedVariables false
set_option linter.unusedSimpArgs false
open Go.RowKit

theorem cmpI_flip (a b : Int) : cmpI b a = -cmpI a b := by
  rcases Int.lt_trichotomy a b with h | h | h
  · rw [cmpI_lt h, cmpI_gt h]; rfl
  · subst h; rw [cmpI_eq]; rfl
  · rw [cmpI_lt h, cmpI_gt h]
theorem cmpI_le {a b : Int} : cmpI a b ≤ 0 ↔ a ≤ b := by
  rcases Int.lt_trichotomy a b with h | h | h
  · rw [cmpI_lt h]; omega
  · subst h; rw [cmpI_eq]; omega
  · rw [cmpI_gt h]; omega
theorem cmpI_add (a b c : Int) : cmpI (a + c) (b + c) = cmpI a b := by
  rcases Int.lt_trichotomy a b with h | h | h
  · rw [cmpI_lt h, cmpI_lt (by omega)]
  · subst h; rw [cmpI_eq, cmpI_eq]
  · rw [cmpI_gt h, cmpI_gt (by omega)]
theorem cmpI_three (a b : Int) : cmpI a b = -1 ∨ cmpI a b = 0 ∨ cmpI a b = 1 := by
  rcases Int.lt_trichotomy a b with h | h | h
  · exact .inl (cmpI_lt h)
  · subst h; exact .inr (.inl (cmpI_eq a))
  · exact .inr (.inr (cmpI_gt h))
/-- Two wide numbers are the same just if they compare so. -/
theorem wide_same {H h l K j m : Int} (b : Word h) (c : Word l) (b' : Word j) (c' : Word m) : (H == K && (h == j && l == m)) = decide (cmpI (wv H h l) (wv K j m) = 0) := by
  rw [Bool.eq_iff_iff, decide_eq_true_eq, cmpI_zero]
  simp only [Bool.and_eq_true, beq_iff_eq]
  constructor
  · rintro ⟨rfl, rfl, rfl⟩; rfl
  · intro e
    have h1 := nv_word b c
    have h2 := nv_word b' c'
    have e1 : H = K := by unfold wv at e; omega
    subst e1
    have e2 : nv h l = nv j m := by unfold wv at e; omega
    obtain ⟨_, _⟩ := b; obtain ⟨_, _⟩ := c; obtain ⟨_, _⟩ := b'; obtain ⟨_, _⟩ := c'
    unfold nv at e2
    exact ⟨rfl, by omega, by omega⟩
/-- A number put to a wide one whose High isn't at its end is told whole. -/
theorem told_below {H h l a : Int} (wH' : Word H) (b : Word h) (c : Word l) (hH : H < 18446744073709551615) (h0 : 0 ≤ a) (h1 : a < 340282366920938463463374607431768211456) :
    wv (wH (wv H h l + a)) (wh (wv H h l + a)) (wl (wv H h l + a)) = wv H h l + a := by
  have := nv_word b c
  have := wH'.1
  refine wv_told ?_ ?_
  · unfold wv; omega
  · unfold wv topH; omega
/-- What is told of two rows' sums is the same just if the sums are. -/
theorem sums_same {xs ys : List (Int × Int)} (hx : AllNum xs) (hm : xs.length ≤ 1000000) (hy : AllNum ys) (hn : ys.length ≤ 1000000) :
    (wH (sumN xs) == wH (sumN ys) && (wh (sumN xs) == wh (sumN ys) && wl (sumN xs) == wl (sumN ys))) = decide (sumN xs = sumN ys) := by
  rw [wide_same (wh_word _) (wl_word _) (wh_word _) (wl_word _), wv_sum hx hm, wv_sum hy hn]
  exact decide_eq_decide.2 cmpI_zero
end Go.Proofs.Ytpafamlegfdclaa
