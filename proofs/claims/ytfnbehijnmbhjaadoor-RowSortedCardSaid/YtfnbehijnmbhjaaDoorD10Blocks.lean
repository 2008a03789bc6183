/-
  Plain words on blocks of rows, each in order, that are merged two by two.
-/
import Derived.Test.YtfnbehijnmbhjaaDoorD10Merge
namespace Go.Proofs.YtfnbehijnmbhjaaDoor
set_option linter.unusedVariables false
set_option linter.unusedSimpArgs false
set_option maxRecDepth 10000
open Go.RowKit Go.Sort

theorem sl_sub {e : Array Rw} {a b a' b' : Nat} (h : Sl (sg e a b)) (h1 : a ≤ a') (h2 : b' ≤ b) : Sl (sg e a' b') :=
  (Sl_sg _ _ _).2 fun i j k1 k2 k3 => (Sl_sg _ _ _).1 h i j (by omega) k2 (by omega)
/-- The first blocks stand each in order. -/
def Lo (s t : Nat) (e : Array Rw) : Prop := ∀ x, x < t → Sl (sg e (x * s) ((x + 1) * s))
/-- So do those from one on, as far as there are rows. -/
def Hi (s t n : Nat) (e : Array Rw) : Prop := ∀ x b, t ≤ x → x * s ≤ b → b ≤ (x + 1) * s → b ≤ n → Sl (sg e (x * s) b)
theorem lo_none (s : Nat) (e : Array Rw) : Lo s 0 e := fun x hx => absurd hx (Nat.not_lt_zero x)
theorem lo_step {s t A b : Nat} {e e' : Array Rw} (hA : t * s = A) (hb : A + s = b) (h : Lo s t e) (hm : Mg e e' A b) : Lo s (t + 1) e' := fun x hx => by
  by_cases k : x < t
  · have h1 : (x + 1) * s ≤ t * s := Nat.mul_le_mul_right s k
    rw [hm.1.out (Or.inl (by omega))]
    exact h x k
  · have e1 : x = t := by omega
    subst e1
    rw [Nat.succ_mul, hA, hb]
    exact hm.2
theorem lo_end {s t A n : Nat} {e e' : Array Rw} (hA : t * s = A) (hn : A ≤ n) (hn2 : n < A + s) (h : Lo s t e) (hm : Mg e e' A n) : Hi s 0 n e' := fun x b h0 h1 h2 h3 => by
  by_cases k : x < t
  · have h4 : (x + 1) * s ≤ t * s := Nat.mul_le_mul_right s k
    rw [hm.1.out (Or.inl (by omega))]
    exact sl_sub (h x k) (Nat.le_refl _) h2
  · by_cases e1 : x = t
    · subst e1
      rw [hA]
      exact sl_sub hm.2 (Nat.le_refl _) h3
    · have h4 : (t + 1) * s ≤ x * s := Nat.mul_le_mul_right s (by omega)
      rw [Nat.succ_mul] at h4
      omega
theorem hi_step {s t A b n : Nat} {e e' : Array Rw} (hA : t * (2 * s) = A) (hb : A + 2 * s = b) (h : Hi s (2 * t) n e) (hm : Mg e e' A b) : Hi s (2 * (t + 1)) n e' := fun x c h0 h1 h2 h3 => by
  have h4 : 2 * (t + 1) * s ≤ x * s := Nat.mul_le_mul_right s h0
  have h5 : 2 * (t + 1) * s = t * (2 * s) + 2 * s := by rw [Nat.mul_add, Nat.add_mul, Nat.mul_comm 2 t, Nat.mul_assoc]
  rw [hm.1.out (Or.inr (by omega))]
  exact h x c (by omega) h1 h2 h3
theorem hi_part {s t A n : Nat} {e : Array Rw} (hA : t * (2 * s) = A) (h : Hi s (2 * t) n e) {b : Nat} (h1 : A ≤ b) (h2 : b ≤ A + s) (h3 : b ≤ n) : Sl (sg e A b) := by
  have h5 : 2 * t * s = A := by rw [Nat.mul_comm 2 t, Nat.mul_assoc]; exact hA
  have := h (2 * t) b (Nat.le_refl _) (by omega) (by rw [Nat.succ_mul]; omega) h3
  rw [h5] at this
  exact this
theorem hi_next {s t A n : Nat} {e : Array Rw} (hA : t * (2 * s) = A) (h : Hi s (2 * t) n e) {b : Nat} (h1 : A + s ≤ b) (h2 : b ≤ A + s + s) (h3 : b ≤ n) : Sl (sg e (A + s) b) := by
  have h5 : 2 * t * s = A := by rw [Nat.mul_comm 2 t, Nat.mul_assoc]; exact hA
  have h6 : (2 * t + 1) * s = A + s := by rw [Nat.succ_mul, h5]
  have := h (2 * t + 1) b (Nat.le_succ _) (by omega) (by rw [Nat.succ_mul]; omega) h3
  rw [h6] at this
  exact this
theorem hi_all {s n : Nat} {e : Array Rw} (h : Hi s 0 n e) (hs : n ≤ s) : Sl (sg e 0 n) := by
  have := h 0 n (Nat.le_refl _) (by omega) (by omega) (Nat.le_refl _)
  rw [Nat.zero_mul] at this
  exact this
end Go.Proofs.YtfnbehijnmbhjaaDoor
