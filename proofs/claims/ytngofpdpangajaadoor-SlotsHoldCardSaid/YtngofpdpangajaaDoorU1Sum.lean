/-
  u128.Sum, walked: the sum of any row of numbers, or that it is too much.
-/
import Derived.Test.YtngofpdpangajaaDoorM1Num
import Derived.Test.YtngofpdpangajaaDoorW0Words
import Derived.LoopTactic
import Derived.Deep.LoopGhost
import Derived.Deep.DeepCutAuto
import Derived.Deep.CutRange
namespace Go.Proofs.YtngofpdpangajaaDoor
set_option linter.unusedVariables false
set_option linter.unusedSimpArgs false
set_option maxRecDepth 10000
open Go.RowKit

/-- The sum of numbers, without end. -/
def sumN : List (Int × Int) → Int
  | [] => 0
  | x :: r => nv x.1 x.2 + sumN r
def AllNum (xs : List (Int × Int)) : Prop := ∀ x ∈ xs, Word x.1 ∧ Word x.2
theorem sumN_nonneg : ∀ {xs : List (Int × Int)}, AllNum xs → 0 ≤ sumN xs
  | [], _ => by simp [sumN]
  | x :: r, h => by
    have h1 := nv_word (h x (by simp)).1 (h x (by simp)).2
    have h2 := sumN_nonneg (xs := r) (fun y hy => h y (by simp [hy]))
    simp only [sumN]; omega
theorem sumN_append : ∀ (xs ys : List (Int × Int)), sumN (xs ++ ys) = sumN xs + sumN ys
  | [], ys => by simp [sumN]
  | x :: r, ys => by simp only [List.cons_append, sumN, sumN_append r ys]; omega
theorem sumN_take {xs : List (Int × Int)} {k : Nat} (hk : k < xs.length) : sumN (xs.take (k + 1)) = sumN (xs.take k) + nv xs[k].1 xs[k].2 := by
  rw [List.take_succ_eq_append_getElem hk, sumN_append]; simp [sumN]
theorem sumN_split (xs : List (Int × Int)) (k : Nat) : sumN xs = sumN (xs.take k) + sumN (xs.drop k) := by
  rw [← sumN_append, List.take_append_drop]
theorem AllNum.take {xs : List (Int × Int)} (h : AllNum xs) (k : Nat) : AllNum (xs.take k) := fun x hx => h x (List.mem_of_mem_take hx)
theorem AllNum.drop {xs : List (Int × Int)} (h : AllNum xs) (k : Nat) : AllNum (xs.drop k) := fun x hx => h x (List.mem_of_mem_drop hx)

/-- A slice of numbers: where each one's halves lie, below block B. -/
def NumRow (w : World) (B : Nat) (A : Option Addr) (xs : List (Int × Int)) : Prop :=
  ∀ i h l, xs[i]? = some (h, l) → ∃ ad, A = some ad ∧ ad.block < B ∧ w.cell? (ad.add (i * 2)) = some (.int .u64 h) ∧ w.cell? (ad.add (i * 2 + 1)) = some (.int .u64 l)
theorem add_block (a : Addr) (n : Nat) : (a.add n).block = a.block := by unfold Addr.add; split <;> rfl
theorem add_two (a : Addr) (i j : Nat) : (a.add i).add j = a.add (i + j) := by
  unfold Addr.add
  by_cases hi : i = 0 <;> by_cases hj : j = 0 <;> simp [hi, hj, Nat.add_assoc]
theorem NumRow.call {w w' : World} {B : Nat} {A : Option Addr} {xs : List (Int × Int)} (h : NumRow w B A xs) (hb : Below B w w') : NumRow w' B A xs := fun i x y hx => by
  obtain ⟨ad, e, hl, h1, h2⟩ := h i x y hx
  exact ⟨ad, e, hl, by rw [hb.cell (by rw [add_block]; exact hl)]; exact h1, by rw [hb.cell (by rw [add_block]; exact hl)]; exact h2⟩
theorem NumRow.more {w : World} {B B' : Nat} {A : Option Addr} {xs : List (Int × Int)} (h : NumRow w B A xs) (hB : B ≤ B') : NumRow w B' A xs := fun i x y hx => by
  obtain ⟨ad, e, hl, h1, h2⟩ := h i x y hx
  exact ⟨ad, e, by omega, h1, h2⟩

theorem NumRow.take {w : World} {B : Nat} {A : Option Addr} {xs : List (Int × Int)} (h : NumRow w B A xs) (k : Nat) : NumRow w B A (xs.take k) := fun i x y hx => by
  refine h i x y ?_
  rw [List.getElem?_take] at hx
  split at hx
  · exact hx
  · simp at hx
theorem NumRow.drop {w : World} {B : Nat} {ad : Addr} {xs : List (Int × Int)} (h : NumRow w B (some ad) xs) (k : Nat) : NumRow w B (some (ad.add (k * 2))) (xs.drop k) := fun i x y hx => by
  rw [List.getElem?_drop] at hx
  obtain ⟨ad', e, hl, h1, h2⟩ := h (k + i) x y hx
  injection e with e
  subst e
  refine ⟨_, rfl, by rw [add_block]; exact hl, ?_, ?_⟩
  · rw [add_two, show k * 2 + i * 2 = (k + i) * 2 by omega]; exact h1
  · rw [add_two, show k * 2 + (i * 2 + 1) = (k + i) * 2 + 1 by omega]; exact h2

end Go.Proofs.YtngofpdpangajaaDoor
