/-
  The cells of a row of numbers that came in: what an append of the whole row asks.
-/
import Derived.Test.YtpafamlegfdclaaL1SumsN
namespace Go.Proofs.Ytpafamlegfdclaa
set_option linter.unusedVariables false
set_option linter.unusedSimpArgs false
open Go.RowKit

theorem info_num2 : (Try.prog.info? 24).map (fun i => (i.zero, i.size, i.bytes)) = some (some (.agg #[.int .u64 0, .int .u64 0]), 2, 16) := by kernel_rfl

theorem flat_one (xs : List (Int × Int)) : ∀ u ∈ flat xs, u.oneCell' = true := by
  intro u hu
  simp only [flat, List.mem_flatMap] at hu
  obtain ⟨x, -, hu⟩ := hu
  simp at hu
  rcases hu with rfl | rfl <;> rfl
theorem flat_half {xs : List (Int × Int)} {j : Nat} {u : Value} (hu : (flat xs)[j]? = some u) : ∃ i x y, xs[i]? = some (x, y) ∧ ((j = i * 2 ∧ u = .int .u64 x) ∨ (j = i * 2 + 1 ∧ u = .int .u64 y)) := by
  have hj : j < xs.length * 2 := by rw [← flat_length]; exact (List.getElem?_eq_some_iff.1 hu).1
  have hi : j / 2 < xs.length := by omega
  obtain ⟨c0, c1⟩ := flat_get xs (j / 2) (xs[j / 2]).1 (xs[j / 2]).2 (List.getElem?_eq_getElem hi)
  refine ⟨j / 2, (xs[j / 2]).1, (xs[j / 2]).2, List.getElem?_eq_getElem hi, ?_⟩
  rcases Nat.mod_two_eq_zero_or_one j with h | h
  · left
    have e : j = j / 2 * 2 := by omega
    rw [← e, hu] at c0
    exact ⟨e, Option.some.inj c0⟩
  · right
    have e : j = j / 2 * 2 + 1 := by omega
    rw [← e, hu] at c1
    exact ⟨e, Option.some.inj c1⟩
theorem flat_at {w : World} {B : Nat} {ad : Addr} {xs : List (Int × Int)} (hr : NumRow w B (some ad) xs) {j : Nat} {u : Value} (hu : (flat xs)[j]? = some u) : w.cell? (ad.add j) = some u := by
  obtain ⟨i, x, y, hx, h | h⟩ := flat_half hu
  · obtain ⟨ad', e, -, h1, h2⟩ := hr i x y hx
    injection e with e; subst e
    rw [h.1, h.2]; exact h1
  · obtain ⟨ad', e, -, h1, h2⟩ := hr i x y hx
    injection e with e; subst e
    rw [h.1, h.2]; exact h2
theorem flat_block {w : World} {B : Nat} {ad : Addr} {xs : List (Int × Int)} (hr : NumRow w B (some ad) xs) {j : Nat} {u : Value} (hu : (flat xs)[j]? = some u) : ad.block < B := by
  obtain ⟨i, x, y, hx, -⟩ := flat_half hu
  obtain ⟨ad', e, hl, -, -⟩ := hr i x y hx
  injection e with e; subst e
  exact hl

end Go.Proofs.Ytpafamlegfdclaa
