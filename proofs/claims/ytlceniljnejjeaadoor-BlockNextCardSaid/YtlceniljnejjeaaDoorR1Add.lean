/-
  paymasterref01.Add and Sub, walked: digit by digit, with a carry or a borrow.
-/
import Derived.Test.YtlceniljnejjeaaDoorR1Cmp
namespace Go.Proofs.YtlceniljnejjeaaDoor
set_option linter.unusedVariables false
set_option linter.unusedSimpArgs false
open Go.RowKit

/-- Two numbers in blocks p and q of the world W0; nothing that W0 had has turned. -/
abbrev TwoAt (W0 : World) (p q : Nat) (ah al bh bl : Int) (w' : World) : Prop :=
  w'.cell? ⟨p, 0, none⟩ = some (.int .u64 ah) ∧ w'.cell? ⟨p, 1, none⟩ = some (.int .u64 al) ∧ w'.cell? ⟨q, 0, none⟩ = some (.int .u64 bh) ∧
  w'.cell? ⟨q, 1, none⟩ = some (.int .u64 bl) ∧ p < W0.heap.size ∧ q < W0.heap.size ∧ Below W0.heap.size W0 w'
theorem TwoAt.keep {W0 W w' : World} {p q : Nat} {ah al bh bl : Int} (h : TwoAt W0 p q ah al bh bl W) (hb : Below W.heap.size W w') : TwoAt W0 p q ah al bh bl w' := by
  obtain ⟨h1, h2, h3, h4, h5, h6, h7⟩ := h
  have hs := h7.size
  refine ⟨?_, ?_, ?_, ?_, h5, h6, h7.trans (hb.mono (by omega))⟩
  · rw [hb.cell (p := ⟨p, 0, none⟩) (by show p < _; omega)]; exact h1
  · rw [hb.cell (p := ⟨p, 1, none⟩) (by show p < _; omega)]; exact h2
  · rw [hb.cell (p := ⟨q, 0, none⟩) (by show q < _; omega)]; exact h3
  · rw [hb.cell (p := ⟨q, 1, none⟩) (by show q < _; omega)]; exact h4

theorem val_take {xs : List Int} {k : Nat} (hk : k < xs.length) : val (xs.take (k + 1)) = val (xs.take k) + 65536 ^ k * xs[k] := by
  rw [List.take_succ_eq_append_getElem hk, val_append, List.length_take, Nat.min_eq_left (by omega)]
  simp [val]
theorem val_snoc {zs : List Int} {k : Nat} (hz : zs.length = k) (d : Int) : val (zs ++ [d]) = val zs + 65536 ^ k * d := by
  rw [val_append, hz]; simp [val]
theorem AllDig.snoc {zs : List Int} (h : AllDig zs) {d : Int} (h0 : 0 ≤ d) (h1 : d < 65536) : AllDig (zs ++ [d]) := by
  intro x hx
  rcases List.mem_append.1 hx with hx | hx
  · exact h x hx
  · simp at hx; subst hx; exact ⟨h0, h1⟩

theorem add_round {xs ys zs : List Int} {k : Nat} {x y c : Int} (hx : k < xs.length) (hy : k < ys.length) (ex : xs[k] = x) (ey : ys[k] = y) (hz : zs.length = k)
    (he : val zs + 65536 ^ k * c = val (xs.take k) + val (ys.take k)) :
    val (zs ++ [(x + y + c) % 65536]) + 65536 ^ (k + 1) * ((x + y + c) / 65536) = val (xs.take (k + 1)) + val (ys.take (k + 1)) := by
  rw [val_snoc hz, val_take hx, val_take hy, ex, ey, Int.pow_succ, Int.mul_assoc]
  generalize (65536 : Int) ^ k = P at *
  have e : P * ((x + y + c) % 65536) + P * (65536 * ((x + y + c) / 65536)) = P * x + P * y + P * c := by
    rw [← Int.mul_add, Int.emod_add_mul_ediv, Int.mul_add, Int.mul_add]
  omega
theorem sub_round {xs ys zs : List Int} {k : Nat} {x y c : Int} (hx : k < xs.length) (hy : k < ys.length) (ex : xs[k] = x) (ey : ys[k] = y) (hz : zs.length = k)
    (he : val zs = val (xs.take k) - val (ys.take k) + 65536 ^ k * c) :
    val (zs ++ [(65536 + x - y - c) % 65536]) = val (xs.take (k + 1)) - val (ys.take (k + 1)) + 65536 ^ (k + 1) * (1 - (65536 + x - y - c) / 65536) := by
  rw [val_snoc hz, val_take hx, val_take hy, ex, ey, Int.pow_succ, Int.mul_assoc]
  generalize (65536 : Int) ^ k = P at *
  have e : P * ((65536 + x - y - c) % 65536) + P * (65536 * ((65536 + x - y - c) / 65536)) = P * 65536 + P * x - P * y - P * c := by
    rw [← Int.mul_add, Int.emod_add_mul_ediv, Int.mul_sub, Int.mul_sub, Int.mul_add]
  have e2 : P * (65536 * (1 - (65536 + x - y - c) / 65536)) = P * 65536 - P * (65536 * ((65536 + x - y - c) / 65536)) := by
    rw [← Int.mul_sub, Int.mul_sub 65536, Int.mul_one]
  omega

end Go.Proofs.YtlceniljnejjeaaDoor
