/-
  What a row is folded to, and which rows are: plain words.
-/
import Derived.Test.YtjbaeiifamendaaDoorD14Pairs
namespace Go.Proofs.YtjbaeiifamendaaDoor
set_option linter.unusedVariables false
set_option linter.unusedSimpArgs false
set_option maxRecDepth 10000
open Go.RowKit

/-- Is it 2^k (up to 300)? -/
def powB (n : Nat) : Bool := decide (n = 1 ∨ n = 2 ∨ n = 4 ∨ n = 8 ∨ n = 16 ∨ n = 32 ∨ n = 64 ∨ n = 128 ∨ n = 256)
/-- What a row is folded to. -/
def foldN (w : Int) (l : List Nd) : Nd × Int := if allW w l = true then (if powB l.length = true then foldS w (Nat.log2 l.length) l else (Nd.zero, 2)) else (Nd.zero, 70)
theorem powB_log : ∀ n : Nat, n < 301 → powB n = true → n = 2 ^ Nat.log2 n ∧ Nat.log2 n ≤ 8 := by decide +kernel
theorem powB_no {n : Nat} (hn : n < 301) (h : powB n = false) (k : Nat) : n ≠ 2 ^ k := by
  intro e
  by_cases hk : k ≤ 8
  · have : ∀ k : Nat, k < 9 → powB (2 ^ k) = true := by decide +kernel
    rw [e, this k (by omega)] at h
    cases h
  · have : 2 ^ 9 ≤ 2 ^ k := Nat.pow_le_pow_right (by decide) (by omega)
    omega
theorem foldN_pow {w : Int} {l : List Nd} {k : Nat} (hw : allW w l = true) (hl : l.length = 2 ^ k) (hk : k ≤ 8) : foldN w l = foldS w k l := by
  have h : ∀ k : Nat, k < 9 → powB (2 ^ k) = true ∧ Nat.log2 (2 ^ k) = k := by decide +kernel
  obtain ⟨h1, h2⟩ := h k (by omega)
  rw [foldN, if_pos hw, hl, if_pos h1, h2]
end Go.Proofs.YtjbaeiifamendaaDoor
