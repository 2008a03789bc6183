/-
  Package row's Sort told by lists; strings compared.
-/
import Derived.Test.YtfnbehijnmbhjaaDoorU10Srt
import Derived.Test.YtfnbehijnmbhjaaDoorD10Sorted
namespace Go.Proofs.YtfnbehijnmbhjaaDoor
set_option linter.unusedVariables false
set_option linter.unusedSimpArgs false
set_option maxRecDepth 10000
open Go.RowKit Go.Sort

theorem bless_cb (a b : List UInt8) : Op.bytesLess a b = decide (Lib.compareBytes a b < 0) := by
  induction a generalizing b with
  | nil => cases b <;> simp [Lib.compareBytes, Op.bytesLess]
  | cons x a ih =>
    cases b with
    | nil => simp [Lib.compareBytes, Op.bytesLess]
    | cons y b =>
      rw [Lib.compareBytes, Op.bytesLess]
      by_cases h1 : x < y
      · rw [if_pos h1]; simp [h1]
      · rw [if_neg h1]
        by_cases h2 : y < x
        · have h3 : x ≠ y := fun e => by subst e; exact h1 h2
          rw [if_pos h2]; simp [h1, h3]
        · have e : x = y := by
            rw [UInt8.lt_iff_toNat_lt] at h1 h2
            exact UInt8.toNat_inj.1 (by omega)
          rw [if_neg h2, ← ih]
          simp [h1, e]
theorem bless_rw (x y : Rw) : Op.bytesLess x.id.toList y.id.toList = ltR x y := by
  rw [Lib.toList_data, Lib.toList_data, bless_cb]
  rfl
theorem bless_no {x y : Rw} (h : ¬ LR x y) : Op.bytesLess x.id.toList y.id.toList = false := by
  rw [bless_rw]
  cases hb : ltR x y with
  | false => rfl
  | true => exact absurd hb h
theorem bless_yes {x y : Rw} (h : LR x y) : Op.bytesLess x.id.toList y.id.toList = true := by
  rw [bless_rw]
  exact h
theorem same_id {x y : Rw} (h : keyR x = keyR y) : (x.id.toList == y.id.toList) = true := by
  rw [Lib.toList_data, Lib.toList_data]
  exact beq_iff_eq.2 h
theorem other_id {x y : Rw} (h : keyR x ≠ keyR y) : (x.id.toList == y.id.toList) = false := by
  rw [Lib.toList_data, Lib.toList_data]
  exact beq_false_of_ne h
theorem rowsort2_any (A : Option Addr) (c : Nat) (xs : List Rw) (hm : xs.length ≤ 1000000000) (hz : ∀ x ∈ xs, x.id.size ≤ 1000000) (w : World) (hR : RwRow w w.heap.size A xs) :
    Calls Tryd.prog 21 #[.slice A xs.length c] w fun e w' => ∃ g ys, e = .returned (.slice (some ⟨g, 0, none⟩) xs.length xs.length) ∧ w.heap.size ≤ g ∧ ys.length = xs.length ∧ RowBox w' g ys.toArray ∧ Below w.heap.size w w' ∧ Sd xs ys :=
  (rowsort_any A c xs hm hz w hR).mono fun e w' h => by
    obtain ⟨g, h1, h2, d, h3, h4, h5⟩ := h
    obtain ⟨k1, k2⟩ := h5.sorted
    exact ⟨g, d.toList, h1, h2, k1, by simpa using h3, h4, k2⟩
theorem Sd.ids {xs ys : List Rw} (h : Sd xs ys) {n : Nat} (hz : ∀ x ∈ xs, x.id.size ≤ n) : ∀ x ∈ ys, x.id.size ≤ n := fun x hx => by
  rw [mem_fil, h.2, ← mem_fil] at hx
  exact hz x hx
theorem toArray_bang (ys : List Rw) (i : Nat) : ys.toArray[i]! = ys[i]! := by simp
end Go.Proofs.YtfnbehijnmbhjaaDoor
