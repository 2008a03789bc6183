/-
  paymasterref01.Cmp, walked: how two numbers compare, digit by digit from the greatest on.
-/
import Derived.Test.YtfnbehijnmbhjaaDoorR1Number
import Derived.Deep.RegionHeld3
import Derived.Deep.DeepCutAuto
import Derived.Deep.CutRange
namespace Go.Proofs.YtfnbehijnmbhjaaDoor
set_option linter.unusedVariables false
set_option linter.unusedSimpArgs false
set_option maxRecDepth 10000
open Go.RowKit

/-- A number's eight digits. -/
def dgs (h l : Int) : List Int := digs l 4 ++ digs h 4
theorem dgs_length (h l : Int) : (dgs h l).length = 8 := by simp [dgs, digs_length]
theorem digs_all (l : Int) (k : Nat) : AllDig (digs l k) := by
  intro d hd
  simp only [digs, List.mem_map] at hd
  obtain ⟨i, -, rfl⟩ := hd
  exact ⟨Int.emod_nonneg _ (by decide), Int.emod_lt_of_pos _ (by decide)⟩
theorem dgs_all (h l : Int) : AllDig (dgs h l) := by
  intro d hd
  rcases List.mem_append.1 hd with hd | hd
  · exact digs_all l 4 d hd
  · exact digs_all h 4 d hd
theorem digs_four (l : Int) : digs l 4 = [l % 65536, l / 65536 % 65536, l / 4294967296 % 65536, l / 281474976710656 % 65536] := by
  simp [digs, List.range_succ]
theorem val_digs {l : Int} (hl : Word l) : val (digs l 4) = l := by
  rw [digs_four]; obtain ⟨_, _⟩ := hl; simp only [val]; omega
theorem val_dgs {h l : Int} (hh : Word h) (hl : Word l) : val (dgs h l) = nv h l := by
  rw [dgs, val_append, val_digs hh, val_digs hl, digs_length]; unfold nv
  have : (65536 : Int) ^ 4 = 18446744073709551616 := rfl
  rw [this]; omega

/-- A slice whose cells are known, in memory that is there. -/
def Row8 (w : World) (B : Nat) (v : Value) (xs : List Int) : Prop :=
  ∃ g cap, v = .slice (some ⟨g, 0, none⟩) xs.length cap ∧ B ≤ g ∧ g < w.heap.size ∧ ∀ j u, (u64s xs)[j]? = some u → w.cell? ⟨g, j, none⟩ = some u
theorem digits_row (h l : Int) (hh : Word h) (hl : Word l) (w : World) :
    Calls Tryd.prog 73 #[.agg #[.int .u64 h, .int .u64 l]] w fun e w' => ∃ g cap, e = .returned (.slice (some ⟨g, 0, none⟩) 8 cap) ∧ w.heap.size ≤ g ∧ g < w'.heap.size ∧
      (∀ j u, (u64s (dgs h l))[j]? = some u → w'.cell? ⟨g, j, none⟩ = some u) ∧ Below w.heap.size w w' := by
  refine (digits_any h l hh hl w).mono ?_
  rintro e w' ⟨v, rfl, hown, hb⟩
  obtain ⟨g, cap, rfl, h1, h2, h3, h4, h5, h6⟩ := own_row hown (by omega)
  exact ⟨g, cap, rfl, h1, h2, h5, hb⟩

theorem val_lt : ∀ {xs : List Int}, AllDig xs → val xs < 65536 ^ xs.length
  | [], _ => by simp [val]
  | d :: r, h => by
    have h1 := h d (by simp)
    have h2 := val_lt (xs := r) (fun x hx => h x (by simp [hx]))
    simp only [val, List.length_cons, Int.pow_succ]; omega
/-- The greatest digit at which they differ decides. -/
theorem val_less {xs ys : List Int} {m : Nat} (mx : m < xs.length) (my : m < ys.length) (dx : AllDig xs) (dy : AllDig ys) (hl : xs.length = ys.length) (hd : xs.drop (m + 1) = ys.drop (m + 1)) :
    xs[m] < ys[m] → val xs < val ys := by
  intro h
  have sx := val_append (xs.take m) (xs.drop m)
  have sy := val_append (ys.take m) (ys.drop m)
  rw [List.take_append_drop, List.length_take, Nat.min_eq_left (by omega)] at sx sy
  have lx := val_lt (xs := xs.take m) (fun d h => dx d (List.mem_of_mem_take h))
  rw [List.length_take, Nat.min_eq_left (by omega)] at lx
  have ny := val_nonneg (xs := ys.take m) (fun d h => dy d (List.mem_of_mem_take h))
  have ex := val_drop mx
  have ey := val_drop my
  rw [hd] at ex
  have le : 65536 ^ m * (val (xs.drop m) + 1) ≤ 65536 ^ m * val (ys.drop m) := Int.mul_le_mul_of_nonneg_left (by omega) (Int.pow_nonneg (by decide))
  rw [Int.mul_add, Int.mul_one] at le
  omega
/-- Two numbers in two blocks behind those of world w; nothing else of w has turned. -/
abbrev TwoIn (w : World) (ah al bh bl : Int) (w' : World) : Prop :=
  w'.cell? ⟨w.heap.size, 0, none⟩ = some (.int .u64 ah) ∧ w'.cell? ⟨w.heap.size, 1, none⟩ = some (.int .u64 al) ∧ w'.cell? ⟨w.heap.size + 1, 0, none⟩ = some (.int .u64 bh) ∧
  w'.cell? ⟨w.heap.size + 1, 1, none⟩ = some (.int .u64 bl) ∧ w.heap.size + 1 < w'.heap.size ∧ Below w.heap.size w w'
theorem TwoIn.keep {w W w' : World} {ah al bh bl : Int} (h : TwoIn w ah al bh bl W) (hb : Below W.heap.size W w') : TwoIn w ah al bh bl w' := by
  obtain ⟨h1, h2, h3, h4, h5, h6⟩ := h
  refine ⟨?_, ?_, ?_, ?_, Nat.lt_of_lt_of_le h5 hb.size, h6.trans (hb.mono (by omega))⟩
  · rw [hb.cell (p := ⟨w.heap.size, 0, none⟩) (by show w.heap.size < _; omega)]; exact h1
  · rw [hb.cell (p := ⟨w.heap.size, 1, none⟩) (by show w.heap.size < _; omega)]; exact h2
  · rw [hb.cell (p := ⟨w.heap.size + 1, 0, none⟩) h5]; exact h3
  · rw [hb.cell (p := ⟨w.heap.size + 1, 1, none⟩) h5]; exact h4
/-- A row's cells, kept behind a call. -/
theorem row_keep {W w' : World} {g : Nat} {xs : List Value} (h : ∀ j u, xs[j]? = some u → W.cell? ⟨g, j, none⟩ = some u) (hg : g < W.heap.size) (hb : Below W.heap.size W w') :
    ∀ j u, xs[j]? = some u → w'.cell? ⟨g, j, none⟩ = some u := fun j u hu => (hb.cell (p := ⟨g, j, none⟩) hg).trans (h j u hu)

end Go.Proofs.YtfnbehijnmbhjaaDoor
