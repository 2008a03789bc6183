/-
  Plain words on all leaves: who stands at a slot has its leaf there, else the seed's pad; how they come to be, step by step.
-/
import Derived.Test.YtngofpdpangajaaDoorM12Pln
import Derived.Test.YtngofpdpangajaaDoorU7Salt
namespace Go.Proofs.YtngofpdpangajaaDoor
set_option linter.unusedVariables false
set_option linter.unusedSimpArgs false
set_option maxRecDepth 10000
open Go.RowKit Go.Sort

theorem range_set {α : Type} (f : Nat → α) (n i : Nat) (x : α) : ((List.range n).map f).set i x = (List.range n).map (fun m => if m = i then x else f m) := by
  apply List.ext_getElem?
  intro m
  rw [List.getElem?_set]
  by_cases hm : m < n
  · by_cases e : i = m
    · subst e
      simp [hm]
    · rw [if_neg e]
      simp [hm, Ne.symm e]
  · by_cases e : i = m
    · subst e
      simp [hm]
    · rw [if_neg e]
      simp [hm]
theorem range_const {α : Type} (n : Nat) (x : α) : (List.range n).map (fun _ => x) = List.replicate n x := by rw [List.map_const', List.length_range]
theorem range_same {α : Type} {f g : Nat → α} {n : Nat} (h : ∀ m, m < n → f m = g m) : (List.range n).map f = (List.range n).map g :=
  List.map_congr_left fun m hm => h m (List.mem_range.1 hm)
/-- The leaf at a slot; those of all. -/
def leafAt (seed : ByteArray) (l : List Ac) (n : Nat) : Lf := if (atA l n).2 = true then lfA (atA l n).1 else padLf seed n
def leavesL (seed : ByteArray) (l : List Ac) (N : Nat) : List Lf := (List.range N).map (leafAt seed l)
theorem leaves_len (seed : ByteArray) (l : List Ac) (N : Nat) : (leavesL seed l N).length = N := by simp [leavesL]
theorem leaves_at (seed : ByteArray) (l : List Ac) (N n : Nat) (h : n < N) : (leavesL seed l N)[n]? = some (leafAt seed l n) := by simp [leavesL, h]
/-- Pads are laid so far; then leaves. -/
def lf1 (seed : ByteArray) (S : List Int) (k n : Nat) : Lf := if n < k ∧ ¬ (n : Int) ∈ S then padLf seed n else Lf.zero
def lf2 (seed : ByteArray) (S : List Int) (N : Nat) (l : List Ac) (n : Nat) : Lf := if (atA l n).2 = true then lfA (atA l n).1 else lf1 seed S N n
theorem lf1_none (seed : ByteArray) (S : List Int) (N : Nat) : (List.range N).map (lf1 seed S 0) = List.replicate N Lf.zero := by
  rw [← range_const]
  exact range_same fun m _ => if_neg (by omega)
theorem lf1_in {seed : ByteArray} {S : List Int} {k : Nat} (N : Nat) (h : (k : Int) ∈ S) : (List.range N).map (lf1 seed S (k + 1)) = (List.range N).map (lf1 seed S k) :=
  range_same fun m _ => by
    unfold lf1
    by_cases e : m = k
    · subst e
      rw [if_neg (fun q => q.2 h), if_neg (fun q => q.2 h)]
    · have : (m < k + 1 ∧ ¬ (m : Int) ∈ S) ↔ (m < k ∧ ¬ (m : Int) ∈ S) := ⟨fun q => ⟨by omega, q.2⟩, fun q => ⟨by omega, q.2⟩⟩
      simp only [this]
theorem lf1_out {seed : ByteArray} {S : List Int} {k : Nat} (N : Nat) (h : ¬ (k : Int) ∈ S) : ((List.range N).map (lf1 seed S k)).set k (padLf seed k) = (List.range N).map (lf1 seed S (k + 1)) := by
  rw [range_set]
  refine range_same fun m _ => ?_
  by_cases e : m = k
  · subst e
    rw [if_pos rfl]
    exact (if_pos ⟨by omega, h⟩).symm
  · rw [if_neg e]
    unfold lf1
    have : (m < k + 1 ∧ ¬ (m : Int) ∈ S) ↔ (m < k ∧ ¬ (m : Int) ∈ S) := ⟨fun q => ⟨by omega, q.2⟩, fun q => ⟨by omega, q.2⟩⟩
    simp only [this]
theorem at_snoc (xs : List Ac) (a : Ac) (n : Int) : atA (xs ++ [a]) n = if (atA xs n).2 = true then atA xs n else if a.slot = n then (a, true) else (Ac.zero, false) := by
  unfold atA
  induction xs with
  | nil => simp [firstA]
  | cons x r ih =>
    simp only [List.cons_append, firstA]
    by_cases h : a.slot = n <;> by_cases h2 : x.slot = n <;> simp [h2] at ih ⊢ <;> simpa [h] using ih
theorem lf2_nil (seed : ByteArray) (S : List Int) (N : Nat) : (List.range N).map (lf2 seed S N []) = (List.range N).map (lf1 seed S N) := range_same fun m _ => rfl
theorem lf2_snoc {seed : ByteArray} {S : List Int} (N : Nat) {xs : List Ac} {a : Ac} {m : Nat} (hm : a.slot = m) (hn : ¬ (m : Int) ∈ xs.map Ac.slot) : ((List.range N).map (lf2 seed S N xs)).set m (lfA a) = (List.range N).map (lf2 seed S N (xs ++ [a])) := by
  rw [range_set]
  refine range_same fun n _ => ?_
  unfold lf2
  rw [at_snoc]
  by_cases e : n = m
  · subst e
    have h1 : (atA xs (n : Int)).2 = false := by rw [at_has]; exact decide_eq_false hn
    rw [if_pos rfl]
    simp [h1, hm]
  · rw [if_neg e, if_neg (show ¬ a.slot = (n : Int) by omega)]
    cases h : (atA xs (n : Int)).2 with
    | true => simp [h]
    | false => simp
theorem lf2_end (seed : ByteArray) (N : Nat) (l : List Ac) : (List.range N).map (lf2 seed (l.map Ac.slot) N l) = leavesL seed l N := by
  refine range_same fun n hn => ?_
  unfold lf2 leafAt
  rw [at_has]
  by_cases h : (n : Int) ∈ l.map Ac.slot
  · rw [decide_eq_true h, if_pos rfl, if_pos rfl]
  · rw [decide_eq_false h, if_neg Bool.noConfusion, if_neg Bool.noConfusion]
    exact if_pos ⟨hn, h⟩
end Go.Proofs.YtngofpdpangajaaDoor
