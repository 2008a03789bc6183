/-
  Plain words: lines joined are the text; joined lines are the lines again; lines of two texts with a byte 10 between are the lines of both.
-/
import Derived.Test.YthindbmgnkohhaaDoorM9Ref
namespace Go.Proofs.YthindbmgnkohhaaDoor
set_option linter.unusedVariables false
set_option linter.unusedSimpArgs false
set_option maxRecDepth 10000
open Go.RowKit Go.Lib

theorem join_cons (x : List UInt8) (r : List (List UInt8)) (h : r ≠ []) : joinL (x :: r) = x ++ 10 :: joinL r := by
  cases r with
  | nil => exact absurd rfl h
  | cons y r => rfl
theorem join_split (l : List UInt8) : joinL (splitL l) = l := by
  induction l with
  | nil => rfl
  | cons c r ih =>
    rw [splitL]
    by_cases h : c = 10
    · rw [if_pos h, join_cons _ _ (split_ne r), ih, h]
      rfl
    · rw [if_neg h]
      cases hs : splitL r with
      | nil => exact absurd hs (split_ne r)
      | cons x y =>
        rw [hs] at ih
        show joinL ((c :: x) :: y) = c :: r
        cases y with
        | nil => rw [← ih]; rfl
        | cons z y => rw [← ih]; rfl
theorem split_no (l : List UInt8) : ∀ x ∈ splitL l, (10 : UInt8) ∉ x := by
  induction l with
  | nil => intro x hx; simp [splitL] at hx; subst hx; simp
  | cons c r ih =>
    intro x hx
    rw [splitL] at hx
    by_cases h : c = 10
    · rw [if_pos h] at hx
      rcases List.mem_cons.1 hx with rfl | hx
      · simp
      · exact ih x hx
    · rw [if_neg h] at hx
      cases hs : splitL r with
      | nil => exact absurd hs (split_ne r)
      | cons y z =>
        rw [hs] at hx ih
        rcases List.mem_cons.1 hx with rfl | hx
        · have := ih y (by simp)
          simp only [List.mem_cons, not_or]
          exact ⟨fun e => h e.symm, this⟩
        · exact ih x (by simp [hx])
theorem split_mid (a b : List UInt8) : splitL (a ++ 10 :: b) = splitL a ++ splitL b := by
  induction a with
  | nil => rfl
  | cons c r ih =>
    rw [List.cons_append, splitL, splitL]
    by_cases h : c = 10
    · rw [if_pos h, if_pos h, ih]; rfl
    · rw [if_neg h, if_neg h, ih]
      cases hs : splitL r with
      | nil => exact absurd hs (split_ne r)
      | cons x y => rfl
theorem split_joined (l : List (List UInt8)) (hl : l ≠ []) (h : ∀ x ∈ l, (10 : UInt8) ∉ x) : splitL (joinL l) = l := by
  induction l with
  | nil => exact absurd rfl hl
  | cons x r ih =>
    cases r with
    | nil => exact split_none (h x (by simp))
    | cons y r =>
      rw [join_cons _ _ (by simp), split_mid, split_none (h x (by simp)), ih (by simp) (fun z hz => h z (by simp [hz]))]
      rfl
theorem any10_no (ss : List ByteArray) (h : any10 ss = false) : ∀ x ∈ (ss.map fun s => s.data.toList), (10 : UInt8) ∉ x := by
  intro x hx
  obtain ⟨s, hs, rfl⟩ := List.mem_map.1 hx
  intro hm
  have := List.any_eq_false.1 h s hs
  exact this ((has10_iff _).2 hm)
theorem any10_of (l : List (List UInt8)) (h : ∀ x ∈ l, (10 : UInt8) ∉ x) : any10 (l.map bA) = false := by
  rw [any10, List.any_eq_false]
  intro s hs
  obtain ⟨x, hx, rfl⟩ := List.mem_map.1 hs
  rw [bA_list]
  intro hm
  exact h x hx ((has10_iff _).1 hm)
theorem joinB_map (l : List (List UInt8)) : joinB (l.map bA) = joinL l := by
  unfold joinB
  rw [List.map_map]
  congr 1
  conv => rhs; rw [← List.map_id l]
  apply List.map_congr_left
  intro x _
  exact bA_list x
theorem numb_at (j : Nat) (l : List (List UInt8)) (i : Nat) : (numb j l)[i]? = (l[i]?).map fun x => (j + i, x) := by
  induction l generalizing j i with
  | nil => simp [numb]
  | cons x r ih =>
    cases i with
    | zero => simp [numb]
    | succ i =>
      rw [numb, List.getElem?_cons_succ, List.getElem?_cons_succ, ih]
      congr 1
      funext y
      rw [show j + 1 + i = j + (i + 1) by omega]
theorem numb_app (j : Nat) (a b : List (List UInt8)) : numb j (a ++ b) = numb j a ++ numb (j + a.length) b := by
  induction a generalizing j with
  | nil => simp [numb]
  | cons x r ih =>
    rw [List.cons_append, numb, numb, ih, List.cons_append, List.length_cons, show j + 1 + r.length = j + (r.length + 1) by omega]
/-- The first of the first lines; one line more. -/
theorem firstW_nums (j : Nat) (l : List (List UInt8)) : (∀ x ∈ l, wrongL x = 0) ∧ firstW (numb j l) = (0, 0) ∨ j ≤ (firstW (numb j l)).1 ∧ ∀ r, firstW (numb j l ++ r) = firstW (numb j l) := by
  induction l generalizing j with
  | nil => left; exact ⟨fun x hx => by simp at hx, rfl⟩
  | cons x r ih =>
    rw [firstW_step]
    by_cases h : wrongL x = 0
    · rw [if_pos h]
      rcases ih (j + 1) with ⟨h1, h2⟩ | ⟨h1, h2⟩
      · left
        refine ⟨fun y hy => ?_, h2⟩
        rcases List.mem_cons.1 hy with rfl | hy
        · exact h
        · exact h1 y hy
      · right
        refine ⟨by omega, fun t => ?_⟩
        show firstW ((j, x) :: (numb (j + 1) r ++ t)) = _
        rw [firstW, if_pos h]
        exact h2 t
    · right
      rw [if_neg h]
      refine ⟨Nat.le_refl _, fun t => ?_⟩
      show firstW ((j, x) :: (numb (j + 1) r ++ t)) = _
      rw [firstW, if_neg h]
theorem firstW_take (l : List (List UInt8)) (k : Nat) (x : List UInt8) (hx : l[k]? = some x) :
    firstW (numb 1 (l.take (k + 1))) = if (firstW (numb 1 (l.take k))).1 = 0 ∧ wrongL x ≠ 0 then (k + 1, wrongL x) else firstW (numb 1 (l.take k)) := by
  have hk : k < l.length := (List.getElem?_eq_some_iff.1 hx).1
  have e : l.take (k + 1) = l.take k ++ [x] := by rw [List.take_add_one, hx]; rfl
  have el : (l.take k).length = k := by rw [List.length_take]; omega
  rw [e, numb_app, el]
  rcases firstW_nums 1 (l.take k) with ⟨h1, h2⟩ | ⟨h1, h2⟩
  · rw [h2]
    have hall : ∀ y ∈ numb 1 (l.take k), wrongL y.2 = 0 := fun y hy => by
      obtain ⟨i, hi⟩ := List.getElem?_of_mem hy
      rw [numb_at] at hi
      obtain ⟨z, hz, rfl⟩ := Option.map_eq_some_iff.1 hi
      exact h1 z (List.mem_of_getElem? hz)
    rw [firstW_good _ _ hall]
    show firstW ((1 + k, x) :: []) = _
    rw [firstW]
    by_cases h : wrongL x = 0
    · rw [if_pos h, if_neg (fun hh => hh.2 h)]; rfl
    · rw [if_neg h, if_pos ⟨rfl, h⟩, Nat.add_comm 1 k]
  · rw [h2, if_neg (fun hh => by omega)]
/-- Lines in memory, numbered from 1. -/
def RowAt (g : Nat) (l : List (List UInt8)) (V : World) : Prop := g < V.heap.size ∧ ∀ i x, l[i]? = some x →
  V.cell? ⟨g, i * 4, none⟩ = some (.int .i64 ((i + 1 : Nat) : Int)) ∧ V.cell? ⟨g, i * 4 + 1, none⟩ = some (.string (bA x)) ∧ V.cell? ⟨g, i * 4 + 2, none⟩ = some (.int .u8 (kindL x)) ∧ V.cell? ⟨g, i * 4 + 3, none⟩ = some (.int .i64 (wrongL x))
theorem RowAt.call {g : Nat} {l : List (List UInt8)} {V u : World} (h : RowAt g l V) (hb : Below V.heap.size V u) : RowAt g l u :=
  ⟨Nat.lt_of_lt_of_le h.1 hb.size, fun i x hx => by
    obtain ⟨a, b, c, d⟩ := h.2 i x hx
    exact ⟨(hb.cell (p := ⟨g, _, none⟩) h.1).trans a, (hb.cell (p := ⟨g, _, none⟩) h.1).trans b, (hb.cell (p := ⟨g, _, none⟩) h.1).trans c, (hb.cell (p := ⟨g, _, none⟩) h.1).trans d⟩⟩
theorem all_at (s : ByteArray) (hs : s.size ≤ 1000000) (l : List (List UInt8)) (h : splitL s.data.toList = l) (w : World) :
    Calls Tryd.prog 21 #[.string s] w fun e W => ∃ g cap, e = .returned (.slice (some ⟨g, 0, none⟩) l.length cap) ∧ RowAt g l W ∧ Below w.heap.size w W := by
  subst h
  refine (all_any s hs w).mono ?_
  rintro e W ⟨v, rfl, ⟨g, cap, rfl, -, h2, h3⟩, b⟩
  refine ⟨g, cap, by rw [linesL, numb_len], ⟨h2, fun i x hx => ?_⟩, b⟩
  have := h3 i (1 + i, x) (by rw [linesL, numb_at, hx]; rfl)
  rw [Nat.add_comm 1 i] at this
  exact this
end Go.Proofs.YthindbmgnkohhaaDoor
