/-
  Plain words on accounts and rows that may be.
-/
import Derived.Test.YtngofpdpangajaaDoorD12Place
import Derived.Test.YtngofpdpangajaaDoorU12Set
namespace Go.Proofs.YtngofpdpangajaaDoor
set_option linter.unusedVariables false
set_option linter.unusedSimpArgs false
set_option maxRecDepth 10000
open Go.RowKit Go.Sort

/-- May the account be, of so many slots? -/
def okA (A : Int) (a : Ac) : Bool := isId (keyA a) && (decide (a.salt.size ≤ 32) && decide (a.slot < A))
def MayP (A : Int) (l : List Ac) : Prop := (∀ a ∈ l, okA A a = true) ∧ (l.map keyA).Nodup ∧ (l.map Ac.slot).Nodup
instance (A : Int) (l : List Ac) : Decidable (MayP A l) := by unfold MayP; infer_instance
/-- May the accounts be, of that height? -/
def mayA (h : Int) (l : List Ac) : Bool := shOk h && decide (MayP (pw h.toNat) l)
theorem mayP_nil (A : Int) : MayP A [] := ⟨fun a h => by simp at h, by simp, by simp⟩
theorem mayP_snoc {A : Int} {l : List Ac} {a : Ac} : MayP A (l ++ [a]) ↔ MayP A l ∧ okA A a = true ∧ keyA a ∉ l.map keyA ∧ a.slot ∉ l.map Ac.slot := by
  unfold MayP
  rw [List.map_append, List.map_append, List.nodup_append, List.nodup_append]
  simp only [List.map_cons, List.map_nil, List.mem_append, List.mem_singleton]
  constructor
  · rintro ⟨h1, ⟨h2, -, h3⟩, h4, -, h5⟩
    exact ⟨⟨fun x hx => h1 x (.inl hx), h2, h4⟩, h1 a (.inr rfl), fun k => h3 _ k _ rfl rfl, fun k => h5 _ k _ rfl rfl⟩
  · rintro ⟨⟨h1, h2, h4⟩, h6, h3, h5⟩
    refine ⟨fun x hx => ?_, ⟨h2, by simp, ?_⟩, h4, by simp, ?_⟩
    · rcases hx with hx | rfl
      · exact h1 x hx
      · exact h6
    · rintro x hx y rfl rfl
      exact h3 hx
    · rintro x hx y rfl rfl
      exact h5 hx
theorem mayP_pre {A : Int} {l m : List Ac} (h : MayP A (l ++ m)) : MayP A l := by
  unfold MayP at h ⊢
  rw [List.map_append, List.map_append, List.nodup_append, List.nodup_append] at h
  exact ⟨fun a ha => h.1 a (by simp [ha]), h.2.1.1, h.2.2.1⟩
theorem mayP_take {A : Int} {xs : List Ac} (h : MayP A xs) (k : Nat) : MayP A (xs.take k) := by
  rw [← List.take_append_drop k xs] at h
  exact mayP_pre h
theorem mayP_at {A : Int} {xs : List Ac} {k : Nat} {x : Ac} (h : MayP A xs) (hx : xs[k]? = some x) : okA A x = true ∧ keyA x ∉ (xs.take k).map keyA ∧ x.slot ∉ (xs.take k).map Ac.slot := by
  have h1 := mayP_take h (k + 1)
  rw [take_more1 hx] at h1
  exact (mayP_snoc.1 h1).2
theorem mayP_step {A : Int} {xs : List Ac} {k : Nat} {x : Ac} (h : MayP A (xs.take k)) (hx : xs[k]? = some x) (h1 : okA A x = true) (h2 : keyA x ∉ (xs.take k).map keyA) (h3 : x.slot ∉ (xs.take k).map Ac.slot) : MayP A (xs.take (k + 1)) := by
  rw [take_more1 hx]
  exact mayP_snoc.2 ⟨h, h1, h2, h3⟩
theorem lfA_may (x : Ac) : (lfA x).may = (decide (x.salt.size ≤ 32) && isId (keyA x)) := rfl
theorem okA_def (A : Int) (a : Ac) : okA A a = (isId (keyA a) && (decide (a.salt.size ≤ 32) && decide (a.slot < A))) := rfl

/-- Rows of which each has an Id, and no two the same. -/
def RowsP (ys : List Rw) : Prop := (∀ r ∈ ys, isId (keyR r) = true) ∧ (ys.map keyR).Nodup
instance (ys : List Rw) : Decidable (RowsP ys) := by unfold RowsP; infer_instance
theorem rowsP_nil : RowsP [] := ⟨fun r h => by simp at h, by simp⟩
theorem rowsP_snoc {l : List Rw} {r : Rw} : RowsP (l ++ [r]) ↔ RowsP l ∧ isId (keyR r) = true ∧ keyR r ∉ l.map keyR := by
  unfold RowsP
  rw [List.map_append, List.nodup_append]
  simp only [List.map_cons, List.map_nil, List.mem_append, List.mem_singleton]
  constructor
  · rintro ⟨h1, h2, -, h3⟩
    exact ⟨⟨fun x hx => h1 x (.inl hx), h2⟩, h1 r (.inr rfl), fun k => h3 _ k _ rfl rfl⟩
  · rintro ⟨⟨h1, h2⟩, h6, h3⟩
    refine ⟨fun x hx => ?_, h2, by simp, ?_⟩
    · rcases hx with hx | rfl
      · exact h1 x hx
      · exact h6
    · rintro x hx y rfl rfl
      exact h3 hx
theorem rowsP_pre {l m : List Rw} (h : RowsP (l ++ m)) : RowsP l := by
  unfold RowsP at h ⊢
  rw [List.map_append, List.nodup_append] at h
  exact ⟨fun a ha => h.1 a (by simp [ha]), h.2.1⟩
theorem rowsP_at {xs : List Rw} {k : Nat} {x : Rw} (h : RowsP xs) (hx : xs[k]? = some x) : isId (keyR x) = true ∧ keyR x ∉ (xs.take k).map keyR := by
  rw [← List.take_append_drop (k + 1) xs] at h
  have h1 := rowsP_pre h
  rw [take_more1 hx] at h1
  exact (rowsP_snoc.1 h1).2
theorem rowsP_step {xs : List Rw} {k : Nat} {x : Rw} (h : RowsP (xs.take k)) (hx : xs[k]? = some x) (h1 : isId (keyR x) = true) (h2 : keyR x ∉ (xs.take k).map keyR) : RowsP (xs.take (k + 1)) := by
  rw [take_more1 hx]
  exact rowsP_snoc.2 ⟨h, h1, h2⟩
end Go.Proofs.YtngofpdpangajaaDoor
