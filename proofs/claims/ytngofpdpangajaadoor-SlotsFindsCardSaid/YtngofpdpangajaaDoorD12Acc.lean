/-
  Plain words on accounts: an account, its cells, the first one of which something is so, free slots, who is placed where.
-/
import Derived.Test.YtngofpdpangajaaDoorD10Sort
import Derived.Test.YtngofpdpangajaaDoorD7Tag
namespace Go.Proofs.YtngofpdpangajaaDoor
set_option linter.unusedVariables false
set_option linter.unusedSimpArgs false
set_option maxRecDepth 10000
open Go.RowKit Go.Sort

/-- An account, plainly. -/
structure Ac where
  id : ByteArray
  h : Int
  l : Int
  salt : ByteArray
  slot : Int
def Ac.val (x : Ac) : Value := .agg #[.string x.id, .int .u64 x.h, .int .u64 x.l, .string x.salt, .int .u64 x.slot]
def Ac.cells (x : Ac) : List Value := [.string x.id, .int .u64 x.h, .int .u64 x.l, .string x.salt, .int .u64 x.slot]
def Ac.zero : Ac := ⟨⟨#[]⟩, 0, 0, ⟨#[]⟩, 0⟩
/-- Its numbers are such of 64 bits. -/
def Ac.ok (x : Ac) : Prop := Word x.h ∧ Word x.l ∧ Word x.slot
theorem word_nil : Word 0 := ⟨by decide, by decide⟩
theorem aczero_ok : Ac.zero.ok := ⟨word_nil, word_nil, word_nil⟩
def keyA (x : Ac) : List UInt8 := x.id.data.toList
/-- An account's leaf. -/
def lfA (x : Ac) : Lf := ⟨false, x.id, x.salt, x.h, x.l⟩

theorem take_more1 {α : Type} {l : List α} {i : Nat} {x : α} (h : l[i]? = some x) : l.take (i + 1) = l.take i ++ [x] := by rw [List.take_add_one, h]; rfl
/-- The cells of accounts. -/
def accCs (l : List Ac) : List Value := l.flatMap Ac.cells
theorem accCs_snoc (l : List Ac) (x : Ac) : accCs (l ++ [x]) = accCs l ++ x.cells := by simp [accCs]
theorem accCs_app (a b : List Ac) : accCs (a ++ b) = accCs a ++ accCs b := by simp [accCs]
theorem accCs_len (l : List Ac) : (accCs l).length = l.length * 5 := by
  induction l with
  | nil => rfl
  | cons x r ih => simp only [accCs, List.flatMap_cons, List.length_append] at *; rw [ih]; simp [Ac.cells]; omega
theorem accCs_at (l : List Ac) (i : Nat) (x : Ac) (h : l[i]? = some x) (j : Nat) (hj : j < 5) : (accCs l)[i * 5 + j]? = x.cells[j]? := by
  induction l generalizing i with
  | nil => simp at h
  | cons y r ih =>
    cases i with
    | zero =>
      obtain rfl : y = x := by simpa using h
      simp only [accCs, List.flatMap_cons]
      rw [List.getElem?_append_left (by simp [Ac.cells]; omega)]
      simp
    | succ i =>
      simp only [accCs, List.flatMap_cons]
      rw [List.getElem?_append_right (by simp [Ac.cells]; omega)]
      have := ih i (by simpa using h)
      rw [← this]
      have e : y.cells.length = 5 := rfl
      rw [e, show (i + 1) * 5 + j - 5 = i * 5 + j by omega]
      rfl
theorem accells_one (x : Ac) : ∀ u ∈ x.cells, u.oneCell' = true := by
  intro u hu
  simp only [Ac.cells, List.mem_cons, List.not_mem_nil, or_false] at hu
  rcases hu with rfl | rfl | rfl | rfl | rfl <;> rfl
theorem accCs_one (l : List Ac) : ∀ u ∈ accCs l, u.oneCell' = true := by
  intro u hu
  obtain ⟨x, -, hx⟩ := List.mem_flatMap.1 hu
  exact accells_one x u hx
theorem accCs_set (l : List Ac) (i : Nat) (x : Ac) (hi : i < l.length) :
    (((((accCs l).set (i * 5) (.string x.id)).set (i * 5 + 1) (.int .u64 x.h)).set (i * 5 + 2) (.int .u64 x.l)).set (i * 5 + 3) (.string x.salt)).set (i * 5 + 4) (.int .u64 x.slot) = accCs (l.set i x) := by
  induction l generalizing i with
  | nil => simp at hi
  | cons y r ih =>
    cases i with
    | zero => simp [accCs, Ac.cells]
    | succ i =>
      have e : accCs (y :: r) = y.cells ++ accCs r := by simp [accCs]
      have e2 : accCs ((y :: r).set (i + 1) x) = y.cells ++ accCs (r.set i x) := by simp [accCs]
      have hl : y.cells.length = 5 := rfl
      rw [e, e2, ← ih i (by simpa using hi)]
      rw [List.set_append_right _ _ (by rw [hl]; omega), List.set_append_right _ _ (by rw [hl]; omega), List.set_append_right _ _ (by rw [hl]; omega), List.set_append_right _ _ (by rw [hl]; omega), List.set_append_right _ _ (by rw [hl]; omega), hl]
      rw [show (i + 1) * 5 - 5 = i * 5 by omega, show (i + 1) * 5 + 1 - 5 = i * 5 + 1 by omega, show (i + 1) * 5 + 2 - 5 = i * 5 + 2 by omega, show (i + 1) * 5 + 3 - 5 = i * 5 + 3 by omega, show (i + 1) * 5 + 4 - 5 = i * 5 + 4 by omega]

/-- The first one of which it is so. -/
def firstA (p : Ac → Bool) : List Ac → Ac × Bool
  | [] => (Ac.zero, false)
  | x :: r => if p x then (x, true) else firstA p r
def findA (l : List Ac) (k : List UInt8) : Ac × Bool := firstA (fun a => decide (keyA a = k)) l
def atA (l : List Ac) (n : Int) : Ac × Bool := firstA (fun a => decide (a.slot = n)) l
theorem firstA_hit {p : Ac → Bool} {l : List Ac} {i : Nat} {x : Ac} (hb : ∀ j y, j < i → l[j]? = some y → p y = false) (hx : l[i]? = some x) (hk : p x = true) : firstA p l = (x, true) := by
  induction l generalizing i with
  | nil => simp at hx
  | cons y r ih =>
    unfold firstA
    cases i with
    | zero =>
      obtain rfl : y = x := by simpa using hx
      rw [if_pos hk]
    | succ i =>
      rw [if_neg (by rw [hb 0 y (Nat.succ_pos _) rfl]; exact Bool.noConfusion)]
      exact ih (i := i) (fun j z hj hz => hb (j + 1) z (by omega) (by simpa using hz)) (by simpa using hx)
theorem firstA_none {p : Ac → Bool} {l : List Ac} (hb : ∀ j y, j < l.length → l[j]? = some y → p y = false) : firstA p l = (Ac.zero, false) := by
  induction l with
  | nil => rfl
  | cons y r ih =>
    unfold firstA
    rw [if_neg (by rw [hb 0 y (by simp) rfl]; exact Bool.noConfusion)]
    exact ih fun j z hj hz => hb (j + 1) z (by simp; omega) (by simpa using hz)
theorem firstA_has (p : Ac → Bool) (l : List Ac) : (firstA p l).2 = l.any p := by
  induction l with
  | nil => rfl
  | cons x r ih =>
    unfold firstA
    rw [List.any_cons]
    cases h : p x with
    | true => simp
    | false => simpa using ih
theorem firstA_yes {p : Ac → Bool} {l : List Ac} (h : (firstA p l).2 = true) : (firstA p l).1 ∈ l ∧ p (firstA p l).1 = true := by
  induction l with
  | nil => cases h
  | cons x r ih =>
    unfold firstA at h ⊢
    cases hp : p x with
    | true => rw [if_pos rfl]; exact ⟨by simp, hp⟩
    | false =>
      rw [hp] at h
      rw [if_neg Bool.noConfusion] at h ⊢
      obtain ⟨h1, h2⟩ := ih h
      exact ⟨by simp [h1], h2⟩
theorem firstA_no {p : Ac → Bool} {l : List Ac} (h : (firstA p l).2 = false) : firstA p l = (Ac.zero, false) := by
  induction l with
  | nil => rfl
  | cons x r ih =>
    unfold firstA at h ⊢
    cases hp : p x with
    | true => rw [hp] at h; cases h
    | false =>
      rw [hp] at h
      rw [if_neg Bool.noConfusion] at h ⊢
      exact ih h
theorem at_has (l : List Ac) (n : Int) : (atA l n).2 = decide (n ∈ l.map Ac.slot) := by
  unfold atA
  rw [firstA_has, Bool.eq_iff_iff, List.any_eq_true, decide_eq_true_eq, List.mem_map]
  simp
theorem find_has (l : List Ac) (k : List UInt8) : (findA l k).2 = decide (k ∈ l.map keyA) := by
  unfold findA
  rw [firstA_has, Bool.eq_iff_iff, List.any_eq_true, decide_eq_true_eq, List.mem_map]
  simp
/-- Of unlike ones, the one that is so is the first. -/
theorem firstA_own {β : Type} [DecidableEq β] {f : Ac → β} {l : List Ac} (hd : (l.map f).Nodup) {x : Ac} (hx : x ∈ l) : firstA (fun a => decide (f a = f x)) l = (x, true) := by
  induction l with
  | nil => cases hx
  | cons y r ih =>
    unfold firstA
    rw [List.map_cons, List.nodup_cons] at hd
    rcases List.mem_cons.1 hx with rfl | hx
    · simp
    · have : f y ≠ f x := fun e => hd.1 (e ▸ List.mem_map_of_mem hx)
      rw [if_neg (by simpa using this)]
      exact ih hd.2 hx

/-- The step-th slot from that one on, round and round. -/
def sq (A f : Int) (s : Nat) : Int := (f % A + s) % A
theorem sq_step (A f : Int) (s : Nat) : (sq A f s + 1) % A = sq A f (s + 1) := by
  unfold sq
  rw [Int.emod_add_emod]
  congr 1
  omega
theorem sq_zero (A f : Int) : sq A f 0 = f % A := by
  unfold sq
  rw [show (f % A + ((0 : Nat) : Int)) = f % A by omega, Int.emod_emod_of_dvd _ (Int.dvd_refl _)]
theorem sq_bd {A : Int} (hA : 0 < A) (f : Int) (s : Nat) : 0 ≤ sq A f s ∧ sq A f s < A := ⟨Int.emod_nonneg _ (by omega), Int.emod_lt_of_pos _ hA⟩
/-- The first free slot among so many, from the step-th on. -/
def freeK (A : Int) (ks : List Int) (f : Int) : Nat → Nat → Int × Bool
  | 0, _ => (0, false)
  | n + 1, s => if sq A f s ∈ ks then freeK A ks f n (s + 1) else (sq A f s, true)
def freeF (A : Int) (ks : List Int) (f : Int) : Int × Bool := freeK A ks f A.toNat 0
theorem freeK_skip (A : Int) (ks : List Int) (f : Int) : ∀ (s n : Nat), (∀ j, j < s → sq A f j ∈ ks) → s ≤ n → freeK A ks f n 0 = freeK A ks f (n - s) s := by
  intro s
  induction s with
  | zero => intro n _ _; rfl
  | succ s ih =>
    intro n h hn
    rw [ih n (fun j hj => h j (by omega)) (by omega)]
    obtain ⟨m, hm⟩ : ∃ m, n - s = m + 1 := ⟨n - s - 1, by omega⟩
    rw [hm, freeK, if_pos (h s (by omega)), show n - (s + 1) = m by omega]
theorem freeF_hit {A : Int} {ks : List Int} {f : Int} {s : Nat} (h : ∀ j, j < s → sq A f j ∈ ks) (hs : (s : Int) < A) (hn : sq A f s ∉ ks) : freeF A ks f = (sq A f s, true) := by
  unfold freeF
  rw [freeK_skip A ks f s _ h (by omega)]
  obtain ⟨m, hm⟩ : ∃ m, A.toNat - s = m + 1 := ⟨A.toNat - s - 1, by omega⟩
  rw [hm, freeK, if_neg hn]
theorem freeF_none {A : Int} {ks : List Int} {f : Int} (h : ∀ j : Nat, (j : Int) < A → sq A f j ∈ ks) : freeF A ks f = (0, false) := by
  unfold freeF
  rw [freeK_skip A ks f A.toNat _ (fun j hj => h j (by omega)) (Nat.le_refl _), Nat.sub_self]
  rfl
/-- What a free slot is. -/
theorem freeF_spec (A : Int) (ks : List Int) (f : Int) : (∃ s : Nat, (s : Int) < A ∧ (∀ j, j < s → sq A f j ∈ ks) ∧ sq A f s ∉ ks ∧ freeF A ks f = (sq A f s, true)) ∨ ((∀ j : Nat, (j : Int) < A → sq A f j ∈ ks) ∧ freeF A ks f = (0, false)) := by
  by_cases h : ∀ j : Nat, (j : Int) < A → sq A f j ∈ ks
  · exact .inr ⟨h, freeF_none h⟩
  · have key : ∀ n : Nat, (∀ j, j < n → (j : Int) < A → sq A f j ∈ ks) ∨ ∃ s, s < n ∧ (s : Int) < A ∧ (∀ j, j < s → sq A f j ∈ ks) ∧ sq A f s ∉ ks := by
      intro n
      induction n with
      | zero => exact .inl fun j hj => absurd hj (Nat.not_lt_zero _)
      | succ n ih =>
        rcases ih with ih | ⟨s, h1, h2⟩
        · by_cases hn : (n : Int) < A → sq A f n ∈ ks
          · refine .inl fun j hj hA => ?_
            by_cases e : j = n
            · subst e; exact hn hA
            · exact ih j (by omega) hA
          · rw [Classical.not_imp] at hn
            exact .inr ⟨n, by omega, hn.1, fun j hj => ih j hj (by omega), hn.2⟩
        · exact .inr ⟨s, by omega, h2⟩
    rcases key A.toNat with k | ⟨s, h1, h2, h3, h4⟩
    · exact absurd (fun j hj => k j (by omega) hj) h
    · exact .inl ⟨s, h2, h3, h4, freeF_hit h3 h2 h4⟩
theorem freeF_same {A : Int} {ks ms : List Int} {f : Int} (h : ∀ n, n ∈ ks ↔ n ∈ ms) : freeF A ks f = freeF A ms f := by
  unfold freeF
  generalize A.toNat = n
  generalize 0 = s
  induction n generalizing s with
  | zero => rfl
  | succ n ih =>
    unfold freeK
    rw [ih]
    simp only [h]
end Go.Proofs.YtngofpdpangajaaDoor
