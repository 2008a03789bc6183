/-
  Plain words for the law LedgerTurned: the same lines in another order; remarks and empty lines between.
-/
import Derived.Test.YthindbmgnkohhaaDoorD11Laws
import Derived.Test.YthindbmgnkohhaaDoorD9Back
namespace Go.Proofs.YthindbmgnkohhaaDoor
set_option linter.unusedVariables false
set_option linter.unusedSimpArgs false
set_option maxRecDepth 10000
open Go.RowKit Go.Sort

/-- Lines, an empty line and a line r ahead of each. -/
def spreadL (r : List UInt8) (l : List (List UInt8)) : List (List UInt8) := l.flatMap fun x => [[], r, x]
def spreadS (r : ByteArray) (l : List ByteArray) : List ByteArray := l.flatMap fun x => [⟨#[]⟩, r, x]
theorem spread_map (r : ByteArray) (l : List ByteArray) : (spreadS r l).map (fun s => s.data.toList) = spreadL r.data.toList (l.map fun s => s.data.toList) := by
  induction l with
  | nil => rfl
  | cons x l ih =>
    have e1 : spreadS r (x :: l) = ⟨#[]⟩ :: r :: x :: spreadS r l := rfl
    have e2 : spreadL r.data.toList ((x :: l).map fun s => s.data.toList) = [] :: r.data.toList :: x.data.toList :: spreadL r.data.toList (l.map fun s => s.data.toList) := rfl
    rw [e1, e2, List.map_cons, List.map_cons, List.map_cons, ih]
theorem spread_len (r : ByteArray) (l : List ByteArray) : (spreadS r l).length = 3 * l.length := by
  induction l with
  | nil => rfl
  | cons x l ih =>
    have e1 : spreadS r (x :: l) = ⟨#[]⟩ :: r :: x :: spreadS r l := rfl
    rw [e1, List.length_cons, List.length_cons, List.length_cons, List.length_cons, ih]
    omega
theorem spread_take (r : ByteArray) {l : List ByteArray} {k : Nat} {x : ByteArray} (hx : l[k]? = some x) : spreadS r (l.take (k + 1)) = spreadS r (l.take k) ++ [⟨#[]⟩, r, x] := by
  rw [List.take_add_one, hx]
  simp [spreadS]
theorem tell_rem (x : List UInt8) : tell (35 :: 32 :: x) = (Rw.zero, false, wrongL (35 :: 32 :: x)) := by
  unfold tell
  rw [if_pos (.inr (by simp [kindL]))]
theorem lineR_none {acc : List Rw} {x : List UInt8} (h : (tell x).2.1 = false) : lineR acc x = acc := by
  rw [lineR_eq]
  unfold tellRows
  rw [h]
  simp
theorem impF_spread (most : Nat) (r : List UInt8) (h1 : (tell r).2.2 = 0) (h2 : (tell r).2.1 = false) : ∀ (l : List (List UInt8)) (acc : List Rw) (n : Nat),
    impF most acc (3 * n) (spreadL r l) = ((impF most acc n l).1, 3 * (impF most acc n l).2.1, (impF most acc n l).2.2)
  | [], acc, n => by simp [spreadL, impF]
  | x :: l, acc, n => by
    have e : spreadL r (x :: l) = [] :: r :: x :: spreadL r l := rfl
    have s1 : lineE most acc [] = 0 := lineE_none (by rw [tell_nil]) (by rw [tell_nil])
    have t1 : lineR acc [] = acc := lineR_none (by rw [tell_nil])
    rw [e, impF_on s1, t1, impF_on (lineE_none h1 h2), lineR_none h2]
    by_cases he : lineE most acc x = 0
    · rw [impF_on he, impF_on he, show 3 * n + 1 + 1 + 1 = 3 * (n + 1) by omega]
      exact impF_spread most r h1 h2 l _ _
    · rw [impF_off he, impF_off he]
      simp only []
      rw [show 3 * n + 1 + 1 + 1 = 3 * (n + 1) by omega]
theorem impF_spread_bad (most : Nat) (r : List UInt8) (h1 : (tell r).2.2 ≠ 0) (h2 : (tell r).2.1 = false) (x : List UInt8) (l : List (List UInt8)) (acc : List Rw) (n : Nat) :
    impF most acc n (spreadL r (x :: l)) = ([], n + 1 + 1, (tell r).2.2) := by
  have e : spreadL r (x :: l) = [] :: r :: x :: spreadL r l := rfl
  have s1 : lineE most acc [] = 0 := lineE_none (by rw [tell_nil]) (by rw [tell_nil])
  have t1 : lineR acc [] = acc := lineR_none (by rw [tell_nil])
  have s2 : lineE most acc r = (tell r).2.2 := by unfold lineE; rw [if_pos h1]
  rw [e, impF_on s1, t1, impF_off (by rw [s2]; exact h1), s2]
theorem rowsL_perm {l m : List (List UInt8)} (h : l.Perm m) : (rowsL l).Perm (rowsL m) := by
  induction h with
  | nil => exact List.Perm.refl _
  | cons x _ ih => rw [rowsL_cons, rowsL_cons]; exact List.Perm.append_left _ ih
  | swap x y l =>
    rw [rowsL_cons, rowsL_cons, rowsL_cons, rowsL_cons, ← List.append_assoc, ← List.append_assoc]
    exact List.Perm.append_right _ List.perm_append_comm
  | trans _ _ h1 h2 => exact h1.trans h2
/-- The same lines in another order come to the same rows, or to an error, too. -/
theorem impF_perm (most : Nat) {l m : List (List UInt8)} (hp : l.Perm m) :
    (impF most [] 0 l = (rowsL l, 0, 0) ∧ impF most [] 0 m = (rowsL m, 0, 0) ∧ GoodL most (rowsL l) ∧ (rowsL l).Perm (rowsL m)) ∨
    (∃ K E J F, impF most [] 0 l = ([], K, E) ∧ impF most [] 0 m = ([], J, F) ∧ E ≠ 0 ∧ F ≠ 0) := by
  have hr := rowsL_perm hp
  rcases impF_spec most l [] 0 (good_nil _) (fun x hx => by cases hx) with ⟨h1, h2, h3⟩ | ⟨k, E, h1, h2, -, -, h5⟩
  · rcases impF_spec most m [] 0 (good_nil _) (fun x hx => by cases hx) with ⟨k1, -, -⟩ | ⟨k, E, -, -, -, -, k5⟩
    · exact .inl ⟨h1, k1, by simpa using h3, hr⟩
    · exact absurd ⟨fun x hx => h2 x (hp.mem_iff.2 hx), by rw [List.nil_append] at h3 ⊢; exact h3.perm hr⟩ k5
  · rcases impF_spec most m [] 0 (good_nil _) (fun x hx => by cases hx) with ⟨-, k2, k3⟩ | ⟨j, F, k1, k2, -, -, -⟩
    · exact absurd ⟨fun x hx => k2 x (hp.mem_iff.1 hx), by rw [List.nil_append] at k3 ⊢; exact k3.perm hr.symm⟩ h5
    · exact .inr ⟨_, _, _, _, h1, k1, h2, k2⟩
theorem swap_perm (l : List (List UInt8)) {i k : Nat} {a b : List UInt8} (hi : l[i]? = some a) (hk : l[k]? = some b) : l.Perm ((l.set i b).set k a) := by
  obtain ⟨i1, i2⟩ := List.getElem?_eq_some_iff.1 hi
  obtain ⟨k1, k2⟩ := List.getElem?_eq_some_iff.1 hk
  rw [List.perm_iff_count]
  intro c
  have h1 : (l.set i b)[k]'(by simpa using k1) = b := by
    rw [List.getElem_set]
    split
    · rfl
    · exact k2
  rw [List.count_set (by simpa using k1), h1, List.count_set i1, i2]
  have h2 : (if (a == c) = true then 1 else 0) ≤ l.count c := by
    split
    · rename_i e
      have e := eq_of_beq e
      subst e
      exact List.count_pos_iff.2 (by rw [← i2]; exact List.getElem_mem i1)
    · exact Nat.zero_le _
  omega
theorem any10_L (ss : List ByteArray) : any10 ss = (ss.map fun s => s.data.toList).any has10 := by
  induction ss with
  | nil => rfl
  | cons s r ih =>
    unfold any10 at ih ⊢
    rw [List.any_cons, List.map_cons, List.any_cons, ih]
theorem any_perm {l m : List (List UInt8)} (h : l.Perm m) (f : List UInt8 → Bool) : l.any f = m.any f := by
  rw [Bool.eq_iff_iff, List.any_eq_true, List.any_eq_true]
  exact ⟨fun ⟨x, h1, h2⟩ => ⟨x, h.mem_iff.1 h1, h2⟩, fun ⟨x, h1, h2⟩ => ⟨x, h.mem_iff.2 h1, h2⟩⟩
theorem has10_rem (l : List UInt8) : has10 (35 :: 32 :: l) = has10 l := by
  rw [Bool.eq_iff_iff, has10_iff, has10_iff, List.mem_cons, List.mem_cons]
  exact ⟨fun h => by rcases h with h | h | h <;> first | exact h | exact absurd h (by decide), fun h => .inr (.inr h)⟩
theorem any_spread (l : List (List UInt8)) {x : List UInt8} (hx : x ∈ l) : (spreadL (35 :: 32 :: x) l).any has10 = l.any has10 := by
  have key : ∀ m : List (List UInt8), (∀ y ∈ m, y ∈ l) → l.any has10 = false → (spreadL (35 :: 32 :: x) m).any has10 = false := by
    intro m
    induction m with
    | nil => intro _ _; rfl
    | cons y r ih =>
      intro hm hf
      have e : spreadL (35 :: 32 :: x) (y :: r) = [] :: (35 :: 32 :: x) :: y :: spreadL (35 :: 32 :: x) r := rfl
      have hx0 := List.any_eq_false.1 hf x hx
      have hy0 := List.any_eq_false.1 hf y (hm y (by simp))
      rw [e, List.any_cons, List.any_cons, List.any_cons, ih (fun z hz => hm z (by simp [hz])) hf, has10_rem]
      have : has10 [] = false := by cases h : has10 [] with | false => rfl | true => exact absurd ((has10_iff _).1 h) (by simp)
      rw [this]
      simp_all
  cases hf : l.any has10 with
  | false => exact key l (fun y hy => hy) hf
  | true =>
    obtain ⟨y, hy, h10⟩ := List.any_eq_true.1 hf
    rw [List.any_eq_true]
    exact ⟨y, List.mem_flatMap.2 ⟨y, hy, by simp⟩, h10⟩
theorem joinL_most (l : List (List UInt8)) (n : Nat) (h : ∀ x ∈ l, x.length ≤ n) : (joinL l).length ≤ l.length * (n + 1) := by
  induction l with
  | nil => simp [joinL]
  | cons a r ih =>
    have h1 := ih fun s hs => h s (by simp [hs])
    have h2 := h a (by simp)
    cases r with
    | nil => simp [joinL]; omega
    | cons b r =>
      rw [join_cons _ _ (by simp), List.length_append, List.length_cons, List.length_cons, Nat.add_mul]
      omega
end Go.Proofs.YthindbmgnkohhaaDoor
