/-
  Plain words on rows in order: segments of an array of rows; what is kept of them, Id by Id; merging by rotation.
-/
import Derived.Test.YtngofpdpangajaaDoorD0Row
import Derived.Lib.Bytealg
import Derived.Sort.LotA
import Derived.Shelf.SlSortCmp.Insertion
import Derived.Sort.WalkA
namespace Go.Proofs.YtngofpdpangajaaDoor
set_option linter.unusedVariables false
set_option linter.unusedSimpArgs false
set_option maxRecDepth 10000
open Go.RowKit Go.Sort

instance : Inhabited Rw := ⟨Rw.zero⟩
def keyR (x : Rw) : List UInt8 := x.id.data.toList
theorem key_id {x y : Rw} (h : keyR x = keyR y) : x.id = y.id := ba_ext h
/-- How two rows compare. -/
def cfR (x y : Rw) : Int := Lib.compareBytes (keyR x) (keyR y)
def ltR : Rw → Rw → Bool := ltOf cfR
/-- One is less. -/
def LR (x y : Rw) : Prop := ltR x y = true
theorem cb_iff (a b : List UInt8) : Lib.compareBytes a b < 0 ↔ a < b := by
  induction a generalizing b with
  | nil => cases b <;> simp [Lib.compareBytes]
  | cons x a ih =>
    cases b with
    | nil => simp [Lib.compareBytes]
    | cons y b =>
      rw [Lib.compareBytes]
      by_cases h1 : x < y
      · rw [if_pos h1]
        exact ⟨fun _ => List.cons_lt_cons_iff.2 (.inl h1), fun _ => by omega⟩
      · rw [if_neg h1]
        by_cases h2 : y < x
        · rw [if_pos h2]
          constructor
          · intro h; omega
          · intro h
            rcases List.cons_lt_cons_iff.1 h with h | ⟨h, -⟩
            · exact absurd h h1
            · subst h; exact absurd h2 h1
        · rw [if_neg h2, ih]
          have e : x = y := by
            rw [UInt8.lt_iff_toNat_lt] at h1 h2
            exact UInt8.toNat_inj.1 (by omega)
          subst e
          constructor
          · intro h; exact List.cons_lt_cons_iff.2 (.inr ⟨rfl, h⟩)
          · intro h
            rcases List.cons_lt_cons_iff.1 h with h | ⟨-, h⟩
            · exact absurd h h1
            · exact h
theorem LR_iff (x y : Rw) : LR x y ↔ keyR x < keyR y := by
  unfold LR ltR ltOf
  rw [decide_eq_true_eq]
  exact cb_iff _ _
theorem LR_irrefl (x : Rw) : ¬ LR x x := fun h => List.lt_irrefl _ ((LR_iff _ _).1 h)
theorem LR_trans {x y z : Rw} (h1 : LR x y) (h2 : LR y z) : LR x z := (LR_iff _ _).2 (List.lt_trans ((LR_iff _ _).1 h1) ((LR_iff _ _).1 h2))
theorem LR_key {x y : Rw} (h1 : ¬ LR x y) (h2 : ¬ LR y x) : keyR x = keyR y := by
  rw [LR_iff] at h1 h2
  exact List.le_antisymm (List.not_lt.1 h2) (List.not_lt.1 h1)
theorem LR_same {x y z : Rw} (h : keyR x = keyR y) : LR x z ↔ LR y z := by rw [LR_iff, LR_iff, h]
theorem LR_same' {x y z : Rw} (h : keyR x = keyR y) : LR z x ↔ LR z y := by rw [LR_iff, LR_iff, h]
theorem LR_not_trans {x y z : Rw} (h1 : ¬ LR y x) (h2 : ¬ LR z y) : ¬ LR z x := fun h => by
  by_cases h3 : LR x y
  · exact h2 (LR_trans h h3)
  · exact h2 ((LR_same' (LR_key h3 h1)).1 h)
theorem LR_lt_not {x y z : Rw} (h1 : LR x y) (h2 : ¬ LR z y) : LR x z := by
  by_cases h3 : LR y z
  · exact LR_trans h1 h3
  · exact (LR_same' (LR_key h3 h2)).1 h1
theorem LR_not_lt {x y z : Rw} (h1 : ¬ LR y x) (h2 : LR y z) : LR x z := by
  by_cases h3 : LR x y
  · exact LR_trans h3 h2
  · exact (LR_same (LR_key h3 h1)).2 h2
theorem LR_asymm {x y : Rw} (h : LR x y) : ¬ LR y x := fun k => LR_irrefl _ (LR_trans h k)
theorem swoR : SWO ltR where
  irrefl x := by cases h : ltR x x with | false => rfl | true => exact absurd h (LR_irrefl x)
  trans x y z h1 h2 := LR_trans (x := x) (y := y) (z := z) h1 h2
  ntrans x y z h1 h2 := by
    cases h : ltR x z with
    | false => rfl
    | true => exact absurd h (LR_not_trans (x := z) (y := y) (z := x) (by unfold LR; rw [h2]; decide) (by unfold LR; rw [h1]; decide))

/-- A segment. -/
def sg (d : Array Rw) (a b : Nat) : List Rw := (List.range' a (b - a)).map fun i => d[i]!
def fil (k : List UInt8) (l : List Rw) : List Rw := l.filter fun x => decide (keyR x = k)
/-- Rising. -/
def Sl (l : List Rw) : Prop := l.Pairwise fun x y => ¬ LR y x
theorem sg_app (d : Array Rw) {a m b : Nat} (h1 : a ≤ m) (h2 : m ≤ b) : sg d a b = sg d a m ++ sg d m b := by
  unfold sg
  rw [← List.map_append]
  congr 1
  rw [show b - a = (m - a) + (b - m) by omega, ← List.range'_append_1, show a + (m - a) = m by omega]
theorem sg_none (d : Array Rw) (a : Nat) : sg d a a = [] := by unfold sg; rw [Nat.sub_self]; rfl
theorem sg_one (d : Array Rw) (a : Nat) : sg d a (a + 1) = [d[a]!] := by unfold sg; rw [show a + 1 - a = 1 by omega]; rfl
theorem sg_cons (d : Array Rw) {a b : Nat} (h : a < b) : sg d a b = d[a]! :: sg d (a + 1) b := by rw [sg_app d (Nat.le_succ a) h, sg_one]; rfl
theorem sg_snoc (d : Array Rw) {a b : Nat} (h : a ≤ b) : sg d a (b + 1) = sg d a b ++ [d[b]!] := by rw [sg_app d h (Nat.le_succ b), sg_one]
theorem mem_sg (d : Array Rw) (a b : Nat) (x : Rw) : x ∈ sg d a b ↔ ∃ i, a ≤ i ∧ i < b ∧ d[i]! = x := by
  unfold sg
  rw [List.mem_map]
  constructor
  · rintro ⟨i, hi, rfl⟩
    rw [List.mem_range'_1] at hi
    exact ⟨i, hi.1, by omega, rfl⟩
  · rintro ⟨i, h1, h2, rfl⟩
    exact ⟨i, by rw [List.mem_range'_1]; omega, rfl⟩
theorem sg_same {d e : Array Rw} {a b : Nat} (h : ∀ x, a ≤ x → x < b → d[x]! = e[x]!) : sg d a b = sg e a b := by
  unfold sg
  apply List.map_congr_left
  intro i hi
  rw [List.mem_range'_1] at hi
  exact h i hi.1 (by omega)
theorem sg_shift {d e : Array Rw} {a b c : Nat} (h : ∀ x, a ≤ x → x < b → d[x]! = e[x - a + c]!) : sg d a b = sg e c (c + (b - a)) := by
  unfold sg
  rw [show c + (b - a) - c = b - a by omega]
  apply List.ext_getElem
  · simp
  · intro i h1 h2
    simp only [List.length_map, List.length_range'] at h1
    simp only [List.getElem_map, List.getElem_range', Nat.one_mul]
    rw [h (a + i) (by omega) (by omega)]
    congr 1
    omega
theorem Sl_sg (d : Array Rw) (a b : Nat) : Sl (sg d a b) ↔ ∀ i j, a ≤ i → i < j → j < b → ¬ LR d[j]! d[i]! := by
  unfold Sl sg
  rw [List.pairwise_map, List.pairwise_iff_getElem]
  simp only [List.length_range', List.getElem_range', Nat.one_mul]
  constructor
  · intro h i j h1 h2 h3
    have := h (i - a) (j - a) (by omega) (by omega) (by omega)
    rw [show a + (i - a) = i by omega, show a + (j - a) = j by omega] at this
    exact this
  · intro h i j h1 h2 h3
    exact h (a + i) (a + j) (by omega) (by omega) (by omega)
theorem Sl.part {l m : List Rw} (h : Sl (l ++ m)) : Sl l ∧ Sl m ∧ ∀ x ∈ l, ∀ y ∈ m, ¬ LR y x := List.pairwise_append.1 h
theorem Sl.join {l m : List Rw} (h1 : Sl l) (h2 : Sl m) (h3 : ∀ x ∈ l, ∀ y ∈ m, ¬ LR y x) : Sl (l ++ m) := List.pairwise_append.2 ⟨h1, h2, h3⟩
theorem fil_app (k : List UInt8) (l m : List Rw) : fil k (l ++ m) = fil k l ++ fil k m := by simp [fil]
theorem mem_fil (l : List Rw) (x : Rw) : x ∈ l ↔ x ∈ fil (keyR x) l := by simp [fil]
/-- Two parts of which each of the second is less than each of the first, the other way about. -/
theorem fil_turn (k : List UInt8) (u v : List Rw) (h : ∀ x ∈ u, ∀ y ∈ v, LR y x) : fil k (v ++ u) = fil k (u ++ v) := by
  rw [fil_app, fil_app]
  by_cases hu : fil k u = []
  · rw [hu, List.append_nil, List.nil_append]
  · have hv : fil k v = [] := by
      rw [List.eq_nil_iff_forall_not_mem]
      intro y hy
      obtain ⟨x, hx⟩ := List.exists_mem_of_ne_nil _ hu
      have h1 := List.mem_filter.1 hx
      have h2 := List.mem_filter.1 hy
      have e1 := of_decide_eq_true h1.2
      have e2 := of_decide_eq_true h2.2
      exact LR_irrefl x ((LR_same (e2.trans e1.symm)).1 (h x h1.1 y h2.1))
    rw [hv, List.append_nil, List.nil_append]

/-- What is kept: all out of the segment, and in it, Id by Id, the rows as they stood. -/
def Keep (d e : Array Rw) (a b : Nat) : Prop := e.size = d.size ∧ (∀ x, x < a ∨ b ≤ x → e[x]! = d[x]!) ∧ ∀ k, fil k (sg e a b) = fil k (sg d a b)
theorem Keep.refl (d : Array Rw) (a b : Nat) : Keep d d a b := ⟨rfl, fun _ _ => rfl, fun _ => rfl⟩
theorem Keep.trans {d e f : Array Rw} {a b : Nat} (h1 : Keep d e a b) (h2 : Keep e f a b) : Keep d f a b :=
  ⟨h2.1.trans h1.1, fun x hx => (h2.2.1 x hx).trans (h1.2.1 x hx), fun k => (h2.2.2 k).trans (h1.2.2 k)⟩
theorem Keep.wide {d e : Array Rw} {a b a' b' : Nat} (h : Keep d e a b) (h1 : a' ≤ a) (h2 : a ≤ b) (h3 : b ≤ b') : Keep d e a' b' := by
  refine ⟨h.1, fun x hx => h.2.1 x (by omega), fun k => ?_⟩
  rw [sg_app e h1 (Nat.le_trans h2 h3), sg_app e h2 h3, sg_app d h1 (Nat.le_trans h2 h3), sg_app d h2 h3, fil_app, fil_app, fil_app, fil_app, h.2.2 k,
    sg_same (d := e) (e := d) fun x _ hx => h.2.1 x (by omega), sg_same (d := e) (e := d) (a := b) fun x hx _ => h.2.1 x (by omega)]
theorem Keep.mem {d e : Array Rw} {a b : Nat} (h : Keep d e a b) (x : Rw) : x ∈ sg e a b ↔ x ∈ sg d a b := by rw [mem_fil, h.2.2, ← mem_fil]
theorem Keep.out {d e : Array Rw} {a b c f : Nat} (h : Keep d e a b) (hc : f ≤ a ∨ b ≤ c) : sg e c f = sg d c f := sg_same fun x h1 h2 => h.2.1 x (by omega)

/-- Two beside one another that stand the wrong way are turned. -/
theorem keep_swap (d : Array Rw) (j : Nat) (hj : j + 1 < d.size) (h : LR d[j + 1]! d[j]!) : Keep d (swp d (j + 1) j) j (j + 2) := by
  refine ⟨size_swp _ _ _, fun x hx => swp_other _ _ _ _ (by omega) (by omega), fun k => ?_⟩
  have e1 : sg (swp d (j + 1) j) j (j + 2) = [d[j + 1]!] ++ [d[j]!] := by
    rw [sg_snoc _ (by omega), sg_one, swp_right _ _ _ (by omega), swp_left _ _ _ (by omega) (by omega)]
  have e2 : sg d j (j + 2) = [d[j]!] ++ [d[j + 1]!] := by rw [sg_snoc _ (by omega), sg_one]
  rw [e1, e2]
  exact fil_turn k _ _ fun x hx y hy => by
    rw [List.mem_singleton.1 hx, List.mem_singleton.1 hy]
    exact h
theorem keep_inner (a : Nat) : ∀ (j : Nat) (d : Array Rw), j < d.size → Keep d (insInner ltR a j d) a (j + 1) ∨ (j < a ∧ insInner ltR a j d = d)
  | 0, d, h => by
    by_cases ha : 0 < a
    · exact .inr ⟨ha, rfl⟩
    · exact .inl (by rw [insInner]; exact Keep.refl _ _ _)
  | j + 1, d, h => by
    by_cases ha : j + 1 < a
    · exact .inr ⟨ha, by rw [insInner_stop _ _ _ _ (Or.inl (by omega))]⟩
    · left
      by_cases hg : a < j + 1 ∧ ltR d[j + 1]! d[j]! = true
      · rw [insInner_go ltR a (j + 1) d hg.1 (by simpa using hg.2)]
        simp only [Nat.add_sub_cancel]
        have k1 := keep_swap d j h hg.2
        rcases keep_inner a j (swp d (j + 1) j) (by rw [size_swp]; omega) with k2 | ⟨k2, -⟩
        · exact (k1.wide (by omega) (by omega) (by omega)).trans (k2.wide (Nat.le_refl _) (by omega) (by omega))
        · omega
      · have hs : j + 1 ≤ a ∨ ltR d[j + 1]! d[j + 1 - 1]! = false := by
          by_cases h1 : a < j + 1
          · right
            simp only [Nat.add_sub_cancel]
            cases hb : ltR d[j + 1]! d[j]! with
            | false => rfl
            | true => exact absurd ⟨h1, hb⟩ hg
          · left; omega
        rw [insInner_stop ltR a (j + 1) d hs]
        exact Keep.refl _ _ _
theorem keep_outer (a b : Nat) : ∀ (n i : Nat) (d : Array Rw), b - i ≤ n → a ≤ i → b ≤ d.size → Keep d (insOuter ltR a b i d) a b
  | 0, i, d, hn, hi, hb => by rw [insOuter_stop _ _ _ _ _ (by omega)]; exact Keep.refl _ _ _
  | n + 1, i, d, hn, hi, hb => by
    by_cases h : i < b
    · rw [insOuter_go _ _ _ _ _ h]
      rcases keep_inner a i d (by omega) with k1 | ⟨k1, -⟩
      · have k2 := keep_outer a b n (i + 1) (insInner ltR a i d) (by omega) (by omega) (by rw [k1.1]; exact hb)
        exact (k1.wide (Nat.le_refl _) (by omega) (by omega)).trans k2
      · omega
    · rw [insOuter_stop _ _ _ _ _ h]; exact Keep.refl _ _ _
/-- What the insertion sort does to a segment. -/
theorem ins_sorts (d : Array Rw) (a b : Nat) (hab : a ≤ b) (hb : b ≤ d.size) : Keep d (Sort.insertionSort ltR d a b) a b ∧ Sl (sg (Sort.insertionSort ltR d a b) a b) := by
  refine ⟨keep_outer a b (b - a) (a + 1) d (by omega) (by omega) hb, (Sl_sg _ _ _).2 fun i j h1 h2 h3 => ?_⟩
  have h := (insertionSort_holds (lt := ltR) swoR d a b hab hb).2 i j h1 h2 h3
  unfold LR
  rw [h]
  decide
/-- Rising rows with, Id by Id, the same rows in order are the same. -/
theorem Sl_unique : ∀ (s t : List Rw), Sl s → Sl t → (∀ k, fil k s = fil k t) → s = t
  | [], t, _, _, h => by
    cases t with
    | nil => rfl
    | cons y t =>
      have := h (keyR y)
      simp [fil] at this
  | x :: s, t, hs, ht, h => by
    cases t with
    | nil =>
      have := h (keyR x)
      simp [fil] at this
    | cons y t =>
      have hs' := List.pairwise_cons.1 hs
      have ht' := List.pairwise_cons.1 ht
      have hxt : x ∈ y :: t := by rw [mem_fil, ← h, ← mem_fil]; simp
      have hyx : ¬ LR x y := by
        rcases List.mem_cons.1 hxt with e | e
        · rw [e]; exact LR_irrefl _
        · exact ht'.1 x e
      have hys : y ∈ x :: s := by rw [mem_fil, h, ← mem_fil]; simp
      have hxy : ¬ LR y x := by
        rcases List.mem_cons.1 hys with e | e
        · rw [e]; exact LR_irrefl _
        · exact hs'.1 y e
      have hk := LR_key hyx hxy
      have h1 := h (keyR x)
      have e1 : fil (keyR x) (x :: s) = x :: fil (keyR x) s := by simp [fil]
      have e2 : fil (keyR x) (y :: t) = y :: fil (keyR x) t := by simp [fil, hk]
      rw [e1, e2] at h1
      injection h1 with h2 h3
      subst h2
      congr 1
      refine Sl_unique s t hs'.2 ht'.2 fun k => ?_
      have h4 := h k
      unfold fil at h4 ⊢
      rw [List.filter_cons, List.filter_cons] at h4
      split at h4
      · injection h4
      · exact h4

/-- Behind a rotation: the rest of the merge. -/
theorem rot_keep (d e : Array Rw) {a s m f b : Nat} (h1 : a ≤ s) (h2 : s ≤ m) (h3 : m ≤ f) (h4 : f ≤ b) (hsz : e.size = d.size) (hout : ∀ x, x < s ∨ f ≤ x → e[x]! = d[x]!)
    (hmid : sg e s f = sg d m f ++ sg d s m) (hl : ∀ x ∈ sg d s m, ∀ y ∈ sg d m f, LR y x) : Keep d e a b := by
  have h : Keep d e s f := ⟨hsz, hout, fun k => by rw [hmid, sg_app d h2 h3]; exact fil_turn k _ _ hl⟩
  exact h.wide h1 (Nat.le_trans h2 h3) h4
end Go.Proofs.YtngofpdpangajaaDoor
