/- Several of my texts, laid as one. -/
import Derived.Test.YtngofpdpangajaaDoorD10Sort
/-
  Plain words on merging two rising segments by turning parts of them.
-/
namespace Go.Proofs.YtngofpdpangajaaDoor
set_option linter.unusedVariables false
set_option linter.unusedSimpArgs false
set_option maxRecDepth 10000
open Go.RowKit Go.Sort

/-- One is the other with two neighbour parts turned. -/
def Rotd (d e : Array Rw) (s m f : Nat) : Prop := e.size = d.size ∧ ∀ x, e[x]! = if s ≤ x ∧ x < s + (f - m) then d[x - s + m]! else if s + (f - m) ≤ x ∧ x < f then d[x - (f - m)]! else d[x]!
theorem Rotd.none1 (d : Array Rw) (m f : Nat) : Rotd d d m m f := ⟨rfl, fun x => by
  split
  · congr 1; omega
  · split
    · omega
    · rfl⟩
theorem Rotd.none2 (d : Array Rw) (s m : Nat) : Rotd d d s m m := ⟨rfl, fun x => by
  split
  · omega
  · split
    · congr 1; omega
    · rfl⟩
theorem Rotd.r1 {d e : Array Rw} {s m f : Nat} (h : Rotd d e s m f) {x y : Nat} (h1 : s ≤ x) (h2 : x < s + (f - m)) (hy : x - s + m = y) : e[x]! = d[y]! := by
  have v := h.2 x
  rw [if_pos ⟨h1, h2⟩, hy] at v
  exact v
theorem Rotd.r2 {d e : Array Rw} {s m f : Nat} (h : Rotd d e s m f) {x y : Nat} (h1 : s + (f - m) ≤ x) (h2 : x < f) (hy : x - (f - m) = y) : e[x]! = d[y]! := by
  have v := h.2 x
  have n : ¬ (s ≤ x ∧ x < s + (f - m)) := fun k => by omega
  rw [if_neg n, if_pos ⟨h1, h2⟩, hy] at v
  exact v
theorem Rotd.r3 {d e : Array Rw} {s m f : Nat} (h : Rotd d e s m f) {x : Nat} (hf : s + (f - m) ≤ f) (h1 : x < s ∨ f ≤ x) : e[x]! = d[x]! := by
  have v := h.2 x
  have n : ¬ (s ≤ x ∧ x < s + (f - m)) := fun k => by omega
  have n2 : ¬ (s + (f - m) ≤ x ∧ x < f) := fun k => by omega
  rw [if_neg n, if_neg n2] at v
  exact v
theorem Rotd.mk' {d e : Array Rw} {s m f : Nat} (hs : e.size = d.size) (h1 : ∀ x, s ≤ x → x < s + (f - m) → e[x]! = d[x - s + m]!) (h2 : ∀ x, s + (f - m) ≤ x → x < f → e[x]! = d[x - (f - m)]!)
    (h3 : ∀ x, x < s ∨ f ≤ x → e[x]! = d[x]!) : Rotd d e s m f := ⟨hs, fun x => by
  split
  · next k => exact h1 x k.1 k.2
  · next k =>
    split
    · next k2 => exact h2 x k2.1 k2.2
    · next k2 => exact h3 x (by omega)⟩
theorem Rotd.up {d e : Array Rw} {a k : Nat} (h : Rotd d e a (a + 1) (k + 1)) (hak : a ≤ k) (hk : k + 1 < d.size) : Rotd d (swp e k (k + 1)) a (a + 1) (k + 2) := by
  have hs := h.1
  refine Rotd.mk' (by rw [size_swp]; exact h.1) (fun x h1 h2 => ?_) (fun x h1 h2 => ?_) (fun x h1 => ?_)
  · by_cases e1 : x = k
    · subst e1
      rw [swp_left _ _ _ (by omega) (by omega), h.r3 (by omega) (Or.inr (by omega))]
      congr 1; omega
    · rw [swp_other _ _ _ _ e1 (by omega)]
      exact h.r1 h1 (by omega) rfl
  · have e1 : x = k + 1 := by omega
    subst e1
    rw [swp_right _ _ _ (by omega)]
    exact h.r2 (by omega) (by omega) (by omega)
  · rw [swp_other _ _ _ _ (by omega) (by omega)]
    exact h.r3 (by omega) (by omega)
theorem Rotd.down {d e : Array Rw} {k m : Nat} (h : Rotd d e (k + 1) m (m + 1)) (hkm : k + 1 ≤ m) (hm : m < d.size) : Rotd d (swp e (k + 1) k) k m (m + 1) := by
  have hs := h.1
  refine Rotd.mk' (by rw [size_swp]; exact h.1) (fun x h1 h2 => ?_) (fun x h1 h2 => ?_) (fun x h1 => ?_)
  · have e1 : x = k := by omega
    subst e1
    rw [swp_right _ _ _ (by omega)]
    exact h.r1 (by omega) (by omega) (by omega)
  · by_cases e1 : x = k + 1
    · subst e1
      rw [swp_left _ _ _ (by omega) (by omega), h.r3 (by omega) (Or.inl (by omega))]
      congr 1; omega
    · rw [swp_other _ _ _ _ e1 (by omega)]
      exact h.r2 (by omega) (by omega) rfl
  · rw [swp_other _ _ _ _ (by omega) (by omega)]
    exact h.r3 (by omega) (by omega)
theorem Rotd.parts {d e : Array Rw} {s m f : Nat} (h : Rotd d e s m f) (h1 : s ≤ m) (h2 : m ≤ f) : sg e s (s + (f - m)) = sg d m f ∧ sg e (s + (f - m)) f = sg d s m ∧ ∀ x, x < s ∨ f ≤ x → e[x]! = d[x]! := by
  refine ⟨?_, ?_, fun x hx => ?_⟩
  · rw [sg_shift (d := e) (e := d) (c := m) fun x k1 k2 => h.r1 k1 k2 rfl, show m + (s + (f - m) - s) = f by omega]
  · rw [sg_shift (d := e) (e := d) (c := s) fun x k1 k2 => h.r2 k1 k2 (by omega), show s + (f - (s + (f - m))) = m by omega]
  · exact h.r3 (by omega) hx
/-- What a merge gives. -/
def Mg (d e : Array Rw) (a b : Nat) : Prop := Keep d e a b ∧ Sl (sg e a b)
/-- After the parts are turned, all of the first half stands before all of the second. -/
theorem turned10 (d e : Array Rw) (a s m f b : Nat) (h1 : a ≤ s) (h2 : s ≤ m) (h3 : m ≤ f) (h4 : f ≤ b) (hl : Sl (sg d a m)) (hr : Sl (sg d m b)) (h : Rotd d e s m f)
    (hA : s = a ∨ f = b ∨ ¬ LR d[f]! d[s - 1]!) (hB : s = m ∨ f = m ∨ LR d[f - 1]! d[s]!) :
    Keep d e a b ∧ sg e a s = sg d a s ∧ sg e s (s + (f - m)) = sg d m f ∧ sg e (s + (f - m)) f = sg d s m ∧ sg e f b = sg d f b ∧ ∀ x ∈ sg e a (s + (f - m)), ∀ y ∈ sg e (s + (f - m)) b, ¬ LR y x := by
  obtain ⟨p1, p2, p3⟩ := h.parts h2 h3
  rw [Sl_sg] at hl hr
  have hlr : ∀ i j, s ≤ i → i < m → m ≤ j → j < f → LR d[j]! d[i]! := fun i j k1 k2 k3 k4 => by
    rcases hB with e | e | e
    · omega
    · omega
    · have q1 : LR d[j]! d[s]! := by
        by_cases ej : j = f - 1
        · rw [ej]; exact e
        · exact LR_not_lt (hr j (f - 1) k3 (by omega) (by omega)) e
      by_cases ei : i = s
      · rw [ei]; exact q1
      · exact LR_lt_not q1 (hl s i h1 (by omega) k2)
  have o1 : sg e a s = sg d a s := sg_same fun x _ k => p3 x (Or.inl k)
  have o2 : sg e f b = sg d f b := sg_same fun x k _ => p3 x (Or.inr k)
  refine ⟨rot_keep d e h1 h2 h3 h4 h.1 p3 ?_ ?_, o1, p1, p2, o2, ?_⟩
  · rw [sg_app e (show s ≤ s + (f - m) by omega) (show s + (f - m) ≤ f by omega), p1, p2]
  · intro x hx y hy
    rw [mem_sg] at hx hy
    obtain ⟨i, i1, i2, rfl⟩ := hx
    obtain ⟨j, j1, j2, rfl⟩ := hy
    exact hlr i j i1 i2 j1 j2
  · intro x hx y hy
    rw [sg_app e h1 (show s ≤ s + (f - m) by omega), o1, p1, List.mem_append, mem_sg, mem_sg] at hx
    rw [sg_app e (show s + (f - m) ≤ f by omega) h4, p2, o2, List.mem_append, mem_sg, mem_sg] at hy
    rcases hx with ⟨i, i1, i2, rfl⟩ | ⟨i, i1, i2, rfl⟩
    · rcases hy with ⟨j, j1, j2, rfl⟩ | ⟨j, j1, j2, rfl⟩
      · exact hl i j i1 (by omega) j2
      · rcases hA with e | e | e
        · omega
        · omega
        · have q1 : ¬ LR d[j]! d[s - 1]! := by
            by_cases ej : j = f
            · rw [ej]; exact e
            · exact LR_not_trans e (hr f j h3 (by omega) j2)
          by_cases ei : i = s - 1
          · rw [ei]; exact q1
          · exact LR_not_trans (hl i (s - 1) i1 (by omega) (by omega)) q1
    · rcases hy with ⟨j, j1, j2, rfl⟩ | ⟨j, j1, j2, rfl⟩
      · exact LR_asymm (hlr j i j1 j2 i1 i2)
      · exact hr i j i1 (by omega) j2
theorem Sl_one (x : Rw) : Sl [x] := List.pairwise_singleton _ _
/-- The first half one row only. -/
theorem merge_first (d e : Array Rw) (a i b : Nat) (h1 : a + 1 ≤ i) (h2 : i ≤ b) (hr : Sl (sg d (a + 1) b)) (h : Rotd d e a (a + 1) i)
    (hA : i = a + 1 ∨ LR d[i - 1]! d[a]!) (hB : i = b ∨ ¬ LR d[i]! d[a]!) : Mg d e a b := by
  obtain ⟨k, o1, p1, p2, o2, hb⟩ := turned10 d e a a (a + 1) i b (Nat.le_refl _) (by omega) h1 h2 (by rw [sg_one]; exact Sl_one _) hr h (Or.inl rfl) (hA.elim (fun k => Or.inr (Or.inl k)) (fun k => Or.inr (Or.inr k)))
  refine ⟨k, ?_⟩
  rw [sg_app e (show a ≤ a + (i - (a + 1)) by omega) (show a + (i - (a + 1)) ≤ b by omega)]
  have hr' := hr
  rw [sg_app d h1 h2] at hr'
  refine Sl.join ?_ ?_ hb
  · rw [p1]; exact hr'.part.1
  · rw [sg_app e (show a + (i - (a + 1)) ≤ i by omega) h2, p2, o2, sg_one]
    refine Sl.join (Sl_one _) hr'.part.2.1 fun x hx y hy => ?_
    rw [List.mem_singleton.1 hx]
    rw [mem_sg] at hy
    obtain ⟨j, j1, j2, rfl⟩ := hy
    rcases hB with e | e
    · omega
    · by_cases ej : j = i
      · rw [ej]; exact e
      · exact LR_not_trans e ((Sl_sg _ _ _).1 hr i j h1 (by omega) j2)
/-- The second half one row only. -/
theorem merge_last (d e : Array Rw) (a i m : Nat) (h1 : a ≤ i) (h2 : i ≤ m) (hl : Sl (sg d a m)) (h : Rotd d e i m (m + 1))
    (hA : i = a ∨ ¬ LR d[m]! d[i - 1]!) (hB : i = m ∨ LR d[m]! d[i]!) : Mg d e a (m + 1) := by
  have h' := h
  obtain ⟨k, o1, p1, p2, o2, hb⟩ := turned10 d e a i m (m + 1) (m + 1) h1 h2 (by omega) (Nat.le_refl _) hl (by rw [sg_one]; exact Sl_one _) h (Or.inr (Or.inl rfl)) (hB.elim (fun k => Or.inl k) (fun k => Or.inr (Or.inr (by rw [Nat.add_sub_cancel]; exact k))))
  refine ⟨k, ?_⟩
  have e1 : i + (m + 1 - m) = i + 1 := by omega
  rw [e1] at p1 p2 hb
  rw [sg_app e (show a ≤ i + 1 by omega) (show i + 1 ≤ m + 1 by omega)]
  have hl' := hl
  rw [sg_app d h1 h2] at hl'
  refine Sl.join ?_ ?_ hb
  · rw [sg_app e h1 (show i ≤ i + 1 by omega), o1, p1, sg_one]
    refine Sl.join hl'.part.1 (Sl_one _) fun x hx y hy => ?_
    rw [List.mem_singleton.1 hy]
    rw [mem_sg] at hx
    obtain ⟨j, j1, j2, rfl⟩ := hx
    rcases hA with e | e
    · omega
    · by_cases ej : j = i - 1
      · rw [ej]; exact e
      · exact LR_not_trans ((Sl_sg _ _ _).1 hl j (i - 1) j1 (by omega) (by omega)) e
  · rw [p2]; exact hl'.part.2.1
/-- A half of which one part is empty is in order. -/
theorem half_left (d e : Array Rw) (a s m f b : Nat) (h1 : a ≤ s) (h2 : s ≤ m) (h3 : m ≤ f) (h4 : f ≤ b) (hl : Sl (sg d a m)) (hr : Sl (sg d m b)) (o1 : sg e a s = sg d a s) (p1 : sg e s (s + (f - m)) = sg d m f) :
    Sl (sg e a s) ∧ Sl (sg e s (s + (f - m))) ∧ (s = a ∨ f = m → Sl (sg e a (s + (f - m)))) := by
  rw [sg_app d h1 h2] at hl
  rw [sg_app d h3 h4] at hr
  have q1 : Sl (sg e a s) := by rw [o1]; exact hl.part.1
  have q2 : Sl (sg e s (s + (f - m))) := by rw [p1]; exact hr.part.1
  refine ⟨q1, q2, ?_⟩
  rintro (k | k)
  · rw [← k]; exact q2
  · rw [k, Nat.sub_self, Nat.add_zero]; exact q1
theorem half_right (d e : Array Rw) (a s m f b : Nat) (h1 : a ≤ s) (h2 : s ≤ m) (h3 : m ≤ f) (h4 : f ≤ b) (hl : Sl (sg d a m)) (hr : Sl (sg d m b)) (p2 : sg e (s + (f - m)) f = sg d s m) (o2 : sg e f b = sg d f b) :
    Sl (sg e (s + (f - m)) f) ∧ Sl (sg e f b) ∧ (s = m ∨ f = b → Sl (sg e (s + (f - m)) b)) := by
  rw [sg_app d h1 h2] at hl
  rw [sg_app d h3 h4] at hr
  have q1 : Sl (sg e (s + (f - m)) f) := by rw [p2]; exact hl.part.2.1
  have q2 : Sl (sg e f b) := by rw [o2]; exact hr.part.2.1
  refine ⟨q1, q2, ?_⟩
  rintro (k | k)
  · rw [show s + (f - m) = f by omega]; exact q2
  · rw [← k]; exact q1
/-- Two halves, each put in order. -/
theorem halvesR (d e e1 e2 : Array Rw) (a c b : Nat) (h1 : a ≤ c) (h2 : c ≤ b) (hk : Keep d e a b) (hb : ∀ x ∈ sg e a c, ∀ y ∈ sg e c b, ¬ LR y x) (m1 : Mg e e1 a c) (m2 : Mg e1 e2 c b) : Mg d e2 a b := by
  refine ⟨(hk.trans (m1.1.wide (Nat.le_refl _) h1 h2)).trans (m2.1.wide h1 h2 (Nat.le_refl _)), ?_⟩
  have e3 : sg e2 a c = sg e1 a c := m2.1.out (Or.inl (Nat.le_refl _))
  have e4 : sg e1 c b = sg e c b := m1.1.out (Or.inr (Nat.le_refl _))
  rw [sg_app e2 h1 h2]
  refine Sl.join (by rw [e3]; exact m1.2) m2.2 fun x hx y hy => ?_
  rw [e3, m1.1.mem] at hx
  rw [m2.1.mem, e4] at hy
  exact hb x hx y hy
theorem Mg.none {d : Array Rw} {a b : Nat} (h : Sl (sg d a b)) : Mg d d a b := ⟨Keep.refl _ _ _, h⟩
theorem Mg.size {d e : Array Rw} {a b : Nat} (h : Mg d e a b) : e.size = d.size := h.1.1
end Go.Proofs.YtngofpdpangajaaDoor
/-
  Plain words on blocks of rows, each in order, that are merged two by two.
-/
namespace Go.Proofs.YtngofpdpangajaaDoor
set_option linter.unusedVariables false
set_option linter.unusedSimpArgs false
set_option maxRecDepth 10000
open Go.RowKit Go.Sort

theorem sl_sub {e : Array Rw} {a b a' b' : Nat} (h : Sl (sg e a b)) (h1 : a ≤ a') (h2 : b' ≤ b) : Sl (sg e a' b') :=
  (Sl_sg _ _ _).2 fun i j k1 k2 k3 => (Sl_sg _ _ _).1 h i j (by omega) k2 (by omega)
/-- The first blocks stand each in order. -/
def Lo (s t : Nat) (e : Array Rw) : Prop := ∀ x, x < t → Sl (sg e (x * s) ((x + 1) * s))
/-- So do those from one on, as far as there are rows. -/
def Hi (s t n : Nat) (e : Array Rw) : Prop := ∀ x b, t ≤ x → x * s ≤ b → b ≤ (x + 1) * s → b ≤ n → Sl (sg e (x * s) b)
theorem lo_none (s : Nat) (e : Array Rw) : Lo s 0 e := fun x hx => absurd hx (Nat.not_lt_zero x)
theorem lo_step {s t A b : Nat} {e e' : Array Rw} (hA : t * s = A) (hb : A + s = b) (h : Lo s t e) (hm : Mg e e' A b) : Lo s (t + 1) e' := fun x hx => by
  by_cases k : x < t
  · have h1 : (x + 1) * s ≤ t * s := Nat.mul_le_mul_right s k
    rw [hm.1.out (Or.inl (by omega))]
    exact h x k
  · have e1 : x = t := by omega
    subst e1
    rw [Nat.succ_mul, hA, hb]
    exact hm.2
theorem lo_end {s t A n : Nat} {e e' : Array Rw} (hA : t * s = A) (hn : A ≤ n) (hn2 : n < A + s) (h : Lo s t e) (hm : Mg e e' A n) : Hi s 0 n e' := fun x b h0 h1 h2 h3 => by
  by_cases k : x < t
  · have h4 : (x + 1) * s ≤ t * s := Nat.mul_le_mul_right s k
    rw [hm.1.out (Or.inl (by omega))]
    exact sl_sub (h x k) (Nat.le_refl _) h2
  · by_cases e1 : x = t
    · subst e1
      rw [hA]
      exact sl_sub hm.2 (Nat.le_refl _) h3
    · have h4 : (t + 1) * s ≤ x * s := Nat.mul_le_mul_right s (by omega)
      rw [Nat.succ_mul] at h4
      omega
theorem hi_step {s t A b n : Nat} {e e' : Array Rw} (hA : t * (2 * s) = A) (hb : A + 2 * s = b) (h : Hi s (2 * t) n e) (hm : Mg e e' A b) : Hi s (2 * (t + 1)) n e' := fun x c h0 h1 h2 h3 => by
  have h4 : 2 * (t + 1) * s ≤ x * s := Nat.mul_le_mul_right s h0
  have h5 : 2 * (t + 1) * s = t * (2 * s) + 2 * s := by rw [Nat.mul_add, Nat.add_mul, Nat.mul_comm 2 t, Nat.mul_assoc]
  rw [hm.1.out (Or.inr (by omega))]
  exact h x c (by omega) h1 h2 h3
theorem hi_part {s t A n : Nat} {e : Array Rw} (hA : t * (2 * s) = A) (h : Hi s (2 * t) n e) {b : Nat} (h1 : A ≤ b) (h2 : b ≤ A + s) (h3 : b ≤ n) : Sl (sg e A b) := by
  have h5 : 2 * t * s = A := by rw [Nat.mul_comm 2 t, Nat.mul_assoc]; exact hA
  have := h (2 * t) b (Nat.le_refl _) (by omega) (by rw [Nat.succ_mul]; omega) h3
  rw [h5] at this
  exact this
theorem hi_next {s t A n : Nat} {e : Array Rw} (hA : t * (2 * s) = A) (h : Hi s (2 * t) n e) {b : Nat} (h1 : A + s ≤ b) (h2 : b ≤ A + s + s) (h3 : b ≤ n) : Sl (sg e (A + s) b) := by
  have h5 : 2 * t * s = A := by rw [Nat.mul_comm 2 t, Nat.mul_assoc]; exact hA
  have h6 : (2 * t + 1) * s = A + s := by rw [Nat.succ_mul, h5]
  have := h (2 * t + 1) b (Nat.le_succ _) (by omega) (by rw [Nat.succ_mul]; omega) h3
  rw [h6] at this
  exact this
theorem hi_all {s n : Nat} {e : Array Rw} (h : Hi s 0 n e) (hs : n ≤ s) : Sl (sg e 0 n) := by
  have := h 0 n (Nat.le_refl _) (by omega) (by omega) (Nat.le_refl _)
  rw [Nat.zero_mul] at this
  exact this
end Go.Proofs.YtngofpdpangajaaDoor
/-
  Plain words on what the statement of sorted rows counts: which row of the first is which of the second.
-/
namespace Go.Proofs.YtngofpdpangajaaDoor
set_option linter.unusedVariables false
set_option linter.unusedSimpArgs false
set_option maxRecDepth 10000
open Go.RowKit Go.Sort

/-- One is the other, sorted, rows of one Id as they stood. -/
def Sd (xs ys : List Rw) : Prop := Sl ys ∧ ∀ k, fil k ys = fil k xs
theorem fil_yes {k : List UInt8} {x : Rw} (l : List Rw) (h : keyR x = k) : fil k (x :: l) = x :: fil k l := by simp [fil, h]
theorem fil_not {k : List UInt8} {x : Rw} (l : List Rw) (h : keyR x ≠ k) : fil k (x :: l) = fil k l := by simp [fil, h]
theorem sg_all (d : Array Rw) : sg d 0 d.size = d.toList := by
  unfold sg
  apply List.ext_getElem
  · simp
  · intro i h1 h2
    have hi : i < d.size := by simpa using h2
    rw [List.getElem_map, List.getElem_range', Nat.one_mul, Nat.zero_add, getElem!_pos d i hi, Array.getElem_toList]
theorem Mg.sorted {xs : List Rw} {d : Array Rw} (h : Mg xs.toArray d 0 xs.length) : d.toList.length = xs.length ∧ Sd xs d.toList := by
  have hs : d.size = xs.length := by have := h.size; simpa using this
  have e1 : sg d 0 xs.length = d.toList := by rw [← hs]; exact sg_all d
  have e2 : sg xs.toArray 0 xs.length = xs := by have := sg_all xs.toArray; simpa using this
  obtain ⟨k, k2⟩ := h
  rw [e1] at k2
  refine ⟨by simpa using hs, k2, fun q => ?_⟩
  have := k.2.2 q
  rw [e1, e2] at this
  exact this
theorem Sd.same {xs ys zs : List Rw} (h1 : Sd xs ys) (h2 : Sd xs zs) : ys = zs := Sl_unique ys zs h1.1 h2.1 fun k => (h1.2 k).trans (h2.2 k).symm
theorem Sd.self {xs ys : List Rw} (h1 : Sd xs ys) : Sd ys ys := ⟨h1.1, fun _ => rfl⟩

def cntR (k : List UInt8) (l : List Rw) : Nat := (fil k l).length
theorem cntR_nil (k : List UInt8) : cntR k [] = 0 := rfl
theorem at_bang {l : List Rw} {j : Nat} (h : j < l.length) : l[j]? = some l[j]! := by rw [List.getElem?_eq_getElem h, getElem!_pos l j h]
theorem cntR_step (k : List UInt8) (l : List Rw) (j : Nat) (h : j < l.length) : cntR k (l.take (j + 1)) = cntR k (l.take j) + (if keyR l[j]! = k then 1 else 0) := by
  unfold cntR
  rw [List.take_add_one, at_bang h, fil_app, List.length_append]
  congr 1
  rw [Option.toList_some]
  by_cases e : keyR l[j]! = k
  · rw [if_pos e, fil_yes [] e]; rfl
  · rw [if_neg e, fil_not [] e]; rfl
theorem cntR_mono (k : List UInt8) (l : List Rw) : ∀ (q j : Nat), j ≤ q → q ≤ l.length → cntR k (l.take j) ≤ cntR k (l.take q)
  | 0, j, h, _ => by
    have e : j = 0 := by omega
    rw [e]
    exact Nat.le_refl _
  | q + 1, j, h, hq => by
    by_cases e : j = q + 1
    · rw [e]; exact Nat.le_refl _
    · have h1 := cntR_mono k l q j (by omega) (by omega)
      rw [cntR_step k l q (by omega)]
      omega
theorem nth_fil (k : List UInt8) : ∀ (l : List Rw) (c : Nat) (x : Rw), (fil k l)[c]? = some x → ∃ p, l[p]? = some x ∧ keyR x = k ∧ cntR k (l.take p) = c
  | [], c, x, h => by simp [fil] at h
  | a :: r, c, x, h => by
    by_cases e : keyR a = k
    · have e1 : fil k (a :: r) = a :: fil k r := by simp [fil, e]
      rw [e1] at h
      cases c with
      | zero =>
        simp at h
        subst h
        exact ⟨0, rfl, e, rfl⟩
      | succ c =>
        obtain ⟨p, h1, h2, h3⟩ := nth_fil k r c x (by simpa using h)
        refine ⟨p + 1, by simpa using h1, h2, ?_⟩
        rw [List.take_succ_cons]
        unfold cntR at *
        have e2 : fil k (a :: r.take p) = a :: fil k (r.take p) := by simp [fil, e]
        rw [e2, List.length_cons, h3]
    · have e1 : fil k (a :: r) = fil k r := by simp [fil, e]
      rw [e1] at h
      obtain ⟨p, h1, h2, h3⟩ := nth_fil k r c x h
      refine ⟨p + 1, by simpa using h1, h2, ?_⟩
      rw [List.take_succ_cons]
      unfold cntR at *
      have e2 : fil k (a :: r.take p) = fil k (r.take p) := by simp [fil, e]
      rw [e2, h3]
/-- Has a row gone by, when so many have been told? -/
def tk (xs ys : List Rw) (i j : Nat) : Bool := decide (cntR (keyR xs[j]!) (xs.take j) < cntR (keyR xs[j]!) (ys.take i))
theorem tk_none (xs ys : List Rw) (j : Nat) : tk xs ys 0 j = false := by
  unfold tk
  rw [List.take_zero, cntR_nil]
  exact decide_eq_false (Nat.not_lt_zero _)
/-- The row that is told next. -/
theorem tk_find (xs ys : List Rw) (h : Sd xs ys) (i : Nat) (hi : i < ys.length) :
    ∃ p, p < xs.length ∧ xs[p]! = ys[i]! ∧ cntR (keyR ys[i]!) (xs.take p) = cntR (keyR ys[i]!) (ys.take i) ∧ tk xs ys i p = false ∧ (∀ j, j < p → keyR xs[j]! = keyR ys[i]! → tk xs ys i j = true) ∧
      ∀ j, j < xs.length → tk xs ys (i + 1) j = (tk xs ys i j || decide (j = p)) := by
  obtain ⟨κ, hk⟩ : ∃ κ, keyR ys[i]! = κ := ⟨_, rfl⟩
  rw [hk]
  have e1 : (fil κ ys)[cntR κ (ys.take i)]? = some ys[i]! := by
    have e : ys = ys.take i ++ ys[i]! :: ys.drop (i + 1) := by
      rw [getElem!_pos ys i hi, ← List.drop_eq_getElem_cons hi, List.take_append_drop]
    have e2 : fil κ ys = fil κ (ys.take i) ++ ys[i]! :: fil κ (ys.drop (i + 1)) := by
      have e3 : fil κ (ys.take i ++ ys[i]! :: ys.drop (i + 1)) = fil κ (ys.take i) ++ ys[i]! :: fil κ (ys.drop (i + 1)) := by
        rw [fil_app, fil_yes _ hk]
      rw [← e] at e3
      exact e3
    rw [e2]
    unfold cntR
    rw [List.getElem?_append_right (Nat.le_refl _), Nat.sub_self]
    rfl
  rw [h.2 κ] at e1
  obtain ⟨p, h1, h2, h3⟩ := nth_fil κ xs _ _ e1
  have hp : p < xs.length := (List.getElem?_eq_some_iff.1 h1).1
  have ep : xs[p]! = ys[i]! := by
    rw [at_bang hp] at h1
    injection h1
  have hkp : keyR xs[p]! = κ := by rw [ep, hk]
  have below : ∀ j, j < p → keyR xs[j]! = κ → cntR κ (xs.take j) < cntR κ (ys.take i) := fun j hj hq => by
    have k1 := cntR_mono κ xs p (j + 1) hj (by omega)
    rw [cntR_step κ xs j (by omega), if_pos hq] at k1
    omega
  refine ⟨p, hp, ep, h3, ?_, fun j hj hq => ?_, fun j hj => ?_⟩
  · unfold tk
    rw [hkp, h3]
    exact decide_eq_false (Nat.lt_irrefl _)
  · unfold tk
    rw [hq]
    exact decide_eq_true (below j hj hq)
  · unfold tk
    rw [cntR_step _ ys i hi, hk]
    by_cases hq : keyR xs[j]! = κ
    · rw [hq, if_pos rfl]
      by_cases ej : j = p
      · subst ej
        rw [h3]
        simp
      · by_cases hlt : j < p
        · have := below j hlt hq
          rw [decide_eq_true this, decide_eq_true (by omega)]
          rfl
        · have k1 := cntR_mono κ xs j (p + 1) (by omega) (by omega)
          rw [cntR_step κ xs p hp, if_pos hkp] at k1
          rw [decide_eq_false (by omega), decide_eq_false (by omega), decide_eq_false ej]
          rfl
    · rw [if_neg (fun e => hq e.symm), Nat.add_zero]
      have ej : j ≠ p := fun e => hq (by rw [e]; exact hkp)
      rw [decide_eq_false ej, Bool.or_false]
/-- The last one told, if one of the same Id was. -/
def La (xs ys : List Rw) (i : Nat) (L : Int) : Prop := L = -1 ∨ ∃ q : Nat, L = (q : Int) ∧ q < xs.length ∧ 0 < i ∧ keyR xs[q]! = keyR ys[i - 1]! ∧ cntR (keyR ys[i - 1]!) (xs.take q) + 1 = cntR (keyR ys[i - 1]!) (ys.take i)
theorem La.at {xs ys : List Rw} {i : Nat} {L : Int} (h : La xs ys i L) : L = -1 ∨ (0 ≤ L ∧ L < xs.length) := by
  rcases h with h | ⟨q, h, h2, -⟩
  · exact .inl h
  · exact .inr (by omega)
theorem La.less {xs ys : List Rw} {i p : Nat} {L : Int} (h : La xs ys i L) (hs : L = -1 ∨ keyR ys[i]! = keyR ys[i - 1]!) (hp : p < xs.length) (hc : cntR (keyR ys[i]!) (xs.take p) = cntR (keyR ys[i]!) (ys.take i)) : L ≤ p := by
  rcases h with h | ⟨q, h, h1, h2, h3, h4⟩
  · omega
  · rcases hs with hs | hs
    · omega
    · rw [← hs] at h4
      by_cases k : p < q
      · have := cntR_mono (keyR ys[i]!) xs q p (by omega) (by omega)
        omega
      · omega
theorem La.next {xs ys : List Rw} {i p : Nat} (hi : i < ys.length) (hp : p < xs.length) (he : xs[p]! = ys[i]!) (hc : cntR (keyR ys[i]!) (xs.take p) = cntR (keyR ys[i]!) (ys.take i)) : La xs ys (i + 1) p := by
  refine .inr ⟨p, rfl, hp, Nat.succ_pos _, ?_, ?_⟩
  · rw [Nat.add_sub_cancel, he]
  · rw [Nat.add_sub_cancel, cntR_step _ ys i hi, if_pos rfl, hc]
theorem La.none (xs ys : List Rw) (i : Nat) : La xs ys i (-1) := .inl rfl
end Go.Proofs.YtngofpdpangajaaDoor
