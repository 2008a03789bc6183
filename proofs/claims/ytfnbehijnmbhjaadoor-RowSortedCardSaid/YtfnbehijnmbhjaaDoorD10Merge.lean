/-
  Plain words on merging two rising segments by turning parts of them.
-/
import Derived.Test.YtfnbehijnmbhjaaDoorD10Sort
namespace Go.Proofs.YtfnbehijnmbhjaaDoor
set_option linter.unusedVariables false
set_option linter.unusedSimpArgs false
set_option maxRecDepth 10000
open Go.RowKit Go.Sort

/-- One is the other with two neighbour parts turned. -/
def Rotd (d e : Array Rw) (s m f : Nat) : Prop := e.size = d.size ∧ ∀ x, e[x]! = if s ≤ x ∧ x < s + (f - m) then d[x - s + m]! else if s + (f - m) ≤ x ∧ x < f then d[x - (f - m)]! else d[x]!
theorem Rotd.none1 (d : Array Rw) (m f : Nat) : Rotd d d m m f := ⟨rfl, fun x => by
  split
  · congr 1; omega
  · split
    · omega
    · rfl⟩
theorem Rotd.none2 (d : Array Rw) (s m : Nat) : Rotd d d s m m := ⟨rfl, fun x => by
  split
  · omega
  · split
    · congr 1; omega
    · rfl⟩
theorem Rotd.r1 {d e : Array Rw} {s m f : Nat} (h : Rotd d e s m f) {x y : Nat} (h1 : s ≤ x) (h2 : x < s + (f - m)) (hy : x - s + m = y) : e[x]! = d[y]! := by
  have v := h.2 x
  rw [if_pos ⟨h1, h2⟩, hy] at v
  exact v
theorem Rotd.r2 {d e : Array Rw} {s m f : Nat} (h : Rotd d e s m f) {x y : Nat} (h1 : s + (f - m) ≤ x) (h2 : x < f) (hy : x - (f - m) = y) : e[x]! = d[y]! := by
  have v := h.2 x
  have n : ¬ (s ≤ x ∧ x < s + (f - m)) := fun k => by omega
  rw [if_neg n, if_pos ⟨h1, h2⟩, hy] at v
  exact v
theorem Rotd.r3 {d e : Array Rw} {s m f : Nat} (h : Rotd d e s m f) {x : Nat} (hf : s + (f - m) ≤ f) (h1 : x < s ∨ f ≤ x) : e[x]! = d[x]! := by
  have v := h.2 x
  have n : ¬ (s ≤ x ∧ x < s + (f - m)) := fun k => by omega
  have n2 : ¬ (s + (f - m) ≤ x ∧ x < f) := fun k => by omega
  rw [if_neg n, if_neg n2] at v
  exact v
theorem Rotd.mk' {d e : Array Rw} {s m f : Nat} (hs : e.size = d.size) (h1 : ∀ x, s ≤ x → x < s + (f - m) → e[x]! = d[x - s + m]!) (h2 : ∀ x, s + (f - m) ≤ x → x < f → e[x]! = d[x - (f - m)]!)
    (h3 : ∀ x, x < s ∨ f ≤ x → e[x]! = d[x]!) : Rotd d e s m f := ⟨hs, fun x => by
  split
  · next k => exact h1 x k.1 k.2
  · next k =>
    split
    · next k2 => exact h2 x k2.1 k2.2
    · next k2 => exact h3 x (by omega)⟩
theorem Rotd.up {d e : Array Rw} {a k : Nat} (h : Rotd d e a (a + 1) (k + 1)) (hak : a ≤ k) (hk : k + 1 < d.size) : Rotd d (swp e k (k + 1)) a (a + 1) (k + 2) := by
  have hs := h.1
  refine Rotd.mk' (by rw [size_swp]; exact h.1) (fun x h1 h2 => ?_) (fun x h1 h2 => ?_) (fun x h1 => ?_)
  · by_cases e1 : x = k
    · subst e1
      rw [swp_left _ _ _ (by omega) (by omega), h.r3 (by omega) (Or.inr (by omega))]
      congr 1; omega
    · rw [swp_other _ _ _ _ e1 (by omega)]
      exact h.r1 h1 (by omega) rfl
  · have e1 : x = k + 1 := by omega
    subst e1
    rw [swp_right _ _ _ (by omega)]
    exact h.r2 (by omega) (by omega) (by omega)
  · rw [swp_other _ _ _ _ (by omega) (by omega)]
    exact h.r3 (by omega) (by omega)
theorem Rotd.down {d e : Array Rw} {k m : Nat} (h : Rotd d e (k + 1) m (m + 1)) (hkm : k + 1 ≤ m) (hm : m < d.size) : Rotd d (swp e (k + 1) k) k m (m + 1) := by
  have hs := h.1
  refine Rotd.mk' (by rw [size_swp]; exact h.1) (fun x h1 h2 => ?_) (fun x h1 h2 => ?_) (fun x h1 => ?_)
  · have e1 : x = k := by omega
    subst e1
    rw [swp_right _ _ _ (by omega)]
    exact h.r1 (by omega) (by omega) (by omega)
  · by_cases e1 : x = k + 1
    · subst e1
      rw [swp_left _ _ _ (by omega) (by omega), h.r3 (by omega) (Or.inl (by omega))]
      congr 1; omega
    · rw [swp_other _ _ _ _ e1 (by omega)]
      exact h.r2 (by omega) (by omega) rfl
  · rw [swp_other _ _ _ _ (by omega) (by omega)]
    exact h.r3 (by omega) (by omega)
theorem Rotd.parts {d e : Array Rw} {s m f : Nat} (h : Rotd d e s m f) (h1 : s ≤ m) (h2 : m ≤ f) : sg e s (s + (f - m)) = sg d m f ∧ sg e (s + (f - m)) f = sg d s m ∧ ∀ x, x < s ∨ f ≤ x → e[x]! = d[x]! := by
  refine ⟨?_, ?_, fun x hx => ?_⟩
  · rw [sg_shift (d := e) (e := d) (c := m) fun x k1 k2 => h.r1 k1 k2 rfl, show m + (s + (f - m) - s) = f by omega]
  · rw [sg_shift (d := e) (e := d) (c := s) fun x k1 k2 => h.r2 k1 k2 (by omega), show s + (f - (s + (f - m))) = m by omega]
  · exact h.r3 (by omega) hx
/-- What a merge gives. -/
def Mg (d e : Array Rw) (a b : Nat) : Prop := Keep d e a b ∧ Sl (sg e a b)
/-- After the parts are turned, all of the first half stands before all of the second. -/
theorem turned (d e : Array Rw) (a s m f b : Nat) (h1 : a ≤ s) (h2 : s ≤ m) (h3 : m ≤ f) (h4 : f ≤ b) (hl : Sl (sg d a m)) (hr : Sl (sg d m b)) (h : Rotd d e s m f)
    (hA : s = a ∨ f = b ∨ ¬ LR d[f]! d[s - 1]!) (hB : s = m ∨ f = m ∨ LR d[f - 1]! d[s]!) :
    Keep d e a b ∧ sg e a s = sg d a s ∧ sg e s (s + (f - m)) = sg d m f ∧ sg e (s + (f - m)) f = sg d s m ∧ sg e f b = sg d f b ∧ ∀ x ∈ sg e a (s + (f - m)), ∀ y ∈ sg e (s + (f - m)) b, ¬ LR y x := by
  obtain ⟨p1, p2, p3⟩ := h.parts h2 h3
  rw [Sl_sg] at hl hr
  have hlr : ∀ i j, s ≤ i → i < m → m ≤ j → j < f → LR d[j]! d[i]! := fun i j k1 k2 k3 k4 => by
    rcases hB with e | e | e
    · omega
    · omega
    · have q1 : LR d[j]! d[s]! := by
        by_cases ej : j = f - 1
        · rw [ej]; exact e
        · exact LR_not_lt (hr j (f - 1) k3 (by omega) (by omega)) e
      by_cases ei : i = s
      · rw [ei]; exact q1
      · exact LR_lt_not q1 (hl s i h1 (by omega) k2)
  have o1 : sg e a s = sg d a s := sg_same fun x _ k => p3 x (Or.inl k)
  have o2 : sg e f b = sg d f b := sg_same fun x k _ => p3 x (Or.inr k)
  refine ⟨rot_keep d e h1 h2 h3 h4 h.1 p3 ?_ ?_, o1, p1, p2, o2, ?_⟩
  · rw [sg_app e (show s ≤ s + (f - m) by omega) (show s + (f - m) ≤ f by omega), p1, p2]
  · intro x hx y hy
    rw [mem_sg] at hx hy
    obtain ⟨i, i1, i2, rfl⟩ := hx
    obtain ⟨j, j1, j2, rfl⟩ := hy
    exact hlr i j i1 i2 j1 j2
  · intro x hx y hy
    rw [sg_app e h1 (show s ≤ s + (f - m) by omega), o1, p1, List.mem_append, mem_sg, mem_sg] at hx
    rw [sg_app e (show s + (f - m) ≤ f by omega) h4, p2, o2, List.mem_append, mem_sg, mem_sg] at hy
    rcases hx with ⟨i, i1, i2, rfl⟩ | ⟨i, i1, i2, rfl⟩
    · rcases hy with ⟨j, j1, j2, rfl⟩ | ⟨j, j1, j2, rfl⟩
      · exact hl i j i1 (by omega) j2
      · rcases hA with e | e | e
        · omega
        · omega
        · have q1 : ¬ LR d[j]! d[s - 1]! := by
            by_cases ej : j = f
            · rw [ej]; exact e
            · exact LR_not_trans e (hr f j h3 (by omega) j2)
          by_cases ei : i = s - 1
          · rw [ei]; exact q1
          · exact LR_not_trans (hl i (s - 1) i1 (by omega) (by omega)) q1
    · rcases hy with ⟨j, j1, j2, rfl⟩ | ⟨j, j1, j2, rfl⟩
      · exact LR_asymm (hlr j i j1 j2 i1 i2)
      · exact hr i j i1 (by omega) j2
theorem Sl_one (x : Rw) : Sl [x] := List.pairwise_singleton _ _
/-- The first half one row only. -/
theorem merge_first (d e : Array Rw) (a i b : Nat) (h1 : a + 1 ≤ i) (h2 : i ≤ b) (hr : Sl (sg d (a + 1) b)) (h : Rotd d e a (a + 1) i)
    (hA : i = a + 1 ∨ LR d[i - 1]! d[a]!) (hB : i = b ∨ ¬ LR d[i]! d[a]!) : Mg d e a b := by
  obtain ⟨k, o1, p1, p2, o2, hb⟩ := turned d e a a (a + 1) i b (Nat.le_refl _) (by omega) h1 h2 (by rw [sg_one]; exact Sl_one _) hr h (Or.inl rfl) (hA.elim (fun k => Or.inr (Or.inl k)) (fun k => Or.inr (Or.inr k)))
  refine ⟨k, ?_⟩
  rw [sg_app e (show a ≤ a + (i - (a + 1)) by omega) (show a + (i - (a + 1)) ≤ b by omega)]
  have hr' := hr
  rw [sg_app d h1 h2] at hr'
  refine Sl.join ?_ ?_ hb
  · rw [p1]; exact hr'.part.1
  · rw [sg_app e (show a + (i - (a + 1)) ≤ i by omega) h2, p2, o2, sg_one]
    refine Sl.join (Sl_one _) hr'.part.2.1 fun x hx y hy => ?_
    rw [List.mem_singleton.1 hx]
    rw [mem_sg] at hy
    obtain ⟨j, j1, j2, rfl⟩ := hy
    rcases hB with e | e
    · omega
    · by_cases ej : j = i
      · rw [ej]; exact e
      · exact LR_not_trans e ((Sl_sg _ _ _).1 hr i j h1 (by omega) j2)
/-- The second half one row only. -/
theorem merge_last (d e : Array Rw) (a i m : Nat) (h1 : a ≤ i) (h2 : i ≤ m) (hl : Sl (sg d a m)) (h : Rotd d e i m (m + 1))
    (hA : i = a ∨ ¬ LR d[m]! d[i - 1]!) (hB : i = m ∨ LR d[m]! d[i]!) : Mg d e a (m + 1) := by
  have h' := h
  obtain ⟨k, o1, p1, p2, o2, hb⟩ := turned d e a i m (m + 1) (m + 1) h1 h2 (by omega) (Nat.le_refl _) hl (by rw [sg_one]; exact Sl_one _) h (Or.inr (Or.inl rfl)) (hB.elim (fun k => Or.inl k) (fun k => Or.inr (Or.inr (by rw [Nat.add_sub_cancel]; exact k))))
  refine ⟨k, ?_⟩
  have e1 : i + (m + 1 - m) = i + 1 := by omega
  rw [e1] at p1 p2 hb
  rw [sg_app e (show a ≤ i + 1 by omega) (show i + 1 ≤ m + 1 by omega)]
  have hl' := hl
  rw [sg_app d h1 h2] at hl'
  refine Sl.join ?_ ?_ hb
  · rw [sg_app e h1 (show i ≤ i + 1 by omega), o1, p1, sg_one]
    refine Sl.join hl'.part.1 (Sl_one _) fun x hx y hy => ?_
    rw [List.mem_singleton.1 hy]
    rw [mem_sg] at hx
    obtain ⟨j, j1, j2, rfl⟩ := hx
    rcases hA with e | e
    · omega
    · by_cases ej : j = i - 1
      · rw [ej]; exact e
      · exact LR_not_trans ((Sl_sg _ _ _).1 hl j (i - 1) j1 (by omega) (by omega)) e
  · rw [p2]; exact hl'.part.2.1
/-- A half of which one part is empty is in order. -/
theorem half_left (d e : Array Rw) (a s m f b : Nat) (h1 : a ≤ s) (h2 : s ≤ m) (h3 : m ≤ f) (h4 : f ≤ b) (hl : Sl (sg d a m)) (hr : Sl (sg d m b)) (o1 : sg e a s = sg d a s) (p1 : sg e s (s + (f - m)) = sg d m f) :
    Sl (sg e a s) ∧ Sl (sg e s (s + (f - m))) ∧ (s = a ∨ f = m → Sl (sg e a (s + (f - m)))) := by
  rw [sg_app d h1 h2] at hl
  rw [sg_app d h3 h4] at hr
  have q1 : Sl (sg e a s) := by rw [o1]; exact hl.part.1
  have q2 : Sl (sg e s (s + (f - m))) := by rw [p1]; exact hr.part.1
  refine ⟨q1, q2, ?_⟩
  rintro (k | k)
  · rw [← k]; exact q2
  · rw [k, Nat.sub_self, Nat.add_zero]; exact q1
theorem half_right (d e : Array Rw) (a s m f b : Nat) (h1 : a ≤ s) (h2 : s ≤ m) (h3 : m ≤ f) (h4 : f ≤ b) (hl : Sl (sg d a m)) (hr : Sl (sg d m b)) (p2 : sg e (s + (f - m)) f = sg d s m) (o2 : sg e f b = sg d f b) :
    Sl (sg e (s + (f - m)) f) ∧ Sl (sg e f b) ∧ (s = m ∨ f = b → Sl (sg e (s + (f - m)) b)) := by
  rw [sg_app d h1 h2] at hl
  rw [sg_app d h3 h4] at hr
  have q1 : Sl (sg e (s + (f - m)) f) := by rw [p2]; exact hl.part.2.1
  have q2 : Sl (sg e f b) := by rw [o2]; exact hr.part.2.1
  refine ⟨q1, q2, ?_⟩
  rintro (k | k)
  · rw [show s + (f - m) = f by omega]; exact q2
  · rw [← k]; exact q1
/-- Two halves, each put in order. -/
theorem halvesR (d e e1 e2 : Array Rw) (a c b : Nat) (h1 : a ≤ c) (h2 : c ≤ b) (hk : Keep d e a b) (hb : ∀ x ∈ sg e a c, ∀ y ∈ sg e c b, ¬ LR y x) (m1 : Mg e e1 a c) (m2 : Mg e1 e2 c b) : Mg d e2 a b := by
  refine ⟨(hk.trans (m1.1.wide (Nat.le_refl _) h1 h2)).trans (m2.1.wide h1 h2 (Nat.le_refl _)), ?_⟩
  have e3 : sg e2 a c = sg e1 a c := m2.1.out (Or.inl (Nat.le_refl _))
  have e4 : sg e1 c b = sg e c b := m1.1.out (Or.inr (Nat.le_refl _))
  rw [sg_app e2 h1 h2]
  refine Sl.join (by rw [e3]; exact m1.2) m2.2 fun x hx y hy => ?_
  rw [e3, m1.1.mem] at hx
  rw [m2.1.mem, e4] at hy
  exact hb x hx y hy
theorem Mg.none {d : Array Rw} {a b : Nat} (h : Sl (sg d a b)) : Mg d d a b := ⟨Keep.refl _ _ _, h⟩
theorem Mg.size {d e : Array Rw} {a b : Nat} (h : Mg d e a b) : e.size = d.size := h.1.1
end Go.Proofs.YtfnbehijnmbhjaaDoor
