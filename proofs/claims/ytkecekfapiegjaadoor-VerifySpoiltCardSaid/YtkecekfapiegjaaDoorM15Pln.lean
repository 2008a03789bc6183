/- Several of my texts, laid as one. -/
import Derived.Test.YtkecekfapiegjaaDoorM14Pln
/-
  A tree, level by level: plain words. Each level is the one below it two by two; each node what the nodes below it are folded to; a leaf that is set turns what stands above it, and no more.
-/
namespace Go.Proofs.YtkecekfapiegjaaDoor
set_option linter.unusedVariables false
set_option linter.unusedSimpArgs false
set_option maxRecDepth 10000
open Go.RowKit

/-- So many levels up. -/
def upN (w : Int) : Nat → List Nd → List Nd
  | 0, l => l
  | j + 1, l => pairL w (upN w j l)
theorem pairL_at (w : Int) : ∀ (k : Nat) (l : List Nd) (x y : Nd), l[k + k]? = some x → l[k + k + 1]? = some y → (pairL w l)[k]? = some (joinS w x y).1
  | 0, [], x, y, h, _ => by simp at h
  | 0, [a], x, y, _, h => by simp at h
  | 0, a :: b :: r, x, y, h, h' => by
    obtain rfl : a = x := by simpa using h
    obtain rfl : b = y := by simpa using h'
    rfl
  | k + 1, [], x, y, h, _ => by simp at h
  | k + 1, [a], x, y, h, _ => by rw [List.getElem?_eq_none (by simp only [List.length_cons, List.length_nil]; omega)] at h; cases h
  | k + 1, a :: b :: r, x, y, h, h' => by
    rw [show k + 1 + (k + 1) = k + k + 1 + 1 by omega] at h h'
    simp only [List.getElem?_cons_succ] at h h'
    simp only [pairL, List.getElem?_cons_succ]
    exact pairL_at w k r x y h h'
theorem blk_get (l : List Nd) (j i t : Nat) : (blk l j i)[t]? = if t < 2 ^ j then l[i * 2 ^ j + t]? else none := by
  rw [blk]
  by_cases h : t < 2 ^ j
  · rw [if_pos h, List.getElem?_take_of_lt h, List.getElem?_drop]
  · rw [if_neg h, List.getElem?_eq_none]
    rw [List.length_take]
    omega
theorem blk_one {l : List Nd} {i : Nat} {x : Nd} (h : l[i]? = some x) : blk l 0 i = [x] := by
  have := blk_zero h
  rwa [Nat.pow_zero, Nat.div_one] at this
/-- A block's fold is its halves' as one. -/
theorem blk_fold {w : Int} (hw : mayW w = true) {l : List Nd} {k j i : Nat} (hl : l.length = 2 ^ k) (hh : ∀ x ∈ l, x.halved) (ho : ∀ x ∈ l, x.of w = true) (hr : room (sumN l) = true) (hj : j + 1 ≤ k) (hi : i < 2 ^ (k - (j + 1))) :
    (2 * i < 2 ^ (k - j) ∧ 2 * i + 1 < 2 ^ (k - j)) ∧ foldS w (j + 1) (blk l (j + 1) i) = joinS w (foldS w j (blk l j (2 * i))).1 (foldS w j (blk l j (2 * i + 1))).1 := by
  have e : 2 ^ (k - j) = 2 * 2 ^ (k - (j + 1)) := by rw [show k - j = k - (j + 1) + 1 by omega, Nat.pow_succ, Nat.mul_comm]
  have f1 : 2 * i < 2 ^ (k - j) := by omega
  have f2 : 2 * i + 1 < 2 ^ (k - j) := by omega
  obtain ⟨g4, -, -⟩ := blk_good hw hl hh ho hr (by omega : j ≤ k) f1
  obtain ⟨g5, -, -⟩ := blk_good hw hl hh ho hr (by omega : j ≤ k) f2
  refine ⟨⟨f1, f2⟩, ?_⟩
  rw [foldS, blk_take, blk_drop, if_pos ⟨g4, g5⟩]
/-- Each level: how many, and which. -/
theorem upN_at {w : Int} (hw : mayW w = true) {l : List Nd} {k : Nat} (hl : l.length = 2 ^ k) (hh : ∀ x ∈ l, x.halved) (ho : ∀ x ∈ l, x.of w = true) (hr : room (sumN l) = true) :
    ∀ j, j ≤ k → (upN w j l).length = 2 ^ (k - j) ∧ ∀ i, i < 2 ^ (k - j) → (upN w j l)[i]? = some (foldS w j (blk l j i)).1 := by
  intro j
  induction j with
  | zero =>
    intro _
    refine ⟨by rw [upN, hl, Nat.sub_zero], fun i hi => ?_⟩
    rw [Nat.sub_zero, ← hl] at hi
    obtain ⟨x, hx⟩ : ∃ x, l[i]? = some x := ⟨_, List.getElem?_eq_getElem hi⟩
    rw [upN, blk_one hx, hx]
    rfl
  | succ j ih =>
    intro hj
    obtain ⟨h1, h2⟩ := ih (by omega)
    have e : 2 ^ (k - j) = 2 ^ (k - (j + 1)) + 2 ^ (k - (j + 1)) := by rw [show k - j = k - (j + 1) + 1 by omega, pow_two]
    refine ⟨by rw [upN]; exact pairL_len w _ _ (h1.trans e), fun i hi => ?_⟩
    obtain ⟨⟨f1, f2⟩, f3⟩ := blk_fold hw hl hh ho hr hj hi
    rw [upN, f3]
    refine pairL_at w i _ _ _ ?_ ?_
    · rw [show i + i = 2 * i by omega]; exact h2 _ f1
    · rw [show i + i + 1 = 2 * i + 1 by omega]; exact h2 _ f2
theorem upN_top {w : Int} (hw : mayW w = true) {l : List Nd} {k : Nat} (hl : l.length = 2 ^ k) (hh : ∀ x ∈ l, x.halved) (ho : ∀ x ∈ l, x.of w = true) (hr : room (sumN l) = true) : upN w k l = [(foldS w k l).1] := by
  obtain ⟨h1, h2⟩ := upN_at hw hl hh ho hr k (Nat.le_refl _)
  rw [Nat.sub_self, Nat.pow_zero] at h1 h2
  obtain ⟨x, hx⟩ := List.length_eq_one_iff.1 h1
  have := h2 0 (by decide)
  rw [blk_all hl, hx] at this
  rw [hx]
  injection this with this
  rw [← this]
/-- What stands beside the place of a leaf that is set stays. -/
theorem blk_set {l : List Nd} {p : Nat} (x : Nd) {j i : Nat} (h : i ≠ p / 2 ^ j) : blk (l.set p x) j i = blk l j i := by
  apply List.ext_getElem?
  intro t
  rw [blk_get, blk_get]
  by_cases ht : t < 2 ^ j
  · rw [if_pos ht, if_pos ht, List.getElem?_set_ne]
    intro e
    refine h ?_
    rw [e, Nat.add_comm, Nat.add_mul_div_right _ _ (Nat.two_pow_pos j), Nat.div_eq_of_lt ht, Nat.zero_add]
  · rw [if_neg ht, if_neg ht]
theorem set_sum {l : List Nd} {p : Nat} {y : Nd} (x : Nd) (h : l[p]? = some y) : sumN (l.set p x) + y.sum = sumN l + x.sum := by
  induction l generalizing p with
  | nil => simp at h
  | cons z r ih =>
    cases p with
    | zero =>
      obtain rfl : z = y := by simpa using h
      simp only [List.set_cons_zero, sumN]
      omega
    | succ p =>
      have := ih (p := p) (by simpa using h)
      simp only [List.set_cons_succ, sumN]
      omega
theorem set_all {P : Nd → Prop} {l : List Nd} {p : Nat} {x : Nd} (h : ∀ z ∈ l, P z) (hx : P x) : ∀ z ∈ l.set p x, P z := fun z hz => by
  rcases List.mem_or_eq_of_mem_set hz with hz | rfl
  · exact h z hz
  · exact hx
/-- One level up from two that aren't the same: the first level at which they are. -/
theorem first_same {α : Type} [DecidableEq α] (f g : Nat → α) : ∀ k, f 0 ≠ g 0 → f k = g k → ∃ j, j < k ∧ f j ≠ g j ∧ f (j + 1) = g (j + 1)
  | 0, h, e => absurd e h
  | k + 1, h, e => by
    by_cases hk : f k = g k
    · obtain ⟨j, h1, h2, h3⟩ := first_same f g k h hk
      exact ⟨j, by omega, h2, h3⟩
    · exact ⟨k, by omega, hk, e⟩
end Go.Proofs.YtkecekfapiegjaaDoor
/-
  A tree in which a leaf is set: plain words. What stands above the leaf is made anew, step by step, by what stands beside it; nothing else turns; each step has room just if all sums together have.
-/
namespace Go.Proofs.YtkecekfapiegjaaDoor
set_option linter.unusedVariables false
set_option linter.unusedSimpArgs false
set_option maxRecDepth 10000
open Go.RowKit

/-- The node beside a place. -/
def sibN (L : List Nd) (q : Nat) : Nd := L.getD (sib q) Nd.zero
theorem pairL_set (w : Int) : ∀ (q m : Nat) (L : List Nd) (y : Nd), L.length = m + m → q < L.length →
    pairL w (L.set q y) = (pairL w L).set (q / 2) (joinS w (if q % 2 = 1 then sibN L q else y) (if q % 2 = 1 then y else sibN L q)).1
  | 0, m, [], y, _, h => by simp at h
  | 0, m, [a], y, h, _ => by simp only [List.length_cons, List.length_nil] at h; omega
  | 0, m, a :: b :: r, y, _, _ => rfl
  | 1, m, [], y, _, h => by simp at h
  | 1, m, [a], y, h, _ => by simp only [List.length_cons, List.length_nil] at h; omega
  | 1, m, a :: b :: r, y, _, _ => rfl
  | q + 2, m, [], y, _, h => by simp at h
  | q + 2, m, [a], y, h, _ => by simp only [List.length_cons, List.length_nil] at h; omega
  | q + 2, m, a :: b :: r, y, h, hq => by
    have e1 : (q + 2) % 2 = q % 2 := by omega
    have e2 : (q + 2) / 2 = q / 2 + 1 := by omega
    have e3 : sib (q + 2) = sib q + 2 := by unfold sib; split <;> split <;> omega
    have e4 : sibN (a :: b :: r) (q + 2) = sibN r q := by unfold sibN; rw [e3]; simp
    rw [e1, e2, e4]
    simp only [List.set_cons_succ, pairL]
    rw [pairL_set w q (m - 1) r y (by simp only [List.length_cons] at h; omega) (by simp only [List.length_cons] at hq; omega)]
theorem upN_len (w : Int) {l : List Nd} {k : Nat} (hl : l.length = 2 ^ k) : ∀ j, j ≤ k → (upN w j l).length = 2 ^ (k - j)
  | 0, _ => hl
  | j + 1, h => by
    have e := upN_len w hl j (by omega)
    rw [show k - j = k - (j + 1) + 1 by omega, pow_two] at e
    exact pairL_len w _ _ e
/-- Each level: nodes of the width, with all sums together. -/
theorem upN_fine {w : Int} (hw : mayW w = true) {l : List Nd} {k : Nat} (hl : l.length = 2 ^ k) (hh : ∀ x ∈ l, x.halved) (ho : ∀ x ∈ l, x.of w = true) (hr : room (sumN l) = true) :
    ∀ j, j ≤ k → (∀ x ∈ upN w j l, x.halved) ∧ (∀ x ∈ upN w j l, x.of w = true) ∧ sumN (upN w j l) = sumN l
  | 0, _ => ⟨hh, ho, rfl⟩
  | j + 1, h => by
    obtain ⟨h1, h2, h3⟩ := upN_fine hw hl hh ho hr j (by omega)
    have e := upN_len w hl j (by omega)
    rw [show k - j = k - (j + 1) + 1 by omega, pow_two] at e
    obtain ⟨g1, g2, g3⟩ := pairL_fine hw _ _ e h1 (by rw [h3]; exact hr)
    exact ⟨g1, g2, g3.trans h3⟩
theorem sum_mem {l : List Nd} (hh : ∀ x ∈ l, x.halved) {x : Nd} (h : x ∈ l) : x.sum ≤ sumN l := by
  induction l with
  | nil => simp at h
  | cons y r ih =>
    have h1 := Nd.sum_fine (hh y (by simp))
    have h2 := sumN_pos (fun z hz => hh z (by simp [hz]) : ∀ z ∈ r, z.halved)
    simp only [sumN]
    rcases List.mem_cons.1 h with rfl | h
    · omega
    · have := ih (fun z hz => hh z (by simp [hz])) h
      omega
theorem Nd.zero_halved : Nd.zero.halved := ⟨⟨by decide, by decide⟩, ⟨by decide, by decide⟩⟩
theorem Nd.zero_sum : Nd.zero.sum = 0 := by decide
theorem sum_two {l : List Nd} (hh : ∀ x ∈ l, x.halved) {p q : Nat} {x y : Nd} (hx : l[p]? = some x) (hy : l[q]? = some y) (hne : p ≠ q) : x.sum + y.sum ≤ sumN l := by
  have h1 := set_sum Nd.zero hx
  rw [Nd.zero_sum] at h1
  have h2 : y ∈ l.set p Nd.zero := List.mem_of_getElem? (i := q) (by rw [List.getElem?_set_ne hne]; exact hy)
  have h3 := sum_mem (set_all hh Nd.zero_halved) h2
  omega
theorem sib_ne (q : Nat) : q ≠ sib q := by unfold sib; split <;> omega
/-- What stands beside the way up from a place, level by level. -/
def sibsN (w : Int) (l : List Nd) (p : Nat) (k : Nat) : List Nd := (List.range k).map fun j => sibN (upN w j l) (p / 2 ^ j)
theorem sibs_len (w : Int) (l : List Nd) (p k : Nat) : (sibsN w l p k).length = k := by simp [sibsN]
theorem sibs_at (w : Int) (l : List Nd) (p : Nat) {k j : Nat} (h : j < k) : (sibsN w l p k)[j]? = some (sibN (upN w j l) (p / 2 ^ j)) := by
  rw [sibsN, List.getElem?_map, List.getElem?_range h]; rfl
theorem sibs_take (w : Int) (l : List Nd) (p : Nat) {k j : Nat} (h : j < k) : (sibsN w l p k).take (j + 1) = (sibsN w l p k).take j ++ [sibN (upN w j l) (p / 2 ^ j)] := by
  rw [List.take_add_one, sibs_at w l p h]; rfl
section
variable {w : Int} {l : List Nd} {k p : Nat}
theorem place_fit (hp : p < 2 ^ k) {j : Nat} (hj : j ≤ k) : p / 2 ^ j < 2 ^ (k - j) := by
  rw [Nat.div_lt_iff_lt_mul (Nat.two_pow_pos j), ← Nat.pow_add, Nat.sub_add_cancel hj]; exact hp
theorem sib_there (w : Int) (hl : l.length = 2 ^ k) (hp : p < 2 ^ k) {j : Nat} (hj : j < k) : (upN w j l)[sib (p / 2 ^ j)]? = some (sibN (upN w j l) (p / 2 ^ j)) := by
  have h1 := sib_fit hj (place_fit hp (by omega : j ≤ k))
  have h2 := upN_len w hl j (by omega)
  rw [sibN, List.getD_eq_getElem?_getD, List.getElem?_eq_getElem (by omega)]
  rfl
theorem climb_one (w : Int) (n : Nd) (q : Nat) (s : Nd) : climbS w n q [s] = if (joinS w (if q % 2 = 1 then s else n) (if q % 2 = 1 then n else s)).2 = 0 then ((joinS w (if q % 2 = 1 then s else n) (if q % 2 = 1 then n else s)).1, 0) else (Nd.zero, 10) := rfl
/-- A step of the way. -/
theorem way_step (w : Int) {j : Nat} (hj : j < k) {x : Nd} (h : (climbS w x p ((sibsN w l p k).take j)).2 = 0) :
    climbS w x p ((sibsN w l p k).take (j + 1)) = climbS w (climbS w x p ((sibsN w l p k).take j)).1 (p / 2 ^ j) [sibN (upN w j l) (p / 2 ^ j)] := by
  rw [sibs_take w l p hj, climb_more w _ x p _ h, List.length_take, sibs_len, Nat.min_eq_left (by omega)]
theorem way_back (w : Int) {j : Nat} (hj : j < k) {x : Nd} (h : (climbS w x p ((sibsN w l p k).take (j + 1))).2 = 0) : (climbS w x p ((sibsN w l p k).take j)).2 = 0 := by
  by_cases h0 : (climbS w x p ((sibsN w l p k).take j)).2 = 0
  · exact h0
  · rw [sibs_take w l p hj, climb_stop w _ x p _ h0] at h; cases h
/-- The levels of a tree in which a leaf was set. -/
theorem set_way (w : Int) (hl : l.length = 2 ^ k) (hp : p < 2 ^ k) (x : Nd) : ∀ j, j ≤ k → (climbS w x p ((sibsN w l p k).take j)).2 = 0 →
    upN w j (l.set p x) = (upN w j l).set (p / 2 ^ j) (climbS w x p ((sibsN w l p k).take j)).1
  | 0, _, _ => by rw [Nat.pow_zero, Nat.div_one]; rfl
  | j + 1, h, h0 => by
    have h1 := way_back w (by omega : j < k) h0
    have e := set_way w hl hp x j (by omega) h1
    have hn := upN_len w hl j (by omega)
    have hf := place_fit hp (by omega : j ≤ k)
    rw [way_step w (by omega) h1, climb_one] at h0 ⊢
    rw [upN, upN, e, pairL_set w _ (2 ^ (k - (j + 1))) _ _ (by rw [hn, show k - j = k - (j + 1) + 1 by omega, pow_two]) (by rw [hn]; exact hf), Nat.div_div_eq_div_mul, ← Nat.pow_succ]
    by_cases hz : (joinS w (if p / 2 ^ j % 2 = 1 then sibN (upN w j l) (p / 2 ^ j) else (climbS w x p ((sibsN w l p k).take j)).1) (if p / 2 ^ j % 2 = 1 then (climbS w x p ((sibsN w l p k).take j)).1 else sibN (upN w j l) (p / 2 ^ j))).2 = 0
    · rw [if_pos hz]
    · rw [if_neg hz] at h0; cases h0
/-- From a leaf's own node one climbs to what stands there. -/
theorem own_way (hw : mayW w = true) (hl : l.length = 2 ^ k) (hh : ∀ x ∈ l, x.halved) (ho : ∀ x ∈ l, x.of w = true) (hr : room (sumN l) = true) (hp : p < 2 ^ k) {x : Nd} (hx : l[p]? = some x) :
    ∀ j, j ≤ k → ∃ y, climbS w x p ((sibsN w l p k).take j) = (y, 0) ∧ (upN w j l)[p / 2 ^ j]? = some y
  | 0, _ => ⟨x, rfl, by rw [Nat.pow_zero, Nat.div_one]; exact hx⟩
  | j + 1, h => by
    obtain ⟨y, e, hy⟩ := own_way hw hl hh ho hr hp hx j (by omega)
    have hs := sib_there w hl hp (by omega : j < k)
    obtain ⟨f1, f2, f3⟩ := upN_fine hw hl hh ho hr j (by omega)
    have h2 := sum_two f1 hy hs (sib_ne _)
    have hrm := room_iff.1 hr
    have p1 := Nd.sum_fine (f1 _ (List.mem_of_getElem? hy))
    have p2 := Nd.sum_fine (f1 _ (List.mem_of_getElem? hs))
    rw [way_step w (by omega) (by rw [e]), e, climb_one]
    simp only
    generalize hS : sibN (upN w j l) (p / 2 ^ j) = s at *
    have ed : p / 2 ^ (j + 1) = p / 2 ^ j / 2 := by rw [Nat.div_div_eq_div_mul, Nat.pow_succ]
    rw [ed, upN]
    generalize p / 2 ^ j = q at *
    by_cases hq : q % 2 = 1
    · rw [if_pos hq, if_pos hq]
      obtain ⟨j1, -⟩ := join_yes (a := s) (b := y) hw (room_iff.2 (by omega))
      rw [if_pos j1]
      refine ⟨_, rfl, pairL_at w (q / 2) _ s y ?_ ?_⟩
      · rw [← hs, sib, if_pos hq]; congr 1; omega
      · rw [← hy]; congr 1; omega
    · rw [if_neg hq, if_neg hq]
      obtain ⟨j1, -⟩ := join_yes (a := y) (b := s) hw (room_iff.2 (by omega))
      rw [if_pos j1]
      refine ⟨_, rfl, pairL_at w (q / 2) _ y s ?_ ?_⟩
      · rw [← hy]; congr 1; omega
      · rw [← hs, sib, if_neg hq]; congr 1; omega
theorem sibs_halved (hw : mayW w = true) (hl : l.length = 2 ^ k) (hh : ∀ x ∈ l, x.halved) (ho : ∀ x ∈ l, x.of w = true) (hr : room (sumN l) = true) (hp : p < 2 ^ k) : ∀ s ∈ sibsN w l p k, s.halved ∧ s.of w = true := fun s hs => by
  obtain ⟨j, hj⟩ := List.getElem?_of_mem hs
  have hjk : j < k := by have := (List.getElem?_eq_some_iff.1 hj).1; rw [sibs_len] at this; exact this
  rw [sibs_at w l p hjk] at hj
  injection hj with hj
  subst hj
  have hm := List.mem_of_getElem? (sib_there w hl hp hjk)
  obtain ⟨f1, f2, -⟩ := upN_fine hw hl hh ho hr j (by omega)
  exact ⟨f1 _ hm, f2 _ hm⟩
/-- All that stands beside the way, and the leaf's own, are all sums together. -/
theorem sibs_sum (hw : mayW w = true) (hl : l.length = 2 ^ k) (hh : ∀ x ∈ l, x.halved) (ho : ∀ x ∈ l, x.of w = true) (hr : room (sumN l) = true) (hp : p < 2 ^ k) {x : Nd} (hx : l[p]? = some x) : x.sum + sumN (sibsN w l p k) = sumN l := by
  obtain ⟨y, e, hy⟩ := own_way hw hl hh ho hr hp hx k (Nat.le_refl _)
  rw [List.take_of_length_le (by rw [sibs_len]; exact Nat.le_refl _)] at e
  obtain ⟨c1, c2⟩ := climb_sums hw (sibsN w l p k) x p (hh x (List.mem_of_getElem? hx)) (ho x (List.mem_of_getElem? hx)) (fun s hs => (sibs_halved hw hl hh ho hr hp s hs).1)
  cases hq : room (x.sum + sumN (sibsN w l p k)) with
  | false => rw [c2 hq] at e; cases e
  | true =>
    obtain ⟨-, -, -, c3⟩ := c1 hq
    rw [← c3, e]
    obtain ⟨f1, f2, f3⟩ := upN_fine hw hl hh ho hr k (Nat.le_refl _)
    have hn := upN_len w hl k (Nat.le_refl _)
    rw [Nat.sub_self, Nat.pow_zero] at hn
    obtain ⟨z, hz⟩ := List.length_eq_one_iff.1 hn
    rw [← f3, hz]
    rw [hz, Nat.div_eq_of_lt hp] at hy
    obtain rfl : z = y := by simpa using hy
    simp [sumN]
/-- The whole way has room just if all sums together have. -/
theorem way_room (hw : mayW w = true) (hl : l.length = 2 ^ k) (hh : ∀ x ∈ l, x.halved) (ho : ∀ x ∈ l, x.of w = true) (hr : room (sumN l) = true) (hp : p < 2 ^ k) {x : Nd} (hxh : x.halved) (hxo : x.of w = true) :
    (room (sumN (l.set p x)) = true → ∀ j, j ≤ k → (climbS w x p ((sibsN w l p k).take j)).2 = 0 ∧ (climbS w x p ((sibsN w l p k).take j)).1.of w = true ∧ (climbS w x p ((sibsN w l p k).take j)).1.halved) ∧
    (∀ j, j < k → (climbS w x p ((sibsN w l p k).take j)).2 = 0 → (climbS w x p ((sibsN w l p k).take (j + 1))).2 ≠ 0 → room (sumN (l.set p x)) = false) ∧
    ((climbS w x p (sibsN w l p k)).2 = 0 → room (sumN (l.set p x)) = true) := by
  obtain ⟨y, hy⟩ : ∃ y, l[p]? = some y := ⟨_, List.getElem?_eq_getElem (by omega)⟩
  have hs := sibs_sum hw hl hh ho hr hp hy
  have hss := sibs_halved hw hl hh ho hr hp
  have h1 := set_sum x hy
  have eS : sumN (l.set p x) = x.sum + sumN (sibsN w l p k) := by omega
  obtain ⟨c1, c2⟩ := climb_sums hw (sibsN w l p k) x p hxh hxo (fun s hs => (hss s hs).1)
  have eF : ∀ j, (climbS w x p ((sibsN w l p k).take j)).2 ≠ 0 → climbS w x p (sibsN w l p k) = (Nd.zero, 10) := fun j h => by
    have := climb_stop w ((sibsN w l p k).take j) x p ((sibsN w l p k).drop j) h
    rwa [List.take_append_drop] at this
  have eT : (climbS w x p (sibsN w l p k)).2 = 0 → room (sumN (l.set p x)) = true := fun h => by
    rw [eS]
    cases hq : room (x.sum + sumN (sibsN w l p k)) with
    | true => rfl
    | false => rw [c2 hq] at h; cases h
  refine ⟨fun hroom j hj => ?_, fun j hj _ hne => ?_, eT⟩
  · have h0 : (climbS w x p ((sibsN w l p k).take j)).2 = 0 := by
      by_cases h : (climbS w x p ((sibsN w l p k).take j)).2 = 0
      · exact h
      · rw [eS] at hroom
        have := (c1 hroom).1
        rw [eF j h] at this
        cases this
    obtain ⟨d1, d2⟩ := climb_sums hw ((sibsN w l p k).take j) x p hxh hxo (fun s hs => (hss s (List.mem_of_mem_take hs)).1)
    cases hq : room (x.sum + sumN ((sibsN w l p k).take j)) with
    | true => obtain ⟨-, d3, d4, -⟩ := d1 hq; exact ⟨h0, d3, d4⟩
    | false => rw [d2 hq] at h0; cases h0
  · cases hq : room (sumN (l.set p x)) with
    | false => rfl
    | true =>
      rw [eS] at hq
      have := (c1 hq).1
      rw [eF _ hne] at this
      cases this
/-- What is climbed to where it may be: of the width, of two halves. -/
theorem way_good (hw : mayW w = true) (hl : l.length = 2 ^ k) (hh : ∀ x ∈ l, x.halved) (ho : ∀ x ∈ l, x.of w = true) (hr : room (sumN l) = true) (hp : p < 2 ^ k) {x : Nd} (hxh : x.halved) (hxo : x.of w = true) (j : Nat)
    (h0 : (climbS w x p ((sibsN w l p k).take j)).2 = 0) : (climbS w x p ((sibsN w l p k).take j)).1.of w = true ∧ (climbS w x p ((sibsN w l p k).take j)).1.halved := by
  obtain ⟨d1, d2⟩ := climb_sums hw ((sibsN w l p k).take j) x p hxh hxo (fun s hs => (sibs_halved hw hl hh ho hr hp s (List.mem_of_mem_take hs)).1)
  cases hq : room (x.sum + sumN ((sibsN w l p k).take j)) with
  | true => obtain ⟨-, d3, d4, -⟩ := d1 hq; exact ⟨d3, d4⟩
  | false => rw [d2 hq] at h0; cases h0
end
end Go.Proofs.YtkecekfapiegjaaDoor
