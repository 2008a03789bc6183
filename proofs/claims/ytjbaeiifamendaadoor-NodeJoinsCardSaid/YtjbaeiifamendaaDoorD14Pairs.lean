/-
  A row of nodes, two by two: plain words.
-/
import Derived.Test.YtjbaeiifamendaaDoorD14Node
namespace Go.Proofs.YtjbaeiifamendaaDoor
set_option linter.unusedVariables false
set_option linter.unusedSimpArgs false
set_option maxRecDepth 10000
open Go.RowKit

/-- A row, two by two. -/
def pairsK : List Nd → List (Nd × Nd)
  | a :: b :: r => (a, b) :: pairsK r
  | _ => []
theorem pairsK_len : ∀ (m : Nat) (l : List Nd), l.length = m + m → (pairsK l).length = m
  | 0, l, h => by rw [List.length_eq_zero_iff.1 (by omega : l.length = 0)]; rfl
  | m + 1, a :: b :: r, h => by
    simp only [pairsK, List.length_cons]
    rw [pairsK_len m r (by simp only [List.length_cons] at h; omega)]
  | m + 1, [a], h => by simp only [List.length_cons, List.length_nil] at h; omega
  | m + 1, [], h => by simp only [List.length_nil] at h; omega
theorem pairsK_at : ∀ (k : Nat) (l : List Nd) (x y : Nd), l[k + k]? = some x → l[k + k + 1]? = some y → (pairsK l)[k]? = some (x, y)
  | 0, [], x, y, h, _ => by simp at h
  | 0, [a], x, y, _, h => by simp at h
  | 0, a :: b :: r, x, y, h, h' => by
    obtain rfl : a = x := by simpa using h
    obtain rfl : b = y := by simpa using h'
    rfl
  | k + 1, [], x, y, h, _ => by simp at h
  | k + 1, [a], x, y, h, _ => by rw [List.getElem?_eq_none (by simp only [List.length_cons, List.length_nil]; omega)] at h; cases h
  | k + 1, a :: b :: r, x, y, h, h' => by
    rw [show k + 1 + (k + 1) = k + k + 1 + 1 by omega] at h h'
    simp only [List.getElem?_cons_succ] at h h'
    simp only [pairsK, List.getElem?_cons_succ]
    exact pairsK_at k r x y h h'
/-- Both of each pair as one. -/
def joinP (w : Int) (l : List (Nd × Nd)) : List Nd := l.map fun y => (joinS w y.1 y.2).1
def okP (w : Int) (l : List (Nd × Nd)) : Bool := l.all fun y => decide ((joinS w y.1 y.2).2 = 0)
theorem joinP_pairs (w : Int) : ∀ (m : Nat) (l : List Nd), l.length = m + m → joinP w (pairsK l) = pairL w l
  | 0, l, h => by rw [List.length_eq_zero_iff.1 (by omega : l.length = 0)]; rfl
  | m + 1, a :: b :: r, h => by
    simp only [pairsK, pairL, joinP, List.map_cons]
    have := joinP_pairs w m r (by simp only [List.length_cons] at h; omega)
    rw [joinP] at this
    rw [this]
  | m + 1, [a], h => by simp only [List.length_cons, List.length_nil] at h; omega
  | m + 1, [], h => by simp only [List.length_nil] at h; omega
/-- A level up where each pair has room; where one has none there is none for all. -/
theorem pairs_fine {w : Int} (hw : mayW w = true) : ∀ (m : Nat) (l : List Nd), l.length = m + m → (∀ x ∈ l, x.halved) → okP w (pairsK l) = true → (∀ x ∈ pairL w l, x.halved) ∧ (∀ x ∈ pairL w l, x.of w = true) ∧ sumN (pairL w l) = sumN l
  | 0, l, h, _, _ => by rw [List.length_eq_zero_iff.1 (by omega : l.length = 0)]; exact ⟨fun x hx => by simp [pairL] at hx, fun x hx => by simp [pairL] at hx, rfl⟩
  | m + 1, a :: b :: r, h, hh, hr => by
    simp only [pairsK, okP, List.all_cons, Bool.and_eq_true, decide_eq_true_eq] at hr
    obtain ⟨j1, j2, j3, j4⟩ := join_yes (a := a) (b := b) hw (join_zero hr.1)
    obtain ⟨i1, i2, i3⟩ := pairs_fine hw m r (by simp only [List.length_cons] at h; omega) (fun y hy => hh y (by simp [hy])) hr.2
    refine ⟨fun x hx => ?_, fun x hx => ?_, ?_⟩
    · rcases List.mem_cons.1 hx with rfl | hx
      · exact j3
      · exact i1 x hx
    · rcases List.mem_cons.1 hx with rfl | hx
      · exact j2
      · exact i2 x hx
    · simp only [pairL, sumN]; rw [j4, i3]; omega
  | m + 1, [a], h, _, _ => by simp only [List.length_cons, List.length_nil] at h; omega
  | m + 1, [], h, _, _ => by simp only [List.length_nil] at h; omega
theorem pairs_none {w : Int} : ∀ (m : Nat) (l : List Nd), l.length = m + m → (∀ x ∈ l, x.halved) → okP w (pairsK l) = false → room (sumN l) = false
  | 0, l, h, _, hr => by rw [List.length_eq_zero_iff.1 (by omega : l.length = 0)] at hr; cases hr
  | m + 1, a :: b :: r, h, hh, hr => by
    have h1 := Nd.sum_fine (hh a (by simp))
    have h2 := Nd.sum_fine (hh b (by simp))
    have h3 := sumN_pos (fun y hy => hh y (by simp [hy]) : ∀ y ∈ r, y.halved)
    simp only [sumN]
    refine room_not.2 ?_
    by_cases hj : (joinS w a b).2 = 0
    · have hr2 : okP w (pairsK r) = false := by
        simp only [pairsK, okP, List.all_cons, decide_eq_true hj, Bool.true_and] at hr
        exact hr
      have := room_not.1 (pairs_none m r (by simp only [List.length_cons] at h; omega) (fun y hy => hh y (by simp [hy])) hr2)
      omega
    · have : room (a.sum + b.sum) = false := by
        cases hx : room (a.sum + b.sum) with
        | false => rfl
        | true => exact absurd (by rw [joinS, if_pos hx]) hj
      have := room_not.1 this
      omega
  | m + 1, [a], h, _, _ => by simp only [List.length_cons, List.length_nil] at h; omega
  | m + 1, [], h, _, _ => by simp only [List.length_nil] at h; omega
/-- A fold goes level by level. -/
theorem fold_up {w : Int} (hw : mayW w = true) (k : Nat) (l : List Nd) (hl : l.length = 2 ^ (k + 1)) (hh : ∀ x ∈ l, x.halved) (ho : ∀ x ∈ l, x.of w = true) (hok : okP w (pairsK l) = true) : foldS w (k + 1) l = foldS w k (pairL w l) := by
  have hm : l.length = 2 ^ k + 2 ^ k := by rw [hl, pow_two]
  obtain ⟨f1, f2, f3⟩ := pairs_fine hw (2 ^ k) l hm hh hok
  cases hr : room (sumN l) with
  | true => exact fold_level hw k l hl hh hr
  | false =>
    rw [(fold_sums hw (k + 1) l hl hh ho).2 hr]
    exact ((fold_sums hw k (pairL w l) (pairL_len w (2 ^ k) l hm) f1 f2).2 (by rw [f3]; exact hr)).symm
theorem fold_none {w : Int} (hw : mayW w = true) (k : Nat) (l : List Nd) (hl : l.length = 2 ^ (k + 1)) (hh : ∀ x ∈ l, x.halved) (ho : ∀ x ∈ l, x.of w = true) (hok : okP w (pairsK l) = false) : foldS w (k + 1) l = (Nd.zero, 10) :=
  (fold_sums hw (k + 1) l hl hh ho).2 (pairs_none (2 ^ k) l (by rw [hl, pow_two]) hh hok)
end Go.Proofs.YtjbaeiifamendaaDoor
