/-
  Two nodes as one, what is climbed to, what is folded: plain words, and what follows of them.
-/
import Derived.Test.YtjbaeiifamendaaDoorW7Node
namespace Go.Proofs.YtjbaeiifamendaaDoor
set_option linter.unusedVariables false
set_option linter.unusedSimpArgs false
set_option maxRecDepth 10000
open Go.RowKit

/-- Is a node of a width? Its sum, and whether that is one of two halves. -/
def Nd.of (w : Int) (x : Nd) : Bool := mayW w && decide ((x.hash.size : Int) = w)
def Nd.sum (x : Nd) : Int := nv x.h x.l
def Nd.halved (x : Nd) : Prop := Word x.h ∧ Word x.l
def sumN : List Nd → Int
  | [] => 0
  | x :: r => x.sum + sumN r
/-- Two nodes of a width as one; any two. -/
def joinS (w : Int) (a b : Nd) : Nd × Int := if room (a.sum + b.sum) = true then (⟨dgB w (ndText a b), rh (a.sum + b.sum), rl (a.sum + b.sum)⟩, 0) else (Nd.zero, 10)
def joinN (w : Int) (a b : Nd) : Nd × Int := if (a.of w && b.of w) = true then joinS w a b else (Nd.zero, 70)
/-- What is climbed to by sides. -/
def climbS (w : Int) : Nd → Nat → List Nd → Nd × Int
  | n, _, [] => (n, 0)
  | n, p, s :: r => if (joinS w (if p % 2 = 1 then s else n) (if p % 2 = 1 then n else s)).2 = 0 then climbS w (joinS w (if p % 2 = 1 then s else n) (if p % 2 = 1 then n else s)).1 (p / 2) r else (Nd.zero, 10)
def allW (w : Int) (l : List Nd) : Bool := mayW w && l.all (Nd.of w)
def climbN (w : Int) (n : Nd) (p : Nat) (l : List Nd) : Nd × Int := if (n.of w && allW w l) = true then (if l.length ≤ 63 then climbS w n p l else (Nd.zero, 2)) else (Nd.zero, 70)
/-- What 2^k nodes are folded to, by halves. -/
def foldS (w : Int) : Nat → List Nd → Nd × Int
  | 0, l => (l.getD 0 Nd.zero, 0)
  | k + 1, l => if (foldS w k (l.take (2 ^ k))).2 = 0 ∧ (foldS w k (l.drop (2 ^ k))).2 = 0 then joinS w (foldS w k (l.take (2 ^ k))).1 (foldS w k (l.drop (2 ^ k))).1 else (Nd.zero, 10)
/-- A level: two by two. -/
def pairL (w : Int) : List Nd → List Nd
  | a :: b :: r => (joinS w a b).1 :: pairL w r
  | _ => []

theorem dgB_size {w : Int} (h : mayW w = true) (t : ByteArray) : ((dgB w t).size : Int) = w := by
  have hd := of_decide_eq_true h
  rw [dgB, if_pos h, ByteArray.size_extract, digB_size]
  omega
theorem Nd.sum_fine {x : Nd} (h : x.halved) : 0 ≤ x.sum ∧ x.sum < 340282366920938463463374607431768211456 := nv_word h.1 h.2
theorem sumN_app (a b : List Nd) : sumN (a ++ b) = sumN a + sumN b := by
  induction a with
  | nil => simp [sumN]
  | cons x r ih => simp only [List.cons_append, sumN, ih]; omega
theorem sumN_pos {l : List Nd} (h : ∀ x ∈ l, x.halved) : 0 ≤ sumN l := by
  induction l with
  | nil => exact Int.le_refl _
  | cons x r ih =>
    have h1 := Nd.sum_fine (h x (by simp))
    have h2 := ih (fun y hy => h y (by simp [hy]))
    simp only [sumN]; omega
/-- Both as one: of the width, of two halves, of both sums. -/
theorem join_yes {w : Int} {a b : Nd} (hw : mayW w = true) (h : room (a.sum + b.sum) = true) : (joinS w a b).2 = 0 ∧ (joinS w a b).1.of w = true ∧ (joinS w a b).1.halved ∧ (joinS w a b).1.sum = a.sum + b.sum := by
  rw [joinS, if_pos h]
  refine ⟨rfl, ?_, ⟨rh_word _, rl_word _⟩, nv_r h⟩
  simp only [Nd.of, hw, Bool.true_and, decide_eq_true_eq]
  exact dgB_size hw _
theorem join_no {w : Int} {a b : Nd} (h : room (a.sum + b.sum) = false) : joinS w a b = (Nd.zero, 10) := by
  rw [joinS, if_neg (by rw [h]; decide)]
theorem join_zero {w : Int} {a b : Nd} (h : (joinS w a b).2 = 0) : room (a.sum + b.sum) = true := by
  cases hr : room (a.sum + b.sum) with
  | true => rfl
  | false => rw [join_no hr] at h; cases h
/-- All sums of what is climbed to: all sums together, or no room. -/
theorem climb_sums {w : Int} (hw : mayW w = true) (l : List Nd) : ∀ (n : Nd) (p : Nat), n.halved → n.of w = true → (∀ x ∈ l, x.halved) →
    (room (n.sum + sumN l) = true → (climbS w n p l).2 = 0 ∧ (climbS w n p l).1.of w = true ∧ (climbS w n p l).1.halved ∧ (climbS w n p l).1.sum = n.sum + sumN l) ∧
    (room (n.sum + sumN l) = false → climbS w n p l = (Nd.zero, 10)) := by
  induction l with
  | nil =>
    intro n p hn ho _
    have h1 := Nd.sum_fine hn
    refine ⟨fun _ => ⟨rfl, ho, hn, by simp [climbS, sumN]⟩, fun h => absurd ?_ (room_not.1 h)⟩
    simp only [sumN]; omega
  | cons s r ih =>
    intro n p hn ho hl
    have hs := hl s (by simp)
    have h1 := Nd.sum_fine hn
    have h2 := Nd.sum_fine hs
    have h3 := sumN_pos (fun y hy => hl y (by simp [hy]) : ∀ y ∈ r, y.halved)
    have ec : ∀ a b : Nd, a.sum + b.sum = n.sum + s.sum → (a = n ∧ b = s ∨ a = s ∧ b = n) → True := fun _ _ _ _ => trivial
    have es : (if p % 2 = 1 then s else n).sum + (if p % 2 = 1 then n else s).sum = n.sum + s.sum := by
      by_cases hp : p % 2 = 1
      · rw [if_pos hp, if_pos hp]; omega
      · rw [if_neg hp, if_neg hp]
    simp only [climbS, sumN]
    generalize (if p % 2 = 1 then s else n) = A at *
    generalize (if p % 2 = 1 then n else s) = B at *
    cases hr : room (A.sum + B.sum) with
    | true =>
      obtain ⟨j1, j2, j3, j4⟩ := join_yes hw hr
      rw [if_pos j1]
      have := ih (joinS w A B).1 (p / 2) j3 j2 (fun y hy => hl y (by simp [hy]))
      rw [j4, es] at this
      rw [show n.sum + (s.sum + sumN r) = n.sum + s.sum + sumN r by omega]
      exact this
    | false =>
      rw [join_no hr, if_neg (by decide)]
      have hx := room_not.1 hr
      exact ⟨fun h => absurd (room_iff.1 h) (by omega), fun _ => rfl⟩
theorem pow_two (k : Nat) : 2 ^ (k + 1) = 2 ^ k + 2 ^ k := by rw [Nat.pow_succ]; omega
/-- All sums of what is folded. -/
theorem fold_sums {w : Int} (hw : mayW w = true) (k : Nat) : ∀ (l : List Nd), l.length = 2 ^ k → (∀ x ∈ l, x.halved) → (∀ x ∈ l, x.of w = true) →
    (room (sumN l) = true → (foldS w k l).2 = 0 ∧ (foldS w k l).1.of w = true ∧ (foldS w k l).1.halved ∧ (foldS w k l).1.sum = sumN l) ∧
    (room (sumN l) = false → foldS w k l = (Nd.zero, 10)) := by
  induction k with
  | zero =>
    intro l hl hh ho
    obtain ⟨x, rfl⟩ := List.length_eq_one_iff.1 (by simpa using hl)
    have h1 := Nd.sum_fine (hh x (by simp))
    refine ⟨fun _ => ⟨rfl, ho x (by simp), hh x (by simp), by simp [foldS, sumN]⟩, fun h => absurd ?_ (room_not.1 h)⟩
    simp only [sumN]; omega
  | succ k ih =>
    intro l hl hh ho
    have hp := pow_two k
    have et := List.take_append_drop (2 ^ k) l
    have hs : sumN l = sumN (l.take (2 ^ k)) + sumN (l.drop (2 ^ k)) := by rw [← sumN_app, et]
    have ha := ih (l.take (2 ^ k)) (by rw [List.length_take]; omega) (fun x hx => hh x (List.mem_of_mem_take hx)) (fun x hx => ho x (List.mem_of_mem_take hx))
    have hb := ih (l.drop (2 ^ k)) (by rw [List.length_drop]; omega) (fun x hx => hh x (List.mem_of_mem_drop hx)) (fun x hx => ho x (List.mem_of_mem_drop hx))
    have pa := sumN_pos (fun x hx => hh x (List.mem_of_mem_take hx) : ∀ x ∈ l.take (2 ^ k), x.halved)
    have pb := sumN_pos (fun x hx => hh x (List.mem_of_mem_drop hx) : ∀ x ∈ l.drop (2 ^ k), x.halved)
    simp only [foldS]
    cases r1 : room (sumN (l.take (2 ^ k))) with
    | false =>
      rw [ha.2 r1, if_neg (by simp)]
      have hx := room_not.1 r1
      exact ⟨fun h => absurd (room_iff.1 h) (by omega), fun _ => rfl⟩
    | true =>
      cases r2 : room (sumN (l.drop (2 ^ k))) with
      | false =>
        rw [hb.2 r2, if_neg (by simp)]
        have hx := room_not.1 r2
        exact ⟨fun h => absurd (room_iff.1 h) (by omega), fun _ => rfl⟩
      | true =>
        obtain ⟨a1, a2, a3, a4⟩ := ha.1 r1
        obtain ⟨b1, b2, b3, b4⟩ := hb.1 r2
        rw [if_pos ⟨a1, b1⟩, hs, ← a4, ← b4]
        exact ⟨fun h => join_yes hw h, fun h => join_no h⟩
/-- A level up, by all halves. -/
theorem pairL_len (w : Int) : ∀ (m : Nat) (l : List Nd), l.length = m + m → (pairL w l).length = m
  | 0, l, h => by rw [List.length_eq_zero_iff.1 (by omega : l.length = 0)]; rfl
  | m + 1, a :: b :: r, h => by
    simp only [pairL, List.length_cons]
    rw [pairL_len w m r (by simp only [List.length_cons] at h; omega)]
  | m + 1, [a], h => by simp only [List.length_cons, List.length_nil] at h; omega
  | m + 1, [], h => by simp only [List.length_nil] at h; omega
theorem pairL_app (w : Int) : ∀ (m : Nat) (l z : List Nd), l.length = m + m → pairL w (l ++ z) = pairL w l ++ pairL w z
  | 0, l, z, h => by rw [List.length_eq_zero_iff.1 (by omega : l.length = 0)]; rfl
  | m + 1, a :: b :: r, z, h => by
    simp only [pairL, List.cons_append]
    rw [pairL_app w m r z (by simp only [List.length_cons] at h; omega)]
  | m + 1, [a], z, h => by simp only [List.length_cons, List.length_nil] at h; omega
  | m + 1, [], z, h => by simp only [List.length_nil] at h; omega
theorem pairL_fine {w : Int} (hw : mayW w = true) : ∀ (m : Nat) (l : List Nd), l.length = m + m → (∀ x ∈ l, x.halved) → room (sumN l) = true → (∀ x ∈ pairL w l, x.halved) ∧ (∀ x ∈ pairL w l, x.of w = true) ∧ sumN (pairL w l) = sumN l
  | 0, l, h, _, _ => by rw [List.length_eq_zero_iff.1 (by omega : l.length = 0)]; exact ⟨fun x hx => by simp [pairL] at hx, fun x hx => by simp [pairL] at hx, rfl⟩
  | m + 1, a :: b :: r, h, hh, hr => by
    have h1 := Nd.sum_fine (hh a (by simp))
    have h2 := Nd.sum_fine (hh b (by simp))
    have h3 := sumN_pos (fun y hy => hh y (by simp [hy]) : ∀ y ∈ r, y.halved)
    have hx := room_iff.1 hr
    simp only [sumN] at hx
    obtain ⟨j1, j2, j3, j4⟩ := join_yes (a := a) (b := b) hw (room_iff.2 (by omega))
    obtain ⟨i1, i2, i3⟩ := pairL_fine hw m r (by simp only [List.length_cons] at h; omega) (fun y hy => hh y (by simp [hy])) (room_iff.2 (by omega))
    refine ⟨fun x hx => ?_, fun x hx => ?_, ?_⟩
    · rcases List.mem_cons.1 hx with rfl | hx
      · exact j3
      · exact i1 x hx
    · rcases List.mem_cons.1 hx with rfl | hx
      · exact j2
      · exact i2 x hx
    · simp only [pairL, sumN]; rw [j4, i3]; omega
  | m + 1, [a], h, _, _ => by simp only [List.length_cons, List.length_nil] at h; omega
  | m + 1, [], h, _, _ => by simp only [List.length_nil] at h; omega
/-- Level by level: what 2^(k+1) nodes are folded to is what their pairs are folded to, where all have room. -/
theorem fold_level {w : Int} (hw : mayW w = true) (k : Nat) : ∀ (l : List Nd), l.length = 2 ^ (k + 1) → (∀ x ∈ l, x.halved) → room (sumN l) = true → foldS w (k + 1) l = foldS w k (pairL w l) := by
  induction k with
  | zero =>
    intro l hl hh hr
    match l, hl with
    | [a, b], _ =>
      have hx : room (a.sum + b.sum) = true := by simpa [sumN] using hr
      simp only [foldS, pairL]
      show (if (0 : Int) = 0 ∧ (0 : Int) = 0 then joinS w a b else (Nd.zero, 10)) = ((joinS w a b).1, 0)
      rw [if_pos ⟨rfl, rfl⟩]
      exact Prod.ext rfl (join_yes hw hx).1
  | succ k ih =>
    intro l hl hh hr
    have hp := pow_two k
    have hp2 := pow_two (k + 1)
    have et := List.take_append_drop (2 ^ (k + 1)) l
    have la : (l.take (2 ^ (k + 1))).length = 2 ^ (k + 1) := by rw [List.length_take]; omega
    have lb : (l.drop (2 ^ (k + 1))).length = 2 ^ (k + 1) := by rw [List.length_drop]; omega
    have fa : ∀ x ∈ l.take (2 ^ (k + 1)), x.halved := fun x hx => hh x (List.mem_of_mem_take hx)
    have fb : ∀ x ∈ l.drop (2 ^ (k + 1)), x.halved := fun x hx => hh x (List.mem_of_mem_drop hx)
    have hs : sumN l = sumN (l.take (2 ^ (k + 1))) + sumN (l.drop (2 ^ (k + 1))) := by rw [← sumN_app, et]
    have pa := sumN_pos fa
    have pb := sumN_pos fb
    have hx := room_iff.1 hr
    have ea : pairL w l = pairL w (l.take (2 ^ (k + 1))) ++ pairL w (l.drop (2 ^ (k + 1))) := by
      rw [← pairL_app w (2 ^ k) _ _ (by rw [la]; exact hp), et]
    have na := pairL_len w (2 ^ k) (l.take (2 ^ (k + 1))) (by rw [la]; exact hp)
    have t1 : (pairL w l).take (2 ^ k) = pairL w (l.take (2 ^ (k + 1))) := by rw [ea, List.take_left' na]
    have t2 : (pairL w l).drop (2 ^ k) = pairL w (l.drop (2 ^ (k + 1))) := by rw [ea, List.drop_left' na]
    have ia := ih _ la fa (room_iff.2 (by omega))
    have ib := ih _ lb fb (room_iff.2 (by omega))
    rw [foldS, ia, ib, ← t1, ← t2]
    rfl
/-- A climb by some sides, and then by others, is one by all. -/
theorem climb_more (w : Int) (s : List Nd) : ∀ (n : Nd) (p : Nat) (t : List Nd), (climbS w n p s).2 = 0 → climbS w n p (s ++ t) = climbS w (climbS w n p s).1 (p / 2 ^ s.length) t := by
  induction s with
  | nil => intro n p t _; simp [climbS]
  | cons x r ih =>
    intro n p t h
    simp only [climbS, List.cons_append] at h ⊢
    generalize joinS w (if p % 2 = 1 then x else n) (if p % 2 = 1 then n else x) = J at *
    by_cases hj : J.2 = 0
    · rw [if_pos hj] at h ⊢
      rw [if_pos hj, ih J.1 (p / 2) t h, Nat.div_div_eq_div_mul]
      congr 2
      rw [List.length_cons, Nat.pow_succ, Nat.mul_comm]
    · rw [if_neg hj] at h
      cases h
theorem climb_stop (w : Int) (s : List Nd) : ∀ (n : Nd) (p : Nat) (t : List Nd), (climbS w n p s).2 ≠ 0 → climbS w n p (s ++ t) = (Nd.zero, 10) := by
  induction s with
  | nil => intro n p t h; exact absurd rfl h
  | cons x r ih =>
    intro n p t h
    simp only [climbS, List.cons_append] at h ⊢
    generalize joinS w (if p % 2 = 1 then x else n) (if p % 2 = 1 then n else x) = J at *
    by_cases hj : J.2 = 0
    · rw [if_pos hj] at h ⊢
      exact ih J.1 (p / 2) t h
    · rw [if_neg hj]
theorem allW_mem {n : Int} {l : List Nd} (h : allW n l = true) : mayW n = true ∧ ∀ x ∈ l, x.of n = true := by
  rw [allW, Bool.and_eq_true] at h
  exact ⟨h.1, List.all_eq_true.1 h.2⟩
theorem fold_good {n : Int} (hw : mayW n = true) {k : Nat} {l : List Nd} (hl : l.length = 2 ^ k) (hh : ∀ x ∈ l, x.halved) (ho : ∀ x ∈ l, x.of n = true) (h0 : (foldS n k l).2 = 0) :
    (foldS n k l).1.of n = true ∧ (foldS n k l).1.halved := by
  have h := fold_sums hw k l hl hh ho
  cases hr : room (sumN l) with
  | true => exact ⟨(h.1 hr).2.1, (h.1 hr).2.2.1⟩
  | false => rw [h.2 hr] at h0; cases h0
theorem of_size {n : Int} {x : Nd} (h : x.of n = true) : x.hash.size ≤ 32 := by
  rw [Nd.of, Bool.and_eq_true] at h
  have h1 := of_decide_eq_true h.1
  have h2 := of_decide_eq_true h.2
  omega
end Go.Proofs.YtjbaeiifamendaaDoor
