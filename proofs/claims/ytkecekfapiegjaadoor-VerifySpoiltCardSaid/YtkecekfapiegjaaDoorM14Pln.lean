/- Several of my texts, laid as one. -/
import Derived.Test.YtkecekfapiegjaaDoorM7Wrd
/-
  Two nodes as one, what is climbed to, what is folded: plain words, and what follows of them.
-/
namespace Go.Proofs.YtkecekfapiegjaaDoor
set_option linter.unusedVariables false
set_option linter.unusedSimpArgs false
set_option maxRecDepth 10000
open Go.RowKit

/-- Is a node of a width? Its sum, and whether that is one of two halves. -/
def Nd.of (w : Int) (x : Nd) : Bool := mayW w && decide ((x.hash.size : Int) = w)
def Nd.sum (x : Nd) : Int := nv x.h x.l
def Nd.halved (x : Nd) : Prop := Word x.h ∧ Word x.l
def sumN : List Nd → Int
  | [] => 0
  | x :: r => x.sum + sumN r
/-- Two nodes of a width as one; any two. -/
def joinS (w : Int) (a b : Nd) : Nd × Int := if room (a.sum + b.sum) = true then (⟨dgB w (ndText a b), rh (a.sum + b.sum), rl (a.sum + b.sum)⟩, 0) else (Nd.zero, 10)
def joinN (w : Int) (a b : Nd) : Nd × Int := if (a.of w && b.of w) = true then joinS w a b else (Nd.zero, 70)
/-- What is climbed to by sides. -/
def climbS (w : Int) : Nd → Nat → List Nd → Nd × Int
  | n, _, [] => (n, 0)
  | n, p, s :: r => if (joinS w (if p % 2 = 1 then s else n) (if p % 2 = 1 then n else s)).2 = 0 then climbS w (joinS w (if p % 2 = 1 then s else n) (if p % 2 = 1 then n else s)).1 (p / 2) r else (Nd.zero, 10)
def allW (w : Int) (l : List Nd) : Bool := mayW w && l.all (Nd.of w)
def climbN (w : Int) (n : Nd) (p : Nat) (l : List Nd) : Nd × Int := if (n.of w && allW w l) = true then (if l.length ≤ 63 then climbS w n p l else (Nd.zero, 2)) else (Nd.zero, 70)
/-- What 2^k nodes are folded to, by halves. -/
def foldS (w : Int) : Nat → List Nd → Nd × Int
  | 0, l => (l.getD 0 Nd.zero, 0)
  | k + 1, l => if (foldS w k (l.take (2 ^ k))).2 = 0 ∧ (foldS w k (l.drop (2 ^ k))).2 = 0 then joinS w (foldS w k (l.take (2 ^ k))).1 (foldS w k (l.drop (2 ^ k))).1 else (Nd.zero, 10)
/-- A level: two by two. -/
def pairL (w : Int) : List Nd → List Nd
  | a :: b :: r => (joinS w a b).1 :: pairL w r
  | _ => []

theorem dgB_size {w : Int} (h : mayW w = true) (t : ByteArray) : ((dgB w t).size : Int) = w := by
  have hd := of_decide_eq_true h
  rw [dgB, if_pos h, ByteArray.size_extract, digB_size]
  omega
theorem Nd.sum_fine {x : Nd} (h : x.halved) : 0 ≤ x.sum ∧ x.sum < 340282366920938463463374607431768211456 := nv_word h.1 h.2
theorem sumN_app (a b : List Nd) : sumN (a ++ b) = sumN a + sumN b := by
  induction a with
  | nil => simp [sumN]
  | cons x r ih => simp only [List.cons_append, sumN, ih]; omega
theorem sumN_pos {l : List Nd} (h : ∀ x ∈ l, x.halved) : 0 ≤ sumN l := by
  induction l with
  | nil => exact Int.le_refl _
  | cons x r ih =>
    have h1 := Nd.sum_fine (h x (by simp))
    have h2 := ih (fun y hy => h y (by simp [hy]))
    simp only [sumN]; omega
/-- Both as one: of the width, of two halves, of both sums. -/
theorem join_yes {w : Int} {a b : Nd} (hw : mayW w = true) (h : room (a.sum + b.sum) = true) : (joinS w a b).2 = 0 ∧ (joinS w a b).1.of w = true ∧ (joinS w a b).1.halved ∧ (joinS w a b).1.sum = a.sum + b.sum := by
  rw [joinS, if_pos h]
  refine ⟨rfl, ?_, ⟨rh_word _, rl_word _⟩, nv_r h⟩
  simp only [Nd.of, hw, Bool.true_and, decide_eq_true_eq]
  exact dgB_size hw _
theorem join_no {w : Int} {a b : Nd} (h : room (a.sum + b.sum) = false) : joinS w a b = (Nd.zero, 10) := by
  rw [joinS, if_neg (by rw [h]; decide)]
theorem join_zero {w : Int} {a b : Nd} (h : (joinS w a b).2 = 0) : room (a.sum + b.sum) = true := by
  cases hr : room (a.sum + b.sum) with
  | true => rfl
  | false => rw [join_no hr] at h; cases h
/-- All sums of what is climbed to: all sums together, or no room. -/
theorem climb_sums {w : Int} (hw : mayW w = true) (l : List Nd) : ∀ (n : Nd) (p : Nat), n.halved → n.of w = true → (∀ x ∈ l, x.halved) →
    (room (n.sum + sumN l) = true → (climbS w n p l).2 = 0 ∧ (climbS w n p l).1.of w = true ∧ (climbS w n p l).1.halved ∧ (climbS w n p l).1.sum = n.sum + sumN l) ∧
    (room (n.sum + sumN l) = false → climbS w n p l = (Nd.zero, 10)) := by
  induction l with
  | nil =>
    intro n p hn ho _
    have h1 := Nd.sum_fine hn
    refine ⟨fun _ => ⟨rfl, ho, hn, by simp [climbS, sumN]⟩, fun h => absurd ?_ (room_not.1 h)⟩
    simp only [sumN]; omega
  | cons s r ih =>
    intro n p hn ho hl
    have hs := hl s (by simp)
    have h1 := Nd.sum_fine hn
    have h2 := Nd.sum_fine hs
    have h3 := sumN_pos (fun y hy => hl y (by simp [hy]) : ∀ y ∈ r, y.halved)
    have ec : ∀ a b : Nd, a.sum + b.sum = n.sum + s.sum → (a = n ∧ b = s ∨ a = s ∧ b = n) → True := fun _ _ _ _ => trivial
    have es : (if p % 2 = 1 then s else n).sum + (if p % 2 = 1 then n else s).sum = n.sum + s.sum := by
      by_cases hp : p % 2 = 1
      · rw [if_pos hp, if_pos hp]; omega
      · rw [if_neg hp, if_neg hp]
    simp only [climbS, sumN]
    generalize (if p % 2 = 1 then s else n) = A at *
    generalize (if p % 2 = 1 then n else s) = B at *
    cases hr : room (A.sum + B.sum) with
    | true =>
      obtain ⟨j1, j2, j3, j4⟩ := join_yes hw hr
      rw [if_pos j1]
      have := ih (joinS w A B).1 (p / 2) j3 j2 (fun y hy => hl y (by simp [hy]))
      rw [j4, es] at this
      rw [show n.sum + (s.sum + sumN r) = n.sum + s.sum + sumN r by omega]
      exact this
    | false =>
      rw [join_no hr, if_neg (by decide)]
      have hx := room_not.1 hr
      exact ⟨fun h => absurd (room_iff.1 h) (by omega), fun _ => rfl⟩
theorem pow_two (k : Nat) : 2 ^ (k + 1) = 2 ^ k + 2 ^ k := by rw [Nat.pow_succ]; omega
/-- All sums of what is folded. -/
theorem fold_sums {w : Int} (hw : mayW w = true) (k : Nat) : ∀ (l : List Nd), l.length = 2 ^ k → (∀ x ∈ l, x.halved) → (∀ x ∈ l, x.of w = true) →
    (room (sumN l) = true → (foldS w k l).2 = 0 ∧ (foldS w k l).1.of w = true ∧ (foldS w k l).1.halved ∧ (foldS w k l).1.sum = sumN l) ∧
    (room (sumN l) = false → foldS w k l = (Nd.zero, 10)) := by
  induction k with
  | zero =>
    intro l hl hh ho
    obtain ⟨x, rfl⟩ := List.length_eq_one_iff.1 (by simpa using hl)
    have h1 := Nd.sum_fine (hh x (by simp))
    refine ⟨fun _ => ⟨rfl, ho x (by simp), hh x (by simp), by simp [foldS, sumN]⟩, fun h => absurd ?_ (room_not.1 h)⟩
    simp only [sumN]; omega
  | succ k ih =>
    intro l hl hh ho
    have hp := pow_two k
    have et := List.take_append_drop (2 ^ k) l
    have hs : sumN l = sumN (l.take (2 ^ k)) + sumN (l.drop (2 ^ k)) := by rw [← sumN_app, et]
    have ha := ih (l.take (2 ^ k)) (by rw [List.length_take]; omega) (fun x hx => hh x (List.mem_of_mem_take hx)) (fun x hx => ho x (List.mem_of_mem_take hx))
    have hb := ih (l.drop (2 ^ k)) (by rw [List.length_drop]; omega) (fun x hx => hh x (List.mem_of_mem_drop hx)) (fun x hx => ho x (List.mem_of_mem_drop hx))
    have pa := sumN_pos (fun x hx => hh x (List.mem_of_mem_take hx) : ∀ x ∈ l.take (2 ^ k), x.halved)
    have pb := sumN_pos (fun x hx => hh x (List.mem_of_mem_drop hx) : ∀ x ∈ l.drop (2 ^ k), x.halved)
    simp only [foldS]
    cases r1 : room (sumN (l.take (2 ^ k))) with
    | false =>
      rw [ha.2 r1, if_neg (by simp)]
      have hx := room_not.1 r1
      exact ⟨fun h => absurd (room_iff.1 h) (by omega), fun _ => rfl⟩
    | true =>
      cases r2 : room (sumN (l.drop (2 ^ k))) with
      | false =>
        rw [hb.2 r2, if_neg (by simp)]
        have hx := room_not.1 r2
        exact ⟨fun h => absurd (room_iff.1 h) (by omega), fun _ => rfl⟩
      | true =>
        obtain ⟨a1, a2, a3, a4⟩ := ha.1 r1
        obtain ⟨b1, b2, b3, b4⟩ := hb.1 r2
        rw [if_pos ⟨a1, b1⟩, hs, ← a4, ← b4]
        exact ⟨fun h => join_yes hw h, fun h => join_no h⟩
/-- A level up, by all halves. -/
theorem pairL_len (w : Int) : ∀ (m : Nat) (l : List Nd), l.length = m + m → (pairL w l).length = m
  | 0, l, h => by rw [List.length_eq_zero_iff.1 (by omega : l.length = 0)]; rfl
  | m + 1, a :: b :: r, h => by
    simp only [pairL, List.length_cons]
    rw [pairL_len w m r (by simp only [List.length_cons] at h; omega)]
  | m + 1, [a], h => by simp only [List.length_cons, List.length_nil] at h; omega
  | m + 1, [], h => by simp only [List.length_nil] at h; omega
theorem pairL_app (w : Int) : ∀ (m : Nat) (l z : List Nd), l.length = m + m → pairL w (l ++ z) = pairL w l ++ pairL w z
  | 0, l, z, h => by rw [List.length_eq_zero_iff.1 (by omega : l.length = 0)]; rfl
  | m + 1, a :: b :: r, z, h => by
    simp only [pairL, List.cons_append]
    rw [pairL_app w m r z (by simp only [List.length_cons] at h; omega)]
  | m + 1, [a], z, h => by simp only [List.length_cons, List.length_nil] at h; omega
  | m + 1, [], z, h => by simp only [List.length_nil] at h; omega
theorem pairL_fine {w : Int} (hw : mayW w = true) : ∀ (m : Nat) (l : List Nd), l.length = m + m → (∀ x ∈ l, x.halved) → room (sumN l) = true → (∀ x ∈ pairL w l, x.halved) ∧ (∀ x ∈ pairL w l, x.of w = true) ∧ sumN (pairL w l) = sumN l
  | 0, l, h, _, _ => by rw [List.length_eq_zero_iff.1 (by omega : l.length = 0)]; exact ⟨fun x hx => by simp [pairL] at hx, fun x hx => by simp [pairL] at hx, rfl⟩
  | m + 1, a :: b :: r, h, hh, hr => by
    have h1 := Nd.sum_fine (hh a (by simp))
    have h2 := Nd.sum_fine (hh b (by simp))
    have h3 := sumN_pos (fun y hy => hh y (by simp [hy]) : ∀ y ∈ r, y.halved)
    have hx := room_iff.1 hr
    simp only [sumN] at hx
    obtain ⟨j1, j2, j3, j4⟩ := join_yes (a := a) (b := b) hw (room_iff.2 (by omega))
    obtain ⟨i1, i2, i3⟩ := pairL_fine hw m r (by simp only [List.length_cons] at h; omega) (fun y hy => hh y (by simp [hy])) (room_iff.2 (by omega))
    refine ⟨fun x hx => ?_, fun x hx => ?_, ?_⟩
    · rcases List.mem_cons.1 hx with rfl | hx
      · exact j3
      · exact i1 x hx
    · rcases List.mem_cons.1 hx with rfl | hx
      · exact j2
      · exact i2 x hx
    · simp only [pairL, sumN]; rw [j4, i3]; omega
  | m + 1, [a], h, _, _ => by simp only [List.length_cons, List.length_nil] at h; omega
  | m + 1, [], h, _, _ => by simp only [List.length_nil] at h; omega
/-- Level by level: what 2^(k+1) nodes are folded to is what their pairs are folded to, where all have room. -/
theorem fold_level {w : Int} (hw : mayW w = true) (k : Nat) : ∀ (l : List Nd), l.length = 2 ^ (k + 1) → (∀ x ∈ l, x.halved) → room (sumN l) = true → foldS w (k + 1) l = foldS w k (pairL w l) := by
  induction k with
  | zero =>
    intro l hl hh hr
    match l, hl with
    | [a, b], _ =>
      have hx : room (a.sum + b.sum) = true := by simpa [sumN] using hr
      simp only [foldS, pairL]
      show (if (0 : Int) = 0 ∧ (0 : Int) = 0 then joinS w a b else (Nd.zero, 10)) = ((joinS w a b).1, 0)
      rw [if_pos ⟨rfl, rfl⟩]
      exact Prod.ext rfl (join_yes hw hx).1
  | succ k ih =>
    intro l hl hh hr
    have hp := pow_two k
    have hp2 := pow_two (k + 1)
    have et := List.take_append_drop (2 ^ (k + 1)) l
    have la : (l.take (2 ^ (k + 1))).length = 2 ^ (k + 1) := by rw [List.length_take]; omega
    have lb : (l.drop (2 ^ (k + 1))).length = 2 ^ (k + 1) := by rw [List.length_drop]; omega
    have fa : ∀ x ∈ l.take (2 ^ (k + 1)), x.halved := fun x hx => hh x (List.mem_of_mem_take hx)
    have fb : ∀ x ∈ l.drop (2 ^ (k + 1)), x.halved := fun x hx => hh x (List.mem_of_mem_drop hx)
    have hs : sumN l = sumN (l.take (2 ^ (k + 1))) + sumN (l.drop (2 ^ (k + 1))) := by rw [← sumN_app, et]
    have pa := sumN_pos fa
    have pb := sumN_pos fb
    have hx := room_iff.1 hr
    have ea : pairL w l = pairL w (l.take (2 ^ (k + 1))) ++ pairL w (l.drop (2 ^ (k + 1))) := by
      rw [← pairL_app w (2 ^ k) _ _ (by rw [la]; exact hp), et]
    have na := pairL_len w (2 ^ k) (l.take (2 ^ (k + 1))) (by rw [la]; exact hp)
    have t1 : (pairL w l).take (2 ^ k) = pairL w (l.take (2 ^ (k + 1))) := by rw [ea, List.take_left' na]
    have t2 : (pairL w l).drop (2 ^ k) = pairL w (l.drop (2 ^ (k + 1))) := by rw [ea, List.drop_left' na]
    have ia := ih _ la fa (room_iff.2 (by omega))
    have ib := ih _ lb fb (room_iff.2 (by omega))
    rw [foldS, ia, ib, ← t1, ← t2]
    rfl
/-- A climb by some sides, and then by others, is one by all. -/
theorem climb_more (w : Int) (s : List Nd) : ∀ (n : Nd) (p : Nat) (t : List Nd), (climbS w n p s).2 = 0 → climbS w n p (s ++ t) = climbS w (climbS w n p s).1 (p / 2 ^ s.length) t := by
  induction s with
  | nil => intro n p t _; simp [climbS]
  | cons x r ih =>
    intro n p t h
    simp only [climbS, List.cons_append] at h ⊢
    generalize joinS w (if p % 2 = 1 then x else n) (if p % 2 = 1 then n else x) = J at *
    by_cases hj : J.2 = 0
    · rw [if_pos hj] at h ⊢
      rw [if_pos hj, ih J.1 (p / 2) t h, Nat.div_div_eq_div_mul]
      congr 2
      rw [List.length_cons, Nat.pow_succ, Nat.mul_comm]
    · rw [if_neg hj] at h
      cases h
theorem climb_stop (w : Int) (s : List Nd) : ∀ (n : Nd) (p : Nat) (t : List Nd), (climbS w n p s).2 ≠ 0 → climbS w n p (s ++ t) = (Nd.zero, 10) := by
  induction s with
  | nil => intro n p t h; exact absurd rfl h
  | cons x r ih =>
    intro n p t h
    simp only [climbS, List.cons_append] at h ⊢
    generalize joinS w (if p % 2 = 1 then x else n) (if p % 2 = 1 then n else x) = J at *
    by_cases hj : J.2 = 0
    · rw [if_pos hj] at h ⊢
      exact ih J.1 (p / 2) t h
    · rw [if_neg hj]
theorem allW_mem {n : Int} {l : List Nd} (h : allW n l = true) : mayW n = true ∧ ∀ x ∈ l, x.of n = true := by
  rw [allW, Bool.and_eq_true] at h
  exact ⟨h.1, List.all_eq_true.1 h.2⟩
theorem fold_good {n : Int} (hw : mayW n = true) {k : Nat} {l : List Nd} (hl : l.length = 2 ^ k) (hh : ∀ x ∈ l, x.halved) (ho : ∀ x ∈ l, x.of n = true) (h0 : (foldS n k l).2 = 0) :
    (foldS n k l).1.of n = true ∧ (foldS n k l).1.halved := by
  have h := fold_sums hw k l hl hh ho
  cases hr : room (sumN l) with
  | true => exact ⟨(h.1 hr).2.1, (h.1 hr).2.2.1⟩
  | false => rw [h.2 hr] at h0; cases h0
theorem of_size {n : Int} {x : Nd} (h : x.of n = true) : x.hash.size ≤ 32 := by
  rw [Nd.of, Bool.and_eq_true] at h
  have h1 := of_decide_eq_true h.1
  have h2 := of_decide_eq_true h.2
  omega
end Go.Proofs.YtkecekfapiegjaaDoor
/-
  A climb, turn by turn: plain words.
-/
namespace Go.Proofs.YtkecekfapiegjaaDoor
set_option linter.unusedVariables false
set_option linter.unusedSimpArgs false
set_option maxRecDepth 10000
open Go.RowKit

/-- The sides, each with whether it stands right. -/
def turnsK (p : Nat) : List Nd → List (Nd × Bool)
  | [] => []
  | s :: r => (s, decide (p % 2 = 0)) :: turnsK (p / 2) r
theorem turnsK_len (p : Nat) (l : List Nd) : (turnsK p l).length = l.length := by
  induction l generalizing p with
  | nil => rfl
  | cons s r ih => simp [turnsK, ih]
theorem turnsK_at (l : List Nd) : ∀ (p k : Nat) (x : Nd), l[k]? = some x → (turnsK p l)[k]? = some (x, decide (p / 2 ^ k % 2 = 0)) := by
  induction l with
  | nil => intro p k x h; simp at h
  | cons s r ih =>
    intro p k x h
    cases k with
    | zero =>
      obtain rfl : s = x := by simpa using h
      simp [turnsK]
    | succ k =>
      have h2 := ih (p / 2) k x (by simpa using h)
      simp only [turnsK, List.getElem?_cons_succ, h2]
      rw [Nat.div_div_eq_div_mul, Nat.pow_succ, Nat.mul_comm]
/-- One turn of a climb; all of them. -/
def stepT (w : Int) (n : Nd) (y : Nd × Bool) : Nd × Int := joinS w (if y.2 = true then n else y.1) (if y.2 = true then y.1 else n)
def climbT (w : Int) : Nd → List (Nd × Bool) → Nd × Int
  | n, [] => (n, 0)
  | n, y :: r => if (stepT w n y).2 = 0 then climbT w (stepT w n y).1 r else (Nd.zero, 10)
theorem climbT_turns (w : Int) (l : List Nd) : ∀ (n : Nd) (p : Nat), climbT w n (turnsK p l) = climbS w n p l := by
  induction l with
  | nil => intro n p; rfl
  | cons s r ih =>
    intro n p
    simp only [turnsK, climbT, climbS, stepT, ih]
    have e : (decide (p % 2 = 0) = true) ↔ ¬ p % 2 = 1 := by rw [decide_eq_true_iff]; omega
    by_cases hp : p % 2 = 1
    · have h1 : ¬ decide (p % 2 = 0) = true := fun h => e.1 h hp
      rw [if_neg h1, if_neg h1, if_pos hp, if_pos hp]
    · have h1 : decide (p % 2 = 0) = true := e.2 hp
      rw [if_pos h1, if_pos h1, if_neg hp, if_neg hp]
theorem join_code (w : Int) (a b : Nd) : (joinS w a b).2 = 0 ∨ joinS w a b = (Nd.zero, 10) := by
  cases hr : room (a.sum + b.sum) with
  | true => left; rw [joinS, if_pos hr]
  | false => right; exact join_no hr
theorem climbT_app (w : Int) (q : List (Nd × Bool)) : ∀ (n : Nd) (r : List (Nd × Bool)), climbT w n (q ++ r) = if (climbT w n q).2 = 0 then climbT w (climbT w n q).1 r else (Nd.zero, 10) := by
  induction q with
  | nil => intro n r; simp [climbT]
  | cons y q ih =>
    intro n r
    by_cases h : (stepT w n y).2 = 0
    · have e1 : climbT w n (y :: q) = climbT w (stepT w n y).1 q := by rw [climbT, if_pos h]
      have e2 : climbT w n (y :: (q ++ r)) = climbT w (stepT w n y).1 (q ++ r) := by rw [climbT, if_pos h]
      rw [List.cons_append, e2, ih, e1]
    · have e1 : climbT w n (y :: q) = (Nd.zero, 10) := by rw [climbT, if_neg h]
      have e2 : climbT w n (y :: (q ++ r)) = (Nd.zero, 10) := by rw [climbT, if_neg h]
      rw [List.cons_append, e2, e1, if_neg (by decide)]
/-- One turn more. -/
theorem climbT_snoc (w : Int) (q : List (Nd × Bool)) (n x : Nd) (y : Nd × Bool) (h : climbT w n q = (x, 0)) : climbT w n (q ++ [y]) = stepT w x y := by
  rw [climbT_app, h, if_pos rfl, climbT, climbT]
  by_cases hs : (stepT w x y).2 = 0
  · rw [if_pos hs]; exact Prod.ext rfl hs.symm
  · rw [if_neg hs]
    rcases join_code w (if y.2 = true then x else y.1) (if y.2 = true then y.1 else x) with h | h
    · exact absurd h hs
    · exact h.symm
theorem stepT_fine {w : Int} (hw : mayW w = true) {n : Nd} {y : Nd × Bool} (h : (stepT w n y).2 = 0) : (stepT w n y).1.of w = true ∧ (stepT w n y).1.halved := by
  have hj := join_yes hw (join_zero h)
  exact ⟨hj.2.1, hj.2.2.1⟩
end Go.Proofs.YtkecekfapiegjaaDoor
/-
  A row of nodes, two by two: plain words.
-/
namespace Go.Proofs.YtkecekfapiegjaaDoor
set_option linter.unusedVariables false
set_option linter.unusedSimpArgs false
set_option maxRecDepth 10000
open Go.RowKit

/-- A row, two by two. -/
def pairsK : List Nd → List (Nd × Nd)
  | a :: b :: r => (a, b) :: pairsK r
  | _ => []
theorem pairsK_len : ∀ (m : Nat) (l : List Nd), l.length = m + m → (pairsK l).length = m
  | 0, l, h => by rw [List.length_eq_zero_iff.1 (by omega : l.length = 0)]; rfl
  | m + 1, a :: b :: r, h => by
    simp only [pairsK, List.length_cons]
    rw [pairsK_len m r (by simp only [List.length_cons] at h; omega)]
  | m + 1, [a], h => by simp only [List.length_cons, List.length_nil] at h; omega
  | m + 1, [], h => by simp only [List.length_nil] at h; omega
theorem pairsK_at : ∀ (k : Nat) (l : List Nd) (x y : Nd), l[k + k]? = some x → l[k + k + 1]? = some y → (pairsK l)[k]? = some (x, y)
  | 0, [], x, y, h, _ => by simp at h
  | 0, [a], x, y, _, h => by simp at h
  | 0, a :: b :: r, x, y, h, h' => by
    obtain rfl : a = x := by simpa using h
    obtain rfl : b = y := by simpa using h'
    rfl
  | k + 1, [], x, y, h, _ => by simp at h
  | k + 1, [a], x, y, h, _ => by rw [List.getElem?_eq_none (by simp only [List.length_cons, List.length_nil]; omega)] at h; cases h
  | k + 1, a :: b :: r, x, y, h, h' => by
    rw [show k + 1 + (k + 1) = k + k + 1 + 1 by omega] at h h'
    simp only [List.getElem?_cons_succ] at h h'
    simp only [pairsK, List.getElem?_cons_succ]
    exact pairsK_at k r x y h h'
/-- Both of each pair as one. -/
def joinP (w : Int) (l : List (Nd × Nd)) : List Nd := l.map fun y => (joinS w y.1 y.2).1
def okP (w : Int) (l : List (Nd × Nd)) : Bool := l.all fun y => decide ((joinS w y.1 y.2).2 = 0)
theorem joinP_pairs (w : Int) : ∀ (m : Nat) (l : List Nd), l.length = m + m → joinP w (pairsK l) = pairL w l
  | 0, l, h => by rw [List.length_eq_zero_iff.1 (by omega : l.length = 0)]; rfl
  | m + 1, a :: b :: r, h => by
    simp only [pairsK, pairL, joinP, List.map_cons]
    have := joinP_pairs w m r (by simp only [List.length_cons] at h; omega)
    rw [joinP] at this
    rw [this]
  | m + 1, [a], h => by simp only [List.length_cons, List.length_nil] at h; omega
  | m + 1, [], h => by simp only [List.length_nil] at h; omega
/-- A level up where each pair has room; where one has none there is none for all. -/
theorem pairs_fine {w : Int} (hw : mayW w = true) : ∀ (m : Nat) (l : List Nd), l.length = m + m → (∀ x ∈ l, x.halved) → okP w (pairsK l) = true → (∀ x ∈ pairL w l, x.halved) ∧ (∀ x ∈ pairL w l, x.of w = true) ∧ sumN (pairL w l) = sumN l
  | 0, l, h, _, _ => by rw [List.length_eq_zero_iff.1 (by omega : l.length = 0)]; exact ⟨fun x hx => by simp [pairL] at hx, fun x hx => by simp [pairL] at hx, rfl⟩
  | m + 1, a :: b :: r, h, hh, hr => by
    simp only [pairsK, okP, List.all_cons, Bool.and_eq_true, decide_eq_true_eq] at hr
    obtain ⟨j1, j2, j3, j4⟩ := join_yes (a := a) (b := b) hw (join_zero hr.1)
    obtain ⟨i1, i2, i3⟩ := pairs_fine hw m r (by simp only [List.length_cons] at h; omega) (fun y hy => hh y (by simp [hy])) hr.2
    refine ⟨fun x hx => ?_, fun x hx => ?_, ?_⟩
    · rcases List.mem_cons.1 hx with rfl | hx
      · exact j3
      · exact i1 x hx
    · rcases List.mem_cons.1 hx with rfl | hx
      · exact j2
      · exact i2 x hx
    · simp only [pairL, sumN]; rw [j4, i3]; omega
  | m + 1, [a], h, _, _ => by simp only [List.length_cons, List.length_nil] at h; omega
  | m + 1, [], h, _, _ => by simp only [List.length_nil] at h; omega
theorem pairs_none {w : Int} : ∀ (m : Nat) (l : List Nd), l.length = m + m → (∀ x ∈ l, x.halved) → okP w (pairsK l) = false → room (sumN l) = false
  | 0, l, h, _, hr => by rw [List.length_eq_zero_iff.1 (by omega : l.length = 0)] at hr; cases hr
  | m + 1, a :: b :: r, h, hh, hr => by
    have h1 := Nd.sum_fine (hh a (by simp))
    have h2 := Nd.sum_fine (hh b (by simp))
    have h3 := sumN_pos (fun y hy => hh y (by simp [hy]) : ∀ y ∈ r, y.halved)
    simp only [sumN]
    refine room_not.2 ?_
    by_cases hj : (joinS w a b).2 = 0
    · have hr2 : okP w (pairsK r) = false := by
        simp only [pairsK, okP, List.all_cons, decide_eq_true hj, Bool.true_and] at hr
        exact hr
      have := room_not.1 (pairs_none m r (by simp only [List.length_cons] at h; omega) (fun y hy => hh y (by simp [hy])) hr2)
      omega
    · have : room (a.sum + b.sum) = false := by
        cases hx : room (a.sum + b.sum) with
        | false => rfl
        | true => exact absurd (by rw [joinS, if_pos hx]) hj
      have := room_not.1 this
      omega
  | m + 1, [a], h, _, _ => by simp only [List.length_cons, List.length_nil] at h; omega
  | m + 1, [], h, _, _ => by simp only [List.length_nil] at h; omega
/-- A fold goes level by level. -/
theorem fold_up {w : Int} (hw : mayW w = true) (k : Nat) (l : List Nd) (hl : l.length = 2 ^ (k + 1)) (hh : ∀ x ∈ l, x.halved) (ho : ∀ x ∈ l, x.of w = true) (hok : okP w (pairsK l) = true) : foldS w (k + 1) l = foldS w k (pairL w l) := by
  have hm : l.length = 2 ^ k + 2 ^ k := by rw [hl, pow_two]
  obtain ⟨f1, f2, f3⟩ := pairs_fine hw (2 ^ k) l hm hh hok
  cases hr : room (sumN l) with
  | true => exact fold_level hw k l hl hh hr
  | false =>
    rw [(fold_sums hw (k + 1) l hl hh ho).2 hr]
    exact ((fold_sums hw k (pairL w l) (pairL_len w (2 ^ k) l hm) f1 f2).2 (by rw [f3]; exact hr)).symm
theorem fold_none {w : Int} (hw : mayW w = true) (k : Nat) (l : List Nd) (hl : l.length = 2 ^ (k + 1)) (hh : ∀ x ∈ l, x.halved) (ho : ∀ x ∈ l, x.of w = true) (hok : okP w (pairsK l) = false) : foldS w (k + 1) l = (Nd.zero, 10) :=
  (fold_sums hw (k + 1) l hl hh ho).2 (pairs_none (2 ^ k) l (by rw [hl, pow_two]) hh hok)
end Go.Proofs.YtkecekfapiegjaaDoor
/-
  What a row is folded to, and which rows are: plain words.
-/
namespace Go.Proofs.YtkecekfapiegjaaDoor
set_option linter.unusedVariables false
set_option linter.unusedSimpArgs false
set_option maxRecDepth 10000
open Go.RowKit

/-- Is it 2^k (up to 300)? -/
def powB (n : Nat) : Bool := decide (n = 1 ∨ n = 2 ∨ n = 4 ∨ n = 8 ∨ n = 16 ∨ n = 32 ∨ n = 64 ∨ n = 128 ∨ n = 256)
/-- What a row is folded to. -/
def foldN (w : Int) (l : List Nd) : Nd × Int := if allW w l = true then (if powB l.length = true then foldS w (Nat.log2 l.length) l else (Nd.zero, 2)) else (Nd.zero, 70)
theorem powB_log : ∀ n : Nat, n < 301 → powB n = true → n = 2 ^ Nat.log2 n ∧ Nat.log2 n ≤ 8 := by decide +kernel
theorem powB_no {n : Nat} (hn : n < 301) (h : powB n = false) (k : Nat) : n ≠ 2 ^ k := by
  intro e
  by_cases hk : k ≤ 8
  · have : ∀ k : Nat, k < 9 → powB (2 ^ k) = true := by decide +kernel
    rw [e, this k (by omega)] at h
    cases h
  · have : 2 ^ 9 ≤ 2 ^ k := Nat.pow_le_pow_right (by decide) (by omega)
    omega
theorem foldN_pow {w : Int} {l : List Nd} {k : Nat} (hw : allW w l = true) (hl : l.length = 2 ^ k) (hk : k ≤ 8) : foldN w l = foldS w k l := by
  have h : ∀ k : Nat, k < 9 → powB (2 ^ k) = true ∧ Nat.log2 (2 ^ k) = k := by decide +kernel
  obtain ⟨h1, h2⟩ := h k (by omega)
  rw [foldN, if_pos hw, hl, if_pos h1, h2]
end Go.Proofs.YtkecekfapiegjaaDoor
/-
  From each place of a row, by the folded blocks beside it, one climbs to what is folded: plain words.
-/
namespace Go.Proofs.YtkecekfapiegjaaDoor
set_option linter.unusedVariables false
set_option linter.unusedSimpArgs false
set_option maxRecDepth 10000
open Go.RowKit

/-- The i-th block of 2^j nodes. -/
def blk (l : List Nd) (j i : Nat) : List Nd := (l.drop (i * 2 ^ j)).take (2 ^ j)
theorem blk_fit {k j i : Nat} (hj : j ≤ k) (hi : i < 2 ^ (k - j)) : i * 2 ^ j + 2 ^ j ≤ 2 ^ k := by
  have h1 : (i + 1) * 2 ^ j ≤ 2 ^ (k - j) * 2 ^ j := Nat.mul_le_mul_right _ hi
  rw [← Nat.pow_add, Nat.sub_add_cancel hj, Nat.add_mul, Nat.one_mul] at h1
  exact h1
theorem blk_len {l : List Nd} {k j i : Nat} (hl : l.length = 2 ^ k) (hj : j ≤ k) (hi : i < 2 ^ (k - j)) : (blk l j i).length = 2 ^ j := by
  have := blk_fit hj hi
  rw [blk, List.length_take, List.length_drop]
  omega
theorem blk_mem {l : List Nd} {j i : Nat} {x : Nd} (h : x ∈ blk l j i) : x ∈ l := List.mem_of_mem_drop (List.mem_of_mem_take h)
theorem blk_take (l : List Nd) (j i : Nat) : (blk l (j + 1) i).take (2 ^ j) = blk l j (2 * i) := by
  unfold blk
  rw [List.take_take, Nat.pow_succ, Nat.min_eq_left (by omega), show i * (2 ^ j * 2) = 2 * i * 2 ^ j by rw [Nat.mul_comm (2 ^ j) 2, ← Nat.mul_assoc, Nat.mul_comm i 2]]
theorem blk_drop (l : List Nd) (j i : Nat) : (blk l (j + 1) i).drop (2 ^ j) = blk l j (2 * i + 1) := by
  unfold blk
  rw [List.drop_take, List.drop_drop, Nat.pow_succ, show i * (2 ^ j * 2) + 2 ^ j = (2 * i + 1) * 2 ^ j by rw [Nat.add_mul, Nat.one_mul, Nat.mul_comm (2 ^ j) 2, ← Nat.mul_assoc, Nat.mul_comm i 2], show 2 ^ j * 2 - 2 ^ j = 2 ^ j by omega]
theorem blk_sum {l : List Nd} (hh : ∀ x ∈ l, x.halved) (j i : Nat) (hr : room (sumN l) = true) : room (sumN (blk l j i)) = true := by
  have e1 : sumN l = sumN (l.take (i * 2 ^ j)) + sumN (l.drop (i * 2 ^ j)) := by rw [← sumN_app, List.take_append_drop]
  have e2 : sumN (l.drop (i * 2 ^ j)) = sumN (blk l j i) + sumN ((l.drop (i * 2 ^ j)).drop (2 ^ j)) := by rw [blk, ← sumN_app, List.take_append_drop]
  have p1 := sumN_pos (fun x hx => hh x (List.mem_of_mem_take hx) : ∀ x ∈ l.take (i * 2 ^ j), x.halved)
  have p2 := sumN_pos (fun x hx => hh x (blk_mem hx) : ∀ x ∈ blk l j i, x.halved)
  have p3 := sumN_pos (fun x hx => hh x (List.mem_of_mem_drop (List.mem_of_mem_drop hx)) : ∀ x ∈ (l.drop (i * 2 ^ j)).drop (2 ^ j), x.halved)
  have hx := room_iff.1 hr
  exact room_iff.2 (by omega)
/-- Each block is folded. -/
theorem blk_good {w : Int} (hw : mayW w = true) {l : List Nd} {k j i : Nat} (hl : l.length = 2 ^ k) (hh : ∀ x ∈ l, x.halved) (ho : ∀ x ∈ l, x.of w = true) (hr : room (sumN l) = true) (hj : j ≤ k) (hi : i < 2 ^ (k - j)) :
    (foldS w j (blk l j i)).2 = 0 ∧ (foldS w j (blk l j i)).1.of w = true ∧ (foldS w j (blk l j i)).1.halved := by
  have h := (fold_sums hw j (blk l j i) (blk_len hl hj hi) (fun x hx => hh x (blk_mem hx)) (fun x hx => ho x (blk_mem hx))).1 (blk_sum hh j i hr)
  exact ⟨h.1, h.2.1, h.2.2.1⟩
theorem half_fit {k j a : Nat} (hj : j + 1 ≤ k) (ha : a < 2 ^ (k - j)) : a / 2 < 2 ^ (k - (j + 1)) := by
  have : 2 ^ (k - j) = 2 * 2 ^ (k - (j + 1)) := by rw [show k - j = k - (j + 1) + 1 by omega, Nat.pow_succ, Nat.mul_comm]
  omega
/-- The block beside one. -/
def sib (a : Nat) : Nat := if a % 2 = 1 then a - 1 else a + 1
theorem sib_fit {k j a : Nat} (hj : j + 1 ≤ k) (ha : a < 2 ^ (k - j)) : sib a < 2 ^ (k - j) := by
  have : 2 ^ (k - j) = 2 * 2 ^ (k - (j + 1)) := by rw [show k - j = k - (j + 1) + 1 by omega, Nat.pow_succ, Nat.mul_comm]
  unfold sib
  split <;> omega
/-- One level up. -/
theorem place_step {w : Int} (hw : mayW w = true) {l : List Nd} {k j : Nat} (hl : l.length = 2 ^ k) (hh : ∀ x ∈ l, x.halved) (ho : ∀ x ∈ l, x.of w = true) (hr : room (sumN l) = true) (hj : j + 1 ≤ k)
    (x : Nd) (p : Nat) (hp : p / 2 ^ j < 2 ^ (k - j)) (sd : List Nd) (hsd : sd.length = j) (hc : climbS w x p sd = foldS w j (blk l j (p / 2 ^ j))) :
    climbS w x p (sd ++ [(foldS w j (blk l j (sib (p / 2 ^ j)))).1]) = foldS w (j + 1) (blk l (j + 1) (p / 2 ^ (j + 1))) := by
  obtain ⟨g1, -, -⟩ := blk_good hw hl hh ho hr (by omega : j ≤ k) hp
  have e1 := climb_more w sd x p [(foldS w j (blk l j (sib (p / 2 ^ j)))).1] (by rw [hc]; exact g1)
  rw [e1, hc, hsd]
  have e2 : p / 2 ^ (j + 1) = p / 2 ^ j / 2 := by rw [Nat.div_div_eq_div_mul, Nat.pow_succ]
  rw [e2]
  obtain ⟨a, ha⟩ : ∃ a, p / 2 ^ j = a := ⟨_, rfl⟩
  rw [ha] at hp ⊢
  obtain ⟨g3, -, -⟩ := blk_good hw hl hh ho hr hj (half_fit hj hp)
  have e3 : foldS w (j + 1) (blk l (j + 1) (a / 2)) = if (foldS w j (blk l j (2 * (a / 2)))).2 = 0 ∧ (foldS w j (blk l j (2 * (a / 2) + 1))).2 = 0 then joinS w (foldS w j (blk l j (2 * (a / 2)))).1 (foldS w j (blk l j (2 * (a / 2) + 1))).1 else (Nd.zero, 10) := by
    rw [foldS, blk_take, blk_drop]
  have f1 : 2 * (a / 2) < 2 ^ (k - j) := by omega
  have f2 : 2 * (a / 2) + 1 < 2 ^ (k - j) := by
    have := sib_fit hj hp
    unfold sib at this
    split at this <;> omega
  obtain ⟨g4, -, -⟩ := blk_good hw hl hh ho hr (by omega : j ≤ k) f1
  obtain ⟨g5, -, -⟩ := blk_good hw hl hh ho hr (by omega : j ≤ k) f2
  rw [if_pos ⟨g4, g5⟩] at e3
  rw [e3] at g3 ⊢
  rw [climbS, climbS]
  by_cases hpar : a % 2 = 1
  · have h1 : 2 * (a / 2) = a - 1 := by omega
    have h2 : 2 * (a / 2) + 1 = a := by omega
    rw [if_pos hpar, if_pos hpar, sib, if_pos hpar]
    rw [h2, h1] at g3 ⊢
    rw [if_pos g3]
    exact Prod.ext rfl g3.symm
  · have h1 : 2 * (a / 2) = a := by omega
    have h2 : 2 * (a / 2) + 1 = a + 1 := by omega
    rw [if_neg hpar, if_neg hpar, sib, if_neg hpar]
    rw [h2, h1] at g3 ⊢
    rw [if_pos g3]
    exact Prod.ext rfl g3.symm
theorem blk_zero {l : List Nd} {p : Nat} {x : Nd} (h : l[p]? = some x) : blk l 0 (p / 2 ^ 0) = [x] := by
  obtain ⟨hp, e⟩ := List.getElem?_eq_some_iff.1 h
  rw [blk, Nat.pow_zero, Nat.div_one, Nat.mul_one, List.drop_eq_getElem_cons hp, e]
  rfl
theorem blk_all {l : List Nd} {k : Nat} (hl : l.length = 2 ^ k) : blk l k 0 = l := by
  rw [blk, Nat.zero_mul, List.drop_zero, List.take_of_length_le (by omega)]
end Go.Proofs.YtkecekfapiegjaaDoor
