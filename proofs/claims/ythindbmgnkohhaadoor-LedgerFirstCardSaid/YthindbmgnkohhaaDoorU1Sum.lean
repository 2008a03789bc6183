/-
  u128.Sum, walked: the sum of any row of numbers, or that it is too much.
-/
import Derived.Test.YthindbmgnkohhaaDoorM1Num
import Derived.Test.YthindbmgnkohhaaDoorW0Words
import Derived.LoopTactic
import Derived.Deep.LoopGhost
import Derived.Deep.DeepCutAuto
import Derived.Deep.CutRange
namespace Go.Proofs.YthindbmgnkohhaaDoor
set_option linter.unusedVariables false
set_option linter.unusedSimpArgs false
set_option maxRecDepth 10000
open Go.RowKit

/-- The sum of numbers, without end. -/
def sumN : List (Int × Int) → Int
  | [] => 0
  | x :: r => nv x.1 x.2 + sumN r
def AllNum (xs : List (Int × Int)) : Prop := ∀ x ∈ xs, Word x.1 ∧ Word x.2
theorem sumN_nonneg : ∀ {xs : List (Int × Int)}, AllNum xs → 0 ≤ sumN xs
  | [], _ => by simp [sumN]
  | x :: r, h => by
    have h1 := nv_word (h x (by simp)).1 (h x (by simp)).2
    have h2 := sumN_nonneg (xs := r) (fun y hy => h y (by simp [hy]))
    simp only [sumN]; omega
theorem sumN_append : ∀ (xs ys : List (Int × Int)), sumN (xs ++ ys) = sumN xs + sumN ys
  | [], ys => by simp [sumN]
  | x :: r, ys => by simp only [List.cons_append, sumN, sumN_append r ys]; omega
theorem sumN_take {xs : List (Int × Int)} {k : Nat} (hk : k < xs.length) : sumN (xs.take (k + 1)) = sumN (xs.take k) + nv xs[k].1 xs[k].2 := by
  rw [List.take_succ_eq_append_getElem hk, sumN_append]; simp [sumN]
theorem sumN_split (xs : List (Int × Int)) (k : Nat) : sumN xs = sumN (xs.take k) + sumN (xs.drop k) := by
  rw [← sumN_append, List.take_append_drop]
theorem AllNum.take {xs : List (Int × Int)} (h : AllNum xs) (k : Nat) : AllNum (xs.take k) := fun x hx => h x (List.mem_of_mem_take hx)
theorem AllNum.drop {xs : List (Int × Int)} (h : AllNum xs) (k : Nat) : AllNum (xs.drop k) := fun x hx => h x (List.mem_of_mem_drop hx)

/-- A slice of numbers: where each one's halves lie, below block B. -/
def NumRow (w : World) (B : Nat) (A : Option Addr) (xs : List (Int × Int)) : Prop :=
  ∀ i h l, xs[i]? = some (h, l) → ∃ ad, A = some ad ∧ ad.block < B ∧ w.cell? (ad.add (i * 2)) = some (.int .u64 h) ∧ w.cell? (ad.add (i * 2 + 1)) = some (.int .u64 l)
theorem add_block (a : Addr) (n : Nat) : (a.add n).block = a.block := by unfold Addr.add; split <;> rfl
theorem add_two (a : Addr) (i j : Nat) : (a.add i).add j = a.add (i + j) := by
  unfold Addr.add
  by_cases hi : i = 0 <;> by_cases hj : j = 0 <;> simp [hi, hj, Nat.add_assoc]
theorem NumRow.call {w w' : World} {B : Nat} {A : Option Addr} {xs : List (Int × Int)} (h : NumRow w B A xs) (hb : Below B w w') : NumRow w' B A xs := fun i x y hx => by
  obtain ⟨ad, e, hl, h1, h2⟩ := h i x y hx
  exact ⟨ad, e, hl, by rw [hb.cell (by rw [add_block]; exact hl)]; exact h1, by rw [hb.cell (by rw [add_block]; exact hl)]; exact h2⟩
theorem NumRow.more {w : World} {B B' : Nat} {A : Option Addr} {xs : List (Int × Int)} (h : NumRow w B A xs) (hB : B ≤ B') : NumRow w B' A xs := fun i x y hx => by
  obtain ⟨ad, e, hl, h1, h2⟩ := h i x y hx
  exact ⟨ad, e, by omega, h1, h2⟩

theorem NumRow.take {w : World} {B : Nat} {A : Option Addr} {xs : List (Int × Int)} (h : NumRow w B A xs) (k : Nat) : NumRow w B A (xs.take k) := fun i x y hx => by
  refine h i x y ?_
  rw [List.getElem?_take] at hx
  split at hx
  · exact hx
  · simp at hx
theorem NumRow.drop {w : World} {B : Nat} {ad : Addr} {xs : List (Int × Int)} (h : NumRow w B (some ad) xs) (k : Nat) : NumRow w B (some (ad.add (k * 2))) (xs.drop k) := fun i x y hx => by
  rw [List.getElem?_drop] at hx
  obtain ⟨ad', e, hl, h1, h2⟩ := h (k + i) x y hx
  injection e with e
  subst e
  refine ⟨_, rfl, by rw [add_block]; exact hl, ?_, ?_⟩
  · rw [add_two, show k * 2 + i * 2 = (k + i) * 2 by omega]; exact h1
  · rw [add_two, show k * 2 + (i * 2 + 1) = (k + i) * 2 + 1 by omega]; exact h2

set_option maxHeartbeats 4000000 in
theorem sum_any (A : Option Addr) (c : Nat) (xs : List (Int × Int)) (hx : AllNum xs) (hm : xs.length ≤ 1000000) (w : World) (hr : NumRow w w.heap.size A xs) :
    Calls Tryd.prog 43 #[.slice A xs.length c] w (Fit (sumN xs) w.heap.size w) := by
  have B0 : Box ((w.alloc (.cells #[.int .u64 0, .int .u64 0] 45)).alloc (.cells #[.int .u64 0, .int .u64 0] 45)) w.heap.size 45 #[.int .u64 0, .int .u64 0] := (Box.made w _ _).past _
  have B1 : Box ((w.alloc (.cells #[.int .u64 0, .int .u64 0] 45)).alloc (.cells #[.int .u64 0, .int .u64 0] 45)) (w.heap.size + 1) 45 #[.int .u64 0, .int .u64 0] := by
    have := Box.made (w.alloc (.cells #[.int .u64 0, .int .u64 0] 45)) 45 #[.int .u64 0, .int .u64 0]
    simpa using this
  have L1 : Below w.heap.size w ((w.alloc (.cells #[.int .u64 0, .int .u64 0] 45)).alloc (.cells #[.int .u64 0, .int .u64 0] 45)) := by repeat (first | exact Below.refl _ _ | apply Below.drew | apply below_drewN | refine Below.alloc ?_ (by simp; try omega) _ | refine Below.setCell ?_ (by simp; try omega) _)
  go_enter Tryd.func43, Tryd.ntmps43
  go_wp2
  generalize (w.alloc (.cells #[.int .u64 0, .int .u64 0] 45)).alloc (.cells #[.int .u64 0, .int .u64 0] 45) = W at *
  go_loopg [10] xs.length (fun gk i wr => ∃ k : Nat, k ≤ xs.length ∧ gk = xs.length - k ∧ i = .int .i64 k ∧ room (sumN (xs.take k)) = true ∧ Box wr w.heap.size 45 #[.int .u64 0, .int .u64 0] ∧
    Box wr (w.heap.size + 1) 45 #[.int .u64 (rh (sumN (xs.take k))), .int .u64 (rl (sumN (xs.take k)))] ∧ Below w.heap.size w wr)
  case atStart => exact ⟨0, by omega, rfl, rfl, by rw [List.take_zero]; decide, B0, B1, L1⟩
  case round =>
    obtain ⟨k, hk, rfl, rfl, hroom, hb0, hb1, hbel⟩ := hrel
    obtain ⟨n0, n1, n2⟩ := hb0.num
    have f0 := hb0.free 0
    have f1 := hb0.free 1
    have g0 := hb1.free 0
    have g1 := hb1.free 1
    by_cases hlt : k < xs.length
    · obtain ⟨h, l⟩ : ∃ p : Int × Int, xs[k] = p := ⟨_, rfl⟩
      obtain ⟨p, hp⟩ : ∃ p : Int × Int, xs[k] = p := ⟨_, rfl⟩
      obtain ⟨ad, rfl, had, c0, c1⟩ := hr k p.1 p.2 (by rw [List.getElem?_eq_getElem hlt, hp])
      have c0' : wr.cell? (ad.add (k * 2)) = some (.int .u64 p.1) := by rw [hbel.cell (by rw [add_block]; exact had)]; exact c0
      have c1' : wr.cell? ⟨(ad.add (k * 2)).block, (ad.add (k * 2)).off + 1, none⟩ = some (.int .u64 p.2) := by
        have e : (⟨(ad.add (k * 2)).block, (ad.add (k * 2)).off + 1, none⟩ : Addr) = ad.add (k * 2 + 1) := by rw [← add_two]; rfl
        rw [e, hbel.cell (by rw [add_block]; exact had)]; exact c1
      obtain ⟨m0, m1, m2⟩ := hb1.num
      have e1 := sumN_take hlt
      rw [hp] at e1
      obtain ⟨w1, w2⟩ := hx p (by rw [← hp]; exact List.getElem_mem hlt)
      have E1 := hideIt e1
      have HP := hideIt hp
      have HR := hideIt hroom
      clear e1 hp hroom
      have hv := nv_r HR.out
      have cA := fun u : World => add_any (rh (sumN (xs.take k))) (rl (sumN (xs.take k))) p.1 p.2 (rh_word _) (rl_word _) w1 w2 u
      rw [hv, ← E1.out] at cA
      clear hv
      have P1 := (hb0.past (.cells #[.int .u64 p.1, .int .u64 p.2] 45))
      have Q1 := (hb1.past (.cells #[.int .u64 p.1, .int .u64 p.2] 45))
      have LL := chainA hbel (.cells #[.int .u64 p.1, .int .u64 p.2] 45)
      have X1 := Box.made wr 45 #[.int .u64 p.1, .int .u64 p.2]
      go_upto_region 6 with fail
      generalize wr.alloc (.cells #[.int .u64 p.1, .int .u64 p.2] 45) = W2 at *
      clear n0 n1 n2 f0 f1 g0 g1 c0 c1 c0' c1' m0 m1 m2
      obtain ⟨q0, q1, q2⟩ := Q1.num
      obtain ⟨x0, x1, x2⟩ := X1.num
      cases hr2 : room (sumN (xs.take (k + 1)))
      · have hno : room (sumN xs) = false := by
          have h1 := room_not.1 hr2
          have h2 := sumN_nonneg (hx.take (k + 1))
          have h3 := sumN_nonneg (hx.drop (k + 1))
          have h4 := sumN_split xs (k + 1)
          exact room_not.2 (by omega)
        have cA := fun u : World => (cA u).mono fun e w' (hf : Fit _ _ _ _ _) => (⟨by rw [hf.1, rh_no hr2, rl_no hr2, re_no hr2], hf.2⟩ : e = .returned (.tuple #[.agg #[.int .u64 0, .int .u64 0], .int .i64 10]) ∧ Below u.heap.size u w')
        have HN := hideIt hno
        clear hno hr2
        go_wp2_with (first
          | (go_at_call 65; refine (cA _).mono ?_; rintro e w3 ⟨rfl, hb3⟩
             have P2 := P1.call hb3
             have Q2 := Q1.call hb3
             have L3 := chain LL hb3
             obtain ⟨n0, n1, n2⟩ := P2.num
             obtain ⟨m0, m1, m2⟩ := Q2.num
             have f0 := P2.free 0
             have f1 := P2.free 1
             have g0 := Q2.free 0
             have g1 := Q2.free 1))
        have P3 := (P2.apart (p := ⟨w.heap.size + 1, 0, none⟩) (by simp) (.int .u64 0)).apart (p := ⟨w.heap.size + 1, 1, none⟩) (by simp) (.int .u64 0)
        have e0 := (P3.wrote 0 (.int .u64 0)).read 0
        have e1 := ((P3.wrote 0 (.int .u64 0)).wrote 1 (.int .u64 0)).read 1
        simp only [Nat.reduceLT, List.setIfInBounds_toArray, List.set_cons_zero, List.set_cons_succ, List.getElem?_toArray, List.getElem?_cons_zero, List.getElem?_cons_succ] at e0 e1
        exact bodyPost_ret (v := .tuple #[.agg #[.int .u64 0, .int .u64 0], .int .i64 10]) (by simp [results, Tryd.results43, go_sem, e0, e1]) rfl
          ⟨by rw [rh_no HN.out, rl_no HN.out, re_no HN.out], by repeat (first | exact L3 | apply Below.drew | refine Below.setCell ?_ (by simp) _)⟩
      · have cA := fun u : World => (cA u).mono fun e w' (hf : Fit _ _ _ _ _) => (⟨by rw [hf.1, re_yes hr2], hf.2⟩ : e = .returned (.tuple #[.agg #[.int .u64 (rh (sumN (xs.take (k + 1)))), .int .u64 (rl (sumN (xs.take (k + 1))))], .int .i64 0]) ∧ Below u.heap.size u w')
        have HN := hideIt hr2
        clear hr2
        go_wp2_with (first
          | (go_at_call 65; refine (cA _).mono ?_; rintro e w3 ⟨rfl, hb3⟩
             have P2 := P1.call hb3
             have Q2 := Q1.call hb3
             have L3 := chain LL hb3
             obtain ⟨n0, n1, n2⟩ := P2.num
             obtain ⟨m0, m1, m2⟩ := Q2.num
             have f0 := P2.free 0
             have f1 := P2.free 1
             have g0 := Q2.free 0
             have g1 := Q2.free 1))
        go_roundg (xs.length - (k + 1))
        case measure => omega
        case rel =>
          refine ⟨k + 1, by omega, rfl, by go_num, HN.out, (P2.apart (by simp) _).apart (by simp) _, (Q2.wrote 0 _).wrote 1 _, by repeat (first | exact L3 | apply Below.drew | refine Below.setCell ?_ (by simp) _)⟩
    · have e : k = xs.length := by omega
      subst e
      obtain ⟨m0, m1, m2⟩ := hb1.num
      have ht : xs.take xs.length = xs := List.take_of_length_le (Nat.le_refl _)
      rw [ht] at hroom hb1 m0 m1
      have HR := hideIt hroom
      clear ht hroom
      go_wp2
      exact bodyPost_ret (v := .tuple #[.agg #[.int .u64 (rh (sumN xs)), .int .u64 (rl (sumN xs))], .int .i64 0]) (by simp [results, Tryd.results43, go_sem, (hb0.wrote 0 _).read 0, ((hb0.wrote 0 (.int .u64 (rh (sumN xs)))).wrote 1 (.int .u64 (rl (sumN xs)))).read 1]) rfl
        ⟨by rw [re_yes HR.out], (hbel.setCell (by simp) _).setCell (by simp) _⟩
end Go.Proofs.YthindbmgnkohhaaDoor
