/-
  The law NodeHalves: what is folded is both halves' folds as one; a climb by some sides, and then by others, is one by all. Conditions: none.
-/
import Derived.Test.YtjbaeiifamendaaDoorL14Place
namespace Go.Proofs.YtjbaeiifamendaaDoor
set_option linter.unusedVariables false
set_option linter.unusedSimpArgs false
set_option maxRecDepth 10000
open Go.ChangeShapes Go.WideShapes Go.ChangeAt Go.RowKit

theorem run_neq_self (x : Nd) (u : World) : (binOp .neq 26 x.val x.val).run Tryd.prog u = .ok (.bool false) u := by rw [run_neq_nd, Nd.same_self]; rfl
/-- Both halves of what is folded. -/
theorem halves_of {n : Int} {l : List Nd} (hl : l.length ≤ 300) (h : (foldN n l).2 = 0) (hh : ∀ x ∈ l, x.halved) (h2 : 1 < l.length) : ∃ q, l.length = q + q ∧ 1 ≤ q ∧ (foldN n (l.take q)).2 = 0 ∧ (foldN n (l.drop q)).2 = 0 ∧ joinN n (foldN n (l.take q)).1 (foldN n (l.drop q)).1 = foldN n l ∧
    ((foldN n (l.take q)).1.halved ∧ (foldN n (l.take q)).1.hash.size ≤ 32) ∧ (foldN n (l.drop q)).1.halved ∧ (foldN n (l.drop q)).1.hash.size ≤ 32 := by
  obtain ⟨k, hk8, hlk, hV, hfe, hroom⟩ := foldN_zero hl h hh
  obtain ⟨hmw, hof⟩ := allW_mem hV
  cases k with
  | zero => rw [hlk] at h2; exact absurd h2 (by decide)
  | succ k =>
    have hq : l.length = 2 ^ k + 2 ^ k := by rw [hlk, pow_two]
    have t1 : (l.take (2 ^ k)).length = 2 ^ k := by rw [List.length_take]; omega
    have t2 : (l.drop (2 ^ k)).length = 2 ^ k := by rw [List.length_drop]; omega
    have a1 : allW n (l.take (2 ^ k)) = true := by
      rw [allW, hmw, Bool.true_and]
      exact List.all_eq_true.2 fun y hy => hof y (List.mem_of_mem_take hy)
    have a2 : allW n (l.drop (2 ^ k)) = true := by
      rw [allW, hmw, Bool.true_and]
      exact List.all_eq_true.2 fun y hy => hof y (List.mem_of_mem_drop hy)
    have e1 : foldN n (l.take (2 ^ k)) = foldS n k (l.take (2 ^ k)) := foldN_pow a1 t1 (by omega)
    have e2 : foldN n (l.drop (2 ^ k)) = foldS n k (l.drop (2 ^ k)) := foldN_pow a2 t2 (by omega)
    have e3 : foldN n l = foldS n (k + 1) l := hfe
    rw [e3, foldS] at h
    have hb : (foldS n k (l.take (2 ^ k))).2 = 0 ∧ (foldS n k (l.drop (2 ^ k))).2 = 0 := by
      by_cases hb : (foldS n k (l.take (2 ^ k))).2 = 0 ∧ (foldS n k (l.drop (2 ^ k))).2 = 0
      · exact hb
      · rw [if_neg hb] at h; cases h
    obtain ⟨o1, w1⟩ := fold_good hmw t1 (fun x hx => hh x (List.mem_of_mem_take hx)) (fun x hx => hof x (List.mem_of_mem_take hx)) hb.1
    obtain ⟨o2, w2⟩ := fold_good hmw t2 (fun x hx => hh x (List.mem_of_mem_drop hx)) (fun x hx => hof x (List.mem_of_mem_drop hx)) hb.2
    refine ⟨2 ^ k, hq, Nat.two_pow_pos k, by rw [e1]; exact hb.1, by rw [e2]; exact hb.2, ?_, ⟨by rw [e1]; exact w1, by rw [e1]; exact of_size o1⟩, by rw [e2]; exact w2, by rw [e2]; exact of_size o2⟩
    rw [e1, e2, e3, joinN, o1, o2, if_pos (by decide), foldS, if_pos hb]
/-- A climb by some, and then by others. -/
theorem climb_parts {n : Int} {x : Nd} {p : Nat} {r : List Nd} (k : Nat) (hk : k ≤ r.length) (hx : x.halved) (hr : ∀ z ∈ r, z.halved) (h : (climbN n x p r).2 = 0) :
    (climbN n x p (r.take k)).2 = 0 ∧ climbN n (climbN n x p (r.take k)).1 (p / 2 ^ k) (r.drop k) = climbN n x p r ∧ (climbN n x p (r.take k)).1.halved := by
  cases hw : (x.of n && allW n r) with
  | false => rw [climbN, if_neg (by rw [hw]; decide)] at h; cases h
  | true =>
    by_cases h63 : r.length ≤ 63
    · have e : climbN n x p r = climbS n x p r := by rw [climbN, if_pos hw, if_pos h63]
      rw [e] at h ⊢
      obtain ⟨hxo, ha⟩ : x.of n = true ∧ allW n r = true := by simpa using hw
      obtain ⟨hmw, hof⟩ := allW_mem ha
      have a1 : allW n (r.take k) = true := by
        rw [allW, hmw, Bool.true_and]
        exact List.all_eq_true.2 fun y hy => hof y (List.mem_of_mem_take hy)
      have a2 : allW n (r.drop k) = true := by
        rw [allW, hmw, Bool.true_and]
        exact List.all_eq_true.2 fun y hy => hof y (List.mem_of_mem_drop hy)
      have l1 : (r.take k).length = k := by rw [List.length_take]; omega
      have l2 : (r.drop k).length ≤ 63 := by rw [List.length_drop]; omega
      have e1 : climbN n x p (r.take k) = climbS n x p (r.take k) := by rw [climbN, hxo, a1, if_pos (by decide), if_pos (by omega)]
      have h1 : (climbS n x p (r.take k)).2 = 0 := by
        by_cases h1 : (climbS n x p (r.take k)).2 = 0
        · exact h1
        · have := climb_stop n (r.take k) x p (r.drop k) h1
          rw [List.take_append_drop] at this
          rw [this] at h
          cases h
      have hm := climb_more n (r.take k) x p (r.drop k) h1
      rw [List.take_append_drop, l1] at hm
      have hs := climb_sums hmw (r.take k) x p hx hxo (fun z hz => hr z (List.mem_of_mem_take hz))
      have hf : (climbS n x p (r.take k)).1.of n = true ∧ (climbS n x p (r.take k)).1.halved := by
        cases hroom : room (x.sum + sumN (r.take k)) with
        | true => exact ⟨(hs.1 hroom).2.1, (hs.1 hroom).2.2.1⟩
        | false => rw [hs.2 hroom] at h1; cases h1
      refine ⟨by rw [e1]; exact h1, ?_, by rw [e1]; exact hf.2⟩
      rw [e1, climbN, hf.1, a2, if_pos (by decide), if_pos l2, hm]
    · rw [climbN, if_pos hw, if_neg h63] at h; cases h
end Go.Proofs.YtjbaeiifamendaaDoor
