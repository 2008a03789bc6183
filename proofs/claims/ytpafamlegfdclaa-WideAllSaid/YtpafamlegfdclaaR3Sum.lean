/-
  paymasterref03.All, walked: the sum of any row of numbers, by definition.
-/
import Derived.Test.YtpafamlegfdclaaR3And
namespace Go.Proofs.Ytpafamlegfdclaa
set_option linter.unusedVariables false
set_option linter.unusedSimpArgs false
open Go.RowKit

set_option maxHeartbeats 4000000 in
theorem rwall_any (A : Option Addr) (c : Nat) (xs : List (Int × Int)) (hx : AllNum xs) (hm : xs.length ≤ 1000000) (w : World) (hr : NumRow w w.heap.size A xs) :
    Calls Try.prog 22 #[.slice A xs.length c] w (Tells (told (sumN xs)) w.heap.size w) := by
  have M0 := ((Has.start w).add 26 #[.int .u64 0, .int .u64 0, .int .u64 0]).addAt 26 #[.int .u64 0, .int .u64 0, .int .u64 0] (g := w.heap.size + 1) (by simp)
  go_enter Try.func22, Try.ntmps22
  go_wp2
  generalize (w.alloc (.cells #[.int .u64 0, .int .u64 0, .int .u64 0] 26)).alloc (.cells #[.int .u64 0, .int .u64 0, .int .u64 0] 26) = W0 at *
  go_loopg [4] xs.length (fun gk i wr => ∃ k : Nat, k ≤ xs.length ∧ gk = xs.length - k ∧ i = .int .i64 k ∧
    Has w [(w.heap.size + 1, 26, #[.int .u64 (wH (sumN (xs.take k))), .int .u64 (wh (sumN (xs.take k))), .int .u64 (wl (sumN (xs.take k)))]), (w.heap.size, 26, #[.int .u64 0, .int .u64 0, .int .u64 0])] wr)
  case atStart =>
    refine ⟨0, by omega, rfl, rfl, ?_⟩
    rw [List.take_zero, show wH (sumN []) = 0 by decide, show wh (sumN []) = 0 by decide, show wl (sumN []) = 0 by decide]
    exact M0
  case round =>
    obtain ⟨k, hk, rfl, rfl, hbx⟩ := hrel
    obtain ⟨p1, p2, p3, p4, p5, p6, p7⟩ := (hbx.box 0).three
    by_cases hlt : k < xs.length
    · obtain ⟨p, hp⟩ : ∃ p : Int × Int, xs[k] = p := ⟨_, rfl⟩
      obtain ⟨ad, rfl, had, c0, c1⟩ := hr k p.1 p.2 (by rw [List.getElem?_eq_getElem hlt, hp])
      have c0' : wr.cell? (ad.add (k * 2)) = some (.int .u64 p.1) := by rw [hbx.below.cell (by rw [add_block]; exact had)]; exact c0
      have c1' : wr.cell? ⟨(ad.add (k * 2)).block, (ad.add (k * 2)).off + 1, none⟩ = some (.int .u64 p.2) := by
        have e : (⟨(ad.add (k * 2)).block, (ad.add (k * 2)).off + 1, none⟩ : Addr) = ad.add (k * 2 + 1) := by rw [← add_two]; rfl
        rw [e, hbx.below.cell (by rw [add_block]; exact had)]; exact c1
      have e1 := sumN_take hlt
      rw [hp] at e1
      obtain ⟨w1, w2⟩ := hx p (by rw [← hp]; exact List.getElem_mem hlt)
      have hs := sumN_nonneg (hx.take k)
      obtain ⟨k1, k2, k3⟩ := wide_word hs
      have cT := fun (u : World) => rwplus_any (wH (sumN (xs.take k))) (wh (sumN (xs.take k))) (wl (sumN (xs.take k))) p.1 p.2 k1 k2 k3 w1 w2 u
      obtain ⟨f1, f2, f3⟩ := told_plus hs (nv_word w1 w2).1
      rw [told, f1, f2, f3, ← e1] at cT
      have i0' : (0 : Int) ≤ (k : Int) := by omega
      have i1' : (k : Int) < (xs.length : Int) := by omega
      clear e1 hp f1 f2 f3 k1 k2 k3 hs c0 c1
      have hkk : k + 1 ≤ xs.length := by omega
      generalize hX : wH (sumN (xs.take k)) = X at *
      generalize wh (sumN (xs.take k)) = x at *
      generalize wl (sumN (xs.take k)) = y at *
      obtain ⟨X', eX⟩ : ∃ X', wH (sumN (xs.take (k + 1))) = X' := ⟨_, rfl⟩
      obtain ⟨x', ex⟩ : ∃ X', wh (sumN (xs.take (k + 1))) = X' := ⟨_, rfl⟩
      obtain ⟨y', ey⟩ : ∃ X', wl (sumN (xs.take (k + 1))) = X' := ⟨_, rfl⟩
      rw [eX, ex, ey] at cT
      have EX := hideIt eX
      have Ex := hideIt ex
      have Ey := hideIt ey
      clear eX ex ey hX
      go_upto_region 5 with fail
      go_region_with (first
        | (go_at_call 14; refine (cT _).mono ?_; rintro e u1 ⟨rfl, h1⟩
           have M1 := hbx.drew.call h1
           obtain ⟨r1, r2, r3, r4, r5, r6, r7⟩ := (M1.box 0).three))
      all_goals go_wp2
      all_goals go_roundg (xs.length - (k + 1))
      all_goals first
        | omega
        | exact ⟨k + 1, hkk, rfl, by go_num, by rw [EX.out, Ex.out, Ey.out]; exact ((M1.wrote (by omega) (by simp) 0 _).wrote (by omega) (by simp) 1 _).wrote (by omega) (by simp) 2 _⟩
    · have e : k = xs.length := by omega
      subst e
      have ht : xs.take xs.length = xs := List.take_of_length_le (Nat.le_refl _)
      rw [ht] at hbx p1 p2 p3
      clear ht
      obtain ⟨q1, q2, q3, q4, q5, q6, q7⟩ := (hbx.box 1).three
      go_wp2
      have R9 := (((hbx.box 1).wrote 0 (.int .u64 (wH (sumN xs)))).wrote 1 (.int .u64 (wh (sumN xs)))).wrote 2 (.int .u64 (wl (sumN xs)))
      have e0 := R9.read 0
      have e1 := R9.read 1
      have e2 := R9.read 2
      simp only [Nat.reduceLT, List.setIfInBounds_toArray, List.set_cons_zero, List.set_cons_succ, List.getElem?_toArray, List.getElem?_cons_zero, List.getElem?_cons_succ] at e0 e1 e2
      have L9 := hbx.below
      have hw : w.heap.size ≤ w.heap.size := Nat.le_refl _
      exact bodyPost_ret (v := told (sumN xs)) (by simp [results, Try.results22, go_sem, e0, e1, e2]) rfl ⟨rfl, ((L9.setCell hw _).setCell hw _).setCell hw _⟩
end Go.Proofs.Ytpafamlegfdclaa
