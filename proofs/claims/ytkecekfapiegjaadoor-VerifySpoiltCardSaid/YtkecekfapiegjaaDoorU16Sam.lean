/-
  Whether two entries are the same: the program's word and the document's, walked.
-/
import Derived.Test.YtkecekfapiegjaaDoorM14One
import Derived.Test.YtkecekfapiegjaaDoorM16Ent
namespace Go.Proofs.YtkecekfapiegjaaDoor
set_option linter.unusedVariables false
set_option linter.unusedSimpArgs false
set_option maxRecDepth 10000
open Go.RowKit

/-- Are two entries the same? -/
def sameE (x y : Lf) (p q : Int) (a b : List Nd) : Bool := x.same y && (p == q) && decide (a = b)
set_option maxRecDepth 100000 in
set_option maxHeartbeats 4000000 in
theorem same16_any (x y : Lf) (p q : Int) (A B : Option Addr) (c d : Nat) (a b : List Nd) (ha : a.length ≤ 1000000000) (hb : b.length ≤ 1000000000) (w : World) (hA : ndS.Row w w.heap.size A a) (hB : ndS.Row w w.heap.size B b) :
    Calls Tryd.prog 25 #[.agg (enV x p A a.length c), .agg (enV y q B b.length d)] w (Tells (.bool (sameE x y p q a b)) w.heap.size w) := by
  have cE := fun u h1 h2 => eqN_any A B c d a b ha hb u h1 h2
  have J0 := ((Has.start w).addAt 39 (enV x p A a.length c) (g := w.heap.size) rfl).addAt 39 (enV y q B b.length d) (g := w.heap.size + 1) (by simp)
  obtain ⟨⟨y0, y1, y2, y3, y4, y5, y6⟩, yin⟩ := (J0.box 0).seven
  obtain ⟨⟨x0, x1, x2, x3, x4, x5, x6⟩, xin⟩ := (J0.box 1).seven
  have eV : sameE x y p q a b = (x.same y && (p == q) && decide (a = b)) := rfl
  obtain ⟨V, hV⟩ : ∃ V, sameE x y p q a b = V := ⟨_, rfl⟩
  rw [hV] at eV ⊢
  clear hV
  have hq := run_eql_lf x y
  obtain ⟨S, hS⟩ : ∃ S, x.same y = S := ⟨_, rfl⟩
  obtain ⟨P, hP⟩ : ∃ P, (p == q) = P := ⟨_, rfl⟩
  rw [hS] at hq eV
  rw [hP] at eV
  clear hS
  obtain ⟨N, hN⟩ : ∃ N, a.length = N := ⟨_, rfl⟩
  obtain ⟨M, hM⟩ : ∃ M, b.length = M := ⟨_, rfl⟩
  rw [hN] at cE J0 x6 ha ⊢
  rw [hM] at cE J0 y6 hb ⊢
  obtain ⟨D, hD⟩ : ∃ D, decide (a = b) = D := ⟨_, rfl⟩
  rw [hD] at cE eV
  clear hD hN hM
  obtain ⟨xp, xi, xs, xh, xl⟩ := x
  obtain ⟨yp, yi, ys, yh, yl⟩ := y
  simp only [Lf.val] at x0 x1 x2 x3 x4 y0 y1 y2 y3 y4 hq
  cases S with
  | false =>
    rw [Bool.false_and, Bool.false_and] at eV
    subst eV
    clear cE
    go_enter Tryd.func25, Tryd.ntmps25
    go_wp2
    go_ret
    exact ⟨rfl, J0.below⟩
  | true =>
    rw [Bool.true_and] at eV
    cases P with
    | false =>
      rw [Bool.false_and] at eV
      subst eV
      clear cE
      go_enter Tryd.func25, Tryd.ntmps25
      go_wp2
      go_ret
      exact ⟨rfl, J0.below⟩
    | true =>
      rw [Bool.true_and] at eV
      subst eV
      go_enter Tryd.func25, Tryd.ntmps25
      go_wp2_with (first | (go_at_call 48; refine (cE _ (hA.on J0.below) (hB.on J0.below)).mono ?_; rintro e w2 ⟨rfl, b2⟩; have J2 := J0.call b2) | fail)
      go_ret
      exact ⟨rfl, J2.below⟩
theorem sameE_self (x : Lf) (p : Int) (a : List Nd) : sameE x x p p a a = true := by
  rw [sameE, (Lf.same_iff x x).2 rfl, decide_eq_true rfl]; simp
theorem sameE_turn (x y : Lf) (p q : Int) (a b : List Nd) : sameE y x q p b a = sameE x y p q a b := by
  have h1 : y.same x = x.same y := by
    rw [Bool.eq_iff_iff, Lf.same_iff, Lf.same_iff]
    exact eq_comm
  have h2 : (q == p) = (p == q) := by
    rw [Bool.eq_iff_iff, beq_iff_eq, beq_iff_eq]
    exact eq_comm
  have h3 : decide (b = a) = decide (a = b) := decide_eq_decide.2 eq_comm
  rw [sameE, sameE, h1, h2, h3]
end Go.Proofs.YtkecekfapiegjaaDoor
