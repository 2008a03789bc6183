/-
  paymasterlaw07.LongLeaf, walked; leaves and nodes that are the same.
-/
import Derived.Test.YtkmnfogcocppjaaDoorU7Leaf
namespace Go.Proofs.YtkmnfogcocppjaaDoor
set_option linter.unusedVariables false
set_option linter.unusedSimpArgs false
set_option maxRecDepth 10000
open Go.RowKit

set_option maxHeartbeats 1000000 in
theorem long_any (x : Lf) (h1 : x.id.size ≤ 9223372036854775807) (h2 : x.salt.size ≤ 9223372036854775807) (w : World) : Calls Tryd.prog 10 #[x.val] w (Tells (.bool (decide (300 < x.id.size) || decide (300 < x.salt.size))) w.heap.size w) := by
  obtain ⟨p, i, s, h, l⟩ := x
  simp only at h1 h2 ⊢
  have B0 : Box (w.alloc (.cells (lfB p i s h l) 26)) w.heap.size 26 (lfB p i s h l) := Box.made w _ _
  have L0 : Below w.heap.size w (w.alloc (.cells (lfB p i s h l) 26)) := by repeat (first | exact Below.refl _ _ | apply Below.drew | apply below_drewN | refine Below.alloc ?_ (by simp; try omega) _ | refine Below.setCell ?_ (by simp; try omega) _)
  show Calls _ _ #[.agg (lfB p i s h l)] _ _
  obtain ⟨A, hA⟩ : ∃ A, (decide (300 < i.size) || decide (300 < s.size)) = A := ⟨_, rfl⟩
  rw [hA]
  have HA := hideIt hA
  clear hA
  go_enter Tryd.func10, Tryd.ntmps10
  go_upto_region 1 with fail
  change Code.wp _ _ _ _ (w.alloc (.cells (lfB p i s h l) 26))
  generalize w.alloc (.cells (lfB p i s h l) 26) = W at *
  obtain ⟨⟨y0, y1, y2, y3, y4⟩, -, hin1⟩ := B0.five0
  by_cases a1 : (300 : Int) < (i.size : Int)
  · have e := HA.out
    rw [decide_eq_true (show 300 < i.size by omega), Bool.true_or] at e
    subst e
    go_wp2
    go_ret
    exact ⟨rfl, L0⟩
  · have e := HA.out
    rw [decide_eq_false (show ¬ 300 < i.size by omega), Bool.false_or] at e
    have e2 : decide ((300 : Int) < (s.size : Int)) = A := by rw [← e]; exact decide_eq_decide.2 (by omega)
    clear e HA
    go_wp2
    go_ret
    exact ⟨rfl, L0⟩
theorem int64_of {x : Int} (h : (Lit.int .i64 x).wf = true) : -9223372036854775808 ≤ x ∧ x ≤ 9223372036854775807 := by
  simp [Lit.wf, IntKind.min, IntKind.max, IntKind.signed, IntKind.bits] at h
  omega
theorem eql_lf_same (x : Lf) (w : World) : (binOp .eql 26 x.val x.val).run Tryd.prog w = .ok (.bool true) w := by rw [run_eql_lf, Lf.same_self]
theorem eql_nd_same (x : Nd) (w : World) : (binOp .eql 35 x.val x.val).run Tryd.prog w = .ok (.bool true) w := by rw [run_eql_nd, Nd.same_self]
theorem Has.one {w W : World} {g : Nat} {t : TypeId} {cs : Array Value} (B : Box W g t cs) (L : Below w.heap.size w W) : Has w [(g, t, cs)] W := ⟨fun b hb => by
  obtain rfl : b = (g, t, cs) := by simpa using hb
  exact B, L⟩
end Go.Proofs.YtkmnfogcocppjaaDoor
