/-
  The law of layer 3 on orders at no row at all: no condition.
-/
import Derived.Test.YtpafamlegfdclaaU3Awake
import Derived.Test.YtpafamlegfdclaaC3Nums
import Derived.Test.YtpafamlegfdclaaF3Flat
import Derived.Test.YtpafamlegfdclaaW0Lift
namespace Go.Proofs.Ytpafamlegfdclaa
set_option linter.unusedVariables false
set_option linter.unusedSimpArgs false
open Go.ChangeShapes Go.WideShapes Go.ChangeAt Go.RowKit

set_option maxRecDepth 100000 in
set_option maxHeartbeats 8000000 in
theorem worders_nil (at_ : Int) (w : World) :
    Calls Try.prog 6 #[.slice none 0 0, .int .i64 at_] w (Tells (.bool true) w.heap.size w) := by
  obtain ⟨u, hu⟩ : ∃ u, IntKind.u64.wrap at_ = u := ⟨_, rfl⟩
  have u0 : 0 ≤ u := by rw [← hu, IntKind.wrap_u64]; omega
  have hK : u % 1 = 0 := by omega
  have c1 := fun v : World => all_any none 0 [] allnum_nil (by simp) v (NumRow.nil _ _ _)
  have c2 := fun v : World => balanced_any none none 0 0 [] [] allnum_nil allnum_nil (by simp) (by simp) v (NumRow.nil _ _ _) (NumRow.nil _ _ _)
  have c3 := fun v : World => and_any 0 0 0 0 0 0 word_lit word_lit word_lit word_lit word_lit word_lit v
  rw [told, show wH (sumN []) = 0 by decide, show wh (sumN []) = 0 by decide, show wl (sumN []) = 0 by decide, List.length_nil] at c1
  rw [show decide (sumN [] = sumN []) = true by decide, List.length_nil] at c2
  rw [told, show wH (wv 0 0 0 + wv 0 0 0) = 0 by decide, show wh (wv 0 0 0 + wv 0 0 0) = 0 by decide, show wl (wv 0 0 0 + wv 0 0 0) = 0 by decide] at c3
  have hq1 := fun v : World => neq_wide_same 0 0 0 v
  have hq2 := fun v : World => eql_wide_same 0 0 0 v
  go_enter Try.func6, Try.ntmps6
  go_wp2_with (first
    | (go_at_call 24; refine (wawake_any _).mono ?_; rintro e w1 ⟨rfl, h1⟩)
    | fail)
  refine wp_loop_rounds 1 ?_
  rw [rounds_succ]
  go_upto_region 12 with (first
    | (go_at_call 21; refine (c1 _).mono ?_; rintro e w2 ⟨rfl, h2⟩)
    | fail)
  have M2 := (((Has.start w).call h1).call h2).add 26 #[.int .u64 0, .int .u64 0, .int .u64 0]
  generalize w2.alloc (.cells #[.int .u64 0, .int .u64 0, .int .u64 0] 26) = W2 at *
  clear h1 h2
  have fact : ∀ v, Has w [(w2.heap.size, 26, #[.int .u64 0, .int .u64 0, .int .u64 0])] v → v.cell? ⟨w2.heap.size, 0, none⟩ = some (.int .u64 0) ∧ v.cell? ⟨w2.heap.size, 1, none⟩ = some (.int .u64 0) ∧ v.cell? ⟨w2.heap.size, 2, none⟩ = some (.int .u64 0) := fun v hv => ⟨(hv.box 0).read 0, (hv.box 0).read 1, (hv.box 0).read 2⟩
  go_region_held3 (fun w' => Has w [(w2.heap.size, 26, #[.int .u64 0, .int .u64 0, .int .u64 0])] w' ∧ w'.cell? ⟨w2.heap.size, 0, none⟩ = some (.int .u64 0) ∧ w'.cell? ⟨w2.heap.size, 1, none⟩ = some (.int .u64 0) ∧ w'.cell? ⟨w2.heap.size, 2, none⟩ = some (.int .u64 0))
    (first | exact held_drew fact M2 | exact held_keep fact (by assumption) (by assumption) | exact held_past fact (by assumption) _ | fail)
    (first
      | (go_at_call 21; ((with_reducible refine (c1 _).mono ?_); rintro e q1 ⟨rfl, j1⟩))
      | (go_at_call 15; ((with_reducible refine (c3 _).mono ?_); rintro e q4 ⟨rfl, j4⟩))
      | (go_at_call 23; ((with_reducible refine (c2 _).mono ?_); rintro e q6 ⟨rfl, j6⟩))
      | fail)
  have hh : ∃ Q, Has w [(w2.heap.size, 26, #[.int .u64 0, .int .u64 0, .int .u64 0])] q6 ∧ Q := ⟨_, by assumption⟩
  obtain ⟨Q, M3, -⟩ := hh
  obtain ⟨p1, p2, p3, p4, p5, p6, p7⟩ := (M3.box 0).three
  go_wp2
  refine wp_loop_rounds 1 ?_
  rw [rounds_succ]
  go_wp2
  go_ret
  exact ⟨rfl, (M3.past _).below⟩

end Go.Proofs.Ytpafamlegfdclaa
