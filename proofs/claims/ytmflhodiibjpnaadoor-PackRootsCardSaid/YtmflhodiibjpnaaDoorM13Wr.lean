/- Several of my texts, laid as one. -/
import Derived.Test.YtmflhodiibjpnaaDoorM13Fn
import Derived.Test.YtmflhodiibjpnaaDoorW7Leaf
import Derived.Test.YtmflhodiibjpnaaDoorU7Leaf
/-
  pack, walked: what is wrong with a thing: long, first, of nodes, roots, leaves, rows of nodes, proofs.
-/
namespace Go.Proofs.YtmflhodiibjpnaaDoor
set_option linter.unusedVariables false
set_option linter.unusedSimpArgs false
set_option maxRecDepth 10000
open Go.RowKit

/-- What is told of two errors. -/
def fst2 (a b : Int) : Int := if a = 0 ∨ b = 130 then b else a
def wrLong (b : Bool) : Int := if b then 3 else 0
def wrN (x : Nd) : Int := wrLong (decide (32 < x.hash.size))
def wrR (x : RtP) : Int := wrLong x.long
def wrLf (x : Lf) : Int := if x.may then 0 else 130
def wrNs (l : List Nd) : Int := l.foldl (fun e x => fst2 e (wrN x)) (wrLong (decide (2048 < l.length)))
theorem fold_N : ∀ (l : List Nd) (b : Bool), l.foldl (fun e x => fst2 e (wrN x)) (wrLong b) = wrLong (b || l.any (fun n => decide (32 < n.hash.size)))
  | [], b => by simp
  | x :: r, b => by
    rw [List.foldl_cons]
    have e : fst2 (wrLong b) (wrN x) = wrLong (b || decide (32 < x.hash.size)) := by
      unfold wrN
      cases b <;> cases decide (32 < x.hash.size) <;> rfl
    rw [e, fold_N r, List.any_cons, Bool.or_assoc]
theorem wrNs_long (l : List Nd) : wrNs l = wrLong (longN l) := fold_N l _
theorem long_any (b : Bool) (w : World) : Calls Tryd.prog 32 #[.bool b] w (Still (.int .i64 (wrLong b)) w) := by
  cases b with
  | true =>
    go_enter Tryd.func32, Tryd.ntmps32
    go_wp2
    go_ret
    exact ⟨rfl, rfl⟩
  | false =>
    go_enter Tryd.func32, Tryd.ntmps32
    go_wp2
    go_ret
    exact ⟨rfl, rfl⟩
set_option maxHeartbeats 1000000 in
theorem wrR_any (x : RtP) (hs : x.hash.size ≤ 9223372036854775807) (w : World) : Calls Tryd.prog 31 #[x.val] w (Tells (.int .i64 (wrR x)) w.heap.size w) := by
  obtain ⟨s, h, l, n⟩ := x
  simp only at hs
  have c := fun b u => long_any b u
  unfold wrR RtP.long
  simp only
  show Calls _ _ #[.agg (rtB s h l n)] _ _
  by_cases h1 : 32 < s.size
  · have h1i : (32 : Int) < (s.size : Int) := by omega
    rw [decide_eq_true h1, Bool.true_or]
    have H0 := (Has.start w).add 32 (rtB s h l n)
    go_enter Tryd.func31, Tryd.ntmps31
    go_upto_region 1 with fail
    change Code.wp _ _ _ _ (w.alloc (.cells (rtB s h l n) 32))
    generalize w.alloc (.cells (rtB s h l n) 32) = V0 at *
    obtain ⟨⟨q0, q1, q2, q3⟩, -, hin⟩ := (H0.box 0).four
    go_wp2_with (first | (go_at_call 32; refine (c _ _).mono ?_; rintro e w1 ⟨rfl, rfl⟩) | fail)
    go_ret
    exact ⟨rfl, H0.below⟩
  · have h1i : ¬ ((32 : Int) < (s.size : Int)) := by omega
    rw [decide_eq_false h1, Bool.false_or]
    by_cases h2 : n < 0
    · rw [decide_eq_true h2, Bool.true_or]
      have H0 := (Has.start w).add 32 (rtB s h l n)
      go_enter Tryd.func31, Tryd.ntmps31
      go_upto_region 1 with fail
      change Code.wp _ _ _ _ (w.alloc (.cells (rtB s h l n) 32))
      generalize w.alloc (.cells (rtB s h l n) 32) = V0 at *
      obtain ⟨⟨q0, q1, q2, q3⟩, -, hin⟩ := (H0.box 0).four
      go_wp2_with (first | (go_at_call 32; refine (c _ _).mono ?_; rintro e w1 ⟨rfl, rfl⟩) | fail)
      go_ret
      exact ⟨rfl, H0.below⟩
    · rw [decide_eq_false h2, Bool.false_or]
      obtain ⟨b, hb⟩ : ∃ b, decide (63 < n) = b := ⟨_, rfl⟩
      rw [hb]
      have H0 := (Has.start w).add 32 (rtB s h l n)
      go_enter Tryd.func31, Tryd.ntmps31
      go_upto_region 1 with fail
      change Code.wp _ _ _ _ (w.alloc (.cells (rtB s h l n) 32))
      generalize w.alloc (.cells (rtB s h l n) 32) = V0 at *
      obtain ⟨⟨q0, q1, q2, q3⟩, -, hin⟩ := (H0.box 0).four
      go_wp2_with (first | (go_at_call 32; refine (c _ _).mono ?_; rintro e w1 ⟨rfl, rfl⟩) | fail)
      go_ret
      exact ⟨rfl, H0.below⟩
set_option maxHeartbeats 1000000 in
theorem wrL_any (x : Lf) (h1 : x.id.size ≤ 9223372036854775807) (h2 : x.salt.size ≤ 9223372036854775807) (w : World) (hT : TabU w) : Calls Tryd.prog 39 #[x.val] w (Tells (.int .i64 (wrLf x)) w.heap.size w) := by
  have c := fun u hu => mayLeaf_any x h1 h2 u hu
  unfold wrLf
  obtain ⟨p, i, s, h, l⟩ := x
  simp only [Lf.val] at c ⊢
  generalize Lf.may ⟨p, i, s, h, l⟩ = b at *
  have T0 := hT.past (.cells (lfB p i s h l) 46)
  cases b with
  | true =>
    have H0 := (Has.start w).add 46 (lfB p i s h l)
    go_enter Tryd.func39, Tryd.ntmps39
    go_upto_region 1 with fail
    change Code.wp _ _ _ _ (w.alloc (.cells (lfB p i s h l) 46))
    generalize w.alloc (.cells (lfB p i s h l) 46) = V0 at *
    obtain ⟨⟨q0, q1, q2, q3, q4⟩, -, hin⟩ := (H0.box 0).five0
    go_wp2_with (first | (go_at_call 40; refine (c _ T0).mono ?_; rintro e w1 ⟨rfl, j1⟩) | fail)
    go_ret
    exact ⟨rfl, chain H0.below j1⟩
  | false =>
    have H0 := (Has.start w).add 46 (lfB p i s h l)
    go_enter Tryd.func39, Tryd.ntmps39
    go_upto_region 1 with fail
    change Code.wp _ _ _ _ (w.alloc (.cells (lfB p i s h l) 46))
    generalize w.alloc (.cells (lfB p i s h l) 46) = V0 at *
    obtain ⟨⟨q0, q1, q2, q3, q4⟩, -, hin⟩ := (H0.box 0).five0
    go_wp2_with (first | (go_at_call 40; refine (c _ T0).mono ?_; rintro e w1 ⟨rfl, j1⟩) | fail)
    go_ret
    exact ⟨rfl, chain H0.below j1⟩
end Go.Proofs.YtmflhodiibjpnaaDoor
