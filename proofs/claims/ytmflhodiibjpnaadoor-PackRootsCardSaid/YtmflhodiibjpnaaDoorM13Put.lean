/- Several of my texts, laid as one. -/
import Derived.Test.YtmflhodiibjpnaaDoorM13Fn
import Derived.Test.YtmflhodiibjpnaaDoorW7Leaf
/-
  pack, walked: how each sort is written.
-/
namespace Go.Proofs.YtmflhodiibjpnaaDoor
set_option linter.unusedVariables false
set_option linter.unusedSimpArgs false
set_option maxRecDepth 10000
open Go.RowKit

theorem putB_app (o : Option ByteArray) (a b : List UInt8) : putB (putB o (ofL a)) (ofL b) = putB o (ofL (a ++ b)) := by rw [putB_two, ofL_app]
/-- What is written of a thing. -/
abbrev Puts (k : FuncId) (args : Array Value) (w : World) (g : Nat) (o : Option ByteArray) (l : List UInt8) : Prop :=
  Calls Tryd.prog k args w fun e w' => e = .returned (.tuple #[]) ∧ OutS w' g (putB o (ofL l)) ∧ Off (One g) w w'
set_option maxHeartbeats 1000000 in
theorem putR_any (g : Nat) (o : Option ByteArray) (x : RtP) (hs : x.hash.size ≤ 4611686018427387903) (hw : Word x.h ∧ Word x.l) (w : World) (h : OutS w g o) : Puts 23 #[.pointer (some ⟨g, 0, none⟩), x.val] w g o (rtY x) := by
  obtain ⟨s, hh, l, n⟩ := x
  simp only at hs hw
  have c1 := fun u hu => out_text g o s hs u hu
  have c2 := fun u hu => out_wide g (putB o (ofL (textL s))) hh l hw.1 hw.2 u hu
  have c3 := fun u hu => out_num g (putB o (ofL (textL s ++ wideL hh l))) (n % 18446744073709551616) ⟨by omega, by omega⟩ u hu
  rw [putB_app] at c2 c3
  rw [show textL s ++ wideL hh l ++ wideL 0 (n % 18446744073709551616) = rtY ⟨s, hh, l, n⟩ from rfl] at c3
  have hwr : IntKind.u64.wrap n = n % 18446744073709551616 := IntKind.wrap_u64 n
  generalize n % 18446744073709551616 = m at *
  generalize rtY ⟨s, hh, l, n⟩ = R at *
  generalize textL s ++ wideL hh l = T2 at *
  generalize textL s = T1 at *
  show Puts _ #[_, .agg (rtB s hh l n)] _ _ _ _
  have W0 := (Wp.start h).add 32 (rtB s hh l n)
  go_enter Tryd.func23, Tryd.ntmps23
  go_upto_region 1 with fail
  change Code.wp _ _ _ _ (w.alloc (.cells (rtB s hh l n) 32))
  have hL : Below w.heap.size w (w.alloc (.cells (rtB s hh l n) 32)) := chainA (Below.refl _ _) _
  generalize w.alloc (.cells (rtB s hh l n) 32) = V0 at *
  obtain ⟨⟨q0, q1, q2, q3⟩, -, hin⟩ := (W0.box 0).four
  go_upto_region 2 with (first | (go_at_call 24; refine (c1 _ W0.outS).mono ?_; rintro e w1 ⟨rfl, s1, k1⟩) | fail)
  have W1 := W0.put s1 k1
  obtain ⟨⟨q0, q1, q2, q3⟩, -, hin⟩ := (W1.box 0).four
  go_upto_region 3 with (first | (go_at_call 25; refine (c2 _ W1.outS).mono ?_; rintro e w2 ⟨rfl, s2, k2⟩) | fail)
  have W2 := W1.put s2 k2
  obtain ⟨⟨q0, q1, q2, q3⟩, -, hin⟩ := (W2.box 0).four
  go_wp2_with (first | (go_at_call 26; refine (c3 _ W2.outS).mono ?_; rintro e w3 ⟨rfl, s3, k3⟩) | fail)
  go_end0
  exact ⟨rfl, s3, (W2.put s3 k3).off⟩
set_option maxHeartbeats 1000000 in
theorem putL_any (g : Nat) (o : Option ByteArray) (x : Lf) (h1 : x.id.size ≤ 4611686018427387903) (h2 : x.salt.size ≤ 4611686018427387903) (hw : x.words) (w : World) (h : OutS w g o) : Puts 35 #[.pointer (some ⟨g, 0, none⟩), x.val] w g o (lfY x) := by
  obtain ⟨p, i, s, hh, l⟩ := x
  simp only at h1 h2
  have c0 := fun u hu => out_flag g o p u hu
  have c1 := fun u hu => out_text g (putB o (ofL [b01 p])) i h1 u hu
  have c2 := fun u hu => out_text g (putB o (ofL ([b01 p] ++ textL i))) s h2 u hu
  have c3 := fun u hu => out_wide g (putB o (ofL ([b01 p] ++ textL i ++ textL s))) hh l hw.1 hw.2 u hu
  rw [putB_app] at c1 c2 c3
  rw [show [b01 p] ++ textL i ++ textL s ++ wideL hh l = lfY ⟨p, i, s, hh, l⟩ by simp [lfY]] at c3
  generalize lfY ⟨p, i, s, hh, l⟩ = R at *
  generalize [b01 p] ++ textL i ++ textL s = T3 at *
  generalize [b01 p] ++ textL i = T2 at *
  generalize [b01 p] = T1 at *
  show Puts _ #[_, .agg (lfB p i s hh l)] _ _ _ _
  have W0 := (Wp.start h).add 46 (lfB p i s hh l)
  go_enter Tryd.func35, Tryd.ntmps35
  go_upto_region 1 with fail
  change Code.wp _ _ _ _ (w.alloc (.cells (lfB p i s hh l) 46))
  have hL : Below w.heap.size w (w.alloc (.cells (lfB p i s hh l) 46)) := chainA (Below.refl _ _) _
  generalize w.alloc (.cells (lfB p i s hh l) 46) = V0 at *
  obtain ⟨⟨q0, q1, q2, q3, q4⟩, -, hin⟩ := (W0.box 0).five0
  go_upto_region 2 with (first | (go_at_call 36; refine (c0 _ W0.outS).mono ?_; rintro e w1 ⟨rfl, s1, k1⟩) | fail)
  have W1 := W0.put s1 k1
  obtain ⟨⟨q0, q1, q2, q3, q4⟩, -, hin⟩ := (W1.box 0).five0
  clear W0 s1 k1
  go_upto_region 3 with (first | (go_at_call 24; refine (c1 _ W1.outS).mono ?_; rintro e w2 ⟨rfl, s2, k2⟩) | fail)
  have W2 := W1.put s2 k2
  obtain ⟨⟨q0, q1, q2, q3, q4⟩, -, hin⟩ := (W2.box 0).five0
  clear W1 s2 k2
  go_upto_region 4 with (first | (go_at_call 24; refine (c2 _ W2.outS).mono ?_; rintro e w3 ⟨rfl, s3, k3⟩) | fail)
  have W3 := W2.put s3 k3
  obtain ⟨⟨q0, q1, q2, q3, q4⟩, -, hin⟩ := (W3.box 0).five0
  clear W2 s3 k3
  go_wp2_with (first | (go_at_call 25; refine (c3 _ W3.outS).mono ?_; rintro e w4 ⟨rfl, s4, k4⟩) | fail)
  go_end0
  exact ⟨rfl, s4, (W3.put s4 k4).off⟩
end Go.Proofs.YtmflhodiibjpnaaDoor
