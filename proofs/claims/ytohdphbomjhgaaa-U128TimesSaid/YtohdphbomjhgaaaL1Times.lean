/-
  The law of layer 1: whatever number, whatever other one below 2^64: the product, the quotient, the rest, and the errors, are what their definitions, digit by digit and bit by bit, give; no condition.
-/
import Derived.Test.YtohdphbomjhgaaaR1Times
import Derived.Test.YtohdphbomjhgaaaR1Over
import Derived.Test.YtohdphbomjhgaaaU1Times
import Derived.Test.YtohdphbomjhgaaaW0Lift
namespace Go.Proofs.Ytohdphbomjhgaaa
set_option linter.unusedVariables false
set_option linter.unusedSimpArgs false
open Go.ChangeShapes Go.WideShapes Go.ChangeAt Go.RowKit

/-- A number in its block, nothing else turned. -/
def OneB (w : World) (ah al : Int) (w' : World) : Prop := Box w' w.heap.size 24 #[.int .u64 ah, .int .u64 al] ∧ Below w.heap.size w w'
section
variable {w W w' : World} {ah al : Int}
theorem OneB.call (h : OneB w ah al W) (hb : Below W.heap.size W w') : OneB w ah al w' := ⟨h.1.call hb, chain h.2 hb⟩
theorem OneB.past (h : OneB w ah al W) (o : Obj) : OneB w ah al (W.alloc o) := ⟨h.1.past o, chainA h.2 o⟩
end

set_option maxHeartbeats 8000000 in
theorem mul_walk (ah al n : Int) (a1 : Word ah) (a0 : Word al) (hn : Word n) (w : World) :
    Calls Try.prog 4 #[.agg #[.int .u64 ah, .int .u64 al], .int .u64 n] w (Tells (.bool true) w.heap.size w) := by
  have P0 : OneB w ah al (w.alloc (.cells #[.int .u64 ah, .int .u64 al] 24)) := ⟨Box.made w 24 #[.int .u64 ah, .int .u64 al], by repeat (first | exact Below.refl _ _ | apply Below.drew | apply below_drewN | refine Below.alloc ?_ (by simp; try omega) _ | refine Below.setCell ?_ (by simp; try omega) _)⟩
  have cT := times_any ah al n a1 a0 hn
  have cR := rtimes_any ah al n a1 a0 hn
  have cO := over_any ah al n a1 a0 hn
  have cV := rover_any ah al n a1 a0 hn
  unfold Fit at cT cR
  unfold OverTells at cO cV
  generalize rh (nv ah al * n) = x at *
  generalize rl (nv ah al * n) = y at *
  generalize re (nv ah al * n) = e0 at *
  generalize rh (nv ah al / n) = p at *
  generalize rl (nv ah al / n) = q at *
  generalize orest (nv ah al) n = r at *
  generalize oerr n = e1 at *
  obtain ⟨s1, s2, s3⟩ := P0.1.num
  go_enter Try.func4, Try.ntmps4
  go_upto_region 2 with (first
    | (go_at_call 20; ((with_reducible refine (cT _).mono ?_); rintro e w1 ⟨rfl, h1⟩)))
  have P1 := (P0.call h1).past (.cells #[.int .u64 x, .int .u64 y] 24)
  have X1 := Box.made w1 24 #[.int .u64 x, .int .u64 y]
  generalize w1.alloc (.cells #[.int .u64 x, .int .u64 y] 24) = W1 at *
  clear s1 s2 s3
  obtain ⟨s1, s2, s3⟩ := P1.1.num
  go_upto_region 3 with (first
    | (go_at_call 21; ((with_reducible refine (cR _).mono ?_); rintro e w2 ⟨rfl, h2⟩)))
  have P2 := (P1.call h2).past (.cells #[.int .u64 x, .int .u64 y] 24)
  have X2 := (X1.call h2).past (.cells #[.int .u64 x, .int .u64 y] 24)
  have Y2 := Box.made w2 24 #[.int .u64 x, .int .u64 y]
  generalize w2.alloc (.cells #[.int .u64 x, .int .u64 y] 24) = W2 at *
  clear s1 s2 s3
  obtain ⟨s1, s2, s3⟩ := P2.1.num
  go_upto_region 4 with (first
    | (go_at_call 22; ((with_reducible refine (cO _).mono ?_); rintro e w3 ⟨rfl, h3⟩)))
  have P3 := (P2.call h3).past (.cells #[.int .u64 p, .int .u64 q] 24)
  have X3 := (X2.call h3).past (.cells #[.int .u64 p, .int .u64 q] 24)
  have Y3 := (Y2.call h3).past (.cells #[.int .u64 p, .int .u64 q] 24)
  have Q3 := Box.made w3 24 #[.int .u64 p, .int .u64 q]
  generalize w3.alloc (.cells #[.int .u64 p, .int .u64 q] 24) = W3 at *
  clear s1 s2 s3
  obtain ⟨s1, s2, s3⟩ := P3.1.num
  go_upto_region 5 with (first
    | (go_at_call 23; ((with_reducible refine (cV _).mono ?_); rintro e w4 ⟨rfl, h4⟩)))
  have P4 := (P3.call h4).past (.cells #[.int .u64 p, .int .u64 q] 24)
  have X4 := (X3.call h4).past (.cells #[.int .u64 p, .int .u64 q] 24)
  have Y4 := (Y3.call h4).past (.cells #[.int .u64 p, .int .u64 q] 24)
  have Q4 := (Q3.call h4).past (.cells #[.int .u64 p, .int .u64 q] 24)
  have R4 := Box.made w4 24 #[.int .u64 p, .int .u64 q]
  generalize w4.alloc (.cells #[.int .u64 p, .int .u64 q] 24) = W4 at *
  clear s1 s2 s3
  obtain ⟨s1, s2, s3⟩ := X4.num
  obtain ⟨t1, t2, t3⟩ := Y4.num
  obtain ⟨u1, u2, u3⟩ := Q4.num
  obtain ⟨v1, v2, v3⟩ := R4.num
  go_wp2
  go_ret
  exact ⟨rfl, P4.2⟩

theorem u128Times_core (H : Type) (enc : TypeId × Value → H) (W : World) (base : Nat) (args : Array Value) (ds gs : List (DataW H)) (before : List MemPlace)
    (hval : ∀ (j : Nat) t v, Try.f4.params[j]? = some t → args[j]? = some v → Value.okWide Try.prog W .any base t v)
    (hW : DataW.Whole enc Try.prog Try.f4.params.toList Rows.u128TimesSpec.vars false W args.toList ds gs before) :
    gs = [] ∧ ds.length = 2 ∧ Calls Try.prog 4 args W (Tells (.bool true) W.heap.size W) := by
  obtain ⟨p, q, hA, hV, -, -, -⟩ := hW
  obtain ⟨rfl, rfl⟩ := trodVars_none hV
  have hA : DataW.TrodAll enc Try.prog W 0 (fun _ => true) true Try.f4.params.toList args.toList ds p := hA
  rw [Try.params4] at hA hval
  obtain ⟨v0, v1, d0, d1, p0, p1, rfl, rfl, -, h0, h1⟩ := trodAll_two hA
  obtain ⟨ah, al, rfl, a1, a0⟩ := open_num (hval 0 _ v0 rfl rfl) h0
  obtain ⟨n, rfl, rfl, rfl, wn⟩ := open_int Try.underlying22 (hval 1 22 v1 rfl rfl) h1
  exact ⟨rfl, rfl, mul_walk ah al n a1 a0 (word_of wn) W⟩

set_option maxRecDepth 100000 in
theorem u128Times_lifted (os : Os) (started : os.Started) (H : Type) (enc : TypeId × Value → H) :
    ReturnsInHanded {} Try.checked os 4 .any (Rows.u128TimesSpec.pre6 enc Try.prog Try.f4 Rows.u128TimesRow.domain false) (Rows.u128TimesSpec.post enc Try.prog Try.f4 false true false false) := by
  refine returnsInHanded_of_change (C := Try.checked) own_knob started (by kernel_rfl) Try.func4
    (ChangeSpec.witness6 (enc := enc) (C := Try.checked) false ⟨#[], #[.agg #[.int .u64 0, .int .u64 0], .int .u64 0], []⟩ 8 (by kernel_rfl) (by kernel_rfl) (by kernel_rfl) (by kernel_rfl)) ?_
  intro W base args ds gs before hval hW _ _
  obtain ⟨hg, hlen, hc⟩ := u128Times_core H enc W base args ds gs before hval hW
  subst hg
  have hr : (Try.f4.params.toList.all fun t => Try.prog.readableRec t && decide (t < Try.prog.types.size)) = true := by kernel_rfl
  have hread : ∀ t ∈ Try.f4.params.toList, Try.prog.readableRec t = true ∧ t < Try.prog.types.size := fun t ht => by
    have h := List.all_eq_true.1 hr t ht
    rw [Bool.and_eq_true, decide_eq_true_eq] at h
    exact h
  refine hc.mono fun e W' ⟨he, hb⟩ => ?_
  subst he
  match ds, hlen with
  | [d0, d1], _ => exact ⟨_, rfl, law_post laid_out Try.underlying4 rfl hread rfl hW rfl rfl rfl hb⟩

theorem u128Times_holds : Rows.U128TimesSaid :=
  OpenClaim.holds_of_wide 4 Try.f4 rfl rfl rfl rfl rfl rfl rfl ⟨rfl, rfl, rfl, rfl, rfl⟩ rfl rfl rfl rfl rfl (by kernel_rfl) Try.func4 (by kernel_rfl)
    (of_decide_eq_true (by kernel_rfl)) (by unfold Func.isWrapper; first | (rw [if_pos (by decide +kernel)]; kernel_rfl) | (rw [if_neg (by decide +kernel)]; exact ⟨rfl, rfl⟩))
    (fun os started H enc _ => u128Times_lifted os started H enc)

end Go.Proofs.Ytohdphbomjhgaaa
