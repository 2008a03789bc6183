/-
  The law of layer 2 on digits: how many digits any number has, which one stands at any place, and any power of ten, is what the chapter says; any number, any place, no condition.
-/
import Derived.Test.YtieieafjakcnpaaR2Text
import Derived.Test.YtieieafjakcnpaaR2Ten
import Derived.Test.YtieieafjakcnpaaW0Lift
import Derived.Deep.RegionHeld3
namespace Go.Proofs.Ytieieafjakcnpaa
set_option linter.unusedVariables false
set_option linter.unusedSimpArgs false
open Go.ChangeShapes Go.WideShapes Go.ChangeAt Go.RowKit

set_option maxRecDepth 100000 in
set_option maxHeartbeats 16000000 in
theorem ddigits_walk (ah al k : Int) (a1 : Word ah) (a0 : Word al) (hk1 : -9223372036854775808 ≤ k) (hk2 : k < 9223372036854775808) (w : World) :
    Calls Try.prog 4 #[.agg #[.int .u64 ah, .int .u64 al], .int .i64 k] w (Tells (.bool true) w.heap.size w) := by
  have P0 : OneIn w ah al (w.alloc (.cells #[.int .u64 ah, .int .u64 al] 24)) := ⟨Box.made w 24 #[.int .u64 ah, .int .u64 al], by repeat (first | exact Below.refl _ _ | apply Below.drew | apply below_drewN | refine Below.alloc ?_ (by simp; try omega) _ | refine Below.setCell ?_ (by simp; try omega) _)⟩
  have cT := fun u : World => ten_any k hk1 hk2 u
  have cR := fun u : World => rten_any k hk1 hk2 u
  have cN := fun u : World => ndigits_any ah al a1 a0 u
  have cX := fun u : World => rtext_any ah al a1 a0 u
  have cD := fun u : World => ddigit_any ah al k a1 a0 hk1 hk2 u
  have cE := fun u : World => rdigit_any ah al k a1 a0 hk1 hk2 u
  obtain ⟨N, hN⟩ : ∃ N, (nv ah al).toNat = N := ⟨_, rfl⟩
  rw [hN] at cN cX cD cE
  obtain ⟨s, hs⟩ : ∃ s, str (decL N) = s := ⟨_, rfl⟩
  have hsz : s.size = (decL N).length := by rw [← hs, str_size]
  rw [hs] at cX
  rw [← hsz] at cN
  obtain ⟨d, hd⟩ : ∃ d, digAt N k = d := ⟨_, rfl⟩
  rw [hd] at cD cE
  obtain ⟨x, hx⟩ : ∃ x, tenH k = x := ⟨_, rfl⟩
  obtain ⟨y, hy⟩ : ∃ y, tenL k = y := ⟨_, rfl⟩
  obtain ⟨z, hz⟩ : ∃ z, tenE k = z := ⟨_, rfl⟩
  have hF : ∀ (B : Nat) (u : World), TenTells k B u = fun e w' => e = .returned (.tuple #[.agg #[.int .u64 x, .int .u64 y], .int .i64 z]) ∧ Below B u w' := fun B u => by unfold TenTells; rw [hx, hy, hz]
  simp only [hF] at cT cR
  have hq : ∀ u : World, (binOp .eql 24 (.agg #[.int .u64 x, .int .u64 y]) (.agg #[.int .u64 x, .int .u64 y])).run Try.prog u = .ok (.bool true) u := fun u => by rw [run_eql_num]; simp
  clear hF hN hs hsz hd hx hy hz hk1 hk2
  go_enter Try.func4, Try.ntmps4
  go_upto_region 2 with (first
    | (go_at_call 15; refine (cT _).mono ?_; rintro e w1 ⟨rfl, h1⟩))
  have P1 := (P0.call h1).past (.cells #[.int .u64 x, .int .u64 y] 24)
  have B1 := Box.made w1 24 #[.int .u64 x, .int .u64 y]
  generalize w1.alloc (.cells #[.int .u64 x, .int .u64 y] 24) = W1 at *
  go_upto_region 3 with (first
    | (go_at_call 16; refine (cR _).mono ?_; rintro e w2 ⟨rfl, h2⟩))
  have P2 := (P1.call h2).past (.cells #[.int .u64 x, .int .u64 y] 24)
  have B2 := (B1.call h2).past (.cells #[.int .u64 x, .int .u64 y] 24)
  have C2 := Box.made w2 24 #[.int .u64 x, .int .u64 y]
  generalize w2.alloc (.cells #[.int .u64 x, .int .u64 y] 24) = W2 at *
  clear P0 P1 B1 h1 h2 cT cR
  go_region_held3 (fun w' => Below W2.heap.size W2 w' ∧ w'.cell? ⟨w.heap.size, 0, none⟩ = some (.int .u64 ah) ∧ w'.cell? ⟨w.heap.size, 1, none⟩ = some (.int .u64 al) ∧
      w'.cell? ⟨w1.heap.size, 0, none⟩ = some (.int .u64 x) ∧ w'.cell? ⟨w1.heap.size, 1, none⟩ = some (.int .u64 y) ∧ w'.cell? ⟨w2.heap.size, 0, none⟩ = some (.int .u64 x) ∧ w'.cell? ⟨w2.heap.size, 1, none⟩ = some (.int .u64 y))
    (first
      | exact keep_first (by assumption) (by assumption) (fun hb => ⟨hb, (P2.call hb).1.read 0, (P2.call hb).1.read 1, (B2.call hb).read 0, (B2.call hb).read 1, (C2.call hb).read 0, (C2.call hb).read 1⟩)
      | exact ⟨(Below.refl _ _).drew, P2.1.read 0, P2.1.read 1, B2.read 0, B2.read 1, C2.read 0, C2.read 1⟩)
    (first
      | (go_at_call 17; refine (cN _).mono ?_; rintro e y1 ⟨rfl, j1⟩)
      | (go_at_call 12; refine (cX _).mono ?_; rintro e y2 ⟨rfl, j2⟩)
      | (go_at_call 18; refine (cD _).mono ?_; rintro e y3 ⟨rfl, j3⟩)
      | (go_at_call 19; refine (cE _).mono ?_; rintro e y4 ⟨rfl, j4⟩))
  all_goals go_wp2
  all_goals go_ret
  all_goals
    have hh : ∃ Q, Below W2.heap.size W2 y4 ∧ Q := ⟨_, by assumption⟩
    obtain ⟨Q, hh, -⟩ := hh
    exact ⟨rfl, (P2.call hh).2⟩

theorem decimalDigits_core (H : Type) (enc : TypeId × Value → H) (W : World) (base : Nat) (args : Array Value) (ds gs : List (DataW H)) (before : List MemPlace)
    (hval : ∀ (j : Nat) t v, Try.f4.params[j]? = some t → args[j]? = some v → Value.okWide Try.prog W .any base t v)
    (hW : DataW.Whole enc Try.prog Try.f4.params.toList Rows.decimalDigitsSpec.vars false W args.toList ds gs before) :
    gs = [] ∧ ds.length = 2 ∧ Calls Try.prog 4 args W (Tells (.bool true) W.heap.size W) := by
  obtain ⟨p, q, hA, hV, -, -, -⟩ := hW
  obtain ⟨rfl, rfl⟩ := trodVars_none hV
  have hA : DataW.TrodAll enc Try.prog W 0 (fun _ => true) true Try.f4.params.toList args.toList ds p := hA
  rw [Try.params4] at hA hval
  obtain ⟨v0, v1, d0, d1, p0, p1, rfl, rfl, -, h0, h1⟩ := trodAll_two hA
  obtain ⟨ah, al, rfl, a1, a0⟩ := open_num (hval 0 _ v0 rfl rfl) h0
  obtain ⟨k, rfl, rfl, rfl, wk⟩ := open_int Try.underlying3 (hval 1 3 v1 rfl rfl) h1
  have hw : -9223372036854775808 ≤ k ∧ k ≤ 9223372036854775807 := by
    simpa [Lit.wf, IntKind.min, IntKind.max, IntKind.signed, IntKind.bits] using wk
  exact ⟨rfl, rfl, ddigits_walk ah al k a1 a0 hw.1 (by omega) W⟩

set_option maxRecDepth 100000 in
theorem decimalDigits_lifted (os : Os) (started : os.Started) (H : Type) (enc : TypeId × Value → H) :
    ReturnsInHanded {} Try.checked os 4 .any (Rows.decimalDigitsSpec.pre6 enc Try.prog Try.f4 Rows.decimalDigitsRow.domain false) (Rows.decimalDigitsSpec.post enc Try.prog Try.f4 false true false false) := by
  refine returnsInHanded_of_change (C := Try.checked) own_knob started (by kernel_rfl) Try.func4
    (ChangeSpec.witness6 (enc := enc) (C := Try.checked) false ⟨#[], #[.agg #[.int .u64 0, .int .u64 0], .int .i64 0], []⟩ 8 (by kernel_rfl) (by kernel_rfl) (by kernel_rfl) (by kernel_rfl)) ?_
  intro W base args ds gs before hval hW _ _
  obtain ⟨hg, hlen, hc⟩ := decimalDigits_core H enc W base args ds gs before hval hW
  subst hg
  have hr : (Try.f4.params.toList.all fun t => Try.prog.readableRec t && decide (t < Try.prog.types.size)) = true := by kernel_rfl
  have hread : ∀ t ∈ Try.f4.params.toList, Try.prog.readableRec t = true ∧ t < Try.prog.types.size := fun t ht => by
    have h := List.all_eq_true.1 hr t ht
    rw [Bool.and_eq_true, decide_eq_true_eq] at h
    exact h
  refine hc.mono fun e W' ⟨he, hb⟩ => ?_
  subst he
  match ds, hlen with
  | [d0, d1], _ => exact ⟨_, rfl, law_post laid_out Try.underlying4 rfl hread rfl hW rfl rfl rfl hb⟩

theorem decimalDigits_holds : Rows.DecimalDigitsSaid :=
  OpenClaim.holds_of_wide 4 Try.f4 rfl rfl rfl rfl rfl rfl rfl ⟨rfl, rfl, rfl, rfl, rfl⟩ rfl rfl rfl rfl rfl (by kernel_rfl) Try.func4 (by kernel_rfl)
    (of_decide_eq_true (by kernel_rfl)) (by unfold Func.isWrapper; first | (rw [if_pos (by decide +kernel)]; kernel_rfl) | (rw [if_neg (by decide +kernel)]; exact ⟨rfl, rfl⟩))
    (fun os started H enc _ => decimalDigits_lifted os started H enc)

end Go.Proofs.Ytieieafjakcnpaa
