/-
  The first law of layer 1: whatever two numbers: the sum, the difference, how they compare, one half as a number, the greatest number are what their definitions digit by digit give; no condition.
-/
import Derived.Test.YtohdphbomjhgaaaR1Sub
import Derived.Test.YtohdphbomjhgaaaW0Lift
namespace Go.Proofs.Ytohdphbomjhgaaa
set_option linter.unusedVariables false
set_option linter.unusedSimpArgs false
open Go.ChangeShapes Go.WideShapes Go.ChangeAt Go.RowKit

set_option maxHeartbeats 8000000 in
theorem adds_walk (ah al bh bl : Int) (a1 : Word ah) (a0 : Word al) (b1 : Word bh) (b0 : Word bl) (w : World) :
    Calls Try.prog 3 #[.agg #[.int .u64 ah, .int .u64 al], .agg #[.int .u64 bh, .int .u64 bl]] w (Tells (.bool true) w.heap.size w) := by
  have A0 := (Box.made w 24 #[.int .u64 ah, .int .u64 al]).past (.cells #[.int .u64 bh, .int .u64 bl] 24)
  have B0 := Box.made (w.alloc (.cells #[.int .u64 ah, .int .u64 al] 24)) 24 #[.int .u64 bh, .int .u64 bl]
  have L0 : Below w.heap.size w ((w.alloc (.cells #[.int .u64 ah, .int .u64 al] 24)).alloc (.cells #[.int .u64 bh, .int .u64 bl] 24)) := by repeat (first | exact Below.refl _ _ | apply Below.drew | apply below_drewN | refine Below.alloc ?_ (by simp; try omega) _ | refine Below.setCell ?_ (by simp; try omega) _)
  have es : (w.alloc (.cells #[.int .u64 ah, .int .u64 al] 24)).heap.size = w.heap.size + 1 := by simp
  rw [es] at B0
  clear es
  go_enter Try.func3, Try.ntmps3
  go_upto_region 5 with (first
    | (go_at_call 10; refine (add_any ah al bh bl a1 a0 b1 b0 _).mono ?_; rintro e w1 ⟨rfl, hb1⟩
       have A1 := A0.call hb1
       have B1 := B0.call hb1
       have L1 := L0.trans (hb1.mono L0.size)
       obtain ⟨p1, q1, r1⟩ := A1.num
       obtain ⟨p2, q2, r2⟩ := B1.num
       clear hb1)
    | (go_at_call 11; refine (radd_any ah al bh bl a1 a0 b1 b0 _).mono ?_; rintro e w2 ⟨rfl, hb2⟩
       have A2 := (A1.past _).call hb2
       have B2 := (B1.past _).call hb2
       have X2 := (Box.made w1 _ _).call hb2
       have L2 := (L1.alloc (by have := L1.size; omega) _).trans (hb2.mono (by have := L1.size; simp; omega))
       clear p1 q1 r1 p2 q2 r2
       obtain ⟨p1, q1, r1⟩ := A2.num
       obtain ⟨p2, q2, r2⟩ := B2.num
       obtain ⟨p3, q3, r3⟩ := X2.num
       clear hb2)
    | (go_at_call 12; refine (sub_any ah al bh bl a1 a0 b1 b0 _).mono ?_; rintro e w3 ⟨rfl, hb3⟩
       have A3 := (A2.past _).call hb3
       have B3 := (B2.past _).call hb3
       have X3 := (X2.past _).call hb3
       have Y3 := (Box.made w2 _ _).call hb3
       have L3 := (L2.alloc (by have := L2.size; omega) _).trans (hb3.mono (by have := L2.size; simp; omega))
       clear p1 q1 r1 p2 q2 r2 p3 q3 r3
       obtain ⟨p1, q1, r1⟩ := A3.num
       obtain ⟨p2, q2, r2⟩ := B3.num
       obtain ⟨p3, q3, r3⟩ := X3.num
       obtain ⟨p4, q4, r4⟩ := Y3.num
       clear hb3)
    | (go_at_call 13; refine (rsub_any ah al bh bl a1 a0 b1 b0 _).mono ?_; rintro e w4 ⟨rfl, hb4⟩
       have A4 := (A3.past _).call hb4
       have B4 := (B3.past _).call hb4
       have X4 := (X3.past _).call hb4
       have Y4 := (Y3.past _).call hb4
       have C4 := (Box.made w3 _ _).call hb4
       have L4 := (L3.alloc (by have := L3.size; omega) _).trans (hb4.mono (by have := L3.size; simp; omega))
       clear p1 q1 r1 p2 q2 r2 p3 q3 r3 p4 q4 r4))
  have A5 := A4.past (.cells #[.int .u64 (rh (nv ah al - nv bh bl)), .int .u64 (rl (nv ah al - nv bh bl))] 24)
  have B5 := B4.past (.cells #[.int .u64 (rh (nv ah al - nv bh bl)), .int .u64 (rl (nv ah al - nv bh bl))] 24)
  have X5 := X4.past (.cells #[.int .u64 (rh (nv ah al - nv bh bl)), .int .u64 (rl (nv ah al - nv bh bl))] 24)
  have Y5 := Y4.past (.cells #[.int .u64 (rh (nv ah al - nv bh bl)), .int .u64 (rl (nv ah al - nv bh bl))] 24)
  have C5 := C4.past (.cells #[.int .u64 (rh (nv ah al - nv bh bl)), .int .u64 (rl (nv ah al - nv bh bl))] 24)
  have D5 := Box.made w4 24 #[.int .u64 (rh (nv ah al - nv bh bl)), .int .u64 (rl (nv ah al - nv bh bl))]
  have L5 := L4.alloc (by have := L4.size; omega) (.cells #[.int .u64 (rh (nv ah al - nv bh bl)), .int .u64 (rl (nv ah al - nv bh bl))] 24)
  generalize w4.alloc (.cells #[.int .u64 (rh (nv ah al - nv bh bl)), .int .u64 (rl (nv ah al - nv bh bl))] 24) = W at *
  clear A0 A1 A2 A3 A4 B0 B1 B2 B3 B4 X2 X3 X4 Y3 Y4 C4 L0 L1 L2 L3 L4
  go_region_held3 (fun w' => Below W.heap.size W w' ∧ w'.cell? ⟨w.heap.size, 0, none⟩ = some (.int .u64 ah) ∧ w'.cell? ⟨w.heap.size, 1, none⟩ = some (.int .u64 al) ∧
      w'.cell? ⟨w.heap.size + 1, 0, none⟩ = some (.int .u64 bh) ∧ w'.cell? ⟨w.heap.size + 1, 1, none⟩ = some (.int .u64 bl) ∧
      w'.cell? ⟨w1.heap.size, 0, none⟩ = some (.int .u64 (rh (nv ah al + nv bh bl))) ∧ w'.cell? ⟨w1.heap.size, 1, none⟩ = some (.int .u64 (rl (nv ah al + nv bh bl))) ∧
      w'.cell? ⟨w2.heap.size, 0, none⟩ = some (.int .u64 (rh (nv ah al + nv bh bl))) ∧ w'.cell? ⟨w2.heap.size, 1, none⟩ = some (.int .u64 (rl (nv ah al + nv bh bl))) ∧
      w'.cell? ⟨w3.heap.size, 0, none⟩ = some (.int .u64 (rh (nv ah al - nv bh bl))) ∧ w'.cell? ⟨w3.heap.size, 1, none⟩ = some (.int .u64 (rl (nv ah al - nv bh bl))) ∧
      w'.cell? ⟨w4.heap.size, 0, none⟩ = some (.int .u64 (rh (nv ah al - nv bh bl))) ∧ w'.cell? ⟨w4.heap.size, 1, none⟩ = some (.int .u64 (rl (nv ah al - nv bh bl))))
    (first
      | exact keep_first (by assumption) (by assumption) (fun hb => ⟨hb, (A5.call hb).read 0, (A5.call hb).read 1, (B5.call hb).read 0, (B5.call hb).read 1, (X5.call hb).read 0, (X5.call hb).read 1, (Y5.call hb).read 0, (Y5.call hb).read 1,
          (C5.call hb).read 0, (C5.call hb).read 1, (D5.call hb).read 0, (D5.call hb).read 1⟩)
      | exact ⟨(Below.refl _ _).drew, A5.read 0, A5.read 1, B5.read 0, B5.read 1, X5.read 0, X5.read 1, Y5.read 0, Y5.read 1, C5.read 0, C5.read 1, D5.read 0, D5.read 1⟩)
    (first
      | (go_at_call 14; refine (cmp_any ah al bh bl a1 a0 b1 b0 _).mono ?_; rintro e v1 ⟨rfl, hv1⟩)
      | (go_at_call 15; refine (rcmp_any ah al bh bl a1 a0 b1 b0 _).mono ?_; rintro e v2 ⟨rfl, hv2⟩)
      | (go_at_call 16; refine (of_any al _).mono ?_; rintro e v3 ⟨rfl, hv3⟩)
      | (go_at_call 17; refine (rof_any al _).mono ?_; rintro e v4 ⟨rfl, hv4⟩)
      | (go_at_call 18; refine (most_any _).mono ?_; rintro e v5 ⟨rfl, hv5⟩)
      | (go_at_call 19; refine (rmost_any _).mono ?_; rintro e v6 ⟨rfl, hv6⟩))
  go_wp2
  have hh : ∃ Q, Below W.heap.size W v6 ∧ Q := ⟨_, by assumption⟩
  obtain ⟨Q, hh, -⟩ := hh
  go_ret
  exact ⟨rfl, L5.trans (hh.mono L5.size)⟩

theorem u128Adds_core (H : Type) (enc : TypeId × Value → H) (W : World) (base : Nat) (args : Array Value) (ds gs : List (DataW H)) (before : List MemPlace)
    (hval : ∀ (j : Nat) t v, Try.f3.params[j]? = some t → args[j]? = some v → Value.okWide Try.prog W .any base t v)
    (hW : DataW.Whole enc Try.prog Try.f3.params.toList Rows.u128AddsSpec.vars false W args.toList ds gs before) :
    gs = [] ∧ ds.length = 2 ∧ Calls Try.prog 3 args W (Tells (.bool true) W.heap.size W) := by
  obtain ⟨p, q, hA, hV, -, -, -⟩ := hW
  obtain ⟨rfl, rfl⟩ := trodVars_none hV
  have hA : DataW.TrodAll enc Try.prog W 0 (fun _ => true) true Try.f3.params.toList args.toList ds p := hA
  rw [Try.params3] at hA hval
  obtain ⟨v0, v1, d0, d1, p0, p1, rfl, rfl, -, h0, h1⟩ := trodAll_two hA
  obtain ⟨ah, al, rfl, a1, a0⟩ := open_num (hval 0 _ v0 rfl rfl) h0
  obtain ⟨bh, bl, rfl, b1, b0⟩ := open_num (hval 1 _ v1 rfl rfl) h1
  exact ⟨rfl, rfl, adds_walk ah al bh bl a1 a0 b1 b0 W⟩

set_option maxRecDepth 100000 in
theorem u128Adds_lifted (os : Os) (started : os.Started) (H : Type) (enc : TypeId × Value → H) :
    ReturnsInHanded {} Try.checked os 3 .any (Rows.u128AddsSpec.pre6 enc Try.prog Try.f3 Rows.u128AddsRow.domain false) (Rows.u128AddsSpec.post enc Try.prog Try.f3 false true false false) := by
  refine returnsInHanded_of_change (C := Try.checked) own_knob started (by kernel_rfl) Try.func3
    (ChangeSpec.witness6 (enc := enc) (C := Try.checked) false ⟨#[], #[.agg #[.int .u64 0, .int .u64 0], .agg #[.int .u64 0, .int .u64 0]], []⟩ 8 (by kernel_rfl) (by kernel_rfl) (by kernel_rfl) (by kernel_rfl)) ?_
  intro W base args ds gs before hval hW _ _
  obtain ⟨hg, hlen, hc⟩ := u128Adds_core H enc W base args ds gs before hval hW
  subst hg
  have hr : (Try.f3.params.toList.all fun t => Try.prog.readableRec t && decide (t < Try.prog.types.size)) = true := by kernel_rfl
  have hread : ∀ t ∈ Try.f3.params.toList, Try.prog.readableRec t = true ∧ t < Try.prog.types.size := fun t ht => by
    have h := List.all_eq_true.1 hr t ht
    rw [Bool.and_eq_true, decide_eq_true_eq] at h
    exact h
  refine hc.mono fun e W' ⟨he, hb⟩ => ?_
  subst he
  match ds, hlen with
  | [d0, d1], _ => exact ⟨_, rfl, law_post laid_out Try.underlying4 rfl hread rfl hW rfl rfl rfl hb⟩

theorem u128Adds_holds : Rows.U128AddsSaid :=
  OpenClaim.holds_of_wide 3 Try.f3 rfl rfl rfl rfl rfl rfl rfl ⟨rfl, rfl, rfl, rfl, rfl⟩ rfl rfl rfl rfl rfl (by kernel_rfl) Try.func3 (by kernel_rfl)
    (of_decide_eq_true (by kernel_rfl)) (by unfold Func.isWrapper; first | (rw [if_pos (by decide +kernel)]; kernel_rfl) | (rw [if_neg (by decide +kernel)]; exact ⟨rfl, rfl⟩))
    (fun os started H enc _ => u128Adds_lifted os started H enc)

end Go.Proofs.Ytohdphbomjhgaaa
