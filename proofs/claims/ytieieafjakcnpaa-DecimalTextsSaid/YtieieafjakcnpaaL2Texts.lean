/-
  The law of layer 2 on texts: any number has the text, also with signs between, that the chapter says; any text of at most 300 bytes is of the number that it says, or none's.
-/
import Derived.Test.YtieieafjakcnpaaR2Group
import Derived.Test.YtieieafjakcnpaaR2Parse
import Derived.Test.YtieieafjakcnpaaD2Group
import Derived.Test.YtieieafjakcnpaaW0Lift
import Derived.ChangeMaps5
import Derived.Deep.RegionHeld3
namespace Go.Proofs.Ytieieafjakcnpaa
set_option linter.unusedVariables false
set_option linter.unusedSimpArgs false
open Go.ChangeShapes Go.WideShapes Go.ChangeAt Go.RowKit

set_option maxRecDepth 100000 in
set_option maxHeartbeats 16000000 in
theorem dtexts_walk (ah al : Int) (a1 : Word ah) (a0 : Word al) (s : ByteArray) (hs : s.size ≤ 9223372036854775807) (w : World) :
    Calls Try.prog 3 #[.agg #[.int .u64 ah, .int .u64 al], .string s] w (Tells (.bool true) w.heap.size w) := by
  have P0 : OneIn w ah al (w.alloc (.cells #[.int .u64 ah, .int .u64 al] 24)) := ⟨Box.made w 24 #[.int .u64 ah, .int .u64 al], by repeat (first | exact Below.refl _ _ | apply Below.drew | apply below_drewN | refine Below.alloc ?_ (by simp; try omega) _ | refine Below.setCell ?_ (by simp; try omega) _)⟩
  by_cases h300 : 300 < s.size
  · have h300' : (300 : Int) < (s.size : Int) := by omega
    go_enter Try.func3, Try.ntmps3
    go_wp2
    go_ret
    exact ⟨rfl, P0.2⟩
  · have h300' : ¬ (300 : Int) < (s.size : Int) := by omega
    have cT := fun u : World => parse_any s hs u
    have cR := fun u : World => rparse_any s hs u
    have cX := fun u : World => text_any ah al a1 a0 u
    have cY := fun u : World => rtext_any ah al a1 a0 u
    have cG := fun u : World => grouped_any ah al a1 a0 u
    have cH := fun u : World => rgrouped_any ah al a1 a0 u
    obtain ⟨t, ht⟩ : ∃ t, str (decL (nv ah al).toNat) = t := ⟨_, rfl⟩
    obtain ⟨g, hg⟩ : ∃ g, str (grp (decL (nv ah al).toNat)) = g := ⟨_, rfl⟩
    rw [ht] at cX cY
    rw [hg] at cG cH
    obtain ⟨x, hx⟩ : ∃ x, parH s.data.toList = x := ⟨_, rfl⟩
    obtain ⟨y, hy⟩ : ∃ y, parL s.data.toList = y := ⟨_, rfl⟩
    obtain ⟨z, hz⟩ : ∃ z, parE s.data.toList = z := ⟨_, rfl⟩
    have hF : ∀ (B : Nat) (u : World), ParseTells s.data.toList B u = fun e w' => e = .returned (.tuple #[.agg #[.int .u64 x, .int .u64 y], .int .i64 z]) ∧ Below B u w' := fun B u => by unfold ParseTells; rw [hx, hy, hz]
    simp only [hF] at cT cR
    have hq : ∀ u : World, (binOp .eql 24 (.agg #[.int .u64 x, .int .u64 y]) (.agg #[.int .u64 x, .int .u64 y])).run Try.prog u = .ok (.bool true) u := fun u => by rw [run_eql_num]; simp
    clear hF ht hg hx hy hz h300
    go_enter Try.func3, Try.ntmps3
    go_upto_region 4 with (first
      | (go_at_call 9; refine (cT _).mono ?_; rintro e w1 ⟨rfl, h1⟩))
    have P1 := (P0.call h1).past (.cells #[.int .u64 x, .int .u64 y] 24)
    have B1 := Box.made w1 24 #[.int .u64 x, .int .u64 y]
    generalize w1.alloc (.cells #[.int .u64 x, .int .u64 y] 24) = W1 at *
    go_upto_region 5 with (first
      | (go_at_call 10; refine (cR _).mono ?_; rintro e w2 ⟨rfl, h2⟩))
    have P2 := (P1.call h2).past (.cells #[.int .u64 x, .int .u64 y] 24)
    have B2 := (B1.call h2).past (.cells #[.int .u64 x, .int .u64 y] 24)
    have C2 := Box.made w2 24 #[.int .u64 x, .int .u64 y]
    generalize w2.alloc (.cells #[.int .u64 x, .int .u64 y] 24) = W2 at *
    clear P0 P1 B1 h1 h2 cT cR
    go_region_held3 (fun w' => Below W2.heap.size W2 w' ∧ w'.cell? ⟨w.heap.size, 0, none⟩ = some (.int .u64 ah) ∧ w'.cell? ⟨w.heap.size, 1, none⟩ = some (.int .u64 al) ∧
        w'.cell? ⟨w1.heap.size, 0, none⟩ = some (.int .u64 x) ∧ w'.cell? ⟨w1.heap.size, 1, none⟩ = some (.int .u64 y) ∧ w'.cell? ⟨w2.heap.size, 0, none⟩ = some (.int .u64 x) ∧ w'.cell? ⟨w2.heap.size, 1, none⟩ = some (.int .u64 y))
      (first
        | exact keep_first (by assumption) (by assumption) (fun hb => ⟨hb, (P2.call hb).1.read 0, (P2.call hb).1.read 1, (B2.call hb).read 0, (B2.call hb).read 1, (C2.call hb).read 0, (C2.call hb).read 1⟩)
        | exact ⟨(Below.refl _ _).drew, P2.1.read 0, P2.1.read 1, B2.read 0, B2.read 1, C2.read 0, C2.read 1⟩)
      (first
        | (go_at_call 11; refine (cX _).mono ?_; rintro e y1 ⟨rfl, j1⟩)
        | (go_at_call 12; refine (cY _).mono ?_; rintro e y2 ⟨rfl, j2⟩)
        | (go_at_call 13; refine (cG _).mono ?_; rintro e y3 ⟨rfl, j3⟩)
        | (go_at_call 14; refine (cH _).mono ?_; rintro e y4 ⟨rfl, j4⟩))
    all_goals go_wp2
    all_goals go_ret
    all_goals
      have hh : ∃ Q, Below W2.heap.size W2 y4 ∧ Q := ⟨_, by assumption⟩
      obtain ⟨Q, hh, -⟩ := hh
      exact ⟨rfl, (P2.call hh).2⟩

theorem decimalTexts_core (H : Type) (enc : TypeId × Value → H) (W : World) (base : Nat) (args : Array Value) (ds gs : List (DataW H)) (before : List MemPlace)
    (hval : ∀ (j : Nat) t v, Try.f3.params[j]? = some t → args[j]? = some v → Value.okWide Try.prog W .any base t v)
    (hW : DataW.Whole enc Try.prog Try.f3.params.toList Rows.decimalTextsSpec.vars false W args.toList ds gs before) :
    gs = [] ∧ ds.length = 2 ∧ Calls Try.prog 3 args W (Tells (.bool true) W.heap.size W) := by
  obtain ⟨p, q, hA, hV, -, -, -⟩ := hW
  obtain ⟨rfl, rfl⟩ := trodVars_none hV
  have hA : DataW.TrodAll enc Try.prog W 0 (fun _ => true) true Try.f3.params.toList args.toList ds p := hA
  rw [Try.params3] at hA hval
  obtain ⟨v0, v1, d0, d1, p0, p1, rfl, rfl, -, h0, h1⟩ := trodAll_two hA
  obtain ⟨ah, al, rfl, a1, a0⟩ := open_num (hval 0 _ v0 rfl rfl) h0
  obtain ⟨s, rfl, rfl, rfl, hs⟩ := Go.ChangeMaps.open_string Try.underlying9 (hval 1 9 v1 rfl rfl) h1
  have hs' : s.size ≤ 9223372036854775807 := by unfold maxLen at hs; omega
  exact ⟨rfl, rfl, dtexts_walk ah al a1 a0 s hs' W⟩

set_option maxRecDepth 100000 in
theorem decimalTexts_lifted (os : Os) (started : os.Started) (H : Type) (enc : TypeId × Value → H) :
    ReturnsInHanded {} Try.checked os 3 .any (Rows.decimalTextsSpec.pre6 enc Try.prog Try.f3 Rows.decimalTextsRow.domain false) (Rows.decimalTextsSpec.post enc Try.prog Try.f3 false true false false) := by
  refine returnsInHanded_of_change (C := Try.checked) own_knob started (by kernel_rfl) Try.func3
    (ChangeSpec.witness6 (enc := enc) (C := Try.checked) false ⟨#[], #[.agg #[.int .u64 0, .int .u64 0], .string ⟨#[]⟩], []⟩ 8 (by kernel_rfl) (by kernel_rfl) (by kernel_rfl) (by kernel_rfl)) ?_
  intro W base args ds gs before hval hW _ _
  obtain ⟨hg, hlen, hc⟩ := decimalTexts_core H enc W base args ds gs before hval hW
  subst hg
  have hr : (Try.f3.params.toList.all fun t => Try.prog.readableRec t && decide (t < Try.prog.types.size)) = true := by kernel_rfl
  have hread : ∀ t ∈ Try.f3.params.toList, Try.prog.readableRec t = true ∧ t < Try.prog.types.size := fun t ht => by
    have h := List.all_eq_true.1 hr t ht
    rw [Bool.and_eq_true, decide_eq_true_eq] at h
    exact h
  refine hc.mono fun e W' ⟨he, hb⟩ => ?_
  subst he
  match ds, hlen with
  | [d0, d1], _ => exact ⟨_, rfl, law_post laid_out Try.underlying4 rfl hread rfl hW rfl rfl rfl hb⟩

theorem decimalTexts_holds : Rows.DecimalTextsSaid :=
  OpenClaim.holds_of_wide 3 Try.f3 rfl rfl rfl rfl rfl rfl rfl ⟨rfl, rfl, rfl, rfl, rfl⟩ rfl rfl rfl rfl rfl (by kernel_rfl) Try.func3 (by kernel_rfl)
    (of_decide_eq_true (by kernel_rfl)) (by unfold Func.isWrapper; first | (rw [if_pos (by decide +kernel)]; kernel_rfl) | (rw [if_neg (by decide +kernel)]; exact ⟨rfl, rfl⟩))
    (fun os started H enc _ => decimalTexts_lifted os started H enc)

end Go.Proofs.Ytieieafjakcnpaa
