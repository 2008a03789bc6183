/-
  The law PackTells: any root, entry, range and diff have the bytes that the chapter says, or none; whether two are the same is what it says. Conditions: none.
-/
import Derived.Test.YtmflhodiibjpnaaGreatDoorL13Tells
namespace Go.Proofs.YtmflhodiibjpnaaGreatDoor
set_option linter.unusedVariables false
set_option linter.unusedSimpArgs false
set_option maxRecDepth 10000
open Go.ChangeShapes Go.WideShapes Go.ChangeAt Go.RowKit

set_option maxRecDepth 100000 in
set_option maxHeartbeats 4000000 in
theorem packTells_core (H : Type) (enc : TypeId × Value → H) (W : World) (base : Nat) (args : Array Value) (ds gs : List (DataW H)) (before : List MemPlace)
    (hval : ∀ (j : Nat) t v, Tryz.f3.params[j]? = some t → args[j]? = some v → Value.okWide Tryz.prog W .any base t v)
    (hW : DataW.Whole enc Tryz.prog Tryz.f3.params.toList Rows.packTellsSpec.vars false W args.toList ds gs before) (hT : TabU W) :
    gs = [] ∧ ds.length = 7 ∧ Calls Tryz.prog 3 args W (Tells (.bool true) W.heap.size W) := by
  obtain ⟨p, q, hA, hV, -, -, -⟩ := hW
  obtain ⟨rfl, rfl⟩ := trodVars_none hV
  have hA : DataW.TrodAll enc Tryz.prog W 0 (fun _ => true) true Tryz.f3.params.toList args.toList ds p := hA
  rw [Tryz.params3] at hA hval
  obtain ⟨v0, vs0, d0, ds0, p0, ps0, e0, rfl, -, h0, hA⟩ := trodAll_cons hA
  obtain ⟨v1, vs1, d1, ds1, p1, ps1, rfl, rfl, -, h1, hA⟩ := trodAll_cons hA
  obtain ⟨v2, vs2, d2, ds2, p2, ps2, rfl, rfl, -, h2, hA⟩ := trodAll_cons hA
  obtain ⟨v3, vs3, d3, ds3, p3, ps3, rfl, rfl, -, h3, hA⟩ := trodAll_cons hA
  obtain ⟨v4, vs4, d4, ds4, p4, ps4, rfl, rfl, -, h4, hA⟩ := trodAll_cons hA
  obtain ⟨v5, vs5, d5, ds5, p5, ps5, rfl, rfl, -, h5, hA⟩ := trodAll_cons hA
  obtain ⟨v6, vs6, d6, ds6, p6, ps6, rfl, rfl, -, h6, hA⟩ := trodAll_cons hA
  obtain ⟨rfl, rfl, rfl⟩ := trodAll_nil hA
  obtain rfl : args = #[v0, v1, v2, v3, v4, v5, v6] := Array.ext' e0
  obtain ⟨r, rfl, r1, r2, -, -⟩ := open_root (hval 0 26 v0 rfl rfl) h0
  obtain ⟨e, A, ac, rfl, a1, a2, a3, -, a4, a5⟩ := open_entry (hval 1 33 v1 rfl rfl) h1
  obtain ⟨f, B, bc, rfl, b1, b2, b3, -, b4, b5⟩ := open_entry (hval 2 33 v2 rfl rfl) h2
  obtain ⟨g, C, cc, D, dc, rfl, c1, ⟨c2, -, c3, c4⟩, c5, -, c6, c7⟩ := open_range (hval 3 35 v3 rfl rfl) h3
  obtain ⟨h, E, xc, F, fc, rfl, g1, ⟨g2, -, g3, g4⟩, g5, -, g6, g7⟩ := open_range (hval 4 35 v4 rfl rfl) h4
  obtain ⟨c, P, pc, Q, qc, rfl, ⟨i2, -, i3, i4⟩, i5, -, i6, i7⟩ := open_diff (hval 5 38 v5 rfl rfl) h5
  obtain ⟨d, U, uc, V, vc, rfl, ⟨j2, -, j3, j4⟩, j5, -, j6, j7⟩ := open_diff (hval 6 38 v6 rfl rfl) h6
  refine ⟨rfl, rfl, ?_⟩
  cases hlong : (decide (300 < r.hash.size) || (lngE e || (lngE f || (lngR g || (lngR h || (lngD c || lngD d)))))) with
  | true => exact l13tells_long r e f g h c d A B C D E F P Q U V ac bc cc dc xc fc pc qc uc vc ⟨r1, r2⟩ ⟨a1, a2, a3, a4⟩ ⟨b1, b2, b3, b4⟩ ⟨c1, ⟨c2, c3⟩, c5, c6⟩ ⟨g1, ⟨g2, g3⟩, g5, g6⟩ ⟨⟨i2, i3⟩, i5, i6⟩ ⟨⟨j2, j3⟩, j5, j6⟩ W hT a5 b5 c4 c7 g4 g7 i4 i7 j4 j7 hlong
  | false => exact l13tells_any r e f g h c d A B C D E F P Q U V ac bc cc dc xc fc pc qc uc vc ⟨r1, r2⟩ ⟨a1, a2, a3, a4⟩ ⟨b1, b2, b3, b4⟩ ⟨c1, ⟨c2, c3⟩, c5, c6⟩ ⟨g1, ⟨g2, g3⟩, g5, g6⟩ ⟨⟨i2, i3⟩, i5, i6⟩ ⟨⟨j2, j3⟩, j5, j6⟩ W hT a5 b5 c4 c7 g4 g7 i4 i7 j4 j7 hlong

set_option maxRecDepth 100000 in
theorem packTells_lifted (os : Os) (started : os.Started) (H : Type) (enc : TypeId × Value → H) :
    ReturnsInHanded {} Tryz.checked os 3 .any (fun w args => (Rows.packTellsSpec.pre enc Tryz.prog Tryz.f3 [] false w args ∧ laidMetH Tryz.prog laidU w) ∧ sizedMet enc Tryz.prog Tryz.f3 (OpenSpec.ofChange Rows.packTellsSpec) false w args)
      (Rows.packTellsSpec.post enc Tryz.prog Tryz.f3 false true false false) := by
  refine returnsInHanded_of_change_and (C := Tryz.checked) (X := fun w _ => laidMetH Tryz.prog laidU w) (fun _ _ _ hh h => h.of_heap hh) own_knob started (by kernel_rfl) Tryz.func3
    (ChangeSpec.witness_shaped (enc := enc) (C := Tryz.checked) (os := os) (X := fun w _ => laidMetH Tryz.prog laidU w) false (World.laidAll Tryz.prog os laidU) #[.agg #[.string ⟨#[]⟩, .int .u64 0, .int .u64 0, .int .i64 0], .agg #[.bool false, .string ⟨#[]⟩, .string ⟨#[]⟩, .int .u64 0, .int .u64 0, .int .u64 0, .slice none 0 0], .agg #[.bool false, .string ⟨#[]⟩, .string ⟨#[]⟩, .int .u64 0, .int .u64 0, .int .u64 0, .slice none 0 0], .agg #[.int .u64 0, .int .u64 0, .slice none 0 0, .slice none 0 0], .agg #[.int .u64 0, .int .u64 0, .slice none 0 0, .slice none 0 0], .agg #[.slice none 0 0, .slice none 0 0], .agg #[.slice none 0 0, .slice none 0 0]] 8 (World.laidAll_os _ _ _) (World.shaped_of_ZipB (by kernel_rfl) (by kernel_rfl)) (by kernel_rfl) (by kernel_rfl) (by kernel_rfl) (met_U os _)) ?_
  intro W base args ds gs before hval0 hW _ hwt hL _
  have hval : ∀ (j : Nat) t v, Tryz.f3.params[j]? = some t → args[j]? = some v → Value.okWide Tryz.prog W .any base t v := hval0
  obtain ⟨hg, hlen, hc⟩ := packTells_core H enc W base args ds gs before hval hW (tab_of_laidU hL)
  subst hg
  have hr : (Tryz.f3.params.toList.all fun t => Tryz.prog.readableRec t && decide (t < Tryz.prog.types.size)) = true := by kernel_rfl
  have hread : ∀ t ∈ Tryz.f3.params.toList, Tryz.prog.readableRec t = true ∧ t < Tryz.prog.types.size := fun t ht => by
    have h := List.all_eq_true.1 hr t ht
    rw [Bool.and_eq_true, decide_eq_true_eq] at h
    exact h
  refine hc.mono fun e W' ⟨he, hb⟩ => ?_
  subst he
  match ds, hlen with
  | [d0, d1, d2, d3, d4, d5, d6], _ => exact ⟨_, rfl, law_post laid_out Tryz.underlying4 rfl hread rfl hW rfl rfl rfl hb⟩

theorem packTells_holds : Rows.PackTellsSaid :=
  OpenClaim.holds_of_wide 3 Tryz.f3 rfl rfl rfl rfl rfl rfl rfl ⟨rfl, rfl, rfl, rfl, rfl⟩ rfl rfl rfl rfl rfl (by kernel_rfl) Tryz.func3 (by kernel_rfl)
    (of_decide_eq_true (by kernel_rfl)) (by unfold Func.isWrapper; first | (rw [if_pos (by decide +kernel)]; kernel_rfl) | (rw [if_neg (by decide +kernel)]; exact ⟨rfl, rfl⟩))
    (fun os started H enc _ => packTells_lifted os started H enc)

theorem packTells_card : Rows.PackTellsCardSaid :=
  Claim7.holds_tied_plain_at .later [] [.data, .pinned] true _ false
    packTells_holds (fun _ h => by cases h) (by kernel_rfl) (fun _ h => by cases h) packTells_row_tie rfl ⟨rfl, rfl⟩ (by kernel_rfl) rfl
    (fun f fn hf hfn => by
      obtain rfl : f = 3 := Option.some.inj ((show Tryz.prog.funcNamed "paymaster/paymasterlaw13.PackTells" = some 3 by kernel_rfl).symm.trans hf) |>.symm
      obtain rfl : fn = Tryz.f3 := (Option.some.inj (Tryz.func3.symm.trans hfn)).symm
      exact ⟨by kernel_rfl, fun j t ht => by
        have hm : t ∈ Tryz.f3.params.toList := by simpa using Array.mem_of_getElem? ht
        have hall : (Tryz.f3.params.toList.all fun u => !Tryz.prog.wantsStandIn u) = true := by kernel_rfl
        exact (show Tryz.prog.wantsStandIn t = false by simpa using List.all_eq_true.1 hall t hm)⟩)
    (by kernel_rfl)

end Go.Proofs.YtmflhodiibjpnaaGreatDoor
