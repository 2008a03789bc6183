/-
  The law VerifySpoilt, for all inputs, and its card. Conditions: none.
-/
import Derived.Test.YtkecekfapiegjaaDoorL17Spo
import Derived.Test.YtkecekfapiegjaaDoorL17SpoR
namespace Go.Proofs.YtkecekfapiegjaaDoor
set_option linter.unusedVariables false
set_option linter.unusedSimpArgs false
set_option maxRecDepth 10000
open Go.ChangeShapes Go.WideShapes Go.ChangeAt Go.RowKit

theorem verifySpoilt_core (H : Type) (enc : TypeId × Value → H) (W : World) (base : Nat) (args : Array Value) (ds gs : List (DataW H)) (before : List MemPlace)
    (hval : ∀ (j : Nat) t v, Tryd.f8.params[j]? = some t → args[j]? = some v → Value.okWide Tryd.prog W .any base t v)
    (hW : DataW.Whole enc Tryd.prog Tryd.f8.params.toList Rows.verifySpoiltSpec.vars false W args.toList ds gs before) (hT : Tab W ∧ TabU W) :
    gs = [] ∧ ds.length = 6 ∧ Calls Tryd.prog 8 args W (Tells (.bool true) W.heap.size W) := by
  obtain ⟨p, q, hA, hV, -, -, -⟩ := hW
  obtain ⟨rfl, rfl⟩ := trodVars_none hV
  have hA : DataW.TrodAll enc Tryd.prog W 0 (fun _ => true) true Tryd.f8.params.toList args.toList ds p := hA
  rw [Tryd.params8] at hA hval
  obtain ⟨v0, vs0, d0, ds0, p0, ps0, e0, rfl, -, h0, hA⟩ := trodAll_cons hA
  obtain ⟨v1, vs1, d1, ds1, p1, ps1, rfl, rfl, -, h1, hA⟩ := trodAll_cons hA
  obtain ⟨v2, vs2, d2, ds2, p2, ps2, rfl, rfl, -, h2, hA⟩ := trodAll_cons hA
  obtain ⟨v3, vs3, d3, ds3, p3, ps3, rfl, rfl, -, h3, hA⟩ := trodAll_cons hA
  obtain ⟨v4, vs4, d4, ds4, p4, ps4, rfl, rfl, -, h4, hA⟩ := trodAll_cons hA
  obtain ⟨v5, vs5, d5, ds5, p5, ps5, rfl, rfl, -, h5, hA⟩ := trodAll_cons hA
  obtain ⟨rfl, rfl, rfl⟩ := trodAll_nil hA
  obtain rfl : args = #[v0, v1, v2, v3, v4, v5] := Array.ext' e0
  obtain ⟨n, rfl, -, -, -⟩ := open_int Tryd.underlying3 (hval 0 3 v0 rfl rfl) h0
  obtain ⟨A, c, l, rfl, hc, hcm, hx, hR⟩ := open_lfs15 (hval 1 52 v1 rfl rfl) h1
  obtain ⟨pl, rfl, -, -, bp⟩ := open_int Tryd.underlying62 (hval 2 62 v2 rfl rfl) h2
  obtain ⟨x, rfl, z1, z2, z3, z4⟩ := open_leaf (hval 3 34 v3 rfl rfl) h3
  obtain ⟨lv, rfl, -, -, bl⟩ := open_int Tryd.underlying5 (hval 4 5 v4 rfl rfl) h4
  obtain ⟨sd, rfl, hsd⟩ := open_nd (hval 5 49 v5 rfl rfl) h5
  have hp := half_of bp
  obtain ⟨b, rfl⟩ := Int.eq_ofNat_of_zero_le hp.1
  have hb := byte_of bl
  obtain ⟨lv, rfl⟩ := Int.eq_ofNat_of_zero_le hb.1
  refine ⟨rfl, rfl, ?_⟩
  by_cases hor : greatLf l = true ∨ greatLf [x] = true ∨ 60 < sd.hash.size ∨ newE n l ≠ 0
  · exact verifySpoilt_rest n A c l b x ⟨⟨z1, z2⟩, z3, z4⟩ lv sd hc hcm hx hor W hR hT.1 hT.2
  · have g1 : greatLf l = false := by
      cases h : greatLf l with
      | false => rfl
      | true => exact absurd (Or.inl h) hor
    have g2 : greatLf [x] = false := by
      cases h : greatLf [x] with
      | false => rfl
      | true => exact absurd (Or.inr (Or.inl h)) hor
    have g3 : sd.hash.size ≤ 60 := Nat.le_of_not_lt fun h => hor (Or.inr (Or.inr (Or.inl h)))
    have g4 : newE n l = 0 := by
      by_cases h : newE n l = 0
      · exact h
      · exact absurd (Or.inr (Or.inr (Or.inr h))) hor
    exact verifySpoilt_fair n A c l b (by have := hp.2; omega) x ⟨⟨z1, z2⟩, z3, z4⟩ lv (by have := hb.2; omega) sd hsd hc hcm g1 g2 g3 (newE_fair g4 (fun y hy => (hx y hy).2)) W hR hT.1 hT.2

set_option maxRecDepth 100000 in
theorem verifySpoilt_lifted (os : Os) (started : os.Started) (H : Type) (enc : TypeId × Value → H) :
    ReturnsInHanded {} Tryd.checked os 8 .any (fun w args => (Rows.verifySpoiltSpec.pre enc Tryd.prog Tryd.f8 [] false w args ∧ laidMetH Tryd.prog laidA w) ∧ sizedMet enc Tryd.prog Tryd.f8 (OpenSpec.ofChange Rows.verifySpoiltSpec) false w args)
      (Rows.verifySpoiltSpec.post enc Tryd.prog Tryd.f8 false true false false) := by
  refine returnsInHanded_of_change_and (C := Tryd.checked) (X := fun w _ => laidMetH Tryd.prog laidA w) (fun _ _ _ hh h => h.of_heap hh) own_knob started (by kernel_rfl) Tryd.func8
    (ChangeSpec.witness_shaped (enc := enc) (C := Tryd.checked) (os := os) (X := fun w _ => laidMetH Tryd.prog laidA w) false (World.laidAll Tryd.prog os laidA) #[.int .i64 0, .slice none 0 0, .int .u16 0, .agg #[.bool false, .string ⟨#[]⟩, .string ⟨#[]⟩, .int .u64 0, .int .u64 0], .int .u8 0, .agg #[.string ⟨#[]⟩, .int .u64 0, .int .u64 0]] 8 (World.laidAll_os _ _ _) (World.shaped_of_ZipB (by kernel_rfl) (by kernel_rfl)) (by kernel_rfl) (by kernel_rfl) (by kernel_rfl) (met_A os _)) ?_
  intro W base args ds gs before hval0 hW _ hwt hL _
  have hval : ∀ (j : Nat) t v, Tryd.f8.params[j]? = some t → args[j]? = some v → Value.okWide Tryd.prog W .any base t v := hval0
  obtain ⟨hg, hlen, hc⟩ := verifySpoilt_core H enc W base args ds gs before hval hW (tab_of_laidA hL)
  subst hg
  have hr : (Tryd.f8.params.toList.all fun t => Tryd.prog.readableRec t && decide (t < Tryd.prog.types.size)) = true := by kernel_rfl
  have hread : ∀ t ∈ Tryd.f8.params.toList, Tryd.prog.readableRec t = true ∧ t < Tryd.prog.types.size := fun t ht => by
    have h := List.all_eq_true.1 hr t ht
    rw [Bool.and_eq_true, decide_eq_true_eq] at h
    exact h
  refine hc.mono fun e W' ⟨he, hb⟩ => ?_
  subst he
  match ds, hlen with
  | [d0, d1, d2, d3, d4, d5], _ => exact ⟨_, rfl, law_post laid_out Tryd.underlying4 rfl hread rfl hW rfl rfl rfl hb⟩

theorem verifySpoilt_holds : Rows.VerifySpoiltSaid :=
  OpenClaim.holds_of_wide 8 Tryd.f8 rfl rfl rfl rfl rfl rfl rfl ⟨rfl, rfl, rfl, rfl, rfl⟩ rfl rfl rfl rfl rfl (by kernel_rfl) Tryd.func8 (by kernel_rfl)
    (of_decide_eq_true (by kernel_rfl)) (by unfold Func.isWrapper; first | (rw [if_pos (by decide +kernel)]; kernel_rfl) | (rw [if_neg (by decide +kernel)]; exact ⟨rfl, rfl⟩))
    (fun os started H enc _ => verifySpoilt_lifted os started H enc)

theorem verifySpoilt_card : Rows.VerifySpoiltCardSaid :=
  Claim7.holds_tied_plain_at .later [] [.data, .data, .pinned] true _ false
    verifySpoilt_holds (fun _ h => by cases h) (by kernel_rfl) (fun _ h => by cases h) verifySpoilt_row_tie rfl ⟨rfl, rfl⟩ (by kernel_rfl) rfl
    (fun f fn hf hfn => by
      obtain rfl : f = 8 := Option.some.inj ((show Tryd.prog.funcNamed "paymaster/paymasterlaw17.VerifySpoilt" = some 8 by kernel_rfl).symm.trans hf) |>.symm
      obtain rfl : fn = Tryd.f8 := (Option.some.inj (Tryd.func8.symm.trans hfn)).symm
      exact ⟨by kernel_rfl, fun j t ht => by
        have hm : t ∈ Tryd.f8.params.toList := by simpa using Array.mem_of_getElem? ht
        have hall : (Tryd.f8.params.toList.all fun u => !Tryd.prog.wantsStandIn u) = true := by kernel_rfl
        exact (show Tryd.prog.wantsStandIn t = false by simpa using List.all_eq_true.1 hall t hm)⟩)
    (by kernel_rfl)

end Go.Proofs.YtkecekfapiegjaaDoor
