/-
  The law ProofBeside, for all inputs, and its card. Conditions: none.
-/
import Derived.Test.YtjndabnegmecmaaDoorL16Besd
namespace Go.Proofs.YtjndabnegmecmaaDoor
set_option linter.unusedVariables false
set_option linter.unusedSimpArgs false
set_option maxRecDepth 10000
open Go.ChangeShapes Go.WideShapes Go.ChangeAt Go.RowKit

set_option maxRecDepth 100000 in
set_option maxHeartbeats 4000000 in
theorem proofBeside_any (n : Int) (A : Option Addr) (c : Nat) (l : List Lf) (one two : Nat) (ho : one < 65536) (ht : two < 65536) (hc : l.length ≤ c) (hcm : c ≤ 9223372036854775807) (hs : ∀ x ∈ l, (x.id.size ≤ 9223372036854775807 ∧ x.salt.size ≤ 9223372036854775807) ∧ Word x.h ∧ Word x.l)
    (w : World) (hR : lfS.Row w w.heap.size A l) (hK : Tab w) (hU : TabU w) :
    Calls Tryd.prog 4 #[.int .i64 n, .slice A l.length c, .int .u16 one, .int .u16 two] w (Tells (.bool true) w.heap.size w) := by
  have cW := fun u hu hv => awake16_any u hu hv
  have cG := fun u hu => great15_any A c l (by omega) (fun x hx => (hs x hx).1) u hu
  have H0 := Has.start w
  cases hg : greatLf l with
  | true =>
    rw [hg] at cG
    clear hg
    go_enter Tryd.func4, Tryd.ntmps4
    go_wp2_with (first
      | (go_at_call 6; refine (cW _ hK hU).mono ?_; rintro e w1 ⟨rfl, b1⟩; have K1 := H0.call b1)
      | (go_at_call 7; refine (cG _ (hR.on K1.below)).mono ?_; rintro e w2 ⟨rfl, rfl⟩)
      | fail)
    go_ret
    exact ⟨rfl, K1.below⟩
  | false =>
    by_cases h2 : 2 ≤ l.length
    case neg =>
      rw [hg] at cG
      have h2i : (l.length : Int) < 2 := by omega
      clear hg
      go_enter Tryd.func4, Tryd.ntmps4
      go_wp2_with (first
        | (go_at_call 6; refine (cW _ hK hU).mono ?_; rintro e w1 ⟨rfl, b1⟩; have K1 := H0.call b1)
        | (go_at_call 7; refine (cG _ (hR.on K1.below)).mono ?_; rintro e w2 ⟨rfl, rfl⟩)
        | fail)
      go_ret
      exact ⟨rfl, K1.below⟩
    by_cases hE : newE n l = 0
    · exact proofBeside_fair n A c l one two ho ht hc hcm hg h2 (newE_fair hE (fun x hx => (hs x hx).2)) w hR hK hU
    · rw [hg] at cG
      have h2i : ¬ (l.length : Int) < 2 := by omega
      have c1 := fun u hR hT hV => new15_err n A c l u (by omega) (fun x hx => (hs x hx).1) (fun x hx => (hs x hx).2) hE hR hT hV
      generalize newE n l = E at *
      have q0 : (E != 0) = true := bne_iff_ne.2 hE
      clear hg
      go_enter Tryd.func4, Tryd.ntmps4
      go_wp2_with (first
        | (go_at_call 6; refine (cW _ hK hU).mono ?_; rintro e w1 ⟨rfl, b1⟩; have K1 := H0.call b1)
        | (go_at_call 7; refine (cG _ (hR.on K1.below)).mono ?_; rintro e w2 ⟨rfl, rfl⟩)
        | (go_at_call 8; refine (c1 _ (hR.on K1.below) (hK.call K1.below) (hU.call K1.below)).mono ?_; rintro e w3 ⟨rfl, b3⟩; have K3 := K1.call b3)
        | fail)
      go_ret
      exact ⟨rfl, K3.below⟩
theorem proofBeside_core (H : Type) (enc : TypeId × Value → H) (W : World) (base : Nat) (args : Array Value) (ds gs : List (DataW H)) (before : List MemPlace)
    (hval : ∀ (j : Nat) t v, Tryd.f4.params[j]? = some t → args[j]? = some v → Value.okWide Tryd.prog W .any base t v)
    (hW : DataW.Whole enc Tryd.prog Tryd.f4.params.toList Rows.proofBesideSpec.vars false W args.toList ds gs before) (hT : Tab W ∧ TabU W) :
    gs = [] ∧ ds.length = 4 ∧ Calls Tryd.prog 4 args W (Tells (.bool true) W.heap.size W) := by
  obtain ⟨p, q, hA, hV, -, -, -⟩ := hW
  obtain ⟨rfl, rfl⟩ := trodVars_none hV
  have hA : DataW.TrodAll enc Tryd.prog W 0 (fun _ => true) true Tryd.f4.params.toList args.toList ds p := hA
  rw [Tryd.params4] at hA hval
  obtain ⟨v0, vs0, d0, ds0, p0, ps0, e0, rfl, -, h0, hA⟩ := trodAll_cons hA
  obtain ⟨v1, vs1, d1, ds1, p1, ps1, rfl, rfl, -, h1, hA⟩ := trodAll_cons hA
  obtain ⟨v2, vs2, d2, ds2, p2, ps2, rfl, rfl, -, h2, hA⟩ := trodAll_cons hA
  obtain ⟨v3, vs3, d3, ds3, p3, ps3, rfl, rfl, -, h3, hA⟩ := trodAll_cons hA
  obtain ⟨rfl, rfl, rfl⟩ := trodAll_nil hA
  obtain rfl : args = #[v0, v1, v2, v3] := Array.ext' e0
  obtain ⟨n, rfl, -, -, -⟩ := open_int Tryd.underlying3 (hval 0 3 v0 rfl rfl) h0
  obtain ⟨A, c, l, rfl, hc, hcm, hx, hR⟩ := open_lfs15 (hval 1 22 v1 rfl rfl) h1
  obtain ⟨one, rfl, -, -, bo⟩ := open_int Tryd.underlying51 (hval 2 51 v2 rfl rfl) h2
  obtain ⟨two, rfl, -, -, bt⟩ := open_int Tryd.underlying51 (hval 3 51 v3 rfl rfl) h3
  have ho := half_of bo
  have ht := half_of bt
  obtain ⟨a, rfl⟩ := Int.eq_ofNat_of_zero_le ho.1
  obtain ⟨b, rfl⟩ := Int.eq_ofNat_of_zero_le ht.1
  exact ⟨rfl, rfl, proofBeside_any n A c l a b (by have := ho.2; omega) (by have := ht.2; omega) hc hcm hx W hR hT.1 hT.2⟩

set_option maxRecDepth 100000 in
theorem proofBeside_lifted (os : Os) (started : os.Started) (H : Type) (enc : TypeId × Value → H) :
    ReturnsInHanded {} Tryd.checked os 4 .any (fun w args => (Rows.proofBesideSpec.pre enc Tryd.prog Tryd.f4 [] false w args ∧ laidMetH Tryd.prog laidA w) ∧ sizedMet enc Tryd.prog Tryd.f4 (OpenSpec.ofChange Rows.proofBesideSpec) false w args)
      (Rows.proofBesideSpec.post enc Tryd.prog Tryd.f4 false true false false) := by
  refine returnsInHanded_of_change_and (C := Tryd.checked) (X := fun w _ => laidMetH Tryd.prog laidA w) (fun _ _ _ hh h => h.of_heap hh) own_knob started (by kernel_rfl) Tryd.func4
    (ChangeSpec.witness_shaped (enc := enc) (C := Tryd.checked) (os := os) (X := fun w _ => laidMetH Tryd.prog laidA w) false (World.laidAll Tryd.prog os laidA) #[.int .i64 0, .slice none 0 0, .int .u16 0, .int .u16 0] 8 (World.laidAll_os _ _ _) (World.shaped_of_ZipB (by kernel_rfl) (by kernel_rfl)) (by kernel_rfl) (by kernel_rfl) (by kernel_rfl) (met_A os _)) ?_
  intro W base args ds gs before hval0 hW _ hwt hL _
  have hval : ∀ (j : Nat) t v, Tryd.f4.params[j]? = some t → args[j]? = some v → Value.okWide Tryd.prog W .any base t v := hval0
  obtain ⟨hg, hlen, hc⟩ := proofBeside_core H enc W base args ds gs before hval hW (tab_of_laidA hL)
  subst hg
  have hr : (Tryd.f4.params.toList.all fun t => Tryd.prog.readableRec t && decide (t < Tryd.prog.types.size)) = true := by kernel_rfl
  have hread : ∀ t ∈ Tryd.f4.params.toList, Tryd.prog.readableRec t = true ∧ t < Tryd.prog.types.size := fun t ht => by
    have h := List.all_eq_true.1 hr t ht
    rw [Bool.and_eq_true, decide_eq_true_eq] at h
    exact h
  refine hc.mono fun e W' ⟨he, hb⟩ => ?_
  subst he
  match ds, hlen with
  | [d0, d1, d2, d3], _ => exact ⟨_, rfl, law_post laid_out Tryd.underlying4 rfl hread rfl hW rfl rfl rfl hb⟩

theorem proofBeside_holds : Rows.ProofBesideSaid :=
  OpenClaim.holds_of_wide 4 Tryd.f4 rfl rfl rfl rfl rfl rfl rfl ⟨rfl, rfl, rfl, rfl, rfl⟩ rfl rfl rfl rfl rfl (by kernel_rfl) Tryd.func4 (by kernel_rfl)
    (of_decide_eq_true (by kernel_rfl)) (by unfold Func.isWrapper; first | (rw [if_pos (by decide +kernel)]; kernel_rfl) | (rw [if_neg (by decide +kernel)]; exact ⟨rfl, rfl⟩))
    (fun os started H enc _ => proofBeside_lifted os started H enc)

theorem proofBeside_card : Rows.ProofBesideCardSaid :=
  Claim7.holds_tied_plain_at .later [] [.data, .data, .pinned] true _ false
    proofBeside_holds (fun _ h => by cases h) (by kernel_rfl) (fun _ h => by cases h) proofBeside_row_tie rfl ⟨rfl, rfl⟩ (by kernel_rfl) rfl
    (fun f fn hf hfn => by
      obtain rfl : f = 4 := Option.some.inj ((show Tryd.prog.funcNamed "paymaster/paymasterlaw16.ProofBeside" = some 4 by kernel_rfl).symm.trans hf) |>.symm
      obtain rfl : fn = Tryd.f4 := (Option.some.inj (Tryd.func4.symm.trans hfn)).symm
      exact ⟨by kernel_rfl, fun j t ht => by
        have hm : t ∈ Tryd.f4.params.toList := by simpa using Array.mem_of_getElem? ht
        have hall : (Tryd.f4.params.toList.all fun u => !Tryd.prog.wantsStandIn u) = true := by kernel_rfl
        exact (show Tryd.prog.wantsStandIn t = false by simpa using List.all_eq_true.1 hall t hm)⟩)
    (by kernel_rfl)

end Go.Proofs.YtjndabnegmecmaaDoor
