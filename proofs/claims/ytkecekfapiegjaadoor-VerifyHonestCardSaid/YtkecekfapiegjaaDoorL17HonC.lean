/-
  The law VerifyHonest, for all inputs, and its card. Conditions: none.
-/
import Derived.Test.YtkecekfapiegjaaDoorL17Hon
namespace Go.Proofs.YtkecekfapiegjaaDoor
set_option linter.unusedVariables false
set_option linter.unusedSimpArgs false
set_option maxRecDepth 10000
open Go.ChangeShapes Go.WideShapes Go.ChangeAt Go.RowKit

set_option maxRecDepth 100000 in
set_option maxHeartbeats 4000000 in
theorem verifyHonest_any (n : Int) (A : Option Addr) (c : Nat) (l : List Lf) (o : RtP) (hc : l.length ≤ c) (hcm : c ≤ 9223372036854775807) (hs : ∀ x ∈ l, (x.id.size ≤ 9223372036854775807 ∧ x.salt.size ≤ 9223372036854775807) ∧ Word x.h ∧ Word x.l)
    (w : World) (hR : lfS.Row w w.heap.size A l) (hK : Tab w) (hU : TabU w) :
    Calls Tryd.prog 6 #[.int .i64 n, .slice A l.length c, o.val] w (Tells (.bool true) w.heap.size w) := by
  have cW := fun u hu hv => awake17_any u hu hv
  have cG := fun u hu => great15_any A c l (by omega) (fun x hx => (hs x hx).1) u hu
  cases hg : greatLf l with
  | true =>
    rw [hg] at cG
    clear hg
    obtain ⟨os, oh, ol, on⟩ := o
    obtain ⟨ge, hge⟩ : ∃ g, w.heap.size = g := ⟨_, rfl⟩
    have J0 := (Has.start w).addAt 26 (rtB os oh ol on) (g := ge) hge
    show Calls _ _ #[_, _, .agg (rtB os oh ol on)] _ _
    go_enter Tryd.func6, Tryd.ntmps6
    go_upto_region 1 with fail
    change Code.wp _ _ _ _ (w.alloc (.cells (rtB os oh ol on) 26))
    generalize w.alloc (.cells (rtB os oh ol on) 26) = W0 at *
    go_wp2_with (first
      | (go_at_call 18; refine (cW _ (hK.call J0.below) (hU.call J0.below)).mono ?_; rintro e w1 ⟨rfl, b1⟩; have J1 := J0.call b1; obtain ⟨⟨s0, s1, s2, s3⟩, -, sin⟩ := (J1.box 0).four4)
      | (go_at_call 19; refine (cG _ (hR.on J1.below)).mono ?_; rintro e w2 ⟨rfl, rfl⟩)
      | fail)
    go_ret
    exact ⟨rfl, by first | exact J1.below | (rw [← hge]; exact J1.below)⟩
  | false =>
    by_cases ho : o.hash.size ≤ 60
    · by_cases hE : newE n l = 0
      · exact verifyHonest_fair n A c l o hc hcm hg (newE_fair hE (fun x hx => (hs x hx).2)) ho w hR hK hU
      · rw [hg] at cG
        have c1 := fun u hR hT hV => new15_err n A c l u (by omega) (fun x hx => (hs x hx).1) (fun x hx => (hs x hx).2) hE hR hT hV
        generalize newE n l = E at *
        have q0 : (E != 0) = true := bne_iff_ne.2 hE
        clear hg
        obtain ⟨os, oh, ol, on⟩ := o
        obtain ⟨Z, hZ⟩ : ∃ Z, os.size = Z := ⟨_, rfl⟩
        simp only [hZ] at ho
        have hZi : ¬ (60 : Int) < (Z : Int) := by omega
        obtain ⟨ge, hge⟩ : ∃ g, w.heap.size = g := ⟨_, rfl⟩
        have J0 := (Has.start w).addAt 26 (rtB os oh ol on) (g := ge) hge
        show Calls _ _ #[_, _, .agg (rtB os oh ol on)] _ _
        go_enter Tryd.func6, Tryd.ntmps6
        go_upto_region 1 with fail
        change Code.wp _ _ _ _ (w.alloc (.cells (rtB os oh ol on) 26))
        generalize w.alloc (.cells (rtB os oh ol on) 26) = W0 at *
        go_wp2_with (first
          | (go_at_call 18; refine (cW _ (hK.call J0.below) (hU.call J0.below)).mono ?_; rintro e w1 ⟨rfl, b1⟩; have J1 := J0.call b1; obtain ⟨⟨s0, s1, s2, s3⟩, -, sin⟩ := (J1.box 0).four4)
          | (go_at_call 19; refine (cG _ (hR.on J1.below)).mono ?_; rintro e w2 ⟨rfl, rfl⟩)
          | (go_at_call 20; refine (c1 _ (hR.on J1.below) (hK.call J1.below) (hU.call J1.below)).mono ?_; rintro e w3 ⟨rfl, b3⟩; have J3 := J1.call b3)
          | fail)
        go_ret
        exact ⟨rfl, by first | exact J3.below | (rw [← hge]; exact J3.below)⟩
    · rw [hg] at cG
      clear hg
      obtain ⟨os, oh, ol, on⟩ := o
      obtain ⟨Z, hZ⟩ : ∃ Z, os.size = Z := ⟨_, rfl⟩
      simp only [hZ] at ho
      have hZi : (60 : Int) < (Z : Int) := by omega
      obtain ⟨ge, hge⟩ : ∃ g, w.heap.size = g := ⟨_, rfl⟩
      have J0 := (Has.start w).addAt 26 (rtB os oh ol on) (g := ge) hge
      show Calls _ _ #[_, _, .agg (rtB os oh ol on)] _ _
      go_enter Tryd.func6, Tryd.ntmps6
      go_upto_region 1 with fail
      change Code.wp _ _ _ _ (w.alloc (.cells (rtB os oh ol on) 26))
      generalize w.alloc (.cells (rtB os oh ol on) 26) = W0 at *
      go_wp2_with (first
        | (go_at_call 18; refine (cW _ (hK.call J0.below) (hU.call J0.below)).mono ?_; rintro e w1 ⟨rfl, b1⟩; have J1 := J0.call b1; obtain ⟨⟨s0, s1, s2, s3⟩, -, sin⟩ := (J1.box 0).four4)
        | (go_at_call 19; refine (cG _ (hR.on J1.below)).mono ?_; rintro e w2 ⟨rfl, rfl⟩)
        | fail)
      go_ret
      exact ⟨rfl, by first | exact J1.below | (rw [← hge]; exact J1.below)⟩
theorem verifyHonest_core (H : Type) (enc : TypeId × Value → H) (W : World) (base : Nat) (args : Array Value) (ds gs : List (DataW H)) (before : List MemPlace)
    (hval : ∀ (j : Nat) t v, Tryd.f6.params[j]? = some t → args[j]? = some v → Value.okWide Tryd.prog W .any base t v)
    (hW : DataW.Whole enc Tryd.prog Tryd.f6.params.toList Rows.verifyHonestSpec.vars false W args.toList ds gs before) (hT : Tab W ∧ TabU W) :
    gs = [] ∧ ds.length = 3 ∧ Calls Tryd.prog 6 args W (Tells (.bool true) W.heap.size W) := by
  obtain ⟨p, q, hA, hV, -, -, -⟩ := hW
  obtain ⟨rfl, rfl⟩ := trodVars_none hV
  have hA : DataW.TrodAll enc Tryd.prog W 0 (fun _ => true) true Tryd.f6.params.toList args.toList ds p := hA
  rw [Tryd.params6] at hA hval
  obtain ⟨v0, vs0, d0, ds0, p0, ps0, e0, rfl, -, h0, hA⟩ := trodAll_cons hA
  obtain ⟨v1, vs1, d1, ds1, p1, ps1, rfl, rfl, -, h1, hA⟩ := trodAll_cons hA
  obtain ⟨v2, vs2, d2, ds2, p2, ps2, rfl, rfl, -, h2, hA⟩ := trodAll_cons hA
  obtain ⟨rfl, rfl, rfl⟩ := trodAll_nil hA
  obtain rfl : args = #[v0, v1, v2] := Array.ext' e0
  obtain ⟨n, rfl, -, -, -⟩ := open_int Tryd.underlying3 (hval 0 3 v0 rfl rfl) h0
  obtain ⟨A, c, l, rfl, hc, hcm, hx, hR⟩ := open_lfs15 (hval 1 52 v1 rfl rfl) h1
  obtain ⟨o, rfl, ho⟩ := open_root17 (hval 2 26 v2 rfl rfl) h2
  exact ⟨rfl, rfl, verifyHonest_any n A c l o hc hcm hx W hR hT.1 hT.2⟩

set_option maxRecDepth 100000 in
theorem verifyHonest_lifted (os : Os) (started : os.Started) (H : Type) (enc : TypeId × Value → H) :
    ReturnsInHanded {} Tryd.checked os 6 .any (fun w args => (Rows.verifyHonestSpec.pre enc Tryd.prog Tryd.f6 [] false w args ∧ laidMetH Tryd.prog laidA w) ∧ sizedMet enc Tryd.prog Tryd.f6 (OpenSpec.ofChange Rows.verifyHonestSpec) false w args)
      (Rows.verifyHonestSpec.post enc Tryd.prog Tryd.f6 false true false false) := by
  refine returnsInHanded_of_change_and (C := Tryd.checked) (X := fun w _ => laidMetH Tryd.prog laidA w) (fun _ _ _ hh h => h.of_heap hh) own_knob started (by kernel_rfl) Tryd.func6
    (ChangeSpec.witness_shaped (enc := enc) (C := Tryd.checked) (os := os) (X := fun w _ => laidMetH Tryd.prog laidA w) false (World.laidAll Tryd.prog os laidA) #[.int .i64 0, .slice none 0 0, .agg #[.string ⟨#[]⟩, .int .u64 0, .int .u64 0, .int .i64 0]] 8 (World.laidAll_os _ _ _) (World.shaped_of_ZipB (by kernel_rfl) (by kernel_rfl)) (by kernel_rfl) (by kernel_rfl) (by kernel_rfl) (met_A os _)) ?_
  intro W base args ds gs before hval0 hW _ hwt hL _
  have hval : ∀ (j : Nat) t v, Tryd.f6.params[j]? = some t → args[j]? = some v → Value.okWide Tryd.prog W .any base t v := hval0
  obtain ⟨hg, hlen, hc⟩ := verifyHonest_core H enc W base args ds gs before hval hW (tab_of_laidA hL)
  subst hg
  have hr : (Tryd.f6.params.toList.all fun t => Tryd.prog.readableRec t && decide (t < Tryd.prog.types.size)) = true := by kernel_rfl
  have hread : ∀ t ∈ Tryd.f6.params.toList, Tryd.prog.readableRec t = true ∧ t < Tryd.prog.types.size := fun t ht => by
    have h := List.all_eq_true.1 hr t ht
    rw [Bool.and_eq_true, decide_eq_true_eq] at h
    exact h
  refine hc.mono fun e W' ⟨he, hb⟩ => ?_
  subst he
  match ds, hlen with
  | [d0, d1, d2], _ => exact ⟨_, rfl, law_post laid_out Tryd.underlying4 rfl hread rfl hW rfl rfl rfl hb⟩

theorem verifyHonest_holds : Rows.VerifyHonestSaid :=
  OpenClaim.holds_of_wide 6 Tryd.f6 rfl rfl rfl rfl rfl rfl rfl ⟨rfl, rfl, rfl, rfl, rfl⟩ rfl rfl rfl rfl rfl (by kernel_rfl) Tryd.func6 (by kernel_rfl)
    (of_decide_eq_true (by kernel_rfl)) (by unfold Func.isWrapper; first | (rw [if_pos (by decide +kernel)]; kernel_rfl) | (rw [if_neg (by decide +kernel)]; exact ⟨rfl, rfl⟩))
    (fun os started H enc _ => verifyHonest_lifted os started H enc)

theorem verifyHonest_card : Rows.VerifyHonestCardSaid :=
  Claim7.holds_tied_plain_at .later [] [.data, .data, .pinned] true _ false
    verifyHonest_holds (fun _ h => by cases h) (by kernel_rfl) (fun _ h => by cases h) verifyHonest_row_tie rfl ⟨rfl, rfl⟩ (by kernel_rfl) rfl
    (fun f fn hf hfn => by
      obtain rfl : f = 6 := Option.some.inj ((show Tryd.prog.funcNamed "paymaster/paymasterlaw17.VerifyHonest" = some 6 by kernel_rfl).symm.trans hf) |>.symm
      obtain rfl : fn = Tryd.f6 := (Option.some.inj (Tryd.func6.symm.trans hfn)).symm
      exact ⟨by kernel_rfl, fun j t ht => by
        have hm : t ∈ Tryd.f6.params.toList := by simpa using Array.mem_of_getElem? ht
        have hall : (Tryd.f6.params.toList.all fun u => !Tryd.prog.wantsStandIn u) = true := by kernel_rfl
        exact (show Tryd.prog.wantsStandIn t = false by simpa using List.all_eq_true.1 hall t hm)⟩)
    (by kernel_rfl)

end Go.Proofs.YtkecekfapiegjaaDoor
