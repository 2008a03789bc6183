/-
  The law NodeFolds: what any row is folded to is what the chapter says; it stays. Conditions: none.
-/
import Derived.Test.YtjbaeiifamendaaDoorL14Law
import Derived.Test.YtjbaeiifamendaaDoorM14Ref
namespace Go.Proofs.YtjbaeiifamendaaDoor
set_option linter.unusedVariables false
set_option linter.unusedSimpArgs false
set_option maxRecDepth 10000
open Go.ChangeShapes Go.WideShapes Go.ChangeAt Go.RowKit

set_option maxRecDepth 100000 in
set_option maxHeartbeats 4000000 in
theorem nodeFolds_any (n : Int) (A : Option Addr) (c : Nat) (ys : List Nd) (hc : ys.length ≤ c) (hcm : c ≤ 9223372036854775807) (hy : ∀ x ∈ ys, x.fine)
    (w : World) (hR : ndS.Row w w.heap.size A ys) (hT : Tab w) :
    Calls Tryd.prog 5 #[.int .i64 n, .slice A ys.length c] w (Tells (.bool true) w.heap.size w) := by
  have cG := fun u hu => great_any A c ys (by omega) (fun x hx => (hy x hx).1) u hu
  have hno := @greatN_no ys
  obtain ⟨V, hV⟩ : ∃ V, greatN ys = V := ⟨_, rfl⟩
  rw [hV] at cG hno
  clear hV
  cases V with
  | true =>
    go_enter Tryd.func5, Tryd.ntmps5
    go_wp2_with (first | (go_at_call 9; refine (cG _ hR).mono ?_; rintro e w1 ⟨rfl, b1⟩) | fail)
    go_ret
    exact ⟨rfl, b1⟩
  | false =>
    obtain ⟨hl, hsz⟩ := hno rfl
    have cC := fun (A' : Option Addr) c' u hu hu2 => fold14_any n A' c' ys hl (fun x hx => (hy x hx).2) u hu hu2
    have dC := fun u hu => rfold14_any n A c ys hl hc hcm (fun x hx => ⟨(hy x hx).2, Nat.le_trans (hsz x hx) (by decide)⟩) u hu
    have he := fun u => eql_nd_self (foldN n ys).1 u
    have cS := fun (A' : Option Addr) c' u h1 h2 => rsame14_any A' A c' c ys ys (by omega) (by omega) u h1 h2
    rw [decide_eq_true (rfl : ys = ys)] at cS
    obtain ⟨⟨⟨js, jh, jl⟩, je⟩, hJ⟩ : ∃ V, foldN n ys = V := ⟨_, rfl⟩
    rw [hJ] at cC dC he
    simp only [Nd.val] at cC dC he
    have hcp := fun u hu => nd_copy u A c ys (by omega) hu
    obtain ⟨N, hN⟩ : ∃ N, ys.length = N := ⟨_, rfl⟩
    rw [hN] at cG cC dC cS hcp hc ⊢
    clear hJ
    have H0 := Has.start w
    go_enter Tryd.func5, Tryd.ntmps5
    go_upto_region 3 with (first | (go_at_call 9; refine (cG _ hR).mono ?_; rintro e w1 ⟨rfl, b1⟩; have K1 := H0.call b1) | fail)
    obtain ⟨A', c', w2, hrun, hR2, b2⟩ := hcp w1 (hR.on K1.below)
    have K2 := K1.call b2
    go_upto_region 4 with (first
      | (at_builtin; refine gen_run rfl _ _ _ rfl _ _ rfl rfl _ w2 hrun ?_)
      | fail)
    clear hrun cG hcp
    go_wp2_with (first
      | (go_at_call 17; refine (cC A' c' _ hR2 (hT.call K2.below)).mono ?_; rintro e w3 ⟨rfl, b3⟩; have K3 := (K2.call b3).add 26 (ndB js jh jl); have R3 := (hR2.on b3).on (chainA (Below.refl _ w3) (.cells (ndB js jh jl) 26)))
      | (go_at_call 18; refine (dC _ (hR.on K3.below)).mono ?_; rintro e w4 ⟨rfl, b4⟩; have K4 := (K3.call b4).add 26 (ndB js jh jl); obtain ⟨u0, u1, u2, -, -, -, hin4⟩ := (K4.box 0).three; obtain ⟨v0, v1, v2, -, -, -, hin5⟩ := (K4.box 1).three; have R4 := (R3.on b4).on (chainA (Below.refl _ w4) (.cells (ndB js jh jl) 26)))
      | (go_at_call 16; refine (cS A' c' _ R4 (hR.on K4.below)).mono ?_; rintro e w5 ⟨rfl, b5⟩)
      | fail)
    go_ret
    exact ⟨rfl, (K4.call b5).below⟩
theorem nodeFolds_core (H : Type) (enc : TypeId × Value → H) (W : World) (base : Nat) (args : Array Value) (ds gs : List (DataW H)) (before : List MemPlace)
    (hval : ∀ (j : Nat) t v, Tryd.f5.params[j]? = some t → args[j]? = some v → Value.okWide Tryd.prog W .any base t v)
    (hW : DataW.Whole enc Tryd.prog Tryd.f5.params.toList Rows.nodeFoldsSpec.vars false W args.toList ds gs before) (hT : Tab W) :
    gs = [] ∧ ds.length = 2 ∧ Calls Tryd.prog 5 args W (Tells (.bool true) W.heap.size W) := by
  obtain ⟨p, q, hA, hV, -, -, -⟩ := hW
  obtain ⟨rfl, rfl⟩ := trodVars_none hV
  have hA : DataW.TrodAll enc Tryd.prog W 0 (fun _ => true) true Tryd.f5.params.toList args.toList ds p := hA
  rw [Tryd.params5] at hA hval
  obtain ⟨v0, vs0, d0, ds0, p0, ps0, e0, rfl, -, h0, hA⟩ := trodAll_cons hA
  obtain ⟨v1, vs1, d1, ds1, p1, ps1, rfl, rfl, -, h1, hA⟩ := trodAll_cons hA
  obtain ⟨rfl, rfl, rfl⟩ := trodAll_nil hA
  obtain rfl : args = #[v0, v1] := Array.ext' e0
  obtain ⟨n, rfl, -, -, bn⟩ := open_int Tryd.underlying3 (hval 0 3 v0 rfl rfl) h0
  obtain ⟨A, c, ys, rfl, hc, hcm, hy, hR⟩ := open_nds (hval 1 28 v1 rfl rfl) h1
  exact ⟨rfl, rfl, nodeFolds_any n A c ys hc hcm hy W hR hT⟩

set_option maxRecDepth 100000 in
theorem nodeFolds_lifted (os : Os) (started : os.Started) (H : Type) (enc : TypeId × Value → H) :
    ReturnsInHanded {} Tryd.checked os 5 .any (fun w args => (Rows.nodeFoldsSpec.pre enc Tryd.prog Tryd.f5 [] false w args ∧ laidMetH Tryd.prog laidK w) ∧ sizedMet enc Tryd.prog Tryd.f5 (OpenSpec.ofChange Rows.nodeFoldsSpec) false w args)
      (Rows.nodeFoldsSpec.post enc Tryd.prog Tryd.f5 false true false false) := by
  refine returnsInHanded_of_change_and (C := Tryd.checked) (X := fun w _ => laidMetH Tryd.prog laidK w) (fun _ _ _ hh h => h.of_heap hh) own_knob started (by kernel_rfl) Tryd.func5
    (ChangeSpec.witness_shaped (enc := enc) (C := Tryd.checked) (os := os) (X := fun w _ => laidMetH Tryd.prog laidK w) false (World.doorLaid Tryd.prog 14 os) #[.int .i64 0, .slice none 0 0] 8 rfl (World.shaped_of_RefB (by kernel_rfl) (by kernel_rfl)) (by kernel_rfl) (by kernel_rfl) (by kernel_rfl) (door_met os _)) ?_
  intro W base args ds gs before hval0 hW _ hwt hL _
  have hval : ∀ (j : Nat) t v, Tryd.f5.params[j]? = some t → args[j]? = some v → Value.okWide Tryd.prog W .any base t v := hval0
  obtain ⟨hg, hlen, hc⟩ := nodeFolds_core H enc W base args ds gs before hval hW (tab_of_laid hL)
  subst hg
  have hr : (Tryd.f5.params.toList.all fun t => Tryd.prog.readableRec t && decide (t < Tryd.prog.types.size)) = true := by kernel_rfl
  have hread : ∀ t ∈ Tryd.f5.params.toList, Tryd.prog.readableRec t = true ∧ t < Tryd.prog.types.size := fun t ht => by
    have h := List.all_eq_true.1 hr t ht
    rw [Bool.and_eq_true, decide_eq_true_eq] at h
    exact h
  refine hc.mono fun e W' ⟨he, hb⟩ => ?_
  subst he
  match ds, hlen with
  | [d0, d1], _ => exact ⟨_, rfl, law_post laid_out Tryd.underlying4 rfl hread rfl hW rfl rfl rfl hb⟩

theorem nodeFolds_holds : Rows.NodeFoldsSaid :=
  OpenClaim.holds_of_wide 5 Tryd.f5 rfl rfl rfl rfl rfl rfl rfl ⟨rfl, rfl, rfl, rfl, rfl⟩ rfl rfl rfl rfl rfl (by kernel_rfl) Tryd.func5 (by kernel_rfl)
    (of_decide_eq_true (by kernel_rfl)) (by unfold Func.isWrapper; first | (rw [if_pos (by decide +kernel)]; kernel_rfl) | (rw [if_neg (by decide +kernel)]; exact ⟨rfl, rfl⟩))
    (fun os started H enc _ => nodeFolds_lifted os started H enc)

theorem nodeFolds_card : Rows.NodeFoldsCardSaid :=
  Claim7.holds_tied_plain_at .later [] [.data] true _ false
    nodeFolds_holds (fun _ h => by cases h) (by kernel_rfl) (fun _ h => by cases h) nodeFolds_row_tie rfl ⟨rfl, rfl⟩ (by kernel_rfl) rfl
    (fun f fn hf hfn => by
      obtain rfl : f = 5 := Option.some.inj ((show Tryd.prog.funcNamed "paymaster/paymasterlaw14.NodeFolds" = some 5 by kernel_rfl).symm.trans hf) |>.symm
      obtain rfl : fn = Tryd.f5 := (Option.some.inj (Tryd.func5.symm.trans hfn)).symm
      exact ⟨by kernel_rfl, fun j t ht => by
        have hm : t ∈ Tryd.f5.params.toList := by simpa using Array.mem_of_getElem? ht
        have hall : (Tryd.f5.params.toList.all fun u => !Tryd.prog.wantsStandIn u) = true := by kernel_rfl
        exact (show Tryd.prog.wantsStandIn t = false by simpa using List.all_eq_true.1 hall t hm)⟩)
    (by kernel_rfl)

end Go.Proofs.YtjbaeiifamendaaDoor
