/-
  The law ProofChanges, for all inputs, and its card. Conditions: none.
-/
import Derived.Test.YtjndabnegmecmaaDoorL16Chg
namespace Go.Proofs.YtjndabnegmecmaaDoor
set_option linter.unusedVariables false
set_option linter.unusedSimpArgs false
set_option maxRecDepth 10000
open Go.ChangeShapes Go.WideShapes Go.ChangeAt Go.RowKit

set_option maxRecDepth 100000 in
set_option maxHeartbeats 4000000 in
theorem proofChanges_any (n : Int) (A : Option Addr) (c : Nat) (l : List Lf) (pos : Nat) (hpos : pos < 65536) (x : Lf) (hxf : x.fine15) (hc : l.length ≤ c) (hcm : c ≤ 9223372036854775807) (hs : ∀ x ∈ l, x.fine15)
    (w : World) (hR : lfS.Row w w.heap.size A l) (hK : Tab w) (hU : TabU w) :
    Calls Tryd.prog 5 #[.int .i64 n, .slice A l.length c, .int .u16 pos, x.val] w (Tells (.bool true) w.heap.size w) := by
  have cW := fun u hu hv => awake16_any u hu hv
  have cG := fun u hu => great15_any A c l (by omega) (fun x hx => (hs x hx).1) u hu
  have cG2 := fun g u hu => great15_any (some ⟨g, 0, none⟩) 1 [x] (by simp) (fun y hy => by rw [List.mem_singleton.1 hy]; exact hxf.1) u hu
  have hrow := fun u => lf_rowL u [x]
  simp only [List.length_cons, List.length_nil, Nat.reduceAdd] at cG2
  have H0 := (Has.start w).addAt 36 (lfB x.pad x.id x.salt x.h x.l) (g := w.heap.size) rfl
  cases hg : greatLf l with
  | true =>
    rw [hg] at cG
    obtain ⟨xp, xi, xs, xh, xl⟩ := x
    simp only [Lf.val] at H0 ⊢
    obtain ⟨⟨x0, x1, x2, x3, x4⟩, -, xin⟩ := (H0.box 0).five0
    clear hg cG2 hrow
    go_enter Tryd.func5, Tryd.ntmps5
    go_wp2_with (first
      | (go_at_call 6; refine (cW _ (hK.call H0.below) (hU.call H0.below)).mono ?_; rintro e w1 ⟨rfl, b1⟩; have K1 := H0.call b1; clear x0 x1 x2 x3 x4 xin; obtain ⟨⟨x0, x1, x2, x3, x4⟩, -, xin⟩ := (K1.box 0).five0)
      | (go_at_call 7; refine (cG _ (hR.on K1.below)).mono ?_; rintro e w2 ⟨rfl, rfl⟩)
      | fail)
    go_ret
    exact ⟨rfl, K1.below⟩
  | false =>
    rw [hg] at cG
    cases hgx : greatLf [x] with
    | true =>
      rw [hgx] at cG2
      obtain ⟨xp, xi, xs, xh, xl⟩ := x
      simp only [Lf.val] at H0 ⊢
      obtain ⟨⟨x0, x1, x2, x3, x4⟩, -, xin⟩ := (H0.box 0).five0
      clear hg hgx
      go_enter Tryd.func5, Tryd.ntmps5
      go_wp2_with (first
        | (go_at_call 6; refine (cW _ (hK.call H0.below) (hU.call H0.below)).mono ?_; rintro e w1 ⟨rfl, b1⟩; have K1 := H0.call b1; clear x0 x1 x2 x3 x4 xin; obtain ⟨⟨x0, x1, x2, x3, x4⟩, -, xin⟩ := (K1.box 0).five0)
        | (go_at_call 7; refine (cG _ (hR.on K1.below)).mono ?_; rintro e w2 ⟨rfl, rfl⟩; clear cG)
        | (go_at_call 7; refine (cG2 _ _ (hrow _)).mono ?_; rintro e w2 ⟨rfl, rfl⟩; have K2 := K1.past (.cells (lfS.flat [⟨xp, xi, xs, xh, xl⟩]).toArray 36))
        | fail)
      go_ret
      exact ⟨rfl, K2.below⟩
    | false =>
      by_cases hE : newE n l = 0
      · obtain hF := newE_fair hE (fun x hx => (hs x hx).2)
        exact proofChanges_fair n A c l pos hpos x hxf hc hcm hg hgx hF w hR hK hU
      · rw [hgx] at cG2
        have c1 := fun u hR hT hV => new15_err n A c l u (by omega) (fun x hx => (hs x hx).1) (fun x hx => (hs x hx).2) hE hR hT hV
        generalize newE n l = E at *
        have q0 : (E != 0) = true := bne_iff_ne.2 hE
        obtain ⟨xp, xi, xs, xh, xl⟩ := x
        simp only [Lf.val] at H0 ⊢
        obtain ⟨⟨x0, x1, x2, x3, x4⟩, -, xin⟩ := (H0.box 0).five0
        clear hg hgx
        go_enter Tryd.func5, Tryd.ntmps5
        go_wp2_with (first
          | (go_at_call 6; refine (cW _ (hK.call H0.below) (hU.call H0.below)).mono ?_; rintro e w1 ⟨rfl, b1⟩; have K1 := H0.call b1; clear x0 x1 x2 x3 x4 xin; obtain ⟨⟨x0, x1, x2, x3, x4⟩, -, xin⟩ := (K1.box 0).five0)
          | (go_at_call 7; refine (cG _ (hR.on K1.below)).mono ?_; rintro e w2 ⟨rfl, rfl⟩; clear cG)
          | (go_at_call 7; refine (cG2 _ _ (hrow _)).mono ?_; rintro e w2 ⟨rfl, rfl⟩; have K2 := K1.past (.cells (lfS.flat [⟨xp, xi, xs, xh, xl⟩]).toArray 36))
          | (go_at_call 8; refine (c1 _ (hR.on K2.below) (hK.call K2.below) (hU.call K2.below)).mono ?_; rintro e w3 ⟨rfl, b3⟩; have K3 := K2.call b3)
          | fail)
        go_ret
        exact ⟨rfl, K3.below⟩
theorem proofChanges_core (H : Type) (enc : TypeId × Value → H) (W : World) (base : Nat) (args : Array Value) (ds gs : List (DataW H)) (before : List MemPlace)
    (hval : ∀ (j : Nat) t v, Tryd.f5.params[j]? = some t → args[j]? = some v → Value.okWide Tryd.prog W .any base t v)
    (hW : DataW.Whole enc Tryd.prog Tryd.f5.params.toList Rows.proofChangesSpec.vars false W args.toList ds gs before) (hT : Tab W ∧ TabU W) :
    gs = [] ∧ ds.length = 4 ∧ Calls Tryd.prog 5 args W (Tells (.bool true) W.heap.size W) := by
  obtain ⟨p, q, hA, hV, -, -, -⟩ := hW
  obtain ⟨rfl, rfl⟩ := trodVars_none hV
  have hA : DataW.TrodAll enc Tryd.prog W 0 (fun _ => true) true Tryd.f5.params.toList args.toList ds p := hA
  rw [Tryd.params5] at hA hval
  obtain ⟨v0, vs0, d0, ds0, p0, ps0, e0, rfl, -, h0, hA⟩ := trodAll_cons hA
  obtain ⟨v1, vs1, d1, ds1, p1, ps1, rfl, rfl, -, h1, hA⟩ := trodAll_cons hA
  obtain ⟨v2, vs2, d2, ds2, p2, ps2, rfl, rfl, -, h2, hA⟩ := trodAll_cons hA
  obtain ⟨v3, vs3, d3, ds3, p3, ps3, rfl, rfl, -, h3, hA⟩ := trodAll_cons hA
  obtain ⟨rfl, rfl, rfl⟩ := trodAll_nil hA
  obtain rfl : args = #[v0, v1, v2, v3] := Array.ext' e0
  obtain ⟨n, rfl, -, -, -⟩ := open_int Tryd.underlying3 (hval 0 3 v0 rfl rfl) h0
  obtain ⟨A, c, l, rfl, hc, hcm, hx, hR⟩ := open_lfs15 (hval 1 22 v1 rfl rfl) h1
  obtain ⟨pl, rfl, -, -, bp⟩ := open_int Tryd.underlying51 (hval 2 51 v2 rfl rfl) h2
  obtain ⟨x, rfl, z1, z2, z3, z4⟩ := open_leaf (hval 3 36 v3 rfl rfl) h3
  have hp := half_of bp
  obtain ⟨b, rfl⟩ := Int.eq_ofNat_of_zero_le hp.1
  exact ⟨rfl, rfl, proofChanges_any n A c l b (by have := hp.2; omega) x ⟨⟨z1, z2⟩, z3, z4⟩ hc hcm hx W hR hT.1 hT.2⟩

set_option maxRecDepth 100000 in
theorem proofChanges_lifted (os : Os) (started : os.Started) (H : Type) (enc : TypeId × Value → H) :
    ReturnsInHanded {} Tryd.checked os 5 .any (fun w args => (Rows.proofChangesSpec.pre enc Tryd.prog Tryd.f5 [] false w args ∧ laidMetH Tryd.prog laidA w) ∧ sizedMet enc Tryd.prog Tryd.f5 (OpenSpec.ofChange Rows.proofChangesSpec) false w args)
      (Rows.proofChangesSpec.post enc Tryd.prog Tryd.f5 false true false false) := by
  refine returnsInHanded_of_change_and (C := Tryd.checked) (X := fun w _ => laidMetH Tryd.prog laidA w) (fun _ _ _ hh h => h.of_heap hh) own_knob started (by kernel_rfl) Tryd.func5
    (ChangeSpec.witness_shaped (enc := enc) (C := Tryd.checked) (os := os) (X := fun w _ => laidMetH Tryd.prog laidA w) false (World.laidAll Tryd.prog os laidA) #[.int .i64 0, .slice none 0 0, .int .u16 0, .agg #[.bool false, .string ⟨#[]⟩, .string ⟨#[]⟩, .int .u64 0, .int .u64 0]] 8 (World.laidAll_os _ _ _) (World.shaped_of_ZipB (by kernel_rfl) (by kernel_rfl)) (by kernel_rfl) (by kernel_rfl) (by kernel_rfl) (met_A os _)) ?_
  intro W base args ds gs before hval0 hW _ hwt hL _
  have hval : ∀ (j : Nat) t v, Tryd.f5.params[j]? = some t → args[j]? = some v → Value.okWide Tryd.prog W .any base t v := hval0
  obtain ⟨hg, hlen, hc⟩ := proofChanges_core H enc W base args ds gs before hval hW (tab_of_laidA hL)
  subst hg
  have hr : (Tryd.f5.params.toList.all fun t => Tryd.prog.readableRec t && decide (t < Tryd.prog.types.size)) = true := by kernel_rfl
  have hread : ∀ t ∈ Tryd.f5.params.toList, Tryd.prog.readableRec t = true ∧ t < Tryd.prog.types.size := fun t ht => by
    have h := List.all_eq_true.1 hr t ht
    rw [Bool.and_eq_true, decide_eq_true_eq] at h
    exact h
  refine hc.mono fun e W' ⟨he, hb⟩ => ?_
  subst he
  match ds, hlen with
  | [d0, d1, d2, d3], _ => exact ⟨_, rfl, law_post laid_out Tryd.underlying4 rfl hread rfl hW rfl rfl rfl hb⟩

theorem proofChanges_holds : Rows.ProofChangesSaid :=
  OpenClaim.holds_of_wide 5 Tryd.f5 rfl rfl rfl rfl rfl rfl rfl ⟨rfl, rfl, rfl, rfl, rfl⟩ rfl rfl rfl rfl rfl (by kernel_rfl) Tryd.func5 (by kernel_rfl)
    (of_decide_eq_true (by kernel_rfl)) (by unfold Func.isWrapper; first | (rw [if_pos (by decide +kernel)]; kernel_rfl) | (rw [if_neg (by decide +kernel)]; exact ⟨rfl, rfl⟩))
    (fun os started H enc _ => proofChanges_lifted os started H enc)

theorem proofChanges_card : Rows.ProofChangesCardSaid :=
  Claim7.holds_tied_plain_at .later [] [.data, .data, .pinned] true _ false
    proofChanges_holds (fun _ h => by cases h) (by kernel_rfl) (fun _ h => by cases h) proofChanges_row_tie rfl ⟨rfl, rfl⟩ (by kernel_rfl) rfl
    (fun f fn hf hfn => by
      obtain rfl : f = 5 := Option.some.inj ((show Tryd.prog.funcNamed "paymaster/paymasterlaw16.ProofChanges" = some 5 by kernel_rfl).symm.trans hf) |>.symm
      obtain rfl : fn = Tryd.f5 := (Option.some.inj (Tryd.func5.symm.trans hfn)).symm
      exact ⟨by kernel_rfl, fun j t ht => by
        have hm : t ∈ Tryd.f5.params.toList := by simpa using Array.mem_of_getElem? ht
        have hall : (Tryd.f5.params.toList.all fun u => !Tryd.prog.wantsStandIn u) = true := by kernel_rfl
        exact (show Tryd.prog.wantsStandIn t = false by simpa using List.all_eq_true.1 hall t hm)⟩)
    (by kernel_rfl)

end Go.Proofs.YtjndabnegmecmaaDoor
