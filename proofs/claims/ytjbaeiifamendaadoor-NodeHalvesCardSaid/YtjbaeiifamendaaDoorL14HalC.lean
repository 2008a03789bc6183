/-
  The law NodeHalves, for all inputs, and its card. Conditions: none.
-/
import Derived.Test.YtjbaeiifamendaaDoorL14HalW
namespace Go.Proofs.YtjbaeiifamendaaDoor
set_option linter.unusedVariables false
set_option linter.unusedSimpArgs false
set_option maxRecDepth 10000
open Go.ChangeShapes Go.WideShapes Go.ChangeAt Go.RowKit

set_option maxRecDepth 100000 in
set_option maxHeartbeats 4000000 in
theorem nodeHalves_any (n : Int) (A : Option Addr) (c : Nat) (ys : List Nd) (p : Nat) (hp : p < 18446744073709551616) (s : Nat) (hs : s < 256) (hc : ys.length ≤ c) (hcm : c ≤ 9223372036854775807) (hy : ∀ z ∈ ys, z.fine)
    (w : World) (hR : ndS.Row w w.heap.size A ys) (hT : Tab w) :
    Calls Tryd.prog 8 #[.int .i64 n, .slice A ys.length c, .int .u64 p, .int .u8 s] w (Tells (.bool true) w.heap.size w) := by
  have cW := fun u hu => awake14_any u hu
  have cG := fun u hu => great_any A c ys (by omega) (fun x hx => (hy x hx).1) u hu
  have H0 := Has.start w
  cases hg : greatN ys with
  | true =>
    rw [hg] at cG
    clear hg
    go_enter Tryd.func8, Tryd.ntmps8
    go_wp2_with (first
      | (go_at_call 19; refine (cW _ hT).mono ?_; rintro e w1 ⟨rfl, b1⟩; have K1 := H0.call b1)
      | (go_at_call 9; refine (cG _ (hR.on K1.below)).mono ?_; rintro e w2 ⟨rfl, b2⟩; have K2 := K1.call b2)
      | fail)
    go_ret
    exact ⟨rfl, K2.below⟩
  | false =>
    cases ys with
    | nil =>
      rw [hg] at cG
      clear hg
      simp only [List.length_nil] at cG ⊢
      go_enter Tryd.func8, Tryd.ntmps8
      go_wp2_with (first
        | (go_at_call 19; refine (cW _ hT).mono ?_; rintro e w1 ⟨rfl, b1⟩; have K1 := H0.call b1)
        | (go_at_call 9; refine (cG _ (hR.on K1.below)).mono ?_; rintro e w2 ⟨rfl, b2⟩; have K2 := K1.call b2)
        | fail)
      go_ret
      exact ⟨rfl, K2.below⟩
    | cons x r => exact nodeHalves_short n A c x r p hp s hs hc hcm hy hg w hR hT
theorem nodeHalves_core (H : Type) (enc : TypeId × Value → H) (W : World) (base : Nat) (args : Array Value) (ds gs : List (DataW H)) (before : List MemPlace)
    (hval : ∀ (j : Nat) t v, Tryd.f8.params[j]? = some t → args[j]? = some v → Value.okWide Tryd.prog W .any base t v)
    (hW : DataW.Whole enc Tryd.prog Tryd.f8.params.toList Rows.nodeHalvesSpec.vars false W args.toList ds gs before) (hT : Tab W) :
    gs = [] ∧ ds.length = 4 ∧ Calls Tryd.prog 8 args W (Tells (.bool true) W.heap.size W) := by
  obtain ⟨p, q, hA, hV, -, -, -⟩ := hW
  obtain ⟨rfl, rfl⟩ := trodVars_none hV
  have hA : DataW.TrodAll enc Tryd.prog W 0 (fun _ => true) true Tryd.f8.params.toList args.toList ds p := hA
  rw [Tryd.params8] at hA hval
  obtain ⟨v0, vs0, d0, ds0, p0, ps0, e0, rfl, -, h0, hA⟩ := trodAll_cons hA
  obtain ⟨v1, vs1, d1, ds1, p1, ps1, rfl, rfl, -, h1, hA⟩ := trodAll_cons hA
  obtain ⟨v2, vs2, d2, ds2, p2, ps2, rfl, rfl, -, h2, hA⟩ := trodAll_cons hA
  obtain ⟨v3, vs3, d3, ds3, p3, ps3, rfl, rfl, -, h3, hA⟩ := trodAll_cons hA
  obtain ⟨rfl, rfl, rfl⟩ := trodAll_nil hA
  obtain rfl : args = #[v0, v1, v2, v3] := Array.ext' e0
  obtain ⟨n, rfl, -, -, bn⟩ := open_int Tryd.underlying3 (hval 0 3 v0 rfl rfl) h0
  obtain ⟨A, c, ys, rfl, hc, hcm, hy, hR⟩ := open_nds (hval 1 28 v1 rfl rfl) h1
  obtain ⟨m, rfl, -, -, bm⟩ := open_int Tryd.underlying22 (hval 2 22 v2 rfl rfl) h2
  have hm := word_of bm
  obtain ⟨k, rfl⟩ := Int.eq_ofNat_of_zero_le hm.1
  have hk : k < 18446744073709551616 := by have := hm.2; omega
  obtain ⟨u, rfl, -, -, bu⟩ := open_int Tryd.underlying5 (hval 3 5 v3 rfl rfl) h3
  have hu : 0 ≤ u ∧ u < 256 := by
    simp [Lit.wf, IntKind.min, IntKind.max, IntKind.signed, IntKind.bits] at bu
    omega
  obtain ⟨s, rfl⟩ := Int.eq_ofNat_of_zero_le hu.1
  exact ⟨rfl, rfl, nodeHalves_any n A c ys k hk s (by omega) hc hcm hy W hR hT⟩

set_option maxRecDepth 100000 in
theorem nodeHalves_lifted (os : Os) (started : os.Started) (H : Type) (enc : TypeId × Value → H) :
    ReturnsInHanded {} Tryd.checked os 8 .any (fun w args => (Rows.nodeHalvesSpec.pre enc Tryd.prog Tryd.f8 [] false w args ∧ laidMetH Tryd.prog laidK w) ∧ sizedMet enc Tryd.prog Tryd.f8 (OpenSpec.ofChange Rows.nodeHalvesSpec) false w args)
      (Rows.nodeHalvesSpec.post enc Tryd.prog Tryd.f8 false true false false) := by
  refine returnsInHanded_of_change_and (C := Tryd.checked) (X := fun w _ => laidMetH Tryd.prog laidK w) (fun _ _ _ hh h => h.of_heap hh) own_knob started (by kernel_rfl) Tryd.func8
    (ChangeSpec.witness_shaped (enc := enc) (C := Tryd.checked) (os := os) (X := fun w _ => laidMetH Tryd.prog laidK w) false (World.doorLaid Tryd.prog 14 os) #[.int .i64 0, .slice none 0 0, .int .u64 0, .int .u8 0] 8 rfl (World.shaped_of_RefB (by kernel_rfl) (by kernel_rfl)) (by kernel_rfl) (by kernel_rfl) (by kernel_rfl) (door_met os _)) ?_
  intro W base args ds gs before hval0 hW _ hwt hL _
  have hval : ∀ (j : Nat) t v, Tryd.f8.params[j]? = some t → args[j]? = some v → Value.okWide Tryd.prog W .any base t v := hval0
  obtain ⟨hg, hlen, hc⟩ := nodeHalves_core H enc W base args ds gs before hval hW (tab_of_laid hL)
  subst hg
  have hr : (Tryd.f8.params.toList.all fun t => Tryd.prog.readableRec t && decide (t < Tryd.prog.types.size)) = true := by kernel_rfl
  have hread : ∀ t ∈ Tryd.f8.params.toList, Tryd.prog.readableRec t = true ∧ t < Tryd.prog.types.size := fun t ht => by
    have h := List.all_eq_true.1 hr t ht
    rw [Bool.and_eq_true, decide_eq_true_eq] at h
    exact h
  refine hc.mono fun e W' ⟨he, hb⟩ => ?_
  subst he
  match ds, hlen with
  | [d0, d1, d2, d3], _ => exact ⟨_, rfl, law_post laid_out Tryd.underlying4 rfl hread rfl hW rfl rfl rfl hb⟩

theorem nodeHalves_holds : Rows.NodeHalvesSaid :=
  OpenClaim.holds_of_wide 8 Tryd.f8 rfl rfl rfl rfl rfl rfl rfl ⟨rfl, rfl, rfl, rfl, rfl⟩ rfl rfl rfl rfl rfl (by kernel_rfl) Tryd.func8 (by kernel_rfl)
    (of_decide_eq_true (by kernel_rfl)) (by unfold Func.isWrapper; first | (rw [if_pos (by decide +kernel)]; kernel_rfl) | (rw [if_neg (by decide +kernel)]; exact ⟨rfl, rfl⟩))
    (fun os started H enc _ => nodeHalves_lifted os started H enc)

theorem nodeHalves_card : Rows.NodeHalvesCardSaid :=
  Claim7.holds_tied_plain_at .later [] [.data] true _ false
    nodeHalves_holds (fun _ h => by cases h) (by kernel_rfl) (fun _ h => by cases h) nodeHalves_row_tie rfl ⟨rfl, rfl⟩ (by kernel_rfl) rfl
    (fun f fn hf hfn => by
      obtain rfl : f = 8 := Option.some.inj ((show Tryd.prog.funcNamed "paymaster/paymasterlaw14.NodeHalves" = some 8 by kernel_rfl).symm.trans hf) |>.symm
      obtain rfl : fn = Tryd.f8 := (Option.some.inj (Tryd.func8.symm.trans hfn)).symm
      exact ⟨by kernel_rfl, fun j t ht => by
        have hm : t ∈ Tryd.f8.params.toList := by simpa using Array.mem_of_getElem? ht
        have hall : (Tryd.f8.params.toList.all fun u => !Tryd.prog.wantsStandIn u) = true := by kernel_rfl
        exact (show Tryd.prog.wantsStandIn t = false by simpa using List.all_eq_true.1 hall t hm)⟩)
    (by kernel_rfl)

end Go.Proofs.YtjbaeiifamendaaDoor
