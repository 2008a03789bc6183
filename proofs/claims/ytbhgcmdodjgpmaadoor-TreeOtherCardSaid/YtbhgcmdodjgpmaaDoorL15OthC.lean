/-
  The law TreeOther, for all inputs, and its card. Conditions: none.
-/
import Derived.Test.YtbhgcmdodjgpmaaDoorL15Othr
namespace Go.Proofs.YtbhgcmdodjgpmaaDoor
set_option linter.unusedVariables false
set_option linter.unusedSimpArgs false
set_option maxRecDepth 10000
open Go.ChangeShapes Go.WideShapes Go.ChangeAt Go.RowKit

set_option maxRecDepth 100000 in
set_option maxHeartbeats 4000000 in
theorem treeOther_any (n : Int) (A : Option Addr) (c : Nat) (l : List Lf) (pz : Nat) (hpz : pz < 65536) (x : Lf) (hxf : x.fine15) (hc : l.length ≤ c) (hcm : c ≤ 9223372036854775807) (hs : ∀ x ∈ l, x.fine15)
    (w : World) (hR : lfS.Row w w.heap.size A l) (hK : Tab w) (hU : TabU w) :
    Calls Tryd.prog 6 #[.int .i64 n, .slice A l.length c, .int .u16 pz, x.val] w (Tells (.bool true) w.heap.size w) := by
  cases hg : greatLf l with
  | true =>
    have cW := fun u hu hv => awake15_any u hu hv
    have cG := fun u hu => great15_any A c l (by omega) (fun x hx => (hs x hx).1) u hu
    rw [hg] at cG
    obtain ⟨xp, xi, xs, xh, xl⟩ := x
    show Calls _ _ #[_, _, _, .agg (lfB xp xi xs xh xl)] _ _
    have H0 := (Has.start w).past (.cells (lfB xp xi xs xh xl) 26)
    clear hg
    go_enter Tryd.func6, Tryd.ntmps6
    go_upto_region 1 with fail
    change Code.wp _ _ _ _ (w.alloc (.cells (lfB xp xi xs xh xl) 26))
    generalize w.alloc (.cells (lfB xp xi xs xh xl) 26) = W0 at *
    go_wp2_with (first
      | (go_at_call 16; refine (cW _ (hK.call H0.below) (hU.call H0.below)).mono ?_; rintro e w1 ⟨rfl, b1⟩; have K1 := H0.call b1)
      | (go_at_call 7; refine (cG _ (hR.on K1.below)).mono ?_; rintro e w2 ⟨rfl, rfl⟩)
      | fail)
    go_ret
    exact ⟨rfl, K1.below⟩
  | false =>
    have rest : (greatLf [x] = true ∨ newE n l ≠ 0) → Calls Tryd.prog 6 #[.int .i64 n, .slice A l.length c, .int .u16 pz, x.val] w (Tells (.bool true) w.heap.size w) := by
      intro hor
      have cW := fun u hu hv => awake15_any u hu hv
      have cG := fun u hu => great15_any A c l (by omega) (fun x hx => (hs x hx).1) u hu
      have cG1 := fun (u : World) hu => great15_any (some ⟨u.heap.size, 0, none⟩) 1 [x] (by simp) (fun y hy => by rw [List.mem_singleton.1 hy]; exact hxf.1) (u.alloc (.cells (lfS.flat [x]).toArray 26)) hu
      have hrow := fun u => lf_rowL u [x]
      rw [hg] at cG
      have HOR := hideIt hor
      obtain ⟨gr, hgr⟩ : ∃ gr, greatLf [x] = gr := ⟨_, rfl⟩
      rw [hgr] at cG1 hor
      have c1 := fun u hE hR hT hV => new15_err n A c l u (by omega) (fun x hx => (hs x hx).1) (fun x hx => (hs x hx).2) hE hR hT hV
      generalize newE n l = E at *
      obtain ⟨xp, xi, xs, xh, xl⟩ := x
      simp only [List.length_cons, List.length_nil, Nat.zero_add] at cG1
      show Calls _ _ #[_, _, _, .agg (lfB xp xi xs xh xl)] _ _
      have H0 := (Has.start w).add 26 (lfB xp xi xs xh xl)
      clear hg hgr
      go_enter Tryd.func6, Tryd.ntmps6
      go_upto_region 1 with fail
      change Code.wp _ _ _ _ (w.alloc (.cells (lfB xp xi xs xh xl) 26))
      obtain ⟨g7, hg7⟩ : ∃ g, w.heap.size = g := ⟨_, rfl⟩
      have HW := hg7
      rw [hg7] at H0 ⊢
      generalize w.alloc (.cells (lfB xp xi xs xh xl) 26) = W0 at *
      go_upto_region 3 with (first
        | (go_at_call 16; refine (cW _ (hK.call H0.below) (hU.call H0.below)).mono ?_; rintro e w1 ⟨rfl, b1⟩; have K1 := H0.call b1)
        | fail)
      obtain ⟨⟨x0, x1, x2, x3, x4⟩, -, xin⟩ := (K1.box 0).five0
      have cG2 := cG1 w1 (hrow w1)
      have cG2 : Calls Tryd.prog 7 #[.slice (some ⟨w1.heap.size, 0, none⟩) 1 1] (w1.alloc (.cells (lfB xp xi xs xh xl) 26)) (Plain (.bool gr) (w1.alloc (.cells (lfB xp xi xs xh xl) 26))) := cG2
      have K2 := K1.past (.cells (lfB xp xi xs xh xl) 26)
      clear cG1 hrow cW H0 b1
      cases gr with
      | true =>
        clear hor
        go_wp2_with (first
          | (go_at_call 7; ((with_reducible refine (cG _ (hR.on K1.below)).mono ?_); rintro e w2 ⟨rfl, rfl⟩))
          | (go_at_call 7; ((with_reducible refine cG2.mono ?_); rintro e w2 ⟨rfl, rfl⟩))
          | fail)
        go_ret
        exact ⟨rfl, by have := K2.below; first | exact this | (rw [HW] at this; exact this)⟩
      | false =>
        have hE : E ≠ 0 := by
          rcases hor with h | h
          · cases h
          · exact h
        have c1' := fun u hR hT hV => c1 u hE hR hT hV
        have q0 : (E != 0) = true := bne_iff_ne.2 hE
        clear c1 hor
        go_wp2_with (first
          | (go_at_call 7; ((with_reducible refine (cG _ (hR.on K1.below)).mono ?_); rintro e w2 ⟨rfl, rfl⟩))
          | (go_at_call 7; ((with_reducible refine cG2.mono ?_); rintro e w2 ⟨rfl, rfl⟩))
          | (go_at_call 17; refine (c1' _ (hR.on K2.below) (hK.call K2.below) (hU.call K2.below)).mono ?_; rintro e w3 ⟨rfl, b3⟩; have K3 := K2.call b3)
          | fail)
        go_ret
        exact ⟨rfl, by have := K3.below; first | exact this | (rw [HW] at this; exact this)⟩
    cases hg1 : greatLf [x] with
    | true => exact rest (Or.inl hg1)
    | false =>
      by_cases hE : newE n l = 0
      · exact treeOther_fair n A c l pz hpz x hxf hc hcm hg hg1 _ (newE_fair hE (fun x hx => (hs x hx).2)) w hR hK hU
      · exact rest (Or.inr hE)
theorem treeOther_core (H : Type) (enc : TypeId × Value → H) (W : World) (base : Nat) (args : Array Value) (ds gs : List (DataW H)) (before : List MemPlace)
    (hval : ∀ (j : Nat) t v, Tryd.f6.params[j]? = some t → args[j]? = some v → Value.okWide Tryd.prog W .any base t v)
    (hW : DataW.Whole enc Tryd.prog Tryd.f6.params.toList Rows.treeOtherSpec.vars false W args.toList ds gs before) (hT : Tab W ∧ TabU W) :
    gs = [] ∧ ds.length = 4 ∧ Calls Tryd.prog 6 args W (Tells (.bool true) W.heap.size W) := by
  obtain ⟨p, q, hA, hV, -, -, -⟩ := hW
  obtain ⟨rfl, rfl⟩ := trodVars_none hV
  have hA : DataW.TrodAll enc Tryd.prog W 0 (fun _ => true) true Tryd.f6.params.toList args.toList ds p := hA
  rw [Tryd.params6] at hA hval
  obtain ⟨v0, vs0, d0, ds0, p0, ps0, e0, rfl, -, h0, hA⟩ := trodAll_cons hA
  obtain ⟨v1, vs1, d1, ds1, p1, ps1, rfl, rfl, -, h1, hA⟩ := trodAll_cons hA
  obtain ⟨v2, vs2, d2, ds2, p2, ps2, rfl, rfl, -, h2, hA⟩ := trodAll_cons hA
  obtain ⟨v3, vs3, d3, ds3, p3, ps3, rfl, rfl, -, h3, hA⟩ := trodAll_cons hA
  obtain ⟨rfl, rfl, rfl⟩ := trodAll_nil hA
  obtain rfl : args = #[v0, v1, v2, v3] := Array.ext' e0
  obtain ⟨n, rfl, -, -, -⟩ := open_int Tryd.underlying3 (hval 0 3 v0 rfl rfl) h0
  obtain ⟨A, c, l, rfl, hc, hcm, hx, hR⟩ := open_lfs15 (hval 1 28 v1 rfl rfl) h1
  obtain ⟨pl, rfl, -, -, bp⟩ := open_int Tryd.underlying50 (hval 2 50 v2 rfl rfl) h2
  obtain ⟨x, rfl, z1, z2, z3, z4⟩ := open_leaf (hval 3 26 v3 rfl rfl) h3
  have hp := half_of bp
  obtain ⟨b, rfl⟩ := Int.eq_ofNat_of_zero_le hp.1
  exact ⟨rfl, rfl, treeOther_any n A c l b (by have := hp.2; omega) x ⟨⟨z1, z2⟩, z3, z4⟩ hc hcm hx W hR hT.1 hT.2⟩

set_option maxRecDepth 100000 in
theorem treeOther_lifted (os : Os) (started : os.Started) (H : Type) (enc : TypeId × Value → H) :
    ReturnsInHanded {} Tryd.checked os 6 .any (fun w args => (Rows.treeOtherSpec.pre enc Tryd.prog Tryd.f6 [] false w args ∧ laidMetH Tryd.prog laidA w) ∧ sizedMet enc Tryd.prog Tryd.f6 (OpenSpec.ofChange Rows.treeOtherSpec) false w args)
      (Rows.treeOtherSpec.post enc Tryd.prog Tryd.f6 false true false false) := by
  refine returnsInHanded_of_change_and (C := Tryd.checked) (X := fun w _ => laidMetH Tryd.prog laidA w) (fun _ _ _ hh h => h.of_heap hh) own_knob started (by kernel_rfl) Tryd.func6
    (ChangeSpec.witness_shaped (enc := enc) (C := Tryd.checked) (os := os) (X := fun w _ => laidMetH Tryd.prog laidA w) false (World.laidAll Tryd.prog os laidA) #[.int .i64 0, .slice none 0 0, .int .u16 0, .agg #[.bool false, .string ⟨#[]⟩, .string ⟨#[]⟩, .int .u64 0, .int .u64 0]] 8 (World.laidAll_os _ _ _) (World.shaped_of_ZipB (by kernel_rfl) (by kernel_rfl)) (by kernel_rfl) (by kernel_rfl) (by kernel_rfl) (met_A os _)) ?_
  intro W base args ds gs before hval0 hW _ hwt hL _
  have hval : ∀ (j : Nat) t v, Tryd.f6.params[j]? = some t → args[j]? = some v → Value.okWide Tryd.prog W .any base t v := hval0
  obtain ⟨hg, hlen, hc⟩ := treeOther_core H enc W base args ds gs before hval hW (tab_of_laidA hL)
  subst hg
  have hr : (Tryd.f6.params.toList.all fun t => Tryd.prog.readableRec t && decide (t < Tryd.prog.types.size)) = true := by kernel_rfl
  have hread : ∀ t ∈ Tryd.f6.params.toList, Tryd.prog.readableRec t = true ∧ t < Tryd.prog.types.size := fun t ht => by
    have h := List.all_eq_true.1 hr t ht
    rw [Bool.and_eq_true, decide_eq_true_eq] at h
    exact h
  refine hc.mono fun e W' ⟨he, hb⟩ => ?_
  subst he
  match ds, hlen with
  | [d0, d1, d2, d3], _ => exact ⟨_, rfl, law_post laid_out Tryd.underlying4 rfl hread rfl hW rfl rfl rfl hb⟩

theorem treeOther_holds : Rows.TreeOtherSaid :=
  OpenClaim.holds_of_wide 6 Tryd.f6 rfl rfl rfl rfl rfl rfl rfl ⟨rfl, rfl, rfl, rfl, rfl⟩ rfl rfl rfl rfl rfl (by kernel_rfl) Tryd.func6 (by kernel_rfl)
    (of_decide_eq_true (by kernel_rfl)) (by unfold Func.isWrapper; first | (rw [if_pos (by decide +kernel)]; kernel_rfl) | (rw [if_neg (by decide +kernel)]; exact ⟨rfl, rfl⟩))
    (fun os started H enc _ => treeOther_lifted os started H enc)

theorem treeOther_card : Rows.TreeOtherCardSaid :=
  Claim7.holds_tied_plain_at .later [] [.data, .data, .pinned] true _ false
    treeOther_holds (fun _ h => by cases h) (by kernel_rfl) (fun _ h => by cases h) treeOther_row_tie rfl ⟨rfl, rfl⟩ (by kernel_rfl) rfl
    (fun f fn hf hfn => by
      obtain rfl : f = 6 := Option.some.inj ((show Tryd.prog.funcNamed "paymaster/paymasterlaw15.TreeOther" = some 6 by kernel_rfl).symm.trans hf) |>.symm
      obtain rfl : fn = Tryd.f6 := (Option.some.inj (Tryd.func6.symm.trans hfn)).symm
      exact ⟨by kernel_rfl, fun j t ht => by
        have hm : t ∈ Tryd.f6.params.toList := by simpa using Array.mem_of_getElem? ht
        have hall : (Tryd.f6.params.toList.all fun u => !Tryd.prog.wantsStandIn u) = true := by kernel_rfl
        exact (show Tryd.prog.wantsStandIn t = false by simpa using List.all_eq_true.1 hall t hm)⟩)
    (by kernel_rfl)

end Go.Proofs.YtbhgcmdodjgpmaaDoor
