/-
  The law TagBack: a leaf that may be is read from its text; what is read has just that text, and may be.
  Conditions: block's table of constants and utf8's two tables hold what their texts lay (tied by the card; one is the form's constant).
-/
import Derived.Test.YtkmnfogcocppjaaDoorU7Awake
import Derived.Test.YtkmnfogcocppjaaDoorW7Laid
namespace Go.Proofs.YtkmnfogcocppjaaDoor
set_option linter.unusedVariables false
set_option linter.unusedSimpArgs false
set_option maxRecDepth 10000
open Go.ChangeShapes Go.WideShapes Go.ChangeAt Go.RowKit

theorem Lf.may_sizes (x : Lf) (h : x.may = true) : x.id.size ≤ 96 ∧ x.salt.size ≤ 32 := by
  cases hp : x.pad with
  | true =>
    have := x.may_pad h hp
    exact ⟨by rw [this.1]; show 0 ≤ 96; omega, this.2.2.2⟩
  | false =>
    have := x.may_id h hp
    exact ⟨this.2.1, this.2.2⟩
theorem Lf.text_small (x : Lf) (h : x.may = true) : x.text.size ≤ 200 := by
  have hs := x.may_sizes h
  rw [← ba_size, Lf.text_list, Lf.list, if_pos h]
  by_cases hp : x.pad = true
  · rw [if_pos hp, List.length_cons, szL, List.length_cons, ba_size]; omega
  · rw [if_neg hp, List.length_cons, List.length_append, List.length_append, szL, szL, List.length_cons, List.length_cons, ba_size, ba_size, ba_size, textOf_size]; omega
theorem neq_lf_same (x : Lf) (w : World) : (binOp .neq 26 x.val x.val).run Tryd.prog w = .ok (.bool false) w := by rw [run_neq_lf, Lf.same_self]; rfl

set_option maxHeartbeats 2000000 in
theorem back_long (x : Lf) (text : ByteArray) (h : (300 < x.id.size ∨ 300 < x.salt.size) ∨ 1000 < text.size) (h1 : x.id.size ≤ 9223372036854775807) (h2 : x.salt.size ≤ 9223372036854775807) (h3 : text.size ≤ 9223372036854775807) (w : World) (hK : Tab w) (hT : TabU w) :
    Calls Tryd.prog 7 #[x.val, .string text] w (Tells (.bool true) w.heap.size w) := by
  have cL := fun u => long_any x h1 h2 u
  have cA := fun u hu hv => awake7_any u hu hv
  obtain ⟨p, i, s, h', l⟩ := x
  have B0 : Box (w.alloc (.cells (lfB p i s h' l) 26)) w.heap.size 26 (lfB p i s h' l) := Box.made w _ _
  have L0 : Below w.heap.size w (w.alloc (.cells (lfB p i s h' l) 26)) := by repeat (first | exact Below.refl _ _ | apply Below.drew | apply below_drewN | refine Below.alloc ?_ (by simp; try omega) _ | refine Below.setCell ?_ (by simp; try omega) _)
  have ev : Lf.val ⟨p, i, s, h', l⟩ = .agg (lfB p i s h' l) := rfl
  rw [ev] at cL ⊢
  clear ev
  have hA : (decide (300 < i.size) || decide (300 < s.size)) = true ∨ ((decide (300 < i.size) || decide (300 < s.size)) = false ∧ (1000 : Int) < (text.size : Int)) := by
    rcases h with (h | h) | h
    · exact Or.inl (by simp only at h; rw [decide_eq_true h]; rfl)
    · exact Or.inl (by simp only at h; rw [decide_eq_true h, Bool.or_true])
    · cases (decide (300 < i.size) || decide (300 < s.size)) with
      | true => exact Or.inl rfl
      | false => exact Or.inr ⟨rfl, by omega⟩
  simp only at cL
  generalize (decide (300 < i.size) || decide (300 < s.size)) = A at *
  clear h
  go_enter Tryd.func7, Tryd.ntmps7
  go_upto_region 1 with fail
  change Code.wp _ _ _ _ (w.alloc (.cells (lfB p i s h' l) 26))
  generalize w.alloc (.cells (lfB p i s h' l) 26) = W at *
  go_upto_region 3 with (first
    | (go_at_call 35; refine (cA _ (hK.call L0) (hT.call L0)).mono ?_; rintro e w1 ⟨rfl, j1⟩)
    | fail)
  have B1 := B0.call j1
  obtain ⟨⟨y0, y1, y2, y3, y4⟩, -, hin1⟩ := B1.five0
  rcases hA with rfl | ⟨rfl, ht⟩
  · go_wp2_with (first | (go_at_call 10; refine (cL _).mono ?_; rintro e w2 ⟨rfl, b1⟩))
    go_ret
    exact ⟨rfl, chain (chain L0 j1) b1⟩
  · go_wp2_with (first | (go_at_call 10; refine (cL _).mono ?_; rintro e w2 ⟨rfl, b1⟩))
    go_ret
    exact ⟨rfl, chain (chain L0 j1) b1⟩

set_option maxRecDepth 100000 in
set_option maxHeartbeats 8000000 in
theorem back_short (x : Lf) (text : ByteArray) (h1 : x.id.size ≤ 300) (h2 : x.salt.size ≤ 300) (h3 : text.size ≤ 1000) (hh : Word x.h) (hl : Word x.l) (w : World) (hK : Tab w) (hT : TabU w) :
    Calls Tryd.prog 7 #[x.val, .string text] w (Tells (.bool true) w.heap.size w) := by
  have cL := fun u => long_any x (by omega) (by omega) u
  have cA := fun u hu hv => awake7_any u hu hv
  have cR := fun u hu => read_any text (by omega) u hu
  have hA : (decide (300 < x.id.size) || decide (300 < x.salt.size)) = false := by rw [decide_eq_false (show ¬ 300 < x.id.size by omega), decide_eq_false (show ¬ 300 < x.salt.size by omega)]; rfl
  rw [hA] at cL
  have ht : ¬ ((1000 : Int) < (text.size : Int)) := by omega
  clear hA
  have hq : ((rd text).isSome = false ∧ rdL text = Lf.zero) ∨ ((rd text).isSome = true ∧ (rdL text).may = true ∧ (rdL text).text = text ∧ Word (rdL text).h ∧ Word (rdL text).l) := by
    unfold rdL
    cases hr : rd text with
    | none => exact Or.inl ⟨rfl, rfl⟩
    | some z =>
      obtain ⟨q1, q2, q3, q4⟩ := rd_some hr
      exact Or.inr ⟨rfl, q1, q2, q3, q4⟩
  have hz := fun u => eql_lf_same Lf.zero u
  simp only [Lf.val, Lf.zero] at hz
  unfold rdV at cR
  generalize rdL text = y at *
  generalize (rd text).isSome = q at *
  simp only [Lf.val] at cR
  have cM := fun u hu => mayLeaf_any x (by omega) (by omega) u hu
  have cT := fun u hu => leafText_any x (by omega) (by omega) hh hl u hu
  have hne := fun u => neq_lf_same x u
  by_cases hm : x.may = true
  · have cX := fun u hu => read_any x.text (by have := x.text_small hm; omega) u hu
    have er : rdV x.text = .tuple #[x.val, .bool true] := by unfold rdV rdL; rw [rd_text x hm hh hl]; rfl
    rw [er] at cX
    rw [hm] at cM
    generalize x.text = T at *
    clear er hm
    obtain ⟨p, i, s, h', l⟩ := x
    have B0 : Box (w.alloc (.cells (lfB p i s h' l) 26)) w.heap.size 26 (lfB p i s h' l) := Box.made w _ _
    have L0 : Below w.heap.size w (w.alloc (.cells (lfB p i s h' l) 26)) := by repeat (first | exact Below.refl _ _ | apply Below.drew | apply below_drewN | refine Below.alloc ?_ (by simp; try omega) _ | refine Below.setCell ?_ (by simp; try omega) _)
    have H0 := Has.one B0 L0
    have ev : Lf.val ⟨p, i, s, h', l⟩ = .agg (lfB p i s h' l) := rfl
    rw [ev] at cL cM cT cX ⊢
    simp only [Lf.val] at hne
    clear ev
    go_enter Tryd.func7, Tryd.ntmps7
    go_upto_region 1 with fail
    change Code.wp _ _ _ _ (w.alloc (.cells (lfB p i s h' l) 26))
    generalize w.alloc (.cells (lfB p i s h' l) 26) = W at *
    go_upto_region 3 with (first
      | (go_at_call 35; refine (cA _ (hK.call L0) (hT.call L0)).mono ?_; rintro e w1 ⟨rfl, j1⟩)
      | fail)
    have H1 := H0.call j1
    obtain ⟨⟨y0, y1, y2, y3, y4⟩, -, hin1⟩ := (H1.box 0).five0
    go_upto_region 5 with (first
      | (go_at_call 10; refine (cL _).mono ?_; rintro e w2 ⟨rfl, j2⟩)
      | fail)
    have H2 := H1.call j2
    clear y0 y1 y2 y3 y4 hin1
    obtain ⟨⟨y0, y1, y2, y3, y4⟩, -, hin1⟩ := (H2.box 0).five0
    go_upto_region 6 with (first
      | (go_at_call 17; refine (cM _ (hT.call H2.below)).mono ?_; rintro e w3 ⟨rfl, j3⟩)
      | fail)
    have H3 := H2.call j3
    clear y0 y1 y2 y3 y4 hin1
    obtain ⟨⟨y0, y1, y2, y3, y4⟩, -, hin1⟩ := (H3.box 0).five0
    go_upto_region 7 with (first
      | (go_at_call 19; refine (cT _ (hT.call H3.below)).mono ?_; rintro e v1 ⟨rfl, k1⟩; have K1 := H3.call k1)
      | (go_at_call 11; refine (cX _ (hT.call K1.below)).mono ?_; rintro e v2 ⟨rfl, k2⟩)
      | fail)
    have H4 := (K1.call k2).add 26 (lfB p i s h' l)
    change Code.wp _ _ _ _ (v2.alloc (.cells (lfB p i s h' l) 26))
    generalize v2.alloc (.cells (lfB p i s h' l) 26) = W4 at *
    generalize v2.heap.size = gk at *
    clear y0 y1 y2 y3 y4 hin1
    obtain ⟨⟨y0, y1, y2, y3, y4⟩, -, hin1⟩ := (H4.box 0).five0
    obtain ⟨⟨z0, z1, z2, z3, z4⟩, -, hin2⟩ := (H4.box 1).five0
    go_upto_region 9 with fail
    clear y0 y1 y2 y3 y4 hin1 z0 z1 z2 z3 z4 hin2
    go_upto_region 10 with (first
      | (go_at_call 11; refine (cR _ (hT.call H4.below)).mono ?_; rintro e w5 ⟨rfl, j5⟩)
      | fail)
    have H5 := (H4.call j5).add 26 (lfB y.pad y.id y.salt y.h y.l)
    change Code.wp _ _ _ _ (w5.alloc (.cells (lfB y.pad y.id y.salt y.h y.l) 26))
    generalize w5.alloc (.cells (lfB y.pad y.id y.salt y.h y.l) 26) = W5 at *
    have B5 := H5.box 0
    have L5 := H5.below
    generalize w5.heap.size = gm at *
    obtain ⟨⟨y0, y1, y2, y3, y4⟩, -, hin1⟩ := B5.five0
    rcases hq with ⟨hq, hzy⟩ | ⟨hq, hmy, hty, hwy⟩
    · rw [hzy] at y0 y1 y2 y3 y4
      simp only [Lf.zero] at y0 y1 y2 y3 y4
      rw [hq]
      go_wp2
      go_ret
      exact ⟨rfl, L5⟩
    · rw [hq]
      have cm := fun u hu => mayLeaf_any y (by have := y.may_sizes hmy; omega) (by have := y.may_sizes hmy; omega) u hu
      have ct := fun u hu => leafText_any y (by have := y.may_sizes hmy; omega) (by have := y.may_sizes hmy; omega) hwy.1 hwy.2 u hu
      rw [hmy] at cm
      rw [hty] at ct
      simp only [Lf.val] at cm ct
      go_wp2_with (first
        | (go_at_call 17; refine (cm _ (hT.call L5)).mono ?_; rintro e w6 ⟨rfl, j6⟩
           have B6 := B5.call j6
           have L6 := chain L5 j6
           obtain ⟨⟨k0, k1, k2, k3, k4⟩, -, hin2⟩ := B6.five0)
        | (go_at_call 19; refine (ct _ (hT.call L6)).mono ?_; rintro e w7 ⟨rfl, j7⟩
           have L7 := chain L6 j7))
      go_ret
      exact ⟨rfl, L7⟩
  · rw [Bool.not_eq_true] at hm
    rw [hm] at cM
    obtain ⟨p, i, s, h', l⟩ := x
    have B0 : Box (w.alloc (.cells (lfB p i s h' l) 26)) w.heap.size 26 (lfB p i s h' l) := Box.made w _ _
    have L0 : Below w.heap.size w (w.alloc (.cells (lfB p i s h' l) 26)) := by repeat (first | exact Below.refl _ _ | apply Below.drew | apply below_drewN | refine Below.alloc ?_ (by simp; try omega) _ | refine Below.setCell ?_ (by simp; try omega) _)
    have H0 := Has.one B0 L0
    have ev : Lf.val ⟨p, i, s, h', l⟩ = .agg (lfB p i s h' l) := rfl
    rw [ev] at cL cM ⊢
    clear ev cT hne
    go_enter Tryd.func7, Tryd.ntmps7
    go_upto_region 1 with fail
    change Code.wp _ _ _ _ (w.alloc (.cells (lfB p i s h' l) 26))
    generalize w.alloc (.cells (lfB p i s h' l) 26) = W at *
    go_upto_region 3 with (first
      | (go_at_call 35; refine (cA _ (hK.call L0) (hT.call L0)).mono ?_; rintro e w1 ⟨rfl, j1⟩)
      | fail)
    have H1 := H0.call j1
    obtain ⟨⟨y0, y1, y2, y3, y4⟩, -, hin1⟩ := (H1.box 0).five0
    go_upto_region 5 with (first
      | (go_at_call 10; refine (cL _).mono ?_; rintro e w2 ⟨rfl, j2⟩)
      | fail)
    have H2 := H1.call j2
    clear y0 y1 y2 y3 y4 hin1
    obtain ⟨⟨y0, y1, y2, y3, y4⟩, -, hin1⟩ := (H2.box 0).five0
    go_upto_region 9 with (first
      | (go_at_call 17; refine (cM _ (hT.call H2.below)).mono ?_; rintro e w3 ⟨rfl, j3⟩)
      | fail)
    have H4 := H2.call j3
    clear y0 y1 y2 y3 y4 hin1
    go_upto_region 10 with (first
      | (go_at_call 11; refine (cR _ (hT.call H4.below)).mono ?_; rintro e w5 ⟨rfl, j5⟩)
      | fail)
    have H5 := (H4.call j5).add 26 (lfB y.pad y.id y.salt y.h y.l)
    change Code.wp _ _ _ _ (w5.alloc (.cells (lfB y.pad y.id y.salt y.h y.l) 26))
    generalize w5.alloc (.cells (lfB y.pad y.id y.salt y.h y.l) 26) = W5 at *
    have B5 := H5.box 0
    have L5 := H5.below
    generalize w5.heap.size = gm at *
    obtain ⟨⟨y0, y1, y2, y3, y4⟩, -, hin1⟩ := B5.five0
    rcases hq with ⟨hq, hzy⟩ | ⟨hq, hmy, hty, hwy⟩
    · rw [hzy] at y0 y1 y2 y3 y4
      simp only [Lf.zero] at y0 y1 y2 y3 y4
      rw [hq]
      go_wp2
      go_ret
      exact ⟨rfl, L5⟩
    · rw [hq]
      have cm := fun u hu => mayLeaf_any y (by have := y.may_sizes hmy; omega) (by have := y.may_sizes hmy; omega) u hu
      have ct := fun u hu => leafText_any y (by have := y.may_sizes hmy; omega) (by have := y.may_sizes hmy; omega) hwy.1 hwy.2 u hu
      rw [hmy] at cm
      rw [hty] at ct
      simp only [Lf.val] at cm ct
      go_wp2_with (first
        | (go_at_call 17; refine (cm _ (hT.call L5)).mono ?_; rintro e w6 ⟨rfl, j6⟩
           have B6 := B5.call j6
           have L6 := chain L5 j6
           obtain ⟨⟨k0, k1, k2, k3, k4⟩, -, hin2⟩ := B6.five0)
        | (go_at_call 19; refine (ct _ (hT.call L6)).mono ?_; rintro e w7 ⟨rfl, j7⟩
           have L7 := chain L6 j7))
      go_ret
      exact ⟨rfl, L7⟩

theorem tagBack_core (H : Type) (enc : TypeId × Value → H) (W : World) (base : Nat) (args : Array Value) (ds gs : List (DataW H)) (before : List MemPlace)
    (hval : ∀ (j : Nat) t v, Tryd.f7.params[j]? = some t → args[j]? = some v → Value.okWide Tryd.prog W .any base t v)
    (hW : DataW.Whole enc Tryd.prog Tryd.f7.params.toList Rows.tagBackSpec.vars false W args.toList ds gs before) (hT : Tab W ∧ TabU W) :
    gs = [] ∧ ds.length = 2 ∧ Calls Tryd.prog 7 args W (Tells (.bool true) W.heap.size W) := by
  obtain ⟨p, q, hA, hV, -, -, -⟩ := hW
  obtain ⟨rfl, rfl⟩ := trodVars_none hV
  have hA : DataW.TrodAll enc Tryd.prog W 0 (fun _ => true) true Tryd.f7.params.toList args.toList ds p := hA
  rw [Tryd.params7] at hA hval
  obtain ⟨v0, vs0, d0, ds0, p0, ps0, e0, rfl, -, h0, hA⟩ := trodAll_cons hA
  obtain ⟨v1, vs1, d1, ds1, p1, ps1, rfl, rfl, -, h1, hA⟩ := trodAll_cons hA
  obtain ⟨rfl, rfl, rfl⟩ := trodAll_nil hA
  obtain rfl : args = #[v0, v1] := Array.ext' e0
  obtain ⟨x, rfl, z1, z2, z3, z4⟩ := open_leaf (hval 0 26 v0 rfl rfl) h0
  obtain ⟨text, rfl, rfl, rfl, z5⟩ := Go.ChangeMaps.open_string Tryd.underlying9 (hval 1 9 v1 rfl rfl) h1
  refine ⟨rfl, rfl, ?_⟩
  by_cases h : (300 < x.id.size ∨ 300 < x.salt.size) ∨ 1000 < text.size
  · exact back_long x text h z1 z2 z5 W hT.1 hT.2
  · exact back_short x text (by omega) (by omega) (by omega) z3 z4 W hT.1 hT.2

set_option maxRecDepth 100000 in
theorem tagBack_lifted (os : Os) (started : os.Started) (H : Type) (enc : TypeId × Value → H) :
    ReturnsInHanded {} Tryd.checked os 7 .any (fun w args => (Rows.tagBackSpec.pre enc Tryd.prog Tryd.f7 [] false w args ∧ laidMetH Tryd.prog laidA w) ∧ sizedMet enc Tryd.prog Tryd.f7 (OpenSpec.ofChange Rows.tagBackSpec) false w args)
      (Rows.tagBackSpec.post enc Tryd.prog Tryd.f7 false true false false) := by
  refine returnsInHanded_of_change_and (C := Tryd.checked) (X := fun w _ => laidMetH Tryd.prog laidA w) (fun _ _ _ hh h => h.of_heap hh) own_knob started (by kernel_rfl) Tryd.func7
    (ChangeSpec.witness_shaped (enc := enc) (C := Tryd.checked) (os := os) (X := fun w _ => laidMetH Tryd.prog laidA w) false (World.laidAll Tryd.prog os laidA) #[.agg #[.bool false, .string ⟨#[]⟩, .string ⟨#[]⟩, .int .u64 0, .int .u64 0], .string ⟨#[]⟩] 8 (World.laidAll_os _ _ _) (World.shaped_of_ZipB (by kernel_rfl) (by kernel_rfl)) (by kernel_rfl) (by kernel_rfl) (by kernel_rfl) (met_A os _)) ?_
  intro W base args ds gs before hval0 hW _ hwt hL _
  have hval : ∀ (j : Nat) t v, Tryd.f7.params[j]? = some t → args[j]? = some v → Value.okWide Tryd.prog W .any base t v := hval0
  obtain ⟨hg, hlen, hc⟩ := tagBack_core H enc W base args ds gs before hval hW (tab_of_laidA hL)
  subst hg
  have hr : (Tryd.f7.params.toList.all fun t => Tryd.prog.readableRec t && decide (t < Tryd.prog.types.size)) = true := by kernel_rfl
  have hread : ∀ t ∈ Tryd.f7.params.toList, Tryd.prog.readableRec t = true ∧ t < Tryd.prog.types.size := fun t ht => by
    have h := List.all_eq_true.1 hr t ht
    rw [Bool.and_eq_true, decide_eq_true_eq] at h
    exact h
  refine hc.mono fun e W' ⟨he, hb⟩ => ?_
  subst he
  match ds, hlen with
  | [d0, d1], _ => exact ⟨_, rfl, law_post laid_out Tryd.underlying4 rfl hread rfl hW rfl rfl rfl hb⟩

theorem tagBack_holds : Rows.TagBackSaid :=
  OpenClaim.holds_of_wide 7 Tryd.f7 rfl rfl rfl rfl rfl rfl rfl ⟨rfl, rfl, rfl, rfl, rfl⟩ rfl rfl rfl rfl rfl (by kernel_rfl) Tryd.func7 (by kernel_rfl)
    (of_decide_eq_true (by kernel_rfl)) (by unfold Func.isWrapper; first | (rw [if_pos (by decide +kernel)]; kernel_rfl) | (rw [if_neg (by decide +kernel)]; exact ⟨rfl, rfl⟩))
    (fun os started H enc _ => tagBack_lifted os started H enc)

theorem tagBack_card : Rows.TagBackCardSaid :=
  Claim7.holds_tied_plain_at .later [] [.data, .data, .pinned] true _ false
    tagBack_holds (fun _ h => by cases h) (by kernel_rfl) (fun _ h => by cases h) tagBack_row_tie rfl ⟨rfl, rfl⟩ (by kernel_rfl) rfl
    (fun f fn hf hfn => by
      obtain rfl : f = 7 := Option.some.inj ((show Tryd.prog.funcNamed "paymaster/paymasterlaw07.TagBack" = some 7 by kernel_rfl).symm.trans hf) |>.symm
      obtain rfl : fn = Tryd.f7 := (Option.some.inj (Tryd.func7.symm.trans hfn)).symm
      exact ⟨by kernel_rfl, fun j t ht => by
        have hm : t ∈ Tryd.f7.params.toList := by simpa using Array.mem_of_getElem? ht
        have hall : (Tryd.f7.params.toList.all fun u => !Tryd.prog.wantsStandIn u) = true := by kernel_rfl
        exact (show Tryd.prog.wantsStandIn t = false by simpa using List.all_eq_true.1 hall t hm)⟩)
    (by kernel_rfl)

end Go.Proofs.YtkmnfogcocppjaaDoor
