/-
  The law RowBack: what has a line is parsed from it; what is parsed has just that line; each row's line is one with which nothing is wrong, and tells its row.
  Conditions: utf8's two tables hold what their texts lay (tied by the card; one is the form's constant).
-/
import Derived.Test.YtfnbehijnmbhjaaDoorU10Awake
import Derived.Test.YtfnbehijnmbhjaaDoorD10Back
import Derived.Test.YtfnbehijnmbhjaaDoorT10Row
import Derived.Test.YtfnbehijnmbhjaaDoorW10Laid
import Derived.ChangeMaps
namespace Go.Proofs.YtfnbehijnmbhjaaDoor
set_option linter.unusedVariables false
set_option linter.unusedSimpArgs false
set_option maxRecDepth 10000
open Go.ChangeShapes Go.WideShapes Go.ChangeAt Go.RowKit

set_option maxHeartbeats 2000000 in
theorem rback_long (s : ByteArray) (x : Rw) (h : 200 < x.id.size ∨ 300 < s.size) (w : World) (hT : TabU w) :
    Calls Tryd.prog 6 #[x.val, .string s] w (Tells (.bool true) w.heap.size w) := by
  have cA := fun u hu => awake10_any u hu
  obtain ⟨i, a, b⟩ := x
  have H0 := (Has.start w).add 26 (rwB i a b)
  have hh : (200 : Int) < (i.size : Int) ∨ (¬ (200 : Int) < (i.size : Int) ∧ (300 : Int) < (s.size : Int)) := by simp only at h; omega
  clear h
  change Calls Tryd.prog 6 #[.agg (rwB i a b), .string s] w _
  go_enter Tryd.func6, Tryd.ntmps6
  go_upto_region 1 with fail
  change Code.wp _ _ _ _ (w.alloc (.cells (rwB i a b) 26))
  generalize w.alloc (.cells (rwB i a b) 26) = W at *
  go_upto_region 3 with (first
    | (go_at_call 23; refine (cA _ (hT.call H0.below)).mono ?_; rintro e w1 ⟨rfl, j1⟩; have H1 := H0.call j1)
    | fail)
  obtain ⟨y0, y1, y2, -, -, -, hin1⟩ := (H1.box 0).three
  rcases hh with hh | ⟨h1, hh⟩
  · go_wp2
    go_ret
    exact ⟨rfl, H1.below⟩
  · go_wp2
    go_ret
    exact ⟨rfl, H1.below⟩

set_option maxRecDepth 100000 in
set_option maxHeartbeats 8000000 in
theorem rback_short (s : ByteArray) (x : Rw) (h1 : s.size ≤ 300) (h2 : x.id.size ≤ 200) (hx : x.ok) (w : World) (hT : TabU w) :
    Calls Tryd.prog 6 #[x.val, .string s] w (Tells (.bool true) w.heap.size w) := by
  have cA := fun u hu => awake10_any u hu
  have cT := fun u hu => rowtext_any x hx (by omega) u hu
  have cM := fun u hu => mayId_any x.id (by omega) u hu
  cases hi : isId x.id.data.toList with
  | false =>
    have et : tolR x = (⟨#[]⟩, 101) := if_neg (by rw [hi]; decide)
    rw [et] at cT
    rw [hi] at cM
    clear et hi
    obtain ⟨i, a, b⟩ := x
    simp only [Rw.val] at cT ⊢
    simp only at cM h2
    have H0 := (Has.start w).add 26 (rwB i a b)
    have k1 : ¬ (300 : Int) < (s.size : Int) := by omega
    have k2 : ¬ (200 : Int) < (i.size : Int) := by omega
    clear hx h2
    go_enter Tryd.func6, Tryd.ntmps6
    go_upto_region 1 with fail
    change Code.wp _ _ _ _ (w.alloc (.cells (rwB i a b) 26))
    generalize w.alloc (.cells (rwB i a b) 26) = W at *
    go_upto_region 3 with (first
      | (go_at_call 23; refine (cA _ (hT.call H0.below)).mono ?_; rintro e w1 ⟨rfl, j1⟩; have H1 := H0.call j1)
      | fail)
    obtain ⟨y0, y1, y2, -, -, -, hin1⟩ := (H1.box 0).three
    go_upto_region 6 with (first
      | (go_at_call 12; refine (cT _ (hT.call H1.below)).mono ?_; rintro e w2 ⟨rfl, j2⟩; have H2 := H1.call j2)
      | fail)
    clear y0 y1 y2 hin1
    obtain ⟨y0, y1, y2, -, -, -, hin1⟩ := (H2.box 0).three
    go_upto_region 16 with (first
      | (go_at_call 24; refine (cM _ (hT.call H2.below)).mono ?_; rintro e w3 ⟨rfl, j3⟩; have H3 := H2.call j3)
      | fail)
    clear y0 y1 y2 hin1
    have cP := fun u hu => rowparse_any s (by omega) u hu
    have hcases := parR_cases s.data.toList
    obtain ⟨q, hq⟩ : ∃ q, parR s.data.toList = q := ⟨_, rfl⟩
    rw [hq] at cP hcases
    have HQ := hideIt hq
    obtain ⟨⟨qi, qh, ql⟩, e⟩ := q
    simp only [Rw.val] at cP
    clear hq
    go_upto_region 17 with (first
      | (go_at_call 10; refine (cP _ (hT.call H3.below)).mono ?_; rintro e5 w5 ⟨rfl, j5⟩; have H5 := Has.call H3 j5)
      | fail)
    have H6 := H5.add 26 (rwB qi qh ql)
    change Code.wp _ _ _ _ (w5.alloc (.cells (rwB qi qh ql) 26))
    generalize w5.alloc (.cells (rwB qi qh ql) 26) = W6 at *
    generalize w5.heap.size = g5 at *
    obtain ⟨q0, q1, q2, -, -, -, hinq⟩ := (H6.box 0).three
    rcases hcases with ⟨hok, rfl | ⟨hz, he⟩⟩
    · obtain ⟨k1, k2, k3⟩ := par_text _ _ HQ.out
      have hqs : qi.size ≤ 1000000 := by
        have h4 := congrArg List.length k3
        rw [ba_size] at h4
        unfold textR at h4
        rw [List.length_append, ba_size] at h4
        simp only at h4
        omega
      have cT := fun u hu => rowtext_any ⟨qi, qh, ql⟩ k2 hqs u hu
      have et : tolR ⟨qi, qh, ql⟩ = (s, 0) := by
        unfold tolR
        rw [if_pos k1, k3, bA_of]
      rw [et] at cT
      simp only [Rw.val] at cT
      clear k1 k2 k3 et hok HQ hqs
      go_wp2_with (first
        | (go_at_call 12; refine (cT _ (hT.call H6.below)).mono ?_; rintro e6 w7 ⟨rfl, j7⟩)
        | fail)
      go_ret
      exact ⟨rfl, (H6.call j7).below⟩
    · have hz2 := hz
      unfold Rw.zero at hz2
      injection hz2 with h1 h2 h3
      subst h1 h2 h3
      have hqq := fun u => run_eql_rw Rw.zero Rw.zero u
      rw [Rw.same_self] at hqq
      simp only [Rw.val, Rw.zero] at hqq
      clear hz hok HQ cP
      rcases he with rfl | rfl | rfl
      · go_wp2
        go_ret
        exact ⟨rfl, H6.below⟩
      · go_wp2
        go_ret
        exact ⟨rfl, H6.below⟩
      · go_wp2
        go_ret
        exact ⟨rfl, H6.below⟩
  | true =>
    obtain ⟨T, hTT⟩ : ∃ T, bA (textR x) = T := ⟨_, rfl⟩
    have et : tolR x = (T, 0) := by unfold tolR; rw [if_pos hi, hTT]
    have hTl : T.data.toList = textR x := by rw [← hTT, bA_list]
    have hTs : T.size ≤ 1000000 := by
      have := textR_len x hx
      rw [← ba_size, hTl]
      omega
    have hk := textR_kind x hi
    have hw := textR_wrong x hx hi
    have ht := textR_par x hx hi
    have hsp : linesL (textR x) = [(1, textR x)] := by
      unfold linesL
      rw [split_none (textR_ten x hi)]
      rfl
    have cB := fun u hu => rowparse_any T hTs u hu
    rw [hTl, ht] at cB
    have cL := fun u => all_any T hTs u
    rw [hTl, hsp] at cL
    have cO := fun u hu => rowof_any 1 T 2 0 hTs u hu
    have eo : ofR T.data.toList 2 0 = (x, true, 0) := by
      unfold ofR
      rw [if_neg (by decide), hTl, ht]
      rfl
    rw [eo] at cO
    rw [et] at cT
    rw [hi] at cM
    have hq := fun u => run_neq_rw x x u
    rw [Rw.same_self] at hq
    have hr : ∀ (u : World) (v : Value), LineRow u.heap.size u v [(1, textR x)] → True := fun _ _ _ => trivial
    have hLR : ∀ (B : Nat) (u : World) (v : Value), LineRow B u v [(1, textR x)] → ∃ g cap, v = .slice (some ⟨g, 0, none⟩) 1 cap ∧ B ≤ g ∧ g < u.heap.size ∧
        (u.cell? ⟨g, 0, none⟩ = some (.int .i64 1) ∧ u.cell? ⟨g, 1, none⟩ = some (.string T) ∧ u.cell? ⟨g, 2, none⟩ = some (.int .u8 2) ∧ u.cell? ⟨g, 3, none⟩ = some (.int .i64 0)) := fun B u v hv => by
      obtain ⟨g, cap, h1, h2, h3, h4⟩ := hv
      have h5 := h4 0 _ rfl
      rw [hk, hw, hTT] at h5
      exact ⟨g, cap, h1, h2, h3, by simpa using h5⟩
    clear et hi hTl hk hw ht hsp eo hr
    obtain ⟨i, a, b⟩ := x
    simp only [Rw.val, Bool.not_true] at cT cB cO hq ⊢
    simp only at cM h2
    have H0 := (Has.start w).add 26 (rwB i a b)
    have k1 : ¬ (300 : Int) < (s.size : Int) := by omega
    have k2 : ¬ (200 : Int) < (i.size : Int) := by omega
    clear hx h2 hTT
    go_enter Tryd.func6, Tryd.ntmps6
    go_upto_region 1 with fail
    change Code.wp _ _ _ _ (w.alloc (.cells (rwB i a b) 26))
    generalize w.alloc (.cells (rwB i a b) 26) = W at *
    go_upto_region 3 with (first
      | (go_at_call 23; refine (cA _ (hT.call H0.below)).mono ?_; rintro e w1 ⟨rfl, j1⟩; have H1 := H0.call j1)
      | fail)
    obtain ⟨y0, y1, y2, -, -, -, hin1⟩ := (H1.box 0).three
    go_upto_region 6 with (first
      | (go_at_call 12; refine (cT _ (hT.call H1.below)).mono ?_; rintro e w2 ⟨rfl, j2⟩; have H2 := H1.call j2)
      | fail)
    clear y0 y1 y2 hin1
    obtain ⟨y0, y1, y2, -, -, -, hin1⟩ := (H2.box 0).three
    go_upto_region 10 with (first
      | (go_at_call 24; refine (cM _ (hT.call H2.below)).mono ?_; rintro e w3 ⟨rfl, j3⟩; have H3 := H2.call j3)
      | (go_at_call 10; refine (cB _ (hT.call H3.below)).mono ?_; rintro e w4 ⟨rfl, j4⟩; have H4 := H3.call j4)
      | fail)
    clear y0 y1 y2 hin1
    have H5 := H4.add 26 (rwB i a b)
    change Code.wp _ _ _ _ (w4.alloc (.cells (rwB i a b) 26))
    generalize w4.alloc (.cells (rwB i a b) 26) = W5 at *
    generalize w4.heap.size = g4 at *
    go_upto_region 11 with (first
      | (go_at_call 25; refine (cL _).mono ?_; rintro e w6 ⟨v6, rfl, hv6, j6⟩; have H6 := H5.call j6; obtain ⟨g, cap, rfl, hgb, hgi, c0, c1, c2, c3⟩ := hLR _ _ _ hv6)
      | fail)
    obtain ⟨y0, y1, y2, -, -, -, hin1⟩ := (H6.box 1).three
    obtain ⟨z0, z1, z2, -, -, -, hin2⟩ := (H6.box 0).three
    go_upto_region 14 with (first
      | (go_at_call 14; refine (cO _ (hT.call H6.below)).mono ?_; rintro e w7 ⟨rfl, j7⟩; have H7 := H6.call j7)
      | fail)
    have H8 := H7.add 26 (rwB i a b)
    change Code.wp _ _ _ _ (w7.alloc (.cells (rwB i a b) 26))
    generalize w7.alloc (.cells (rwB i a b) 26) = W8 at *
    generalize w7.heap.size = g7 at *
    clear y0 y1 y2 hin1 z0 z1 z2 hin2 c0 c1 c2 c3
    obtain ⟨y0, y1, y2, -, -, -, hin1⟩ := (H8.box 2).three
    obtain ⟨z0, z1, z2, -, -, -, hin2⟩ := (H8.box 0).three
    go_upto_region 16 with fail
    clear y0 y1 y2 hin1 z0 z1 z2 hin2
    have cP := fun u hu => rowparse_any s (by omega) u hu
    have hcases := parR_cases s.data.toList
    obtain ⟨q, hq⟩ : ∃ q, parR s.data.toList = q := ⟨_, rfl⟩
    rw [hq] at cP hcases
    have HQ := hideIt hq
    obtain ⟨⟨qi, qh, ql⟩, e⟩ := q
    simp only [Rw.val] at cP
    clear hq
    go_upto_region 17 with (first
      | (go_at_call 10; refine (cP _ (hT.call H8.below)).mono ?_; rintro e5 w5 ⟨rfl, j5⟩; have H5 := Has.call H8 j5)
      | fail)
    have H6 := H5.add 26 (rwB qi qh ql)
    change Code.wp _ _ _ _ (w5.alloc (.cells (rwB qi qh ql) 26))
    generalize w5.alloc (.cells (rwB qi qh ql) 26) = W6 at *
    generalize w5.heap.size = g5 at *
    obtain ⟨q0, q1, q2, -, -, -, hinq⟩ := (H6.box 0).three
    rcases hcases with ⟨hok, rfl | ⟨hz, he⟩⟩
    · obtain ⟨k1, k2, k3⟩ := par_text _ _ HQ.out
      have hqs : qi.size ≤ 1000000 := by
        have h4 := congrArg List.length k3
        rw [ba_size] at h4
        unfold textR at h4
        rw [List.length_append, ba_size] at h4
        simp only at h4
        omega
      have cT := fun u hu => rowtext_any ⟨qi, qh, ql⟩ k2 hqs u hu
      have et : tolR ⟨qi, qh, ql⟩ = (s, 0) := by
        unfold tolR
        rw [if_pos k1, k3, bA_of]
      rw [et] at cT
      simp only [Rw.val] at cT
      clear k1 k2 k3 et hok HQ hqs
      go_wp2_with (first
        | (go_at_call 12; refine (cT _ (hT.call H6.below)).mono ?_; rintro e6 w7 ⟨rfl, j7⟩)
        | fail)
      go_ret
      exact ⟨rfl, (H6.call j7).below⟩
    · have hz2 := hz
      unfold Rw.zero at hz2
      injection hz2 with h1 h2 h3
      subst h1 h2 h3
      have hqq := fun u => run_eql_rw Rw.zero Rw.zero u
      rw [Rw.same_self] at hqq
      simp only [Rw.val, Rw.zero] at hqq
      clear hz hok HQ cP
      rcases he with rfl | rfl | rfl
      · go_wp2
        go_ret
        exact ⟨rfl, H6.below⟩
      · go_wp2
        go_ret
        exact ⟨rfl, H6.below⟩
      · go_wp2
        go_ret
        exact ⟨rfl, H6.below⟩

theorem rowBack_core (H : Type) (enc : TypeId × Value → H) (W : World) (base : Nat) (args : Array Value) (ds gs : List (DataW H)) (before : List MemPlace)
    (hval : ∀ (j : Nat) t v, Tryd.f6.params[j]? = some t → args[j]? = some v → Value.okWide Tryd.prog W .any base t v)
    (hW : DataW.Whole enc Tryd.prog Tryd.f6.params.toList Rows.rowBackSpec.vars false W args.toList ds gs before) (hT : TabU W) :
    gs = [] ∧ ds.length = 2 ∧ Calls Tryd.prog 6 args W (Tells (.bool true) W.heap.size W) := by
  obtain ⟨p, q, hA, hV, -, -, -⟩ := hW
  obtain ⟨rfl, rfl⟩ := trodVars_none hV
  have hA : DataW.TrodAll enc Tryd.prog W 0 (fun _ => true) true Tryd.f6.params.toList args.toList ds p := hA
  rw [Tryd.params6] at hA hval
  obtain ⟨v0, vs0, d0, ds0, p0, ps0, e0, rfl, -, h0, hA⟩ := trodAll_cons hA
  obtain ⟨v1, vs1, d1, ds1, p1, ps1, rfl, rfl, -, h1, hA⟩ := trodAll_cons hA
  obtain ⟨rfl, rfl, rfl⟩ := trodAll_nil hA
  obtain rfl : args = #[v0, v1] := Array.ext' e0
  obtain ⟨x, rfl, z1, z2⟩ := open_rw (hval 0 26 v0 rfl rfl) h0
  obtain ⟨s, rfl, rfl, rfl, z5⟩ := Go.ChangeMaps.open_string Tryd.underlying9 (hval 1 9 v1 rfl rfl) h1
  refine ⟨rfl, rfl, ?_⟩
  by_cases h : 200 < x.id.size ∨ 300 < s.size
  · exact rback_long s x h W hT
  · exact rback_short s x (by omega) (by omega) z2 W hT

set_option maxRecDepth 100000 in
theorem rowBack_lifted (os : Os) (started : os.Started) (H : Type) (enc : TypeId × Value → H) :
    ReturnsInHanded {} Tryd.checked os 6 .any (fun w args => (Rows.rowBackSpec.pre enc Tryd.prog Tryd.f6 [] false w args ∧ laidMetH Tryd.prog laidU w) ∧ sizedMet enc Tryd.prog Tryd.f6 (OpenSpec.ofChange Rows.rowBackSpec) false w args)
      (Rows.rowBackSpec.post enc Tryd.prog Tryd.f6 false true false false) := by
  refine returnsInHanded_of_change_and (C := Tryd.checked) (X := fun w _ => laidMetH Tryd.prog laidU w) (fun _ _ _ hh h => h.of_heap hh) own_knob started (by kernel_rfl) Tryd.func6
    (ChangeSpec.witness_shaped (enc := enc) (C := Tryd.checked) (os := os) (X := fun w _ => laidMetH Tryd.prog laidU w) false (World.laidAll Tryd.prog os laidU) #[.agg #[.string ⟨#[]⟩, .int .u64 0, .int .u64 0], .string ⟨#[]⟩] 8 (World.laidAll_os _ _ _) (World.shaped_of_ZipB (by kernel_rfl) (by kernel_rfl)) (by kernel_rfl) (by kernel_rfl) (by kernel_rfl) (met_U os _)) ?_
  intro W base args ds gs before hval0 hW _ hwt hL _
  have hval : ∀ (j : Nat) t v, Tryd.f6.params[j]? = some t → args[j]? = some v → Value.okWide Tryd.prog W .any base t v := hval0
  obtain ⟨hg, hlen, hc⟩ := rowBack_core H enc W base args ds gs before hval hW (tab_of_laidU hL)
  subst hg
  have hr : (Tryd.f6.params.toList.all fun t => Tryd.prog.readableRec t && decide (t < Tryd.prog.types.size)) = true := by kernel_rfl
  have hread : ∀ t ∈ Tryd.f6.params.toList, Tryd.prog.readableRec t = true ∧ t < Tryd.prog.types.size := fun t ht => by
    have h := List.all_eq_true.1 hr t ht
    rw [Bool.and_eq_true, decide_eq_true_eq] at h
    exact h
  refine hc.mono fun e W' ⟨he, hb⟩ => ?_
  subst he
  match ds, hlen with
  | [d0, d1], _ => exact ⟨_, rfl, law_post laid_out Tryd.underlying4 rfl hread rfl hW rfl rfl rfl hb⟩

theorem rowBack_holds : Rows.RowBackSaid :=
  OpenClaim.holds_of_wide 6 Tryd.f6 rfl rfl rfl rfl rfl rfl rfl ⟨rfl, rfl, rfl, rfl, rfl⟩ rfl rfl rfl rfl rfl (by kernel_rfl) Tryd.func6 (by kernel_rfl)
    (of_decide_eq_true (by kernel_rfl)) (by unfold Func.isWrapper; first | (rw [if_pos (by decide +kernel)]; kernel_rfl) | (rw [if_neg (by decide +kernel)]; exact ⟨rfl, rfl⟩))
    (fun os started H enc _ => rowBack_lifted os started H enc)

theorem rowBack_card : Rows.RowBackCardSaid :=
  Claim7.holds_tied_plain_at .later [] [.data, .pinned] true _ false
    rowBack_holds (fun _ h => by cases h) (by kernel_rfl) (fun _ h => by cases h) rowBack_row_tie rfl ⟨rfl, rfl⟩ (by kernel_rfl) rfl
    (fun f fn hf hfn => by
      obtain rfl : f = 6 := Option.some.inj ((show Tryd.prog.funcNamed "paymaster/paymasterlaw10.RowBack" = some 6 by kernel_rfl).symm.trans hf) |>.symm
      obtain rfl : fn = Tryd.f6 := (Option.some.inj (Tryd.func6.symm.trans hfn)).symm
      exact ⟨by kernel_rfl, fun j t ht => by
        have hm : t ∈ Tryd.f6.params.toList := by simpa using Array.mem_of_getElem? ht
        have hall : (Tryd.f6.params.toList.all fun u => !Tryd.prog.wantsStandIn u) = true := by kernel_rfl
        exact (show Tryd.prog.wantsStandIn t = false by simpa using List.all_eq_true.1 hall t hm)⟩)
    (by kernel_rfl)

end Go.Proofs.YtfnbehijnmbhjaaDoor
