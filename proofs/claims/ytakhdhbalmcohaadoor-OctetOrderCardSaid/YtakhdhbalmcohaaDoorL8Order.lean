/-
  The law OctetOrder: of two numbers the less one's bytes are less; no number's bytes begin another one's.
  Conditions: none of its own; that utf8's two tables hold what their texts lay is the form's constant (tied by the card), and isn't used.
-/
import Derived.Test.YtakhdhbalmcohaaDoorU8Awake
import Derived.Test.YtakhdhbalmcohaaDoorW8Laid
namespace Go.Proofs.YtakhdhbalmcohaaDoor
set_option linter.unusedVariables false
set_option linter.unusedSimpArgs false
set_option maxRecDepth 10000
open Go.ChangeShapes Go.WideShapes Go.ChangeAt Go.RowKit

theorem same_ofL (a b : List UInt8) : ((ofL a).toList == (ofL b).toList) = decide (a = b) := by
  rw [Lib.toList_data, Lib.toList_data, ofL_list, ofL_list]
  by_cases h : a = b
  · rw [decide_eq_true h, h]; simp
  · rw [decide_eq_false h, beq_eq_false_iff_ne]; exact h

set_option maxRecDepth 100000 in
set_option maxHeartbeats 4000000 in
theorem order8_walk (ah al bh bl : Int) (a1 : Word ah) (a0 : Word al) (b1 : Word bh) (b0 : Word bl) (w : World) :
    Calls Tryd.prog 7 #[.agg #[.int .u64 ah, .int .u64 al], .agg #[.int .u64 bh, .int .u64 bl]] w (Tells (.bool true) w.heap.size w) := by
  have H0 := ((Has.start w).addAt 35 #[.int .u64 ah, .int .u64 al] rfl).addAt 35 #[.int .u64 bh, .int .u64 bl] (g := w.heap.size + 1) (by simp)
  have cw := fun u => awake8_any u
  have oA : Th.Ok ⟨2, ah, al, ⟨#[]⟩, 0⟩ := ok_num 2 (by decide) _ _ a1 a0
  have oB : Th.Ok ⟨2, bh, bl, ⟨#[]⟩, 0⟩ := ok_num 2 (by decide) _ _ b1 b0
  have oP : Th.Ok ⟨1, ah, al, ⟨#[]⟩, 0⟩ := ok_num 1 (by decide) _ _ a1 a0
  have oQ : Th.Ok ⟨2, 0, al, ⟨#[]⟩, 0⟩ := ok_num 2 (by decide) _ _ word0 a0
  have cA := fun b c u hb => wrote_one ⟨2, ah, al, ⟨#[]⟩, 0⟩ oA nil_small b c u hb
  have cB := fun b c u hb => wrote_one ⟨2, bh, bl, ⟨#[]⟩, 0⟩ oB nil_small b c u hb
  have cP := fun b c u hb => wrote_one ⟨1, ah, al, ⟨#[]⟩, 0⟩ oP nil_small b c u hb
  have cQ := fun b c u hb => wrote_one ⟨2, 0, al, ⟨#[]⟩, 0⟩ oQ nil_small b c u hb
  have tA : Th.text ⟨2, ah, al, ⟨#[]⟩, 0⟩ = ofL (wideL ah al) := rfl
  have tB : Th.text ⟨2, bh, bl, ⟨#[]⟩, 0⟩ = ofL (wideL bh bl) := rfl
  have tP : Th.text ⟨1, ah, al, ⟨#[]⟩, 0⟩ = ofL (wideL 0 al) := rfl
  have tQ : Th.text ⟨2, 0, al, ⟨#[]⟩, 0⟩ = ofL (wideL 0 al) := rfl
  rw [tA] at cA
  rw [tB] at cB
  rw [tP] at cP
  rw [tQ] at cQ
  simp only [thC] at cA cB cP cQ
  clear tA tB tP tQ
  have cO := fun u => of_any al u
  have cC := fun u => cmp_any ah al bh bl a1 a0 b1 b0 u
  have hsA : (ofL (wideL ah al)).size = (wideL ah al).length := ofL_size _
  have hsB : (ofL (wideL bh bl)).size = (wideL bh bl).length := ofL_size _
  have lA : (wideL ah al).length ≤ 17 := wideL_len ah al
  have lA1 : 1 ≤ (wideL ah al).length := by unfold wideL; rw [List.length_cons]; omega
  have lB : (wideL bh bl).length ≤ 17 := wideL_len bh bl
  have hE := same_ofL (wideL ah al) (wideL bh bl)
  have hL : Op.bytesLess (ofL (wideL ah al)).toList (ofL (wideL bh bl)).toList = decide (nv ah al < nv bh bl) := by
    rw [Lib.toList_data, Lib.toList_data, ofL_list, ofL_list]
    exact wide_less a1 a0 b1 b0
  have hS := fun u => run_eql_n8 ah al bh bl u
  have hX : (ofL (wideL bh bl)).extract 0 (wideL ah al).length = ofL ((wideL bh bl).take (wideL ah al).length) := oext (by
    rw [ByteArray.data_extract, Array.toList_extract, List.extract_eq_take_drop, ofL_list, ofL_list]
    simp)
  have hY := same_ofL ((wideL bh bl).take (wideL ah al).length) (wideL ah al)
  have hnv : nv ah al = nv bh bl → ah = bh ∧ al = bl := fun h => by
    obtain ⟨_, _⟩ := a1; obtain ⟨_, _⟩ := a0; obtain ⟨_, _⟩ := b1; obtain ⟨_, _⟩ := b0; unfold nv at h; exact ⟨by omega, by omega⟩
  obtain ⟨bE, bL, c, key, kE, kL, kc, kS, kY⟩ : ∃ (bE bL : Bool) (c : Int), ((bE = true ∧ bL = false ∧ c = 0) ∨ (bE = false ∧ bL = true ∧ c = -1) ∨ (bE = false ∧ bL = false ∧ c = 1)) ∧
      decide (wideL ah al = wideL bh bl) = bE ∧ decide (nv ah al < nv bh bl) = bL ∧ cmpI (nv ah al) (nv bh bl) = c ∧ (ah == bh && al == bl) = bE ∧
      (bE = false → (wideL ah al).length ≤ (wideL bh bl).length → decide ((wideL bh bl).take (wideL ah al).length = wideL ah al) = false) := by
    by_cases hab : ah = bh ∧ al = bl
    · obtain ⟨rfl, rfl⟩ := hab
      refine ⟨true, false, 0, Or.inl ⟨rfl, rfl, rfl⟩, by simp, by simp, cmpI_eq _, by simp, fun h => by cases h⟩
    · have hne : ¬ (wideL ah al = wideL bh bl) := fun h => hab (wide_same a1 a0 b1 b0 h)
      have hnn : ¬ (nv ah al = nv bh bl) := fun h => hab (hnv h)
      have hss : (ah == bh && al == bl) = false := by
        cases h : (ah == bh && al == bl) with
        | false => rfl
        | true =>
          rw [Bool.and_eq_true, beq_iff_eq, beq_iff_eq] at h
          exact absurd h hab
      have hbb : (wideL ah al).length ≤ (wideL bh bl).length → decide ((wideL bh bl).take (wideL ah al).length = wideL ah al) = false := fun hl => decide_eq_false (fun e => hab (wide_begins a1 a0 b1 b0 hl e))
      rcases Int.lt_trichotomy (nv ah al) (nv bh bl) with h | h | h
      · exact ⟨false, true, -1, Or.inr (Or.inl ⟨rfl, rfl, rfl⟩), decide_eq_false hne, decide_eq_true h, cmpI_lt h, hss, fun _ => hbb⟩
      · exact absurd h hnn
      · exact ⟨false, false, 1, Or.inr (Or.inr ⟨rfl, rfl, rfl⟩), decide_eq_false hne, decide_eq_false (by omega), cmpI_gt h, hss, fun _ => hbb⟩
  rw [kE] at hE
  rw [kL] at hL
  rw [kc] at cC
  simp only [kS] at hS
  clear hnv kE kL kc kS
  generalize decide (List.take (wideL ah al).length (wideL bh bl) = wideL ah al) = bY at *
  generalize ofL (List.take (wideL ah al).length (wideL bh bl)) = SX at *
  generalize ofL (wideL ah al) = SA at *
  generalize ofL (wideL bh bl) = SB at *
  generalize ofL (wideL 0 al) = SP at *
  generalize (wideL ah al).length = nA at *
  generalize (wideL bh bl).length = nB at *
  have hPP : (SP.toList == SP.toList) = true := by simp
  have lAi : ¬ ((nA : Int) < 1) := by omega
  have lAj : ¬ ((17 : Int) < (nA : Int)) := by omega
  have lAk : (nA : Int) ≤ 17 := by omega
  have lBk : (nB : Int) ≤ 17 := by omega
  go_enter Tryd.func7, Tryd.ntmps7
  go_upto_region 1 with fail
  change Code.wp _ _ _ _ ((w.alloc (.cells #[.int .u64 ah, .int .u64 al] 35)).alloc (.cells #[.int .u64 bh, .int .u64 bl] 35))
  generalize (w.alloc (.cells #[.int .u64 ah, .int .u64 al] 35)).alloc (.cells #[.int .u64 bh, .int .u64 bl] 35) = W at *
  go_upto_region 3 with (first | (go_at_call 24; refine (cw _).mono ?_; rintro e w1 ⟨rfl, j1⟩) | fail)
  have H1 := H0.call j1
  obtain ⟨y0, y1, y2, y3, y4⟩ := (H1.box 0).two
  obtain ⟨z0, z1, z2, z3, z4⟩ := (H1.box 1).two
  go_upto_region 4 with (first | (go_at_call 25; refine (cA _ _ _ (Box.made _ _ _)).mono ?_; rintro e w2 ⟨rfl, j2⟩) | fail)
  have H2 := (H1.past _).call j2
  clear y0 y1 y2 y3 y4 z0 z1 z2 z3 z4 cw j1
  obtain ⟨y0, y1, y2, y3, y4⟩ := (H2.box 0).two
  obtain ⟨z0, z1, z2, z3, z4⟩ := (H2.box 1).two
  go_upto_region 5 with (first | (go_at_call 25; refine (cB _ _ _ (Box.made _ _ _)).mono ?_; rintro e w3 ⟨rfl, j3⟩) | fail)
  have H3 := (H2.past _).call j3
  clear y0 y1 y2 y3 y4 z0 z1 z2 z3 z4
  obtain ⟨y0, y1, y2, y3, y4⟩ := (H3.box 0).two
  obtain ⟨z0, z1, z2, z3, z4⟩ := (H3.box 1).two
  go_upto_region 6 with (first | (go_at_call 25; refine (cP _ _ _ (Box.made _ _ _)).mono ?_; rintro e w4 ⟨rfl, j4⟩) | fail)
  have H4 := (H3.past _).call j4
  clear y0 y1 y2 y3 y4 z0 z1 z2 z3 z4
  obtain ⟨y0, y1, y2, y3, y4⟩ := (H4.box 0).two
  obtain ⟨z0, z1, z2, z3, z4⟩ := (H4.box 1).two
  go_upto_region 7 with (first
    | (go_at_call 29; refine (cO _).mono ?_; rintro e v4 ⟨rfl, k4⟩)
    | (go_at_call 25; refine (cQ _ _ _ (Box.made _ _ _)).mono ?_; rintro e w5 ⟨rfl, j5⟩)
    | fail)
  have H5 := ((H4.call k4).past _).call j5
  clear y0 y1 y2 y3 y4 z0 z1 z2 z3 z4 cA cB cP cQ j2 j3 j4 j5 k4 H1 H2 H3 H4 cO
  obtain ⟨y0, y1, y2, y3, y4⟩ := (H5.box 0).two
  obtain ⟨z0, z1, z2, z3, z4⟩ := (H5.box 1).two
  rcases key with ⟨rfl, rfl, rfl⟩ | ⟨rfl, rfl, rfl⟩ | ⟨rfl, rfl, rfl⟩
  · clear kY
    go_wp2_with (first
      | (go_at_call 30; refine (cC _).mono ?_; rintro e w9 ⟨rfl, b9⟩
         have H6 := H5.call b9
         have L6 := H6.below
         obtain ⟨y0, y1, y2, y3, y4⟩ := (H6.box 0).two
         obtain ⟨z0, z1, z2, z3, z4⟩ := (H6.box 1).two))
    go_ret
    exact ⟨rfl, L6⟩
  · by_cases hl : nA ≤ nB
    · have hli : ¬ ((nB : Int) < (nA : Int)) := by omega
      have hln : ¬ (nB < nA) := by omega
      have hY2 := kY rfl hl
      rw [hY2] at hY
      clear kY hY2
      go_wp2_with (first
        | (go_at_call 30; refine (cC _).mono ?_; rintro e w9 ⟨rfl, b9⟩
           have H6 := H5.call b9
           have L6 := H6.below
           obtain ⟨y0, y1, y2, y3, y4⟩ := (H6.box 0).two
           obtain ⟨z0, z1, z2, z3, z4⟩ := (H6.box 1).two))
      go_ret
      exact ⟨rfl, L6⟩
    · have hli : (nB : Int) < (nA : Int) := by omega
      have hln : nB < nA := by omega
      clear kY
      go_wp2_with (first
        | (go_at_call 30; refine (cC _).mono ?_; rintro e w9 ⟨rfl, b9⟩
           have H6 := H5.call b9
           have L6 := H6.below
           obtain ⟨y0, y1, y2, y3, y4⟩ := (H6.box 0).two
           obtain ⟨z0, z1, z2, z3, z4⟩ := (H6.box 1).two))
      go_ret
      exact ⟨rfl, L6⟩
  · by_cases hl : nA ≤ nB
    · have hli : ¬ ((nB : Int) < (nA : Int)) := by omega
      have hln : ¬ (nB < nA) := by omega
      have hY2 := kY rfl hl
      rw [hY2] at hY
      clear kY hY2
      go_wp2_with (first
        | (go_at_call 30; refine (cC _).mono ?_; rintro e w9 ⟨rfl, b9⟩
           have H6 := H5.call b9
           have L6 := H6.below
           obtain ⟨y0, y1, y2, y3, y4⟩ := (H6.box 0).two
           obtain ⟨z0, z1, z2, z3, z4⟩ := (H6.box 1).two))
      go_ret
      exact ⟨rfl, L6⟩
    · have hli : (nB : Int) < (nA : Int) := by omega
      have hln : nB < nA := by omega
      clear kY
      go_wp2_with (first
        | (go_at_call 30; refine (cC _).mono ?_; rintro e w9 ⟨rfl, b9⟩
           have H6 := H5.call b9
           have L6 := H6.below
           obtain ⟨y0, y1, y2, y3, y4⟩ := (H6.box 0).two
           obtain ⟨z0, z1, z2, z3, z4⟩ := (H6.box 1).two))
      go_ret
      exact ⟨rfl, L6⟩

theorem octetOrder_core (H : Type) (enc : TypeId × Value → H) (W : World) (base : Nat) (args : Array Value) (ds gs : List (DataW H)) (before : List MemPlace)
    (hval : ∀ (j : Nat) t v, Tryd.f7.params[j]? = some t → args[j]? = some v → Value.okWide Tryd.prog W .any base t v)
    (hW : DataW.Whole enc Tryd.prog Tryd.f7.params.toList Rows.octetOrderSpec.vars false W args.toList ds gs before) (hT : True) :
    gs = [] ∧ ds.length = 2 ∧ Calls Tryd.prog 7 args W (Tells (.bool true) W.heap.size W) := by
  obtain ⟨p, q, hA, hV, -, -, -⟩ := hW
  obtain ⟨rfl, rfl⟩ := trodVars_none hV
  have hA : DataW.TrodAll enc Tryd.prog W 0 (fun _ => true) true Tryd.f7.params.toList args.toList ds p := hA
  rw [Tryd.params7] at hA hval
  obtain ⟨v0, vs0, d0, ds0, p0, ps0, e0, rfl, -, h0, hA⟩ := trodAll_cons hA
  obtain ⟨v1, vs1, d1, ds1, p1, ps1, rfl, rfl, -, h1, hA⟩ := trodAll_cons hA
  obtain ⟨rfl, rfl, rfl⟩ := trodAll_nil hA
  obtain rfl : args = #[v0, v1] := Array.ext' e0
  obtain ⟨ah, al, rfl, a1, a0⟩ := open_num (hval 0 35 v0 rfl rfl) h0
  obtain ⟨bh, bl, rfl, b1, b0⟩ := open_num (hval 1 35 v1 rfl rfl) h1
  exact ⟨rfl, rfl, order8_walk ah al bh bl a1 a0 b1 b0 W⟩

set_option maxRecDepth 100000 in
theorem octetOrder_lifted (os : Os) (started : os.Started) (H : Type) (enc : TypeId × Value → H) :
    ReturnsInHanded {} Tryd.checked os 7 .any (fun w args => (Rows.octetOrderSpec.pre enc Tryd.prog Tryd.f7 [] false w args ∧ laidMetH Tryd.prog laidU w) ∧ sizedMet enc Tryd.prog Tryd.f7 (OpenSpec.ofChange Rows.octetOrderSpec) false w args)
      (Rows.octetOrderSpec.post enc Tryd.prog Tryd.f7 false true false false) := by
  refine returnsInHanded_of_change_and (C := Tryd.checked) (X := fun w _ => laidMetH Tryd.prog laidU w) (fun _ _ _ hh h => h.of_heap hh) own_knob started (by kernel_rfl) Tryd.func7
    (ChangeSpec.witness_shaped (enc := enc) (C := Tryd.checked) (os := os) (X := fun w _ => laidMetH Tryd.prog laidU w) false (World.laidAll Tryd.prog os laidU) #[.agg #[.int .u64 0, .int .u64 0], .agg #[.int .u64 0, .int .u64 0]] 8 (World.laidAll_os _ _ _) (World.shaped_of_ZipB (by kernel_rfl) (by kernel_rfl)) (by kernel_rfl) (by kernel_rfl) (by kernel_rfl) (met_U os _)) ?_
  intro W base args ds gs before hval0 hW _ hwt hL _
  have hval : ∀ (j : Nat) t v, Tryd.f7.params[j]? = some t → args[j]? = some v → Value.okWide Tryd.prog W .any base t v := hval0
  obtain ⟨hg, hlen, hc⟩ := octetOrder_core H enc W base args ds gs before hval hW (tab_of_laidU hL)
  subst hg
  have hr : (Tryd.f7.params.toList.all fun t => Tryd.prog.readableRec t && decide (t < Tryd.prog.types.size)) = true := by kernel_rfl
  have hread : ∀ t ∈ Tryd.f7.params.toList, Tryd.prog.readableRec t = true ∧ t < Tryd.prog.types.size := fun t ht => by
    have h := List.all_eq_true.1 hr t ht
    rw [Bool.and_eq_true, decide_eq_true_eq] at h
    exact h
  refine hc.mono fun e W' ⟨he, hb⟩ => ?_
  subst he
  match ds, hlen with
  | [d0, d1], _ => exact ⟨_, rfl, law_post laid_out Tryd.underlying4 rfl hread rfl hW rfl rfl rfl hb⟩

theorem octetOrder_holds : Rows.OctetOrderSaid :=
  OpenClaim.holds_of_wide 7 Tryd.f7 rfl rfl rfl rfl rfl rfl rfl ⟨rfl, rfl, rfl, rfl, rfl⟩ rfl rfl rfl rfl rfl (by kernel_rfl) Tryd.func7 (by kernel_rfl)
    (of_decide_eq_true (by kernel_rfl)) (by unfold Func.isWrapper; first | (rw [if_pos (by decide +kernel)]; kernel_rfl) | (rw [if_neg (by decide +kernel)]; exact ⟨rfl, rfl⟩))
    (fun os started H enc _ => octetOrder_lifted os started H enc)

theorem octetOrder_card : Rows.OctetOrderCardSaid :=
  Claim7.holds_tied_plain_at .later [] [.data, .pinned] true _ false
    octetOrder_holds (fun _ h => by cases h) (by kernel_rfl) (fun _ h => by cases h) octetOrder_row_tie rfl ⟨rfl, rfl⟩ (by kernel_rfl) rfl
    (fun f fn hf hfn => by
      obtain rfl : f = 7 := Option.some.inj ((show Tryd.prog.funcNamed "paymaster/paymasterlaw08.OctetOrder" = some 7 by kernel_rfl).symm.trans hf) |>.symm
      obtain rfl : fn = Tryd.f7 := (Option.some.inj (Tryd.func7.symm.trans hfn)).symm
      exact ⟨by kernel_rfl, fun j t ht => by
        have hm : t ∈ Tryd.f7.params.toList := by simpa using Array.mem_of_getElem? ht
        have hall : (Tryd.f7.params.toList.all fun u => !Tryd.prog.wantsStandIn u) = true := by kernel_rfl
        exact (show Tryd.prog.wantsStandIn t = false by simpa using List.all_eq_true.1 hall t hm)⟩)
    (by kernel_rfl)

end Go.Proofs.YtakhdhbalmcohaaDoor
