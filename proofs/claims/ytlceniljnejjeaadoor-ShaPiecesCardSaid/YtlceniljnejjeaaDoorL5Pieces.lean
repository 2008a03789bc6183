/-
  The law ShaPieces: a text that is taken in whatever pieces has the digest of the whole one; to ask for it, in the midst, changes nothing.
  Conditions: block's table of constants holds what the program's text lays (tied by the card); each text and slice within the form's own reach.
-/
import Derived.Test.YtlceniljnejjeaaDoorU5Str
namespace Go.Proofs.YtlceniljnejjeaaDoor
set_option linter.unusedVariables false
set_option linter.unusedSimpArgs false
open Go.ChangeShapes Go.WideShapes Go.ChangeAt Go.RowKit

set_option maxHeartbeats 2000000 in
theorem pieces_long (A : Option Addr) (c : Nat) (ss : List ByteArray) (hz : ∀ s ∈ ss, s.size ≤ reachBytes) (hm : ss.length ≤ 9223372036854775807) (v : Value) (hL : longB ss = true) (w : World) (hT : Tab w) (hr : StrRow w w.heap.size A ss) :
    Calls Tryd.prog 9 #[.slice A ss.length c, v] w (Tells (.bool true) w.heap.size w) := by
  have cA := awake5_any w hT
  have cL := fun u hu => long_any A c ss hz hm u hu
  rw [hL] at cL
  go_enter Tryd.func9, Tryd.ntmps9
  go_wp2_with (first
    | (go_at_call 39; refine cA.mono ?_; rintro e w1 ⟨rfl, b1⟩)
    | (go_at_call 33; refine (cL _ (fun i s hs => by obtain ⟨ad, e, h1, h2⟩ := hr.call b1 i s hs; exact ⟨ad, e, Nat.lt_of_lt_of_le h1 b1.size, h2⟩)).mono ?_; rintro e w2 ⟨rfl, rfl⟩))
  go_ret
  exact ⟨rfl, b1⟩

set_option maxRecDepth 100000 in
set_option maxHeartbeats 4000000 in
theorem pieces_short (A : Option Addr) (c : Nat) (ss : List ByteArray) (hz : ∀ s ∈ ss, s.size ≤ reachBytes) (hm : ss.length ≤ 9223372036854775807) (A2 : Option Addr) (n2 c2 : Nat) (f : Nat → Bool) (hm2 : n2 ≤ 9223372036854775807)
    (hL : longB ss = false) (w : World) (hT : Tab w) (hr : StrRow w w.heap.size A ss) (hb : BoolRow w w.heap.size A2 n2 f) :
    Calls Tryd.prog 9 #[.slice A ss.length c, .slice A2 n2 c2] w (Tells (.bool true) w.heap.size w) := by
  have cA := awake5_any w hT
  have cL := fun u hu => long_any A c ss hz hm u hu
  rw [hL] at cL
  have cN := fun u => new_any u
  have h40 : ss.length ≤ 40 ∧ totN ss ≤ 2000 := by
    unfold longB at hL
    simp only [Bool.or_eq_false_iff, decide_eq_false_iff_not] at hL
    omega
  have H40 := hideIt h40
  clear h40 hL hz
  have n0 := hT.1
  go_enter Tryd.func9, Tryd.ntmps9
  go_upto_region 6 with (first
    | (go_at_call 39; refine cA.mono ?_; rintro e w1 ⟨rfl, b1⟩)
    | (go_at_call 33; refine (cL _ (fun i s hs => by obtain ⟨ad, e, h1, h2⟩ := hr.call b1 i s hs; exact ⟨ad, e, Nat.lt_of_lt_of_le h1 b1.size, h2⟩)).mono ?_; rintro e w2 ⟨rfl, rfl⟩)
    | (go_at_call 34; refine (cN _).mono ?_; rintro e w2 ⟨g, hg, rfl, hbx, b2⟩))
  have S0 := new_sha hbx
  have L0 := chain b1 b2
  have hgw : w.heap.size ≤ g := Nat.le_trans b1.size hg
  clear cA cL cN hbx b1 b2 hg
  go_wp2
  go_loopg [6, 7] ss.length (fun gk v i wr => ∃ k : Nat, k ≤ ss.length ∧ gk = ss.length - k ∧ i = .int .i64 k ∧ v = .string (cat (ss.take k)) ∧ ShaAt wr g (cat (ss.take k)).data.toList ∧ Below w.heap.size w wr)
  case atStart => exact ⟨0, by omega, rfl, rfl, rfl, S0, L0⟩
  case round =>
    clear S0 L0
    obtain ⟨k, hk, hgk, rfl, rfl, S, L⟩ := hrel
    have HG := hideIt hgk
    clear hgk
    have hT1 := hT.call L
    have hsz := cat_size (ss.take k)
    have htt := totN_take ss k
    have hcl : (cat (ss.take k)).data.toList.length = (cat (ss.take k)).size := by simp
    by_cases hlt : k < ss.length
    · obtain ⟨s, hs⟩ : ∃ s, ss[k]? = some s := ⟨_, List.getElem?_eq_getElem hlt⟩
      have htk : ss.take (k + 1) = ss.take k ++ [s] := by
        rw [List.take_add_one, hs]; rfl
      have hct : cat (ss.take (k + 1)) = cat (ss.take k) ++ s := by rw [htk, cat_snoc]
      have htt2 := totN_take ss (k + 1)
      have hsz2 := cat_size (ss.take (k + 1))
      rw [hct, ByteArray.size_append] at hsz2
      have hle := H40.out.2
      have hs2 : s.size ≤ 2000 := by omega
      have hcd : (cat (ss.take k)).data.toList ++ s.data.toList = (cat (ss.take (k + 1))).data.toList := by
        rw [hct, ByteArray.data_append, Array.toList_append]
      obtain ⟨t, ht⟩ : ∃ t, cat (ss.take k) = t := ⟨_, rfl⟩
      obtain ⟨t2, ht2⟩ : ∃ t2, cat (ss.take (k + 1)) = t2 := ⟨_, rfl⟩
      rw [ht] at hct hcd S hcl hsz hsz2 ⊢
      rw [ht2] at hct hcd
      have hl2 : t2.data.toList.length = t.size + s.size := by rw [← hcd, List.length_append, hcl]; simp
      have cW := write_any t.data.toList s (by omega) (by omega) g wr hT1 (by omega) S
      rw [hcd] at cW
      have hcat : ∀ u : World, (Op.stringOp .add t s).run Tryd.prog u = .ok (.string t2) u := fun u => by rw [hct]; exact run_string_add_sum u _ _ (by omega)
      have cS := fun u hu h => msum_any t2.data.toList (by omega) g u hu h
      have cQ := fun u hu => sum_any t2 (by have : t2.data.toList.length = t2.size := by simp
                                            omega) u hu
      have hn1 : (k : Int) < (ss.length : Int) := by omega
      obtain ⟨ad, rfl, hadl, hac⟩ := hr.call L k s hs
      have hadw : (ad.add k).block < wr.heap.size := by rw [addr_block]; exact Nat.lt_of_lt_of_le hadl L.size
      have fact : ∀ u, Below w.heap.size w u → u.cell? (ad.add k) = some (.string s) ∧ (ad.add k).block < u.heap.size := fun u hu => by
        obtain ⟨ad', e, h1, h2⟩ := hr.call hu k s hs
        injection e with e
        subst e
        exact ⟨h2, by rw [addr_block]; exact Nat.lt_of_lt_of_le h1 hu.size⟩
      have HT2 := hideIt ht2
      have HTk := hideIt hT
      clear hct hcd hsz hsz2 htt htt2 htk hs ht ht2 hcl hl2 hle
      generalize digB t2.data.toList = D at *
      by_cases hbk : k < n2
      · obtain ⟨ad2, rfl, hadl2, hac2⟩ := hb.call L k hbk
        have fact2 : ∀ u, Below w.heap.size w u → u.cell? (ad2.add k) = some (.bool (f k)) ∧ (ad2.add k).block < u.heap.size := fun u hu => by
          obtain ⟨ad', e, h1, h2⟩ := hb.call hu k hbk
          injection e with e
          subst e
          exact ⟨h2, by rw [addr_block]; exact Nat.lt_of_lt_of_le h1 hu.size⟩
        have hb1 : (k : Int) < (n2 : Int) := by omega
        go_upto_region 14 with (first
          | (go_at_call 35; refine cW.mono ?_; rintro e w3 ⟨rfl, S3, k3⟩))
        have L3 := L.trans (k3.below hgw L.size)
        obtain ⟨x1, x2⟩ := fact _ L3
        obtain ⟨y1, y2⟩ := fact2 _ L3
        have t3 := HTk.out.call L3
        clear cW k3 S hac hadw hac2 fact fact2 L hT1 hT
        cases hfk : f k
        · rw [hfk] at y1
          go_wp2
          go_roundg (ss.length - (k + 1))
          case measure => have := HG.out; omega
          case rel => exact ⟨k + 1, by omega, rfl, by go_num, by rw [HT2.out], by rw [HT2.out]; exact S3, L3⟩
        · rw [hfk] at y1
          go_upto_region 16 with fail
          go_upto_region 17 with (first
            | (go_at_call 36; refine (cS _ t3 S3).mono ?_; rintro e w4 ⟨rfl, b4⟩))
          have S4 := S3.call b4
          have t4 := t3.call b4
          have L4 := chain L3 b4
          clear x1 x2 y1 y2 S3 t3 L3 b4
          go_upto_region 18 with (first
            | (go_at_call 36; refine (cS _ t4 S4).mono ?_; rintro e w5 ⟨rfl, b5⟩))
          have S5 := S4.call b5
          have t5 := t4.call b5
          have L5 := chain L4 b5
          clear S4 t4 L4 b5
          go_wp2_with (first
            | (go_at_call 27; refine (cQ _ t5).mono ?_; rintro e w6 ⟨rfl, b6⟩))
          go_roundg (ss.length - (k + 1))
          case measure => have := HG.out; omega
          case rel => exact ⟨k + 1, by omega, rfl, by go_num, by rw [HT2.out], by rw [HT2.out]; exact S5.call b6, chain L5 b6⟩
      · have hb1 : ¬ ((k : Int) < (n2 : Int)) := by omega
        go_upto_region 14 with (first
          | (go_at_call 35; refine cW.mono ?_; rintro e w3 ⟨rfl, S3, k3⟩))
        have L3 := L.trans (k3.below hgw L.size)
        obtain ⟨x1, x2⟩ := fact _ L3
        clear cW k3 S hac hadw fact L hT1 hT
        go_wp2
        go_roundg (ss.length - (k + 1))
        case measure => have := HG.out; omega
        case rel => exact ⟨k + 1, by omega, rfl, by go_num, by rw [HT2.out], by rw [HT2.out]; exact S3, L3⟩
    · have e : k = ss.length := by omega
      subst e
      have hle := H40.out.2
      rw [List.take_length] at *
      generalize cat ss = t at *
      have cS := msum_any t.data.toList (by omega) g wr hT1 S
      have cQ := fun u hu => sum_any t (by omega) u hu
      have cE := fun u h => mlen_any t.data.toList g u h
      have hD := digB_size t.data.toList
      rw [hcl] at cE
      have hm1 : (t.size : Int) % 18446744073709551616 = (t.size : Int) := by omega
      generalize digB t.data.toList = D at *
      clear HG hcl htt hsz
      go_wp2_with (first
        | (go_at_call 36; refine cS.mono ?_; rintro e w4 ⟨rfl, b4⟩)
        | (go_at_call 27; refine (cQ _ (hT1.call b4)).mono ?_; rintro e w5 ⟨rfl, b5⟩)
        | (go_at_call 37; refine (cE _ ((S.call b4).call b5)).mono ?_; rintro e w6 ⟨rfl, rfl⟩))
      go_ret
      exact ⟨rfl, chain (chain L b4) b5⟩

theorem shaPieces_core (H : Type) (enc : TypeId × Value → H) (W : World) (base : Nat) (args : Array Value) (ds gs : List (DataW H)) (before : List MemPlace)
    (hval : ∀ (j : Nat) t v, Tryd.f9.params[j]? = some t → args[j]? = some v → Value.okWide Tryd.prog W .any base t v)
    (hW : DataW.Whole enc Tryd.prog Tryd.f9.params.toList Rows.shaPiecesSpec.vars false W args.toList ds gs before) (hT : Tab W)
    (hwt : (DataW.weightsEach Tryd.prog (Tryd.f9.params.toList ++ Rows.shaPiecesSpec.plain.varTypes Tryd.prog) (ds ++ gs)).all (· ≤ reachBytes) = true) :
    gs = [] ∧ ds.length = 2 ∧ Calls Tryd.prog 9 args W (Tells (.bool true) W.heap.size W) := by
  obtain ⟨p, q, hA, hV, -, -, -⟩ := hW
  obtain ⟨rfl, rfl⟩ := trodVars_none hV
  have hA : DataW.TrodAll enc Tryd.prog W 0 (fun _ => true) true Tryd.f9.params.toList args.toList ds p := hA
  rw [Tryd.params9] at hA hval hwt
  obtain ⟨v0, vs0, d0, ds0, p0, ps0, e0, rfl, -, h0, hA⟩ := trodAll_cons hA
  obtain ⟨v1, vs1, d1, ds1, p1, ps1, rfl, rfl, -, h1, hA⟩ := trodAll_cons hA
  obtain ⟨rfl, rfl, rfl⟩ := trodAll_nil hA
  obtain rfl : args = #[v0, v1] := Array.ext' e0
  have hw0 : ∀ n ∈ DataW.weights Tryd.prog 46 d0, n ≤ reachBytes := fun n hn => by
    have h := List.all_eq_true.1 hwt n (List.mem_append.2 (.inl hn))
    exact of_decide_eq_true h
  obtain ⟨A, c, ss, rfl, hm, hz, hr⟩ := open_strs (hval 0 46 v0 rfl rfl) h0 hw0
  obtain ⟨A2, n2, c2, f, rfl, hm2, hb⟩ := open_truths (hval 1 59 v1 rfl rfl) h1
  refine ⟨rfl, rfl, ?_⟩
  cases hL : longB ss
  · exact pieces_short A c ss hz hm A2 n2 c2 f hm2 hL W hT hr hb
  · exact pieces_long A c ss hz hm _ hL W hT hr

set_option maxRecDepth 100000 in
theorem shaPieces_lifted (os : Os) (started : os.Started) (H : Type) (enc : TypeId × Value → H) :
    ReturnsInHanded {} Tryd.checked os 9 .any (fun w args => (Rows.shaPiecesSpec.pre enc Tryd.prog Tryd.f9 [] false w args ∧ laidMetH Tryd.prog laidK w) ∧ sizedMet enc Tryd.prog Tryd.f9 (OpenSpec.ofChange Rows.shaPiecesSpec) false w args)
      (Rows.shaPiecesSpec.post enc Tryd.prog Tryd.f9 false true false false) := by
  refine returnsInHanded_of_change_and (C := Tryd.checked) (X := fun w _ => laidMetH Tryd.prog laidK w) (fun _ _ _ hh h => h.of_heap hh) own_knob started (by kernel_rfl) Tryd.func9
    (ChangeSpec.witness_shaped (enc := enc) (C := Tryd.checked) (os := os) (X := fun w _ => laidMetH Tryd.prog laidK w) false (World.doorLaid Tryd.prog 14 os) #[.slice none 0 0, .slice none 0 0] 8 rfl (World.shaped_of_RefB (by kernel_rfl) (by kernel_rfl)) (by kernel_rfl) (by kernel_rfl) (by kernel_rfl) (door_met os _)) ?_
  intro W base args ds gs before hval0 hW _ hwt hL _
  have hval : ∀ (j : Nat) t v, Tryd.f9.params[j]? = some t → args[j]? = some v → Value.okWide Tryd.prog W .any base t v := hval0
  obtain ⟨hg, hlen, hc⟩ := shaPieces_core H enc W base args ds gs before hval hW (tab_of_laid hL) hwt
  subst hg
  have hr : (Tryd.f9.params.toList.all fun t => Tryd.prog.readableRec t && decide (t < Tryd.prog.types.size)) = true := by kernel_rfl
  have hread : ∀ t ∈ Tryd.f9.params.toList, Tryd.prog.readableRec t = true ∧ t < Tryd.prog.types.size := fun t ht => by
    have h := List.all_eq_true.1 hr t ht
    rw [Bool.and_eq_true, decide_eq_true_eq] at h
    exact h
  refine hc.mono fun e W' ⟨he, hb⟩ => ?_
  subst he
  match ds, hlen with
  | [d0, d1], _ => exact ⟨_, rfl, law_post laid_out Tryd.underlying4 rfl hread rfl hW rfl rfl rfl hb⟩

theorem shaPieces_holds : Rows.ShaPiecesSaid :=
  OpenClaim.holds_of_wide 9 Tryd.f9 rfl rfl rfl rfl rfl rfl rfl ⟨rfl, rfl, rfl, rfl, rfl⟩ rfl rfl rfl rfl rfl (by kernel_rfl) Tryd.func9 (by kernel_rfl)
    (of_decide_eq_true (by kernel_rfl)) (by unfold Func.isWrapper; first | (rw [if_pos (by decide +kernel)]; kernel_rfl) | (rw [if_neg (by decide +kernel)]; exact ⟨rfl, rfl⟩))
    (fun os started H enc _ => shaPieces_lifted os started H enc)

theorem shaPieces_card : Rows.ShaPiecesCardSaid :=
  Claim7.holds_tied_plain_at .later [] [.data] true _ false
    shaPieces_holds (fun _ h => by cases h) (by kernel_rfl) (fun _ h => by cases h) shaPieces_row_tie rfl ⟨rfl, rfl⟩ (by kernel_rfl) rfl
    (fun f fn hf hfn => by
      obtain rfl : f = 9 := Option.some.inj ((show Tryd.prog.funcNamed "paymaster/paymasterlaw05.ShaPieces" = some 9 by kernel_rfl).symm.trans hf) |>.symm
      obtain rfl : fn = Tryd.f9 := (Option.some.inj (Tryd.func9.symm.trans hfn)).symm
      exact ⟨by kernel_rfl, fun j t ht => by
        have hm : t ∈ Tryd.f9.params.toList := by simpa using Array.mem_of_getElem? ht
        have hall : (Tryd.f9.params.toList.all fun u => !Tryd.prog.wantsStandIn u) = true := by kernel_rfl
        exact (show Tryd.prog.wantsStandIn t = false by simpa using List.all_eq_true.1 hall t hm)⟩)
    (by kernel_rfl)

end Go.Proofs.YtlceniljnejjeaaDoor
