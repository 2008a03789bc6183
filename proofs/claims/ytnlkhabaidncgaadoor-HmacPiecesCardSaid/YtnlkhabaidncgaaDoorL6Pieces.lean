/-
  The law HmacPieces: a text that is taken in whatever pieces has the mac of the whole one.
  Conditions: block's table of constants holds what the program's text lays (tied by the card); each text and slice within the form's own reach.
-/
import Derived.Test.YtnlkhabaidncgaaDoorU5Str
import Derived.Test.YtnlkhabaidncgaaDoorU6Awake
namespace Go.Proofs.YtnlkhabaidncgaaDoor
set_option linter.unusedVariables false
set_option linter.unusedSimpArgs false
open Go.ChangeShapes Go.WideShapes Go.ChangeAt Go.RowKit

set_option maxHeartbeats 2000000 in
theorem mpieces_key (key : ByteArray) (v : Value) (h : (1000 : Int) < (key.size : Int)) (hk : key.size ≤ 9223372036854775807) (w : World) (hT : Tab w) :
    Calls Tryd.prog 6 #[.string key, v] w (Tells (.bool true) w.heap.size w) := by
  have cA := awake6_any w hT
  go_enter Tryd.func6, Tryd.ntmps6
  go_wp2_with (first
    | (go_at_call 24; refine cA.mono ?_; rintro e w1 ⟨rfl, b1⟩))
  go_ret
  exact ⟨rfl, b1⟩
set_option maxHeartbeats 2000000 in
theorem mpieces_long (key : ByteArray) (h : ¬ (1000 : Int) < (key.size : Int)) (A : Option Addr) (c : Nat) (ss : List ByteArray) (hz : ∀ s ∈ ss, s.size ≤ reachBytes) (hm : ss.length ≤ 9223372036854775807) (hL : longB ss = true) (w : World) (hT : Tab w) (hr : StrRow w w.heap.size A ss) :
    Calls Tryd.prog 6 #[.string key, .slice A ss.length c] w (Tells (.bool true) w.heap.size w) := by
  have cA := awake6_any w hT
  have cL := fun u hu => long_any A c ss hz hm u hu
  rw [hL] at cL
  go_enter Tryd.func6, Tryd.ntmps6
  go_wp2_with (first
    | (go_at_call 24; refine cA.mono ?_; rintro e w1 ⟨rfl, b1⟩)
    | (go_at_call 19; refine (cL _ (fun i s hs => by obtain ⟨ad, e, h1, h2⟩ := hr.call b1 i s hs; exact ⟨ad, e, Nat.lt_of_lt_of_le h1 b1.size, h2⟩)).mono ?_; rintro e w2 ⟨rfl, rfl⟩))
  go_ret
  exact ⟨rfl, b1⟩

set_option maxRecDepth 100000 in
set_option maxHeartbeats 4000000 in
theorem mpieces_short (key : ByteArray) (hk : key.size ≤ 1000) (A : Option Addr) (c : Nat) (ss : List ByteArray) (hz : ∀ s ∈ ss, s.size ≤ reachBytes) (hm : ss.length ≤ 9223372036854775807)
    (hL : longB ss = false) (w : World) (hT : Tab w) (hr : StrRow w w.heap.size A ss) :
    Calls Tryd.prog 6 #[.string key, .slice A ss.length c] w (Tells (.bool true) w.heap.size w) := by
  have hk1 : ¬ (1000 : Int) < (key.size : Int) := by omega
  have cA := awake6_any w hT
  have cL := fun u hu => long_any A c ss hz hm u hu
  rw [hL] at cL
  have cN := fun u hu => macnew_any key (by omega) u hu
  have h40 : ss.length ≤ 40 ∧ totN ss ≤ 2000 := by
    unfold longB at hL
    simp only [Bool.or_eq_false_iff, decide_eq_false_iff_not] at hL
    omega
  have H40 := hideIt h40
  have HK := hideIt hk
  clear h40 hL hz hk
  have n0 := hT.1
  go_enter Tryd.func6, Tryd.ntmps6
  go_upto_region 8 with (first
    | (go_at_call 24; refine cA.mono ?_; rintro e w1 ⟨rfl, b1⟩)
    | (go_at_call 19; refine (cL _ (fun i s hs => by obtain ⟨ad, e, h1, h2⟩ := hr.call b1 i s hs; exact ⟨ad, e, Nat.lt_of_lt_of_le h1 b1.size, h2⟩)).mono ?_; rintro e w2 ⟨rfl, rfl⟩)
    | (go_at_call 20; refine (cN _ (hT.call b1)).mono ?_; rintro e w2 ⟨g, hg, rfl, S0, b2⟩))
  have L0 := chain b1 b2
  have hgw : w.heap.size ≤ g := Nat.le_trans b1.size hg
  clear cA cL cN b1 b2 hg
  go_wp2
  go_loopg [6, 7] ss.length (fun gk v i wr => ∃ k : Nat, k ≤ ss.length ∧ gk = ss.length - k ∧ i = .int .i64 k ∧ v = .string (cat (ss.take k)) ∧ MacAt wr g key (cat (ss.take k)).data.toList ∧ Below w.heap.size w wr)
  case atStart => exact ⟨0, by omega, rfl, rfl, rfl, S0, L0⟩
  case round =>
    clear S0 L0
    obtain ⟨k, hk, hgk, rfl, rfl, S, L⟩ := hrel
    have HG := hideIt hgk
    clear hgk
    have hT1 := hT.call L
    have hsz := cat_size (ss.take k)
    have htt := totN_take ss k
    have hcl : (cat (ss.take k)).data.toList.length = (cat (ss.take k)).size := by simp
    by_cases hlt : k < ss.length
    · obtain ⟨s, hs⟩ : ∃ s, ss[k]? = some s := ⟨_, List.getElem?_eq_getElem hlt⟩
      have htk : ss.take (k + 1) = ss.take k ++ [s] := by
        rw [List.take_add_one, hs]; rfl
      have hct : cat (ss.take (k + 1)) = cat (ss.take k) ++ s := by rw [htk, cat_snoc]
      have htt2 := totN_take ss (k + 1)
      have hsz2 := cat_size (ss.take (k + 1))
      rw [hct, ByteArray.size_append] at hsz2
      have hle := H40.out.2
      have hs2 : s.size ≤ 2000 := by omega
      have hcd : (cat (ss.take k)).data.toList ++ s.data.toList = (cat (ss.take (k + 1))).data.toList := by
        rw [hct, ByteArray.data_append, Array.toList_append]
      obtain ⟨t, ht⟩ : ∃ t, cat (ss.take k) = t := ⟨_, rfl⟩
      obtain ⟨t2, ht2⟩ : ∃ t2, cat (ss.take (k + 1)) = t2 := ⟨_, rfl⟩
      rw [ht] at hct hcd S hcl hsz hsz2 ⊢
      rw [ht2] at hct hcd
      have cW := macwrite_any key t.data.toList s (by omega) (by omega) g wr hT1 (by omega) S
      rw [hcd] at cW
      have hcat : ∀ u : World, (Op.stringOp .add t s).run Tryd.prog u = .ok (.string t2) u := fun u => by rw [hct]; exact run_string_add_sum u _ _ (by omega)
      have hn1 : (k : Int) < (ss.length : Int) := by omega
      obtain ⟨ad, rfl, hadl, hac⟩ := hr.call L k s hs
      have hadw : (ad.add k).block < wr.heap.size := by rw [addr_block]; exact Nat.lt_of_lt_of_le hadl L.size
      have fact : ∀ u, Below w.heap.size w u → u.cell? (ad.add k) = some (.string s) ∧ (ad.add k).block < u.heap.size := fun u hu => by
        obtain ⟨ad', e, h1, h2⟩ := hr.call hu k s hs
        injection e with e
        subst e
        exact ⟨h2, by rw [addr_block]; exact Nat.lt_of_lt_of_le h1 hu.size⟩
      have HT2 := hideIt ht2
      clear hct hcd hsz hsz2 htt htt2 htk hs ht ht2 hcl hle
      go_upto_region 14 with (first
        | (go_at_call 21; refine cW.mono ?_; rintro e w3 ⟨rfl, S3, k3⟩))
      have L3 := L.trans (k3.below hgw L.size)
      obtain ⟨x1, x2⟩ := fact _ L3
      clear cW k3 S hac hadw fact L hT1 hT
      go_wp2
      go_roundg (ss.length - (k + 1))
      case measure => have := HG.out; omega
      case rel => exact ⟨k + 1, by omega, rfl, by go_num, by rw [HT2.out], by rw [HT2.out]; exact S3, L3⟩
    · have e : k = ss.length := by omega
      subst e
      have hle := H40.out.2
      rw [List.take_length] at *
      generalize cat ss = t at *
      have cS := macsum_any key t.data.toList (by omega) g wr hT1 S
      have cS2 := fun u hu h => macsum_any key t.data.toList (by omega) g u hu h
      have cQ := fun u hu => hsum_any key t (by have := HK.out; omega) (by omega) u hu
      have hD := macB_size key t.data.toList
      generalize macB key t.data.toList = D at *
      clear HG hcl htt hsz
      go_upto_region 16 with (first
        | (go_at_call 22; refine cS.mono ?_; rintro e w4 ⟨rfl, b4⟩))
      have t4 := hT1.call b4
      have S4 := S.call b4
      clear cS
      go_wp2_with (first
        | (go_at_call 22; refine (cS2 _ t4 S4).mono ?_; rintro e w5 ⟨rfl, b5⟩; have t5 := t4.call b5)
        | (go_at_call 11; refine (cQ _ t5).mono ?_; rintro e w6 ⟨rfl, b6⟩))
      go_ret
      exact ⟨rfl, chain (chain (chain L b4) b5) b6⟩

theorem hmacPieces_core (H : Type) (enc : TypeId × Value → H) (W : World) (base : Nat) (args : Array Value) (ds gs : List (DataW H)) (before : List MemPlace)
    (hval : ∀ (j : Nat) t v, Tryd.f6.params[j]? = some t → args[j]? = some v → Value.okWide Tryd.prog W .any base t v)
    (hW : DataW.Whole enc Tryd.prog Tryd.f6.params.toList Rows.hmacPiecesSpec.vars false W args.toList ds gs before) (hT : Tab W)
    (hwt : (DataW.weightsEach Tryd.prog (Tryd.f6.params.toList ++ Rows.hmacPiecesSpec.plain.varTypes Tryd.prog) (ds ++ gs)).all (· ≤ reachBytes) = true) :
    gs = [] ∧ ds.length = 2 ∧ Calls Tryd.prog 6 args W (Tells (.bool true) W.heap.size W) := by
  obtain ⟨p, q, hA, hV, -, -, -⟩ := hW
  obtain ⟨rfl, rfl⟩ := trodVars_none hV
  have hA : DataW.TrodAll enc Tryd.prog W 0 (fun _ => true) true Tryd.f6.params.toList args.toList ds p := hA
  rw [Tryd.params6] at hA hval hwt
  obtain ⟨v0, vs0, d0, ds0, p0, ps0, e0, rfl, -, h0, hA⟩ := trodAll_cons hA
  obtain ⟨v1, vs1, d1, ds1, p1, ps1, rfl, rfl, -, h1, hA⟩ := trodAll_cons hA
  obtain ⟨rfl, rfl, rfl⟩ := trodAll_nil hA
  obtain rfl : args = #[v0, v1] := Array.ext' e0
  obtain ⟨key, rfl, rfl, rfl, hk⟩ := Go.ChangeMaps.open_string Tryd.underlying9 (hval 0 9 v0 rfl rfl) h0
  have hw1 : ∀ n ∈ DataW.weights Tryd.prog 29 d1, n ≤ reachBytes := fun n hn => by
    have h := List.all_eq_true.1 hwt n (List.mem_append.2 (.inr (List.mem_append.2 (.inl hn))))
    exact of_decide_eq_true h
  obtain ⟨A, c, ss, rfl, hm, hz, hr⟩ := open_strs (hval 1 29 v1 rfl rfl) h1 hw1
  refine ⟨rfl, rfl, ?_⟩
  by_cases hkl : (1000 : Int) < (key.size : Int)
  · exact mpieces_key key _ hkl hk W hT
  · cases hL : longB ss
    · exact mpieces_short key (by omega) A c ss hz hm hL W hT hr
    · exact mpieces_long key hkl A c ss hz hm hL W hT hr

set_option maxRecDepth 100000 in
theorem hmacPieces_lifted (os : Os) (started : os.Started) (H : Type) (enc : TypeId × Value → H) :
    ReturnsInHanded {} Tryd.checked os 6 .any (fun w args => (Rows.hmacPiecesSpec.pre enc Tryd.prog Tryd.f6 [] false w args ∧ laidMetH Tryd.prog laidK w) ∧ sizedMet enc Tryd.prog Tryd.f6 (OpenSpec.ofChange Rows.hmacPiecesSpec) false w args)
      (Rows.hmacPiecesSpec.post enc Tryd.prog Tryd.f6 false true false false) := by
  refine returnsInHanded_of_change_and (C := Tryd.checked) (X := fun w _ => laidMetH Tryd.prog laidK w) (fun _ _ _ hh h => h.of_heap hh) own_knob started (by kernel_rfl) Tryd.func6
    (ChangeSpec.witness_shaped (enc := enc) (C := Tryd.checked) (os := os) (X := fun w _ => laidMetH Tryd.prog laidK w) false (World.doorLaid Tryd.prog 14 os) #[.string ⟨#[]⟩, .slice none 0 0] 8 rfl (World.shaped_of_RefB (by kernel_rfl) (by kernel_rfl)) (by kernel_rfl) (by kernel_rfl) (by kernel_rfl) (door_met os _)) ?_
  intro W base args ds gs before hval0 hW _ hwt hL _
  have hval : ∀ (j : Nat) t v, Tryd.f6.params[j]? = some t → args[j]? = some v → Value.okWide Tryd.prog W .any base t v := hval0
  obtain ⟨hg, hlen, hc⟩ := hmacPieces_core H enc W base args ds gs before hval hW (tab_of_laid hL) hwt
  subst hg
  have hr : (Tryd.f6.params.toList.all fun t => Tryd.prog.readableRec t && decide (t < Tryd.prog.types.size)) = true := by kernel_rfl
  have hread : ∀ t ∈ Tryd.f6.params.toList, Tryd.prog.readableRec t = true ∧ t < Tryd.prog.types.size := fun t ht => by
    have h := List.all_eq_true.1 hr t ht
    rw [Bool.and_eq_true, decide_eq_true_eq] at h
    exact h
  refine hc.mono fun e W' ⟨he, hb⟩ => ?_
  subst he
  match ds, hlen with
  | [d0, d1], _ => exact ⟨_, rfl, law_post laid_out Tryd.underlying4 rfl hread rfl hW rfl rfl rfl hb⟩

theorem hmacPieces_holds : Rows.HmacPiecesSaid :=
  OpenClaim.holds_of_wide 6 Tryd.f6 rfl rfl rfl rfl rfl rfl rfl ⟨rfl, rfl, rfl, rfl, rfl⟩ rfl rfl rfl rfl rfl (by kernel_rfl) Tryd.func6 (by kernel_rfl)
    (of_decide_eq_true (by kernel_rfl)) (by unfold Func.isWrapper; first | (rw [if_pos (by decide +kernel)]; kernel_rfl) | (rw [if_neg (by decide +kernel)]; exact ⟨rfl, rfl⟩))
    (fun os started H enc _ => hmacPieces_lifted os started H enc)

theorem hmacPieces_card : Rows.HmacPiecesCardSaid :=
  Claim7.holds_tied_plain_at .later [] [.data] true _ false
    hmacPieces_holds (fun _ h => by cases h) (by kernel_rfl) (fun _ h => by cases h) hmacPieces_row_tie rfl ⟨rfl, rfl⟩ (by kernel_rfl) rfl
    (fun f fn hf hfn => by
      obtain rfl : f = 6 := Option.some.inj ((show Tryd.prog.funcNamed "paymaster/paymasterlaw06.HmacPieces" = some 6 by kernel_rfl).symm.trans hf) |>.symm
      obtain rfl : fn = Tryd.f6 := (Option.some.inj (Tryd.func6.symm.trans hfn)).symm
      exact ⟨by kernel_rfl, fun j t ht => by
        have hm : t ∈ Tryd.f6.params.toList := by simpa using Array.mem_of_getElem? ht
        have hall : (Tryd.f6.params.toList.all fun u => !Tryd.prog.wantsStandIn u) = true := by kernel_rfl
        exact (show Tryd.prog.wantsStandIn t = false by simpa using List.all_eq_true.1 hall t hm)⟩)
    (by kernel_rfl)

end Go.Proofs.YtnlkhabaidncgaaDoor
