/-
  The law ShaRuns: whatever pieces are taken, how many bytes there are, and the digest behind each, is what the document says; a copy goes on alone.
  Conditions: block's table of constants holds what the program's text lays (tied by the card); each text and slice within the form's own reach.
-/
import Derived.Test.YtlceniljnejjeaaDoorU5Str
import Derived.Test.YtlceniljnejjeaaDoorR5Sum
namespace Go.Proofs.YtlceniljnejjeaaDoor
set_option linter.unusedVariables false
set_option linter.unusedSimpArgs false
open Go.ChangeShapes Go.WideShapes Go.ChangeAt Go.RowKit

/-- A text, and others behind it. -/
def catT (T : ByteArray) (l : List ByteArray) : ByteArray := l.foldl (· ++ ·) T
theorem catT_snoc (T : ByteArray) (l : List ByteArray) (s : ByteArray) : catT T (l ++ [s]) = catT T l ++ s := by simp [catT]
theorem catT_size : ∀ (l : List ByteArray) (T : ByteArray), (catT T l).size = T.size + totN l
  | [], T => rfl
  | s :: r, T => by
    have h := totN_app [s] r
    have e : totN [s] = s.size := by simp [totN]
    show (catT (T ++ s) r).size = _
    rw [catT_size r (T ++ s), ByteArray.size_append, show s :: r = [s] ++ r from rfl, h, e]
    omega

set_option maxHeartbeats 2000000 in
theorem runs_long1 (A : Option Addr) (c : Nat) (ss : List ByteArray) (hz : ∀ s ∈ ss, s.size ≤ reachBytes) (hm : ss.length ≤ 9223372036854775807) (v : Value) (hL : longB ss = true) (w : World) (hr : StrRow w w.heap.size A ss) :
    Calls Tryd.prog 7 #[.slice A ss.length c, v] w (Tells (.bool true) w.heap.size w) := by
  have cL := fun u hu => long_any A c ss hz hm u hu
  rw [hL] at cL
  go_enter Tryd.func7, Tryd.ntmps7
  go_wp2_with (first
    | (go_at_call 33; refine (cL _ hr).mono ?_; rintro e w2 ⟨rfl, rfl⟩))
  go_ret
  exact ⟨rfl, Below.refl _ _⟩

set_option maxHeartbeats 2000000 in
theorem runs_long2 (A : Option Addr) (c : Nat) (ss : List ByteArray) (hz : ∀ s ∈ ss, s.size ≤ reachBytes) (hm : ss.length ≤ 9223372036854775807) (A2 : Option Addr) (c2 : Nat) (ms : List ByteArray) (hz2 : ∀ s ∈ ms, s.size ≤ reachBytes) (hm2 : ms.length ≤ 9223372036854775807)
    (hL : longB ss = false) (hL2 : longB ms = true) (w : World) (hr : StrRow w w.heap.size A ss) (hr2 : StrRow w w.heap.size A2 ms) :
    Calls Tryd.prog 7 #[.slice A ss.length c, .slice A2 ms.length c2] w (Tells (.bool true) w.heap.size w) := by
  have cL := fun u hu => long_any A c ss hz hm u hu
  rw [hL] at cL
  have cM := fun u hu => long_any A2 c2 ms hz2 hm2 u hu
  rw [hL2] at cM
  go_enter Tryd.func7, Tryd.ntmps7
  go_wp2_with (first
    | (go_at_call_of 33 (Value.slice A ss.length c); refine (cL _ hr).mono ?_; rintro e w2 ⟨rfl, rfl⟩)
    | (go_at_call_of 33 (Value.slice A2 ms.length c2); refine (cM _ hr2).mono ?_; rintro e w2 ⟨rfl, rfl⟩))
  go_ret
  exact ⟨rfl, Below.refl _ _⟩

set_option maxRecDepth 100000 in
set_option maxHeartbeats 4000000 in
theorem runs_short (A : Option Addr) (c : Nat) (ss : List ByteArray) (hz : ∀ s ∈ ss, s.size ≤ reachBytes) (hm : ss.length ≤ 9223372036854775807) (A2 : Option Addr) (c2 : Nat) (ms : List ByteArray) (hz2 : ∀ s ∈ ms, s.size ≤ reachBytes) (hm2 : ms.length ≤ 9223372036854775807)
    (hL : longB ss = false) (hL2 : longB ms = false) (w : World) (hT : Tab w) (hr : StrRow w w.heap.size A ss) (hr2 : StrRow w w.heap.size A2 ms) :
    Calls Tryd.prog 7 #[.slice A ss.length c, .slice A2 ms.length c2] w (Tells (.bool true) w.heap.size w) := by
  have cL := fun u hu => long_any A c ss hz hm u hu
  rw [hL] at cL
  have cM := fun u hu => long_any A2 c2 ms hz2 hm2 u hu
  rw [hL2] at cM
  have cN := fun u => new_any u
  have h40 : (ss.length ≤ 40 ∧ totN ss ≤ 2000) ∧ (ms.length ≤ 40 ∧ totN ms ≤ 2000) := by
    unfold longB at hL hL2
    simp only [Bool.or_eq_false_iff, decide_eq_false_iff_not] at hL hL2
    omega
  have H40 := hideIt h40
  clear h40 hL hL2 hz hz2
  have n0 := hT.1
  go_enter Tryd.func7, Tryd.ntmps7
  go_upto_region 4 with (first
    | (go_at_call_of 33 (Value.slice A ss.length c); refine (cL _ hr).mono ?_; rintro e w2 ⟨rfl, rfl⟩)
    | (go_at_call_of 33 (Value.slice A2 ms.length c2); refine (cM _ hr2).mono ?_; rintro e w2 ⟨rfl, rfl⟩)
    | (go_at_call 34; refine (cN _).mono ?_; rintro e w2 ⟨g, hg, rfl, hbx, b2⟩))
  have S0 := new_sha hbx
  have L0 := b2
  have hgw : w.heap.size ≤ g := hg
  clear cL cM cN hbx b2 hg
  go_wp2
  go_loopg [6, 7] ss.length (fun gk v i wr => ∃ k : Nat, k ≤ ss.length ∧ gk = ss.length - k ∧ i = .int .i64 k ∧ v = .string (cat (ss.take k)) ∧ ShaAt wr g (cat (ss.take k)).data.toList ∧ Below w.heap.size w wr)
  case atStart => exact ⟨0, by omega, rfl, rfl, rfl, S0, L0⟩
  case round =>
    clear S0 L0
    obtain ⟨k, hk, hgk, rfl, rfl, S, L⟩ := hrel
    have HG := hideIt hgk
    clear hgk
    have hT1 := hT.call L
    have hsz := cat_size (ss.take k)
    have htt := totN_take ss k
    have hcl : (cat (ss.take k)).data.toList.length = (cat (ss.take k)).size := by simp
    by_cases hlt : k < ss.length
    · obtain ⟨s, hs⟩ : ∃ s, ss[k]? = some s := ⟨_, List.getElem?_eq_getElem hlt⟩
      have htk : ss.take (k + 1) = ss.take k ++ [s] := by
        rw [List.take_add_one, hs]; rfl
      have hct : cat (ss.take (k + 1)) = cat (ss.take k) ++ s := by rw [htk, cat_snoc]
      have htt2 := totN_take ss (k + 1)
      have hsz2 := cat_size (ss.take (k + 1))
      rw [hct, ByteArray.size_append] at hsz2
      have hle := H40.out.1.2
      have hs2 : s.size ≤ 2000 := by omega
      have hcd : (cat (ss.take k)).data.toList ++ s.data.toList = (cat (ss.take (k + 1))).data.toList := by
        rw [hct, ByteArray.data_append, Array.toList_append]
      obtain ⟨t, ht⟩ : ∃ t, cat (ss.take k) = t := ⟨_, rfl⟩
      obtain ⟨t2, ht2⟩ : ∃ t2, cat (ss.take (k + 1)) = t2 := ⟨_, rfl⟩
      rw [ht] at hct hcd S hcl hsz hsz2 ⊢
      rw [ht2] at hct hcd
      have hl2 : t2.data.toList.length = t.size + s.size := by rw [← hcd, List.length_append, hcl]; simp
      have hl3 : t2.data.toList.length = t2.size := by simp
      have cW := write_any t.data.toList s (by omega) (by omega) g wr hT1 (by omega) S
      rw [hcd] at cW
      have hcat : ∀ u : World, (Op.stringOp .add t s).run Tryd.prog u = .ok (.string t2) u := fun u => by rw [hct]; exact run_string_add_sum u _ _ (by omega)
      have cS := fun u hu h => msum_any t2.data.toList (by omega) g u hu h
      have cQ := fun u => rsum_any t2 (by omega) u
      have cE := fun u h => mlen_any t2.data.toList g u h
      rw [hl3] at cE
      have hm1 : (t2.size : Int) % 18446744073709551616 = (t2.size : Int) := by omega
      have hn1 : (k : Int) < (ss.length : Int) := by omega
      obtain ⟨ad, rfl, hadl, hac⟩ := hr.call L k s hs
      have hadw : (ad.add k).block < wr.heap.size := by rw [addr_block]; exact Nat.lt_of_lt_of_le hadl L.size
      have fact : ∀ u, Below w.heap.size w u → u.cell? (ad.add k) = some (.string s) ∧ (ad.add k).block < u.heap.size := fun u hu => by
        obtain ⟨ad', e, h1, h2⟩ := hr.call hu k s hs
        injection e with e
        subst e
        exact ⟨h2, by rw [addr_block]; exact Nat.lt_of_lt_of_le h1 hu.size⟩
      have HT2 := hideIt ht2
      have HTk := hideIt hT
      clear hct hcd hsz hsz2 htt htt2 htk hs ht ht2 hcl hl2 hl3 hle
      generalize digB t2.data.toList = D at *
      go_upto_region 12 with (first
        | (go_at_call 35; refine cW.mono ?_; rintro e w3 ⟨rfl, S3, k3⟩))
      have L3 := L.trans (k3.below hgw L.size)
      obtain ⟨x1, x2⟩ := fact _ L3
      have t3 := HTk.out.call L3
      clear cW k3 S hac hadw fact L hT1 hT
      go_upto_region 13 with fail
      clear x1 x2 hcat
      go_upto_region 14 with (first
        | (go_at_call 36; refine (cS _ t3 S3).mono ?_; rintro e w4 ⟨rfl, b4⟩))
      have S4 := S3.call b4
      have L4 := chain L3 b4
      clear S3 t3 L3 b4 cS
      go_wp2_with (first
        | (go_at_call 28; refine (cQ _).mono ?_; rintro e w5 ⟨rfl, b5⟩)
        | (go_at_call 37; refine (cE _ (S4.call b5)).mono ?_; rintro e w6 ⟨rfl, rfl⟩))
      go_roundg (ss.length - (k + 1))
      case measure => have := HG.out; omega
      case rel => exact ⟨k + 1, by omega, rfl, by go_num, by rw [HT2.out], by rw [HT2.out]; exact S4.call b5, chain L4 b5⟩
    · have e : k = ss.length := by omega
      subst e
      have hle := H40.out.1.2
      have hle2 := H40.out.2.2
      rw [List.take_length] at *
      generalize cat ss = T at *
      have cC := copy_any T.data.toList g wr S
      have hin := S.inside
      clear HG
      go_upto_region 17 with (first
        | (go_at_call 38; refine cC.mono ?_; rintro e w4 ⟨b, hb, rfl, SC, b4⟩))
      have S4 := S.call b4
      have L4 := chain L b4
      have hgb : g ≠ b := by omega
      have hbw : w.heap.size ≤ b := Nat.le_trans L.size hb
      clear cC hin S b4 L hb hT1
      go_wp2
      go_loopg [11, 12] ms.length (fun gk v i wr => ∃ k : Nat, k ≤ ms.length ∧ gk = ms.length - k ∧ i = .int .i64 k ∧ v = .string (catT T (ms.take k)) ∧ ShaAt wr b (catT T (ms.take k)).data.toList ∧ ShaAt wr g T.data.toList ∧ Below w.heap.size w wr)
      case atStart => exact ⟨0, by omega, rfl, rfl, rfl, SC, S4, L4⟩
      case round =>
        clear SC S4 L4
        obtain ⟨k, hk, hgk, rfl, rfl, SC, S, L⟩ := hrel
        have HG := hideIt hgk
        clear hgk
        have hT1 := hT.call L
        have hszm := catT_size (ms.take k) T
        have httm := totN_take ms k
        have hclm : (catT T (ms.take k)).data.toList.length = (catT T (ms.take k)).size := by simp
        by_cases hlt : k < ms.length
        · obtain ⟨s, hs⟩ : ∃ s, ms[k]? = some s := ⟨_, List.getElem?_eq_getElem hlt⟩
          have htk : ms.take (k + 1) = ms.take k ++ [s] := by
            rw [List.take_add_one, hs]; rfl
          have hct : catT T (ms.take (k + 1)) = catT T (ms.take k) ++ s := by rw [htk, catT_snoc]
          have htt2 := totN_take ms (k + 1)
          have hsz2 := catT_size (ms.take (k + 1)) T
          rw [hct, ByteArray.size_append] at hsz2
          have hs2 : s.size ≤ 4000 := by omega
          have hcd : (catT T (ms.take k)).data.toList ++ s.data.toList = (catT T (ms.take (k + 1))).data.toList := by
            rw [hct, ByteArray.data_append, Array.toList_append]
          obtain ⟨t, ht⟩ : ∃ t, catT T (ms.take k) = t := ⟨_, rfl⟩
          obtain ⟨t2, ht2⟩ : ∃ t2, catT T (ms.take (k + 1)) = t2 := ⟨_, rfl⟩
          rw [ht] at hct hcd SC hclm hszm hsz2 ⊢
          rw [ht2] at hct hcd
          have cW := write_any t.data.toList s (by omega) (by omega) b wr hT1 (by omega) SC
          rw [hcd] at cW
          have hcat : ∀ u : World, (Op.stringOp .add t s).run Tryd.prog u = .ok (.string t2) u := fun u => by rw [hct]; exact run_string_add_sum u _ _ (by omega)
          have hn1 : (k : Int) < (ms.length : Int) := by omega
          obtain ⟨ad, rfl, hadl, hac⟩ := hr2.call L k s hs
          have hadw : (ad.add k).block < wr.heap.size := by rw [addr_block]; exact Nat.lt_of_lt_of_le hadl L.size
          have fact : ∀ u, Below w.heap.size w u → u.cell? (ad.add k) = some (.string s) ∧ (ad.add k).block < u.heap.size := fun u hu => by
            obtain ⟨ad', e, h1, h2⟩ := hr2.call hu k s hs
            injection e with e
            subst e
            exact ⟨h2, by rw [addr_block]; exact Nat.lt_of_lt_of_le h1 hu.size⟩
          have HT2 := hideIt ht2
          clear hct hcd hszm hsz2 httm htt2 htk hs ht ht2 hclm hle hle2 hsz htt hcl
          go_upto_region 24 with (first
            | (go_at_call 35; refine cW.mono ?_; rintro e w3 ⟨rfl, S3, k3⟩))
          have L3 := L.trans (k3.below hbw L.size)
          have G3 := S.but k3 hgb
          obtain ⟨x1, x2⟩ := fact _ L3
          clear cW k3 S SC hac hadw fact L hT1
          go_wp2
          go_roundg (ms.length - (k + 1))
          case measure => have := HG.out; omega
          case rel => exact ⟨k + 1, by omega, rfl, by go_num, by rw [HT2.out], by rw [HT2.out]; exact S3, G3, L3⟩
        · have e : k = ms.length := by omega
          subst e
          rw [List.take_length] at *
          generalize catT T ms = U at *
          have c1 := fun u hu h => msum_any T.data.toList (by omega) g u hu h
          have c2 := fun u hu h => msum_any U.data.toList (by omega) b u hu h
          have c3 := fun u => rsum_any T (by omega) u
          have c4 := fun u => rsum_any U (by omega) u
          generalize digB T.data.toList = D1 at *
          generalize digB U.data.toList = D2 at *
          clear HG hcl hclm htt httm hsz hszm hle hle2
          go_upto_region 26 with (first
            | (go_at_call 36; refine (c1 _ hT1 S).mono ?_; rintro e w5 ⟨rfl, b5⟩))
          have S5 := SC.call b5
          have t5 := hT1.call b5
          have L5 := chain L b5
          clear S SC hT1 L b5 c1
          go_upto_region 27 with (first
            | (go_at_call 36; refine (c2 _ t5 S5).mono ?_; rintro e w6 ⟨rfl, b6⟩))
          have L6 := chain L5 b6
          clear S5 t5 L5 b6 c2
          go_wp2_with (first
            | (go_at_call_of 28 (Value.string T); refine (c3 _).mono ?_; rintro e w7 ⟨rfl, b7⟩)
            | (go_at_call_of 28 (Value.string U); refine (c4 _).mono ?_; rintro e w8 ⟨rfl, b8⟩))
          go_ret
          exact ⟨rfl, chain (chain L6 b7) b8⟩

theorem shaRuns_core (H : Type) (enc : TypeId × Value → H) (W : World) (base : Nat) (args : Array Value) (ds gs : List (DataW H)) (before : List MemPlace)
    (hval : ∀ (j : Nat) t v, Tryd.f7.params[j]? = some t → args[j]? = some v → Value.okWide Tryd.prog W .any base t v)
    (hW : DataW.Whole enc Tryd.prog Tryd.f7.params.toList Rows.shaRunsSpec.vars false W args.toList ds gs before) (hT : Tab W)
    (hwt : (DataW.weightsEach Tryd.prog (Tryd.f7.params.toList ++ Rows.shaRunsSpec.plain.varTypes Tryd.prog) (ds ++ gs)).all (· ≤ reachBytes) = true) :
    gs = [] ∧ ds.length = 2 ∧ Calls Tryd.prog 7 args W (Tells (.bool true) W.heap.size W) := by
  obtain ⟨p, q, hA, hV, -, -, -⟩ := hW
  obtain ⟨rfl, rfl⟩ := trodVars_none hV
  have hA : DataW.TrodAll enc Tryd.prog W 0 (fun _ => true) true Tryd.f7.params.toList args.toList ds p := hA
  rw [Tryd.params7] at hA hval hwt
  obtain ⟨v0, vs0, d0, ds0, p0, ps0, e0, rfl, -, h0, hA⟩ := trodAll_cons hA
  obtain ⟨v1, vs1, d1, ds1, p1, ps1, rfl, rfl, -, h1, hA⟩ := trodAll_cons hA
  obtain ⟨rfl, rfl, rfl⟩ := trodAll_nil hA
  obtain rfl : args = #[v0, v1] := Array.ext' e0
  have hw0 : ∀ n ∈ DataW.weights Tryd.prog 46 d0, n ≤ reachBytes := fun n hn => by
    have h := List.all_eq_true.1 hwt n (List.mem_append.2 (.inl hn))
    exact of_decide_eq_true h
  obtain ⟨A, c, ss, rfl, hm, hz, hr⟩ := open_strs (hval 0 46 v0 rfl rfl) h0 hw0
  have hw1 : ∀ n ∈ DataW.weights Tryd.prog 46 d1, n ≤ reachBytes := fun n hn => by
    have h := List.all_eq_true.1 hwt n (List.mem_append.2 (.inr (List.mem_append.2 (.inl hn))))
    exact of_decide_eq_true h
  obtain ⟨A2, c2, ms, rfl, hm2, hz2, hr2⟩ := open_strs (hval 1 46 v1 rfl rfl) h1 hw1
  refine ⟨rfl, rfl, ?_⟩
  cases hL : longB ss
  · cases hL2 : longB ms
    · exact runs_short A c ss hz hm A2 c2 ms hz2 hm2 hL hL2 W hT hr hr2
    · exact runs_long2 A c ss hz hm A2 c2 ms hz2 hm2 hL hL2 W hr hr2
  · exact runs_long1 A c ss hz hm _ hL W hr

set_option maxRecDepth 100000 in
theorem shaRuns_lifted (os : Os) (started : os.Started) (H : Type) (enc : TypeId × Value → H) :
    ReturnsInHanded {} Tryd.checked os 7 .any (fun w args => (Rows.shaRunsSpec.pre enc Tryd.prog Tryd.f7 [] false w args ∧ laidMetH Tryd.prog laidK w) ∧ sizedMet enc Tryd.prog Tryd.f7 (OpenSpec.ofChange Rows.shaRunsSpec) false w args)
      (Rows.shaRunsSpec.post enc Tryd.prog Tryd.f7 false true false false) := by
  refine returnsInHanded_of_change_and (C := Tryd.checked) (X := fun w _ => laidMetH Tryd.prog laidK w) (fun _ _ _ hh h => h.of_heap hh) own_knob started (by kernel_rfl) Tryd.func7
    (ChangeSpec.witness_shaped (enc := enc) (C := Tryd.checked) (os := os) (X := fun w _ => laidMetH Tryd.prog laidK w) false (World.doorLaid Tryd.prog 14 os) #[.slice none 0 0, .slice none 0 0] 8 rfl (World.shaped_of_RefB (by kernel_rfl) (by kernel_rfl)) (by kernel_rfl) (by kernel_rfl) (by kernel_rfl) (door_met os _)) ?_
  intro W base args ds gs before hval0 hW _ hwt hL _
  have hval : ∀ (j : Nat) t v, Tryd.f7.params[j]? = some t → args[j]? = some v → Value.okWide Tryd.prog W .any base t v := hval0
  obtain ⟨hg, hlen, hc⟩ := shaRuns_core H enc W base args ds gs before hval hW (tab_of_laid hL) hwt
  subst hg
  have hr : (Tryd.f7.params.toList.all fun t => Tryd.prog.readableRec t && decide (t < Tryd.prog.types.size)) = true := by kernel_rfl
  have hread : ∀ t ∈ Tryd.f7.params.toList, Tryd.prog.readableRec t = true ∧ t < Tryd.prog.types.size := fun t ht => by
    have h := List.all_eq_true.1 hr t ht
    rw [Bool.and_eq_true, decide_eq_true_eq] at h
    exact h
  refine hc.mono fun e W' ⟨he, hb⟩ => ?_
  subst he
  match ds, hlen with
  | [d0, d1], _ => exact ⟨_, rfl, law_post laid_out Tryd.underlying4 rfl hread rfl hW rfl rfl rfl hb⟩

theorem shaRuns_holds : Rows.ShaRunsSaid :=
  OpenClaim.holds_of_wide 7 Tryd.f7 rfl rfl rfl rfl rfl rfl rfl ⟨rfl, rfl, rfl, rfl, rfl⟩ rfl rfl rfl rfl rfl (by kernel_rfl) Tryd.func7 (by kernel_rfl)
    (of_decide_eq_true (by kernel_rfl)) (by unfold Func.isWrapper; first | (rw [if_pos (by decide +kernel)]; kernel_rfl) | (rw [if_neg (by decide +kernel)]; exact ⟨rfl, rfl⟩))
    (fun os started H enc _ => shaRuns_lifted os started H enc)

theorem shaRuns_card : Rows.ShaRunsCardSaid :=
  Claim7.holds_tied_plain_at .later [] [.data] true _ false
    shaRuns_holds (fun _ h => by cases h) (by kernel_rfl) (fun _ h => by cases h) shaRuns_row_tie rfl ⟨rfl, rfl⟩ (by kernel_rfl) rfl
    (fun f fn hf hfn => by
      obtain rfl : f = 7 := Option.some.inj ((show Tryd.prog.funcNamed "paymaster/paymasterlaw05.ShaRuns" = some 7 by kernel_rfl).symm.trans hf) |>.symm
      obtain rfl : fn = Tryd.f7 := (Option.some.inj (Tryd.func7.symm.trans hfn)).symm
      exact ⟨by kernel_rfl, fun j t ht => by
        have hm : t ∈ Tryd.f7.params.toList := by simpa using Array.mem_of_getElem? ht
        have hall : (Tryd.f7.params.toList.all fun u => !Tryd.prog.wantsStandIn u) = true := by kernel_rfl
        exact (show Tryd.prog.wantsStandIn t = false by simpa using List.all_eq_true.1 hall t hm)⟩)
    (by kernel_rfl)

end Go.Proofs.YtlceniljnejjeaaDoor
