/-
  The law HmacRuns: whatever pieces are taken by any key, the mac behind each is what the document says; a copy goes on alone.
  Conditions: block's table of constants holds what the program's text lays (tied by the card); each text and slice within the form's own reach.
-/
import Derived.Test.YtnlkhabaidncgaaDoorU5Str
import Derived.Test.YtnlkhabaidncgaaDoorU6New
import Derived.Test.YtnlkhabaidncgaaDoorR6With
import Derived.Test.YtnlkhabaidncgaaDoorW4Laid
namespace Go.Proofs.YtnlkhabaidncgaaDoor
set_option linter.unusedVariables false
set_option linter.unusedSimpArgs false
open Go.ChangeShapes Go.WideShapes Go.ChangeAt Go.RowKit

/-- A text, and others behind it. -/
def catM (T : ByteArray) (l : List ByteArray) : ByteArray := l.foldl (· ++ ·) T
theorem catM_snoc (T : ByteArray) (l : List ByteArray) (s : ByteArray) : catM T (l ++ [s]) = catM T l ++ s := by simp [catM]
theorem catM_size : ∀ (l : List ByteArray) (T : ByteArray), (catM T l).size = T.size + totN l
  | [], T => rfl
  | s :: r, T => by
    have h := totN_app [s] r
    have e : totN [s] = s.size := by simp [totN]
    show (catM (T ++ s) r).size = _
    rw [catM_size r (T ++ s), ByteArray.size_append, show s :: r = [s] ++ r from rfl, h, e]
    omega

set_option maxHeartbeats 2000000 in
theorem mruns_key (key : ByteArray) (v v2 : Value) (h : (1000 : Int) < (key.size : Int)) (hk : key.size ≤ 9223372036854775807) (w : World) :
    Calls Tryd.prog 4 #[.string key, v, v2] w (Tells (.bool true) w.heap.size w) := by
  go_enter Tryd.func4, Tryd.ntmps4
  go_wp2
  go_ret
  exact ⟨rfl, Below.refl _ _⟩
set_option maxHeartbeats 2000000 in
theorem mruns_long1 (key : ByteArray) (h : ¬ (1000 : Int) < (key.size : Int)) (A : Option Addr) (c : Nat) (ss : List ByteArray) (hz : ∀ s ∈ ss, s.size ≤ reachBytes) (hm : ss.length ≤ 9223372036854775807) (v : Value) (hL : longB ss = true) (w : World) (hr : StrRow w w.heap.size A ss) :
    Calls Tryd.prog 4 #[.string key, .slice A ss.length c, v] w (Tells (.bool true) w.heap.size w) := by
  have cL := fun u hu => long_any A c ss hz hm u hu
  rw [hL] at cL
  go_enter Tryd.func4, Tryd.ntmps4
  go_wp2_with (first
    | (go_at_call 19; refine (cL _ hr).mono ?_; rintro e w2 ⟨rfl, rfl⟩))
  go_ret
  exact ⟨rfl, Below.refl _ _⟩

set_option maxHeartbeats 2000000 in
theorem mruns_long2 (key : ByteArray) (h : ¬ (1000 : Int) < (key.size : Int)) (A : Option Addr) (c : Nat) (ss : List ByteArray) (hz : ∀ s ∈ ss, s.size ≤ reachBytes) (hm : ss.length ≤ 9223372036854775807) (A2 : Option Addr) (c2 : Nat) (ms : List ByteArray) (hz2 : ∀ s ∈ ms, s.size ≤ reachBytes) (hm2 : ms.length ≤ 9223372036854775807)
    (hL : longB ss = false) (hL2 : longB ms = true) (w : World) (hr : StrRow w w.heap.size A ss) (hr2 : StrRow w w.heap.size A2 ms) :
    Calls Tryd.prog 4 #[.string key, .slice A ss.length c, .slice A2 ms.length c2] w (Tells (.bool true) w.heap.size w) := by
  have cL := fun u hu => long_any A c ss hz hm u hu
  rw [hL] at cL
  have cM := fun u hu => long_any A2 c2 ms hz2 hm2 u hu
  rw [hL2] at cM
  go_enter Tryd.func4, Tryd.ntmps4
  go_wp2_with (first
    | (go_at_call_of 19 (Value.slice A ss.length c); refine (cL _ hr).mono ?_; rintro e w2 ⟨rfl, rfl⟩)
    | (go_at_call_of 19 (Value.slice A2 ms.length c2); refine (cM _ hr2).mono ?_; rintro e w2 ⟨rfl, rfl⟩))
  go_ret
  exact ⟨rfl, Below.refl _ _⟩

set_option maxRecDepth 100000 in
set_option maxHeartbeats 4000000 in
theorem mruns_short (key : ByteArray) (hk : key.size ≤ 1000) (A : Option Addr) (c : Nat) (ss : List ByteArray) (hz : ∀ s ∈ ss, s.size ≤ reachBytes) (hm : ss.length ≤ 9223372036854775807) (A2 : Option Addr) (c2 : Nat) (ms : List ByteArray) (hz2 : ∀ s ∈ ms, s.size ≤ reachBytes) (hm2 : ms.length ≤ 9223372036854775807)
    (hL : longB ss = false) (hL2 : longB ms = false) (w : World) (hT : Tab w) (hr : StrRow w w.heap.size A ss) (hr2 : StrRow w w.heap.size A2 ms) :
    Calls Tryd.prog 4 #[.string key, .slice A ss.length c, .slice A2 ms.length c2] w (Tells (.bool true) w.heap.size w) := by
  have hk1 : ¬ (1000 : Int) < (key.size : Int) := by omega
  have cL := fun u hu => long_any A c ss hz hm u hu
  rw [hL] at cL
  have cM := fun u hu => long_any A2 c2 ms hz2 hm2 u hu
  rw [hL2] at cM
  have cN := fun u hu => macnew_any key (by omega) u hu
  have h40 : (ss.length ≤ 40 ∧ totN ss ≤ 2000) ∧ (ms.length ≤ 40 ∧ totN ms ≤ 2000) := by
    unfold longB at hL hL2
    simp only [Bool.or_eq_false_iff, decide_eq_false_iff_not] at hL hL2
    omega
  have H40 := hideIt h40
  have HK := hideIt hk
  clear h40 hL hL2 hz hz2 hk
  have n0 := hT.1
  go_enter Tryd.func4, Tryd.ntmps4
  go_upto_region 4 with (first
    | (go_at_call_of 19 (Value.slice A ss.length c); refine (cL _ hr).mono ?_; rintro e w2 ⟨rfl, rfl⟩)
    | (go_at_call_of 19 (Value.slice A2 ms.length c2); refine (cM _ hr2).mono ?_; rintro e w2 ⟨rfl, rfl⟩)
    | (go_at_call 20; refine (cN _ hT).mono ?_; rintro e w2 ⟨g, hg, rfl, S0, b2⟩))
  have L0 := b2
  have hgw : w.heap.size ≤ g := hg
  clear cL cM cN b2 hg
  go_wp2
  go_loopg [8, 9] ss.length (fun gk v i wr => ∃ k : Nat, k ≤ ss.length ∧ gk = ss.length - k ∧ i = .int .i64 k ∧ v = .string (cat (ss.take k)) ∧ MacAt wr g key (cat (ss.take k)).data.toList ∧ Below w.heap.size w wr)
  case atStart => exact ⟨0, by omega, rfl, rfl, rfl, S0, L0⟩
  case round =>
    clear S0 L0
    obtain ⟨k, hk, hgk, rfl, rfl, S, L⟩ := hrel
    have HG := hideIt hgk
    clear hgk
    have hT1 := hT.call L
    have hsz := cat_size (ss.take k)
    have htt := totN_take ss k
    have hcl : (cat (ss.take k)).data.toList.length = (cat (ss.take k)).size := by simp
    by_cases hlt : k < ss.length
    · obtain ⟨s, hs⟩ : ∃ s, ss[k]? = some s := ⟨_, List.getElem?_eq_getElem hlt⟩
      have htk : ss.take (k + 1) = ss.take k ++ [s] := by
        rw [List.take_add_one, hs]; rfl
      have hct : cat (ss.take (k + 1)) = cat (ss.take k) ++ s := by rw [htk, cat_snoc]
      have htt2 := totN_take ss (k + 1)
      have hsz2 := cat_size (ss.take (k + 1))
      rw [hct, ByteArray.size_append] at hsz2
      have hle := H40.out.1.2
      have hs2 : s.size ≤ 2000 := by omega
      have hcd : (cat (ss.take k)).data.toList ++ s.data.toList = (cat (ss.take (k + 1))).data.toList := by
        rw [hct, ByteArray.data_append, Array.toList_append]
      obtain ⟨t, ht⟩ : ∃ t, cat (ss.take k) = t := ⟨_, rfl⟩
      obtain ⟨t2, ht2⟩ : ∃ t2, cat (ss.take (k + 1)) = t2 := ⟨_, rfl⟩
      rw [ht] at hct hcd S hcl hsz hsz2 ⊢
      rw [ht2] at hct hcd
      have hl2 : t2.data.toList.length = t.size + s.size := by rw [← hcd, List.length_append, hcl]; simp
      have hl3 : t2.data.toList.length = t2.size := by simp
      have cW := macwrite_any key t.data.toList s (by omega) (by omega) g wr hT1 (by omega) S
      rw [hcd] at cW
      have hcat : ∀ u : World, (Op.stringOp .add t s).run Tryd.prog u = .ok (.string t2) u := fun u => by rw [hct]; exact run_string_add_sum u _ _ (by omega)
      have cS := fun u hu h => macsum_any key t2.data.toList (by omega) g u hu h
      have cQ := fun u => rhsum_any key t2 (by have := HK.out; omega) (by omega) u
      have hn1 : (k : Int) < (ss.length : Int) := by omega
      obtain ⟨ad, rfl, hadl, hac⟩ := hr.call L k s hs
      have hadw : (ad.add k).block < wr.heap.size := by rw [addr_block]; exact Nat.lt_of_lt_of_le hadl L.size
      have fact : ∀ u, Below w.heap.size w u → u.cell? (ad.add k) = some (.string s) ∧ (ad.add k).block < u.heap.size := fun u hu => by
        obtain ⟨ad', e, h1, h2⟩ := hr.call hu k s hs
        injection e with e
        subst e
        exact ⟨h2, by rw [addr_block]; exact Nat.lt_of_lt_of_le h1 hu.size⟩
      have HT2 := hideIt ht2
      have HTk := hideIt hT
      clear hct hcd hsz hsz2 htt htt2 htk hs ht ht2 hcl hl2 hl3 hle
      generalize macB key t2.data.toList = D at *
      go_upto_region 12 with (first
        | (go_at_call 21; refine cW.mono ?_; rintro e w3 ⟨rfl, S3, k3⟩))
      have L3 := L.trans (k3.below hgw L.size)
      obtain ⟨x1, x2⟩ := fact _ L3
      have t3 := HTk.out.call L3
      clear cW k3 S hac hadw fact L hT1 hT
      go_upto_region 13 with fail
      clear x1 x2 hcat
      go_upto_region 14 with (first
        | (go_at_call 22; refine (cS _ t3 S3).mono ?_; rintro e w4 ⟨rfl, b4⟩))
      have S4 := S3.call b4
      have L4 := chain L3 b4
      clear S3 t3 L3 b4 cS
      go_wp2_with (first
        | (go_at_call 10; refine (cQ _).mono ?_; rintro e w5 ⟨rfl, b5⟩))
      go_roundg (ss.length - (k + 1))
      case measure => have := HG.out; omega
      case rel => exact ⟨k + 1, by omega, rfl, by go_num, by rw [HT2.out], by rw [HT2.out]; exact S4.call b5, chain L4 b5⟩
    · have e : k = ss.length := by omega
      subst e
      have hle := H40.out.1.2
      have hle2 := H40.out.2.2
      rw [List.take_length] at *
      generalize cat ss = T at *
      have cC := maccopy_any key T.data.toList g wr S
      have hin := S.inside
      clear HG
      go_upto_region 17 with (first
        | (go_at_call 23; refine cC.mono ?_; rintro e w4 ⟨b, hb, rfl, SC, b4⟩))
      have S4 := S.call b4
      have L4 := chain L b4
      have hgb : g ≠ b := by omega
      have hbw : w.heap.size ≤ b := Nat.le_trans L.size hb
      clear cC hin S b4 L hb hT1
      go_wp2
      go_loopg [13, 14] ms.length (fun gk v i wr => ∃ k : Nat, k ≤ ms.length ∧ gk = ms.length - k ∧ i = .int .i64 k ∧ v = .string (catM T (ms.take k)) ∧ MacAt wr b key (catM T (ms.take k)).data.toList ∧ MacAt wr g key T.data.toList ∧ Below w.heap.size w wr)
      case atStart => exact ⟨0, by omega, rfl, rfl, rfl, SC, S4, L4⟩
      case round =>
        clear SC S4 L4
        obtain ⟨k, hk, hgk, rfl, rfl, SC, S, L⟩ := hrel
        have HG := hideIt hgk
        clear hgk
        have hT1 := hT.call L
        have hszm := catM_size (ms.take k) T
        have httm := totN_take ms k
        have hclm : (catM T (ms.take k)).data.toList.length = (catM T (ms.take k)).size := by simp
        by_cases hlt : k < ms.length
        · obtain ⟨s, hs⟩ : ∃ s, ms[k]? = some s := ⟨_, List.getElem?_eq_getElem hlt⟩
          have htk : ms.take (k + 1) = ms.take k ++ [s] := by
            rw [List.take_add_one, hs]; rfl
          have hct : catM T (ms.take (k + 1)) = catM T (ms.take k) ++ s := by rw [htk, catM_snoc]
          have htt2 := totN_take ms (k + 1)
          have hsz2 := catM_size (ms.take (k + 1)) T
          rw [hct, ByteArray.size_append] at hsz2
          have hs2 : s.size ≤ 4000 := by omega
          have hcd : (catM T (ms.take k)).data.toList ++ s.data.toList = (catM T (ms.take (k + 1))).data.toList := by
            rw [hct, ByteArray.data_append, Array.toList_append]
          obtain ⟨t, ht⟩ : ∃ t, catM T (ms.take k) = t := ⟨_, rfl⟩
          obtain ⟨t2, ht2⟩ : ∃ t2, catM T (ms.take (k + 1)) = t2 := ⟨_, rfl⟩
          rw [ht] at hct hcd SC hclm hszm hsz2 ⊢
          rw [ht2] at hct hcd
          have cW := macwrite_any key t.data.toList s (by omega) (by omega) b wr hT1 (by omega) SC
          rw [hcd] at cW
          have hcat : ∀ u : World, (Op.stringOp .add t s).run Tryd.prog u = .ok (.string t2) u := fun u => by rw [hct]; exact run_string_add_sum u _ _ (by omega)
          have hn1 : (k : Int) < (ms.length : Int) := by omega
          obtain ⟨ad, rfl, hadl, hac⟩ := hr2.call L k s hs
          have hadw : (ad.add k).block < wr.heap.size := by rw [addr_block]; exact Nat.lt_of_lt_of_le hadl L.size
          have fact : ∀ u, Below w.heap.size w u → u.cell? (ad.add k) = some (.string s) ∧ (ad.add k).block < u.heap.size := fun u hu => by
            obtain ⟨ad', e, h1, h2⟩ := hr2.call hu k s hs
            injection e with e
            subst e
            exact ⟨h2, by rw [addr_block]; exact Nat.lt_of_lt_of_le h1 hu.size⟩
          have HT2 := hideIt ht2
          clear hct hcd hszm hsz2 httm htt2 htk hs ht ht2 hclm hle hle2 hsz htt hcl
          go_upto_region 24 with (first
            | (go_at_call 21; refine cW.mono ?_; rintro e w3 ⟨rfl, S3, k3⟩))
          have L3 := L.trans (k3.below hbw L.size)
          have G3 := S.but k3 hgb
          obtain ⟨x1, x2⟩ := fact _ L3
          clear cW k3 S SC hac hadw fact L hT1
          go_wp2
          go_roundg (ms.length - (k + 1))
          case measure => have := HG.out; omega
          case rel => exact ⟨k + 1, by omega, rfl, by go_num, by rw [HT2.out], by rw [HT2.out]; exact S3, G3, L3⟩
        · have e : k = ms.length := by omega
          subst e
          rw [List.take_length] at *
          generalize catM T ms = U at *
          have c1 := fun u hu h => macsum_any key T.data.toList (by omega) g u hu h
          have c2 := fun u hu h => macsum_any key U.data.toList (by omega) b u hu h
          have c3 := fun u => rhsum_any key T (by have := HK.out; omega) (by omega) u
          have c4 := fun u => rhsum_any key U (by have := HK.out; omega) (by omega) u
          generalize macB key T.data.toList = D1 at *
          generalize macB key U.data.toList = D2 at *
          clear HG hcl hclm htt httm hsz hszm hle hle2
          go_upto_region 26 with (first
            | (go_at_call 22; refine (c1 _ hT1 S).mono ?_; rintro e w5 ⟨rfl, b5⟩))
          have S5 := SC.call b5
          have t5 := hT1.call b5
          have L5 := chain L b5
          clear S SC hT1 L b5 c1
          go_upto_region 27 with (first
            | (go_at_call 22; refine (c2 _ t5 S5).mono ?_; rintro e w6 ⟨rfl, b6⟩))
          have L6 := chain L5 b6
          clear S5 t5 L5 b6 c2
          go_wp2_with (first
            | (go_at_call_of 10 (Value.string T); refine (c3 _).mono ?_; rintro e w7 ⟨rfl, b7⟩)
            | (go_at_call_of 10 (Value.string U); refine (c4 _).mono ?_; rintro e w8 ⟨rfl, b8⟩))
          go_ret
          exact ⟨rfl, chain (chain L6 b7) b8⟩

theorem hmacRuns_core (H : Type) (enc : TypeId × Value → H) (W : World) (base : Nat) (args : Array Value) (ds gs : List (DataW H)) (before : List MemPlace)
    (hval : ∀ (j : Nat) t v, Tryd.f4.params[j]? = some t → args[j]? = some v → Value.okWide Tryd.prog W .any base t v)
    (hW : DataW.Whole enc Tryd.prog Tryd.f4.params.toList Rows.hmacRunsSpec.vars false W args.toList ds gs before) (hT : Tab W)
    (hwt : (DataW.weightsEach Tryd.prog (Tryd.f4.params.toList ++ Rows.hmacRunsSpec.plain.varTypes Tryd.prog) (ds ++ gs)).all (· ≤ reachBytes) = true) :
    gs = [] ∧ ds.length = 3 ∧ Calls Tryd.prog 4 args W (Tells (.bool true) W.heap.size W) := by
  obtain ⟨p, q, hA, hV, -, -, -⟩ := hW
  obtain ⟨rfl, rfl⟩ := trodVars_none hV
  have hA : DataW.TrodAll enc Tryd.prog W 0 (fun _ => true) true Tryd.f4.params.toList args.toList ds p := hA
  rw [Tryd.params4] at hA hval hwt
  obtain ⟨v0, vs0, d0, ds0, p0, ps0, e0, rfl, -, h0, hA⟩ := trodAll_cons hA
  obtain ⟨v1, vs1, d1, ds1, p1, ps1, rfl, rfl, -, h1, hA⟩ := trodAll_cons hA
  obtain ⟨v2, vs2, d2, ds2, p2, ps2, rfl, rfl, -, h2, hA⟩ := trodAll_cons hA
  obtain ⟨rfl, rfl, rfl⟩ := trodAll_nil hA
  obtain rfl : args = #[v0, v1, v2] := Array.ext' e0
  obtain ⟨key, rfl, rfl, rfl, hk⟩ := Go.ChangeMaps.open_string Tryd.underlying9 (hval 0 9 v0 rfl rfl) h0
  have hw1 : ∀ n ∈ DataW.weights Tryd.prog 29 d1, n ≤ reachBytes := fun n hn => by
    have h := List.all_eq_true.1 hwt n (List.mem_append.2 (.inr (List.mem_append.2 (.inl hn))))
    exact of_decide_eq_true h
  obtain ⟨A, c, ss, rfl, hm, hz, hr⟩ := open_strs (hval 1 29 v1 rfl rfl) h1 hw1
  have hw2 : ∀ n ∈ DataW.weights Tryd.prog 29 d2, n ≤ reachBytes := fun n hn => by
    have h := List.all_eq_true.1 hwt n (List.mem_append.2 (.inr (List.mem_append.2 (.inr (List.mem_append.2 (.inl hn))))))
    exact of_decide_eq_true h
  obtain ⟨A2, c2, ms, rfl, hm2, hz2, hr2⟩ := open_strs (hval 2 29 v2 rfl rfl) h2 hw2
  refine ⟨rfl, rfl, ?_⟩
  by_cases hkl : (1000 : Int) < (key.size : Int)
  · exact mruns_key key _ _ hkl hk W
  · cases hL : longB ss
    · cases hL2 : longB ms
      · exact mruns_short key (by omega) A c ss hz hm A2 c2 ms hz2 hm2 hL hL2 W hT hr hr2
      · exact mruns_long2 key hkl A c ss hz hm A2 c2 ms hz2 hm2 hL hL2 W hr hr2
    · exact mruns_long1 key hkl A c ss hz hm _ hL W hr

set_option maxRecDepth 100000 in
theorem hmacRuns_lifted (os : Os) (started : os.Started) (H : Type) (enc : TypeId × Value → H) :
    ReturnsInHanded {} Tryd.checked os 4 .any (fun w args => (Rows.hmacRunsSpec.pre enc Tryd.prog Tryd.f4 [] false w args ∧ laidMetH Tryd.prog laidK w) ∧ sizedMet enc Tryd.prog Tryd.f4 (OpenSpec.ofChange Rows.hmacRunsSpec) false w args)
      (Rows.hmacRunsSpec.post enc Tryd.prog Tryd.f4 false true false false) := by
  refine returnsInHanded_of_change_and (C := Tryd.checked) (X := fun w _ => laidMetH Tryd.prog laidK w) (fun _ _ _ hh h => h.of_heap hh) own_knob started (by kernel_rfl) Tryd.func4
    (ChangeSpec.witness_shaped (enc := enc) (C := Tryd.checked) (os := os) (X := fun w _ => laidMetH Tryd.prog laidK w) false (World.doorLaid Tryd.prog 14 os) #[.string ⟨#[]⟩, .slice none 0 0, .slice none 0 0] 8 rfl (World.shaped_of_RefB (by kernel_rfl) (by kernel_rfl)) (by kernel_rfl) (by kernel_rfl) (by kernel_rfl) (door_met os _)) ?_
  intro W base args ds gs before hval0 hW _ hwt hL _
  have hval : ∀ (j : Nat) t v, Tryd.f4.params[j]? = some t → args[j]? = some v → Value.okWide Tryd.prog W .any base t v := hval0
  obtain ⟨hg, hlen, hc⟩ := hmacRuns_core H enc W base args ds gs before hval hW (tab_of_laid hL) hwt
  subst hg
  have hr : (Tryd.f4.params.toList.all fun t => Tryd.prog.readableRec t && decide (t < Tryd.prog.types.size)) = true := by kernel_rfl
  have hread : ∀ t ∈ Tryd.f4.params.toList, Tryd.prog.readableRec t = true ∧ t < Tryd.prog.types.size := fun t ht => by
    have h := List.all_eq_true.1 hr t ht
    rw [Bool.and_eq_true, decide_eq_true_eq] at h
    exact h
  refine hc.mono fun e W' ⟨he, hb⟩ => ?_
  subst he
  match ds, hlen with
  | [d0, d1, d2], _ => exact ⟨_, rfl, law_post laid_out Tryd.underlying4 rfl hread rfl hW rfl rfl rfl hb⟩

theorem hmacRuns_holds : Rows.HmacRunsSaid :=
  OpenClaim.holds_of_wide 4 Tryd.f4 rfl rfl rfl rfl rfl rfl rfl ⟨rfl, rfl, rfl, rfl, rfl⟩ rfl rfl rfl rfl rfl (by kernel_rfl) Tryd.func4 (by kernel_rfl)
    (of_decide_eq_true (by kernel_rfl)) (by unfold Func.isWrapper; first | (rw [if_pos (by decide +kernel)]; kernel_rfl) | (rw [if_neg (by decide +kernel)]; exact ⟨rfl, rfl⟩))
    (fun os started H enc _ => hmacRuns_lifted os started H enc)

theorem hmacRuns_card : Rows.HmacRunsCardSaid :=
  Claim7.holds_tied_plain_at .later [] [.data] true _ false
    hmacRuns_holds (fun _ h => by cases h) (by kernel_rfl) (fun _ h => by cases h) hmacRuns_row_tie rfl ⟨rfl, rfl⟩ (by kernel_rfl) rfl
    (fun f fn hf hfn => by
      obtain rfl : f = 4 := Option.some.inj ((show Tryd.prog.funcNamed "paymaster/paymasterlaw06.HmacRuns" = some 4 by kernel_rfl).symm.trans hf) |>.symm
      obtain rfl : fn = Tryd.f4 := (Option.some.inj (Tryd.func4.symm.trans hfn)).symm
      exact ⟨by kernel_rfl, fun j t ht => by
        have hm : t ∈ Tryd.f4.params.toList := by simpa using Array.mem_of_getElem? ht
        have hall : (Tryd.f4.params.toList.all fun u => !Tryd.prog.wantsStandIn u) = true := by kernel_rfl
        exact (show Tryd.prog.wantsStandIn t = false by simpa using List.all_eq_true.1 hall t hm)⟩)
    (by kernel_rfl)

end Go.Proofs.YtnlkhabaidncgaaDoor
