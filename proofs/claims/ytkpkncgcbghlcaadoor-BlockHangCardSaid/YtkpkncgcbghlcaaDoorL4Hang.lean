/-
  The law BlockHang: the first 16 words of a block are its own bytes, and from any 16 words that follow one another those behind them come, whatever the text, wherever they begin.
  Conditions: block's table of constants holds what the program's text lays (tied by the card).
-/
import Derived.Test.YtkpkncgcbghlcaaDoorU4Awake
import Derived.Test.YtkpkncgcbghlcaaDoorU4Same
import Derived.Test.YtkpkncgcbghlcaaDoorD4Hang
import Derived.Test.YtkpkncgcbghlcaaDoorW4Laid
namespace Go.Proofs.YtkpkncgcbghlcaaDoor
set_option linter.unusedVariables false
set_option linter.unusedSimpArgs false
open Go.ChangeShapes Go.WideShapes Go.ChangeAt Go.RowKit

theorem reads_bx {w : World} {g : Nat} {t : TypeId} {l : List B32} (h : Box w g t (arr l)) : ReadsAt w g 0 l := fun j hj => by rw [Nat.zero_add, h.read j, arr_at l j hj]

set_option maxHeartbeats 4000000 in
theorem hang_no (s : ByteArray) (hm : s.size ≤ 9223372036854775807) (hs : s.size ≠ 64) (f : Int) (w : World) (hT : Tab w) : Calls Tryd.prog 6 #[.string s, .int .u8 f] w (Tells (.bool true) w.heap.size w) := by
  have cA := awake_any w hT
  have cW := fun u => words_no s hs hm u
  have h : ¬ ((s.size : Int) = 64) := by omega
  go_enter Tryd.func6, Tryd.ntmps6
  go_wp2_with (first
    | (go_at_call 21; refine cA.mono ?_; rintro e w1 ⟨rfl, b1⟩)
    | (go_at_call 22; refine (cW _).mono ?_; rintro e w2 ⟨rfl, rfl⟩))
  go_ret
  exact ⟨rfl, b1⟩

set_option maxHeartbeats 4000000 in
theorem hang_yes (s : ByteArray) (hs : s.size = 64) (f : Int) (hf : 0 ≤ f ∧ f < 256) (w : World) (hT : Tab w) : Calls Tryd.prog 6 #[.string s, .int .u8 f] w (Tells (.bool true) w.heap.size w) := by
  have cA := awake_any w hT
  have cW := fun u => words_ok s hs u
  have hls : s.data.toList.length = 64 := by simpa using hs
  have hl64 := words64_len s.data.toList
  have hbyte := words_byte s.data.toList
  have hhang := hang s.data.toList
  generalize words64 s.data.toList = l at *
  have HLS := hideIt hls
  have HL := hideIt hl64
  have HB := hideIt hbyte
  have HH := hideIt hhang
  clear hls hl64 hbyte hhang
  go_enter Tryd.func6, Tryd.ntmps6
  go_upto_region 8 with (first
    | (go_at_call 21; refine cA.mono ?_; rintro e w1 ⟨rfl, b1⟩)
    | (go_at_call 22; refine (cW _).mono ?_; rintro e w2 ⟨rfl, hbx, b2⟩))
  have hb := chain b1 b2
  have hn0 := b1.size
  generalize w1.heap.size = g at *
  have hbx' := hbx
  clear cA cW b1 b2 hT
  go_wp2
  go_loopg [7] 64 (fun gk i wr => ∃ k : Nat, k ≤ 64 ∧ gk = 64 - k ∧ i = .int .i64 k ∧ ∃ q, wr = w2.drewN q)
  case atStart => exact ⟨0, by omega, rfl, rfl, 0, rfl⟩
  case round =>
    obtain ⟨k, hk, hgk, rfl, q, rfl⟩ := hrel
    have HG := hideIt hgk
    clear hgk
    by_cases hlt : k < 64
    · obtain ⟨a, r, hr, hkr⟩ : ∃ a r, r < 4 ∧ k = 4 * a + r := ⟨k / 4, k % 4, by omega, by omega⟩
      have hks : k < s.size := by omega
      have r1 := hbx.read a
      rw [arr_at l a (by rw [HL.out]; omega)] at r1
      have hb1 := HB.out a r (by omega) hr
      have hg1 : s.data.toList.getD (4 * a + r) 0 = s[k] := by
        subst hkr
        rw [List.getD_eq_getElem?_getD, List.getElem?_eq_getElem (by rw [HLS.out]; omega)]; rfl
      rw [hg1] at hb1
      clear hg1 hbx hbx'
      generalize l.getD a 0 = x at *
      have hc := s[k].toNat_lt
      generalize hsk : s[k] = c at *
      obtain ⟨K, hK⟩ : ∃ K : Int, (k : Int) = K := ⟨_, rfl⟩
      have K1 : K < 64 := by omega
      have K0 : 0 ≤ K := by omega
      have K2 : K.toNat = k := by omega
      have d2 : K.tdiv 4 = (a : Int) := by rw [Int.tdiv_eq_ediv_of_nonneg K0]; omega
      have d1 : K / 4 = (a : Int) := by omega
      have d3 : K.tmod 4 = (r : Int) := by rw [Int.tmod_eq_emod_of_nonneg K0]; omega
      have d4 : K % 4 = (r : Int) := by omega
      have d5 : IntKind.i64.wrap (a : Int) = (a : Int) := IntWalk.i64_in _ (by omega)
      have a1 : (a : Int) < 64 := by omega
      have K3 : K < (s.size : Int) := by omega
      have HKK := hideIt hK
      rw [hK]
      clear hK hkr
      simp only [byteOf] at hb1
      rcases (by omega : r = 0 ∨ r = 1 ∨ r = 2 ∨ r = 3) with rfl | rfl | rfl | rfl
      all_goals
        simp only [Nat.reduceMul, Nat.reduceSub, Int.reducePow, Nat.mul_zero, Nat.sub_zero] at hb1
        have hb2 : iv x / 1 % 256 = iv x % 256 := by rw [Int.ediv_one]
        try rw [hb2] at hb1
        clear hb2
        go_wp2
        go_quiet (fail)
        rw [← HKK.out]
        clear d1 d2 d3 d4 d5 a1 K0 K1 K2 K3 r1 hb1
        go_wp2
        go_roundg (64 - (k + 1))
        case measure => have := HG.out; omega
        case rel => exact ⟨k + 1, by omega, rfl, by go_num, _, rfl⟩
    · have e : k = 64 := by omega
      subst e
      clear HG
      obtain ⟨at', hat⟩ : ∃ at' : Nat, (f % 49).toNat = at' := ⟨_, rfl⟩
      obtain ⟨AT, hAT⟩ : ∃ AT : Int, f % 49 = AT := ⟨_, rfl⟩
      have m0 : 0 ≤ AT := by omega
      have m1 : AT ≤ 48 := by omega
      have m2 : f.tmod 49 = AT := by rw [Int.tmod_eq_emod_of_nonneg hf.1]; exact hAT
      have m3 : AT % 256 = AT := by omega
      have m4 : AT.toNat = at' := by rw [← hAT]; exact hat
      have ha48 : at' ≤ 48 := by omega
      clear hat
      have hbx := hbx.draws q
      have hb := below_drewN hb q
      generalize w2.drewN q = W3 at *
      have hmk := make_b64
      have hn : n64.length = 64 := by simp [n64]
      have B0 := Box.made W3 5 (b8s n64)
      have L0 : Below W3.heap.size W3 (W3.alloc (.cells (b8s n64) 5)) := (Below.refl _ _).alloc (Nat.le_refl _) _
      have hg3 := hbx.inside
      have HN := hideIt hn
      clear hn hbx'
      go_wp2
      go_loopg [10] 64 (fun gk i wr => ∃ k : Nat, k ≤ 64 ∧ gk = 64 - k ∧ i = .int .i64 k ∧ ∃ L : List Int, L.length = 64 ∧ L.take k = winB l at' k ∧ Box wr W3.heap.size 5 (b8s L) ∧ Below W3.heap.size W3 wr)
      case atStart => exact ⟨0, by omega, rfl, rfl, n64, HN.out, rfl, B0, L0⟩
      case round =>
        clear B0 L0 hmk HN
        obtain ⟨k, hk, hgk, rfl, L, l1, l2, l3, l4⟩ := hrel
        have HG := hideIt hgk
        clear hgk
        by_cases hlt : k < 64
        · obtain ⟨a, r, hr, hkr⟩ : ∃ a r, r < 4 ∧ k = 4 * a + r := ⟨k / 4, k % 4, by omega, by omega⟩
          have r1 := (hbx.call l4).read (at' + a)
          rw [arr_at l _ (by rw [HL.out]; omega)] at r1
          have hw := winB_succ l at' k
          rw [show k / 4 = a by omega, show k % 4 = r by omega] at hw
          have HW := hideIt hw
          clear hw
          generalize l.getD (at' + a) 0 = x at *
          have hby : byteOf x r = byteOf x r := rfl
          obtain ⟨y, hy⟩ : ∃ y, byteOf x r = y := ⟨_, rfl⟩
          rw [hy] at HW
          have hyb := byteOf_bd x r
          rw [hy] at hyb
          obtain ⟨u, hu⟩ : ∃ u, wr.cell? ⟨W3.heap.size, k, none⟩ = some u := ⟨_, by rw [l3.read k, b8s_at _ k (by omega)]⟩
          have hfz := l3.free k
          obtain ⟨K, hK⟩ : ∃ K : Int, (k : Int) = K := ⟨_, rfl⟩
          have K1 : K < 64 := by omega
          have K0 : 0 ≤ K := by omega
          have K2 : K.toNat = k := by omega
          have d2 : K.tdiv 4 = (a : Int) := by rw [Int.tdiv_eq_ediv_of_nonneg K0]; omega
          have d1 : K / 4 = (a : Int) := by omega
          have d3 : K.tmod 4 = (r : Int) := by rw [Int.tmod_eq_emod_of_nonneg K0]; omega
          have d4 : K % 4 = (r : Int) := by omega
          have d5 : IntKind.i64.wrap (a : Int) = (a : Int) := IntWalk.i64_in _ (by omega)
          have e1 : (AT + (a : Int)).toNat = at' + a := by omega
          have e2 : AT + (a : Int) < 64 := by omega
          have e3 : 0 ≤ AT + (a : Int) := by omega
          have HKK := hideIt hK
          rw [hK]
          clear hK hkr hby
          simp only [byteOf] at hy
          rcases (by omega : r = 0 ∨ r = 1 ∨ r = 2 ∨ r = 3) with rfl | rfl | rfl | rfl
          all_goals
            simp only [Nat.reduceMul, Nat.reduceSub, Int.reducePow, Nat.mul_zero, Nat.sub_zero] at hy
            have hy2 : iv x / 1 % 256 = iv x % 256 := by rw [Int.ediv_one]
            try rw [hy2] at hy
            clear hy2
            go_wp2
            rw [← HKK.out]
            clear d1 d2 d3 d4 d5 K0 K1 K2 r1 hy e1 e2 e3 hu hfz
            have hl3 := l3.wrote k (.int .u8 y)
            rw [b8s_set] at hl3
            go_roundg (64 - (k + 1))
            case measure => have := HG.out; omega
            case rel => exact ⟨k + 1, by omega, rfl, by go_num, L.set k y, by simpa using l1, by rw [take_setI _ _ _ (by omega), l2, ← HW.out], hl3, l4.setCell (Nat.le_refl _) _⟩
        · have e : k = 64 := by omega
          subst e
          clear HG
          rw [List.take_of_length_le (Nat.le_of_eq l1)] at l2
          have hcv := run_convert_bytes_arg (P := Tryd.prog) wr 41 5 Tryd.underlying41 Tryd.underlying5 W3.heap.size 0 64 64 L l1 (fun i hi => by
            rw [Nat.zero_add, l3.read i]; exact b8s_at L i (by omega)) 9 Tryd.underlying9
          have hsz : (strOfNums L).size = 64 := by rw [strOfNums_size, l1]
          have hbytes : ∀ i, i < 64 → (((strOfNums L).data.toList.getD i 0).toNat : Int) = byteOf (l.getD (at' + i / 4) 0) (i % 4) := fun i hi => by
            rw [strOfNums_data, l2]
            have h1 := winB_at l at' 64 i hi
            have h2 := byteOf_bd (l.getD (at' + i / 4) 0) (i % 4)
            rw [List.getD_eq_getElem?_getD, List.getElem?_map]
            rw [List.getD_eq_getElem?_getD] at h1
            obtain ⟨z, hz⟩ : ∃ z, (winB l at' 64)[i]? = some z := ⟨_, List.getElem?_eq_getElem (by rw [winB_len]; exact hi)⟩
            rw [hz] at h1 ⊢
            simp only [Option.getD_some, Option.map_some] at h1 ⊢
            rw [h1, UInt8.toNat_ofNat']
            omega
          have hh := HH.out (strOfNums L).data.toList at' ha48 hbytes
          have cW2 := fun u => words_ok (strOfNums L) hsz u
          have hv64 := words64_len (strOfNums L).data.toList
          generalize words64 (strOfNums L).data.toList = v at *
          generalize strOfNums L = B at *
          have hgw : g < wr.heap.size := Nat.lt_of_lt_of_le hg3 l4.size
          have hbw : Below w.heap.size w wr := chain hb l4
          have hbx4 := hbx.call l4
          clear hbytes l1 l2 l3 l4 hbx
          go_wp2_with (first
            | (go_at_call 22; refine (cW2 _).mono ?_; rintro e w5 ⟨rfl, hb5, b5⟩))
          have hld : (l.drop at').length = 64 - at' := by rw [List.length_drop, HL.out]
          have hr1 : ∀ n, ReadsAt (w5.drewN n) wr.heap.size 0 (l.drop at') := fun n j hj => by
            rw [hld] at hj
            have h1 := hb5.read (0 + j)
            rw [Nat.zero_add, arr_at v j (by omega), hh j hj, ← getD_drop] at h1
            rw [Nat.zero_add]; exact h1
          have hr2 : ∀ n, ReadsAt (w5.drewN n) g at' (l.drop at') := fun n j hj => by
            rw [hld] at hj
            have h1 := (hbx4.call b5).read (at' + j)
            rw [arr_at l _ (by rw [HL.out]; omega), ← getD_drop] at h1
            exact h1
          have c3 := fun n => same_yes wr.heap.size 0 64 g at' (64 - at') (64 - at') (l.drop at') hld (by omega) (w5.drewN n) (hr1 n) (hr2 n)
          clear hr1 hr2
          have hfin := chain hbw b5
          have p0 : 0 ≤ 64 - AT := by omega
          have p1 : 64 - AT ≤ 64 := by omega
          have p2 : (64 - AT).toNat = 64 - at' := by omega
          have p3 : AT ≤ 64 := by omega
          have p4 : IntKind.i64.wrap (64 - AT) = 64 - AT := IntWalk.i64_in _ (by omega)
          go_wp2_with fail
          go_quiet ((go_at_call 23; exact Calls.quiet_of (c3 _)))
          go_wp2
          go_ret
          exact ⟨rfl, below_drewN hfin _⟩

theorem blockHang_core (H : Type) (enc : TypeId × Value → H) (W : World) (base : Nat) (args : Array Value) (ds gs : List (DataW H)) (before : List MemPlace)
    (hval : ∀ (j : Nat) t v, Tryd.f6.params[j]? = some t → args[j]? = some v → Value.okWide Tryd.prog W .any base t v)
    (hW : DataW.Whole enc Tryd.prog Tryd.f6.params.toList Rows.blockHangSpec.vars false W args.toList ds gs before) (hT : Tab W) :
    gs = [] ∧ ds.length = 2 ∧ Calls Tryd.prog 6 args W (Tells (.bool true) W.heap.size W) := by
  obtain ⟨p, q, hA, hV, -, -, -⟩ := hW
  obtain ⟨rfl, rfl⟩ := trodVars_none hV
  have hA : DataW.TrodAll enc Tryd.prog W 0 (fun _ => true) true Tryd.f6.params.toList args.toList ds p := hA
  rw [Tryd.params6] at hA hval
  obtain ⟨v0, v1, d0, d1, p0, p1, rfl, rfl, -, h0, h1⟩ := trodAll_two hA
  obtain ⟨s, rfl, rfl, rfl, hs⟩ := Go.ChangeMaps.open_string Tryd.underlying9 (hval 0 9 v0 rfl rfl) h0
  obtain ⟨f, rfl, -, -, hf⟩ := open_int Tryd.underlying5 (hval 1 5 v1 rfl rfl) h1
  have hf2 : 0 ≤ f ∧ f < 256 := by
    simp [Lit.wf, IntKind.min, IntKind.max, IntKind.signed, IntKind.bits] at hf
    omega
  refine ⟨rfl, rfl, ?_⟩
  by_cases h64 : s.size = 64
  · exact hang_yes s h64 f hf2 W hT
  · exact hang_no s hs h64 f W hT

set_option maxRecDepth 100000 in
theorem blockHang_lifted (os : Os) (started : os.Started) (H : Type) (enc : TypeId × Value → H) :
    ReturnsInHanded {} Tryd.checked os 6 .any (fun w args => (Rows.blockHangSpec.pre enc Tryd.prog Tryd.f6 [] false w args ∧ laidMetH Tryd.prog laidK w) ∧ sizedMet enc Tryd.prog Tryd.f6 (OpenSpec.ofChange Rows.blockHangSpec) false w args)
      (Rows.blockHangSpec.post enc Tryd.prog Tryd.f6 false true false false) := by
  refine returnsInHanded_of_change_and (C := Tryd.checked) (X := fun w _ => laidMetH Tryd.prog laidK w) (fun _ _ _ hh h => h.of_heap hh) own_knob started (by kernel_rfl) Tryd.func6
    (ChangeSpec.witness_shaped (enc := enc) (C := Tryd.checked) (os := os) (X := fun w _ => laidMetH Tryd.prog laidK w) false (World.doorLaid Tryd.prog 14 os) #[.string ⟨#[]⟩, .int .u8 0] 8 rfl (World.shaped_of_RefB (by kernel_rfl) (by kernel_rfl)) (by kernel_rfl) (by kernel_rfl) (by kernel_rfl) (door_met os _)) ?_
  intro W base args ds gs before hval0 hW _ _ hL _
  have hval : ∀ (j : Nat) t v, Tryd.f6.params[j]? = some t → args[j]? = some v → Value.okWide Tryd.prog W .any base t v := hval0
  obtain ⟨hg, hlen, hc⟩ := blockHang_core H enc W base args ds gs before hval hW (tab_of_laid hL)
  subst hg
  have hr : (Tryd.f6.params.toList.all fun t => Tryd.prog.readableRec t && decide (t < Tryd.prog.types.size)) = true := by kernel_rfl
  have hread : ∀ t ∈ Tryd.f6.params.toList, Tryd.prog.readableRec t = true ∧ t < Tryd.prog.types.size := fun t ht => by
    have h := List.all_eq_true.1 hr t ht
    rw [Bool.and_eq_true, decide_eq_true_eq] at h
    exact h
  refine hc.mono fun e W' ⟨he, hb⟩ => ?_
  subst he
  match ds, hlen with
  | [d0, d1], _ => exact ⟨_, rfl, law_post laid_out Tryd.underlying4 rfl hread rfl hW rfl rfl rfl hb⟩

theorem blockHang_holds : Rows.BlockHangSaid :=
  OpenClaim.holds_of_wide 6 Tryd.f6 rfl rfl rfl rfl rfl rfl rfl ⟨rfl, rfl, rfl, rfl, rfl⟩ rfl rfl rfl rfl rfl (by kernel_rfl) Tryd.func6 (by kernel_rfl)
    (of_decide_eq_true (by kernel_rfl)) (by unfold Func.isWrapper; first | (rw [if_pos (by decide +kernel)]; kernel_rfl) | (rw [if_neg (by decide +kernel)]; exact ⟨rfl, rfl⟩))
    (fun os started H enc _ => blockHang_lifted os started H enc)

theorem blockHang_card : Rows.BlockHangCardSaid :=
  Claim7.holds_tied_plain_at .later [] [.data] true _ false
    blockHang_holds (fun _ h => by cases h) (by kernel_rfl) (fun _ h => by cases h) blockHang_row_tie rfl ⟨rfl, rfl⟩ (by kernel_rfl) rfl
    (fun f fn hf hfn => by
      obtain rfl : f = 6 := Option.some.inj ((show Tryd.prog.funcNamed "paymaster/paymasterlaw04.BlockHang" = some 6 by kernel_rfl).symm.trans hf) |>.symm
      obtain rfl : fn = Tryd.f6 := (Option.some.inj (Tryd.func6.symm.trans hfn)).symm
      exact ⟨by kernel_rfl, fun j t ht => by
        have hm : t ∈ Tryd.f6.params.toList := by simpa using Array.mem_of_getElem? ht
        have hall : (Tryd.f6.params.toList.all fun u => !Tryd.prog.wantsStandIn u) = true := by kernel_rfl
        exact (show Tryd.prog.wantsStandIn t = false by simpa using List.all_eq_true.1 hall t hm)⟩)
    (by kernel_rfl)

end Go.Proofs.YtkpkncgcbghlcaaDoor
