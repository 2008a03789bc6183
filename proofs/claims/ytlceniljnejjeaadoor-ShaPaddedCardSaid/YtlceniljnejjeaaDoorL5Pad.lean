/-
  The law ShaPadded: of any length the padding makes whole blocks, begins with the byte 128, and tells how many bits there are; of unlike lengths it is unlike, as long as their bits fit into 8 bytes.
  Conditions: block's table of constants holds what the program's text lays (tied by the card).
-/
import Derived.Test.YtlceniljnejjeaaDoorU5Awake
import Derived.Test.YtlceniljnejjeaaDoorW4Laid
namespace Go.Proofs.YtlceniljnejjeaaDoor
set_option linter.unusedVariables false
set_option linter.unusedSimpArgs false
open Go.ChangeShapes Go.WideShapes Go.ChangeAt Go.RowKit

theorem pstr_eq (a b : ByteArray) : (a.toList == b.toList) = decide (a = b) := by
  rw [ByteArray.toList_eq, ByteArray.toList_eq]
  by_cases h : a = b
  · subst h; simp
  · rw [decide_eq_false h]
    apply beq_false_of_ne
    intro e
    exact h (ByteArray.ext (Array.ext' e))
theorem pad_data (n : Nat) : (padB n).data.toList = (padI n).map fun x => UInt8.ofNat x.toNat := rfl
theorem u8_of (x : Int) (h0 : 0 ≤ x) (h1 : x < 256) : ((UInt8.ofNat x.toNat).toNat : Int) = x := by
  rw [UInt8.toNat_ofNat_of_lt' (by show _ < 256; omega)]; omega
/-- The last eight bytes tell the number of bits. -/
theorem pad_last (n : Nat) : beI ((padB n).data.toList.drop (padN n + 1)) = ((n * 8 % 18446744073709551616 : Nat) : Int) := by
  have e : (padI n).drop (padN n + 1) = wbI (hiB n) ++ wbI (loB n) := by
    unfold padI
    rw [List.drop_succ_cons, List.drop_append_of_le_length (by simp), List.drop_of_length_le (by simp), List.nil_append]
  rw [pad_data, ← List.map_drop, e]
  have h1 := iv_bd (hiB n)
  have h2 := iv_bd (loB n)
  have v1 : iv (hiB n) = ((n * 8 % 18446744073709551616 / 4294967296 : Nat) : Int) := by unfold hiB iv; rw [BitVec.toNat_ofNat]; omega
  have v2 : iv (loB n) = ((n * 8 % 4294967296 : Nat) : Int) := by unfold loB iv; rw [BitVec.toNat_ofNat]
  obtain ⟨a0, a1, a2, a3⟩ := wb_eq (hiB n)
  obtain ⟨b0, b1, b2, b3⟩ := wb_eq (loB n)
  unfold wbI
  simp only [List.cons_append, List.nil_append, List.map_cons, List.map_nil, beI, List.foldl_cons, List.foldl_nil]
  rw [u8_of _ (byteOf_bd _ _).1 (byteOf_bd _ _).2, u8_of _ (byteOf_bd _ _).1 (byteOf_bd _ _).2, u8_of _ (byteOf_bd _ _).1 (byteOf_bd _ _).2, u8_of _ (byteOf_bd _ _).1 (byteOf_bd _ _).2, u8_of _ (byteOf_bd _ _).1 (byteOf_bd _ _).2, u8_of _ (byteOf_bd _ _).1 (byteOf_bd _ _).2, u8_of _ (byteOf_bd _ _).1 (byteOf_bd _ _).2, u8_of _ (byteOf_bd _ _).1 (byteOf_bd _ _).2]
  rw [a0, a1, a2, a3, b0, b1, b2, b3, v1, v2]
  omega
theorem pad_zero (n i : Nat) (h1 : 1 ≤ i) (h2 : i < padN n + 1) : (padB n).data.toList.getD i 0 = 0 := by
  obtain ⟨j, rfl⟩ : ∃ j, i = j + 1 := ⟨i - 1, by omega⟩
  rw [pad_data, List.getD_eq_getElem?_getD, List.getElem?_map]
  unfold padI
  rw [List.getElem?_cons_succ, List.getElem?_append_left (by simp; omega), List.getElem?_replicate, if_pos (by omega)]
  rfl
theorem pad_first (n : Nat) : (padB n).data.toList.getD 0 0 = 128 := rfl
theorem ba_getD (s : ByteArray) (k : Nat) (h : k < s.size) : s.data.toList.getD k 0 = s[k] := by
  rw [List.getD_eq_getElem?_getD, List.getElem?_eq_getElem (by simpa using h)]; rfl

set_option maxRecDepth 100000 in
set_option maxHeartbeats 4000000 in
theorem padlaw (n m : Nat) (hn : n < 18446744073709551616) (hm : m < 18446744073709551616) (w : World) (hT : Tab w) : Calls Tryd.prog 11 #[.int .u64 n, .int .u64 m] w (Tells (.bool true) w.heap.size w) := by
  have cA := awake5_any w hT
  have cP := fun u => padding_any n hn u
  have cQ := fun u => padding_any m hm u
  have hPs := padB_size n
  have hz := pad_bd n
  have hwh := pad_whole n
  have hlast := pad_last n
  have hzero := pad_zero n
  have hfst := pad_first n
  have q1 := pstr_eq (padB n) (padB m)
  have hinj : n < 2305843009213693952 ∧ m < 2305843009213693952 → decide (padB n = padB m) = decide (n = m) := fun hsm => by
    by_cases e : n = m
    · subst e; simp
    · rw [decide_eq_false e]
      apply decide_eq_false
      intro e2
      have l1 := pad_last n
      have l2 := pad_last m
      have s1 := padB_size n
      have s2 := padB_size m
      rw [e2] at l1 s1
      rw [show padN n = padN m by omega, l2] at l1
      omega
  obtain ⟨z, hzd⟩ : ∃ z, padN n = z := ⟨_, rfl⟩
  rw [hzd] at hPs hz hwh hlast hzero
  generalize decide (padB n = padB m) = r at *
  generalize padB m = Q at *
  generalize padB n = P at *
  obtain ⟨V, hV⟩ : ∃ V, IntKind.u64.wrap ((n : Int) * 8) = V := ⟨_, rfl⟩
  have hVV : beI (P.data.toList.drop (z + 1)) = V := by rw [hlast, ← hV, IntKind.wrap_u64]; omega
  obtain ⟨Z1, hZ1⟩ : ∃ Z1, z + 1 = Z1 := ⟨_, rfl⟩
  rw [hZ1] at hVV hzero
  have HVV := hideIt hVV
  have HPS := hideIt hPs
  have HZ := hideIt hzero
  have HZ1 := hideIt hZ1
  have HW := hideIt hwh
  have HI := hideIt hinj
  have hf2 : (P[0]'(by omega)).toNat = 128 := by rw [← ba_getD P 0 (by omega), hfst]; rfl
  have i0 : (0 : Int) < (P.size : Int) := by omega
  have c1 : ¬ ((P.size : Int) < 9) := by omega
  have c2 : ¬ ((72 : Int) < (P.size : Int)) := by omega
  have c1d : decide ((P.size : Int) < 9) = false := decide_eq_false c1
  have c2d : decide ((72 : Int) < (P.size : Int)) = false := decide_eq_false c2
  have c3 : (P.size : Int) % 18446744073709551616 = (P.size : Int) := by omega
  have c4 : (n : Int).tmod 64 = (n : Int) % 64 := Int.tmod_eq_emod_of_nonneg (by omega)
  obtain ⟨T, hT1⟩ : ∃ T : Nat, n % 64 + P.size = T := ⟨_, rfl⟩
  have c5 : IntKind.u64.wrap ((n : Int) % 64 + (P.size : Int)) = (T : Int) := by rw [IntKind.wrap_u64]; omega
  have c6 : (T : Int).tmod 64 = 0 := by rw [Int.tmod_eq_emod_of_nonneg (by omega)]; omega
  have j0 : ∀ u, (Instr.index 9 (.string P) (.int .i64 0)).run Tryd.prog u = .ok (.int .u8 128) u := fun u => by
    rw [run_index_string u _ _ _ _ Tryd.underlying9, dif_pos ⟨by omega, i0⟩]
    exact congrArg (fun x : Nat => Result.ok (Value.int .u8 (x : Int)) u) hf2
  clear hPs hlast hzero hfst hzd hVV hZ1 hwh hinj hf2 hT1
  go_enter Tryd.func11, Tryd.ntmps11
  go_upto_region 4 with (first
    | (go_at_call 39; refine cA.mono ?_; rintro e w1 ⟨rfl, b1⟩)
    | (go_at_call_of 29 (Value.int .u64 (n : Int)); refine (cP _).mono ?_; rintro e w2 ⟨rfl, b2⟩)
    | (go_at_call_of 29 (Value.int .u64 (m : Int)); refine (cQ _).mono ?_; rintro e w3 ⟨rfl, b3⟩))
  have L := chain (chain b1 b2) b3
  clear cA cP cQ b1 b2 b3
  go_upto_region 7 with fail
  clear c3 c4 c5 c6 j0 i0
  have k1 : IntKind.i64.wrap ((P.size : Int) - 8) = (Z1 : Int) := by have := HPS.out; have := HZ1.out; rw [IntWalk.i64_in _ (by omega)]; omega
  have k2 : (P.size : Int) - 8 = (Z1 : Int) := by have := HPS.out; have := HZ1.out; omega
  have k3 : IntKind.i64.wrap (Z1 : Int) = (Z1 : Int) := by have := HZ1.out; exact IntWalk.i64_in _ (by omega)
  have hPb : P.size ≤ 72 := by omega
  clear c1 c2
  go_wp2
  go_loopg [7, 8] P.size (fun gk v i wr => ∃ k : Nat, 1 ≤ k ∧ k ≤ P.size ∧ gk = P.size + 1 - k ∧ i = .int .i64 k ∧ v = .int .u64 (beI ((P.data.toList.drop Z1).take (k - Z1))) ∧ wr = w3)
  case atStart => exact ⟨1, by omega, by have := HPS.out; omega, by have := HPS.out; omega, rfl, by rw [show 1 - Z1 = 0 by have := HZ1.out; omega]; rfl, rfl⟩
  case round =>
    obtain ⟨k, hk0, hk, hgk, rfl, rfl, rfl⟩ := hrel
    have HG := hideIt hgk
    clear hgk
    by_cases hlt : k < P.size
    · have hPk := ba_getD P k hlt
      have b1 : (k : Int) < (P.size : Int) := by omega
      by_cases hz1 : k < Z1
      · have e0 : k - Z1 = 0 := by omega
        have e1 : k + 1 - Z1 = 0 := by omega
        have hb0 := HZ.out k hk0 hz1
        rw [hPk] at hb0
        have hb : (P[k].toNat : Int) = 0 := by rw [hb0]; rfl
        have b2 : (k : Int) < (Z1 : Int) := by omega
        rw [e0]
        clear hPk hb0
        go_wp2
        go_roundg (P.size + 1 - (k + 1))
        case measure => have := HG.out; omega
        case rel => exact ⟨k + 1, by omega, by omega, rfl, by go_num, by rw [e1], rfl⟩
      · obtain ⟨j, hj⟩ : ∃ j, k - Z1 = j := ⟨_, rfl⟩
        have hj8 : j < 8 := by have := HPS.out; have := HZ1.out; omega
        have hld : (P.data.toList.drop Z1).length = 8 := by rw [List.length_drop]; have := HPS.out; have := HZ1.out; simp; omega
        have hts : (P.data.toList.drop Z1).take (j + 1) = (P.data.toList.drop Z1).take j ++ [P[k]] := by
          rw [List.take_succ_eq_append_getElem (by omega)]
          congr 2
          rw [List.getElem_drop]
          have : Z1 + j = k := by omega
          simp only [this]
          rfl
        have hst := beI_snoc ((P.data.toList.drop Z1).take j) P[k]
        rw [← hts] at hst
        have hbd := beI_bd ((P.data.toList.drop Z1).take j)
        rw [List.length_take, hld, show min j 8 = j by omega] at hbd
        have hp : (256 : Int) ^ j ≤ 256 ^ 7 := by
          have h : (256 : Nat) ^ j ≤ 256 ^ 7 := Nat.pow_le_pow_right (by decide) (by omega)
          have e : ((256 ^ j : Nat) : Int) = (256 : Int) ^ j := by simp
          omega
        have e1 : k + 1 - Z1 = j + 1 := by omega
        have HST := hideIt hst
        have hc := (P[k]).toNat_lt
        have b2 : ¬ ((k : Int) < (Z1 : Int)) := by omega
        have b3 : (Z1 : Int) ≤ (k : Int) := by omega
        rw [hj]
        generalize beI ((P.data.toList.drop Z1).take j) = a at *
        have a0 := hbd.1
        have a1 : a < 72057594037927936 := by have := hbd.2; omega
        have m1 : IntKind.u64.wrap (a * 256) = a * 256 := by rw [IntKind.wrap_u64]; omega
        have m2 : IntKind.u64.wrap (a * 256 + (P[k].toNat : Int)) = a * 256 + (P[k].toNat : Int) := by rw [IntKind.wrap_u64]; omega
        have m3 : (P[k].toNat : Int) % 18446744073709551616 = (P[k].toNat : Int) := by omega
        clear hPk hts hst hbd hp hld hc
        go_wp2
        go_roundg (P.size + 1 - (k + 1))
        case measure => have := HG.out; omega
        case rel => exact ⟨k + 1, by omega, by omega, rfl, by go_num, by rw [e1, HST.out], rfl⟩
    · have e : k = P.size := by omega
      subst e
      have hfull : (P.data.toList.drop Z1).take (P.size - Z1) = P.data.toList.drop Z1 := List.take_of_length_le (by rw [List.length_drop]; simp)
      rw [hfull, HVV.out]
      clear HG hk0 hk hlt
      by_cases hsm : n < 2305843009213693952 ∧ m < 2305843009213693952
      · have hr := HI.out hsm
        have s1 : (n : Int) < 2305843009213693952 := by omega
        have s2 : (m : Int) < 2305843009213693952 := by omega
        have hnm : ((n : Int) == (m : Int)) = r := by
          rw [hr]
          by_cases e : n = m
          · subst e; simp
          · rw [decide_eq_false e]; apply beq_false_of_ne; omega
        clear hr
        go_wp2
        go_ret
        exact ⟨rfl, L⟩
      · by_cases s1 : (n : Int) < 2305843009213693952
        · have s2 : ¬ ((m : Int) < 2305843009213693952) := by omega
          go_wp2
          go_ret
          exact ⟨rfl, L⟩
        · go_wp2
          go_ret
          exact ⟨rfl, L⟩

theorem shaPadded_core (H : Type) (enc : TypeId × Value → H) (W : World) (base : Nat) (args : Array Value) (ds gs : List (DataW H)) (before : List MemPlace)
    (hval : ∀ (j : Nat) t v, Tryd.f11.params[j]? = some t → args[j]? = some v → Value.okWide Tryd.prog W .any base t v)
    (hW : DataW.Whole enc Tryd.prog Tryd.f11.params.toList Rows.shaPaddedSpec.vars false W args.toList ds gs before) (hT : Tab W) :
    gs = [] ∧ ds.length = 2 ∧ Calls Tryd.prog 11 args W (Tells (.bool true) W.heap.size W) := by
  obtain ⟨p, q, hA, hV, -, -, -⟩ := hW
  obtain ⟨rfl, rfl⟩ := trodVars_none hV
  have hA : DataW.TrodAll enc Tryd.prog W 0 (fun _ => true) true Tryd.f11.params.toList args.toList ds p := hA
  rw [Tryd.params11] at hA hval
  obtain ⟨v0, vs0, d0, ds0, p0, ps0, e0, rfl, -, h0, hA⟩ := trodAll_cons hA
  obtain ⟨v1, vs1, d1, ds1, p1, ps1, rfl, rfl, -, h1, hA⟩ := trodAll_cons hA
  obtain ⟨rfl, rfl, rfl⟩ := trodAll_nil hA
  obtain rfl : args = #[v0, v1] := Array.ext' e0
  obtain ⟨x, rfl, -, -, bx⟩ := open_int Tryd.underlying42 (hval 0 42 v0 rfl rfl) h0
  obtain ⟨y, rfl, -, -, by_⟩ := open_int Tryd.underlying42 (hval 1 42 v1 rfl rfl) h1
  refine ⟨rfl, rfl, ?_⟩
  obtain ⟨x0, x1⟩ := word_of (x := x) (by simpa using bx)
  obtain ⟨y0, y1⟩ := word_of (x := y) (by simpa using by_)
  obtain ⟨n, rfl⟩ := Int.eq_ofNat_of_zero_le x0
  obtain ⟨m, rfl⟩ := Int.eq_ofNat_of_zero_le y0
  exact padlaw n m (by omega) (by omega) W hT

set_option maxRecDepth 100000 in
theorem shaPadded_lifted (os : Os) (started : os.Started) (H : Type) (enc : TypeId × Value → H) :
    ReturnsInHanded {} Tryd.checked os 11 .any (fun w args => (Rows.shaPaddedSpec.pre enc Tryd.prog Tryd.f11 [] false w args ∧ laidMetH Tryd.prog laidK w) ∧ sizedMet enc Tryd.prog Tryd.f11 (OpenSpec.ofChange Rows.shaPaddedSpec) false w args)
      (Rows.shaPaddedSpec.post enc Tryd.prog Tryd.f11 false true false false) := by
  refine returnsInHanded_of_change_and (C := Tryd.checked) (X := fun w _ => laidMetH Tryd.prog laidK w) (fun _ _ _ hh h => h.of_heap hh) own_knob started (by kernel_rfl) Tryd.func11
    (ChangeSpec.witness_shaped (enc := enc) (C := Tryd.checked) (os := os) (X := fun w _ => laidMetH Tryd.prog laidK w) false (World.doorLaid Tryd.prog 14 os) #[.int .u64 0, .int .u64 0] 8 rfl (World.shaped_of_RefB (by kernel_rfl) (by kernel_rfl)) (by kernel_rfl) (by kernel_rfl) (by kernel_rfl) (door_met os _)) ?_
  intro W base args ds gs before hval0 hW _ _ hL _
  have hval : ∀ (j : Nat) t v, Tryd.f11.params[j]? = some t → args[j]? = some v → Value.okWide Tryd.prog W .any base t v := hval0
  obtain ⟨hg, hlen, hc⟩ := shaPadded_core H enc W base args ds gs before hval hW (tab_of_laid hL)
  subst hg
  have hr : (Tryd.f11.params.toList.all fun t => Tryd.prog.readableRec t && decide (t < Tryd.prog.types.size)) = true := by kernel_rfl
  have hread : ∀ t ∈ Tryd.f11.params.toList, Tryd.prog.readableRec t = true ∧ t < Tryd.prog.types.size := fun t ht => by
    have h := List.all_eq_true.1 hr t ht
    rw [Bool.and_eq_true, decide_eq_true_eq] at h
    exact h
  refine hc.mono fun e W' ⟨he, hb⟩ => ?_
  subst he
  match ds, hlen with
  | [d0, d1], _ => exact ⟨_, rfl, law_post laid_out Tryd.underlying4 rfl hread rfl hW rfl rfl rfl hb⟩

theorem shaPadded_holds : Rows.ShaPaddedSaid :=
  OpenClaim.holds_of_wide 11 Tryd.f11 rfl rfl rfl rfl rfl rfl rfl ⟨rfl, rfl, rfl, rfl, rfl⟩ rfl rfl rfl rfl rfl (by kernel_rfl) Tryd.func11 (by kernel_rfl)
    (of_decide_eq_true (by kernel_rfl)) (by unfold Func.isWrapper; first | (rw [if_pos (by decide +kernel)]; kernel_rfl) | (rw [if_neg (by decide +kernel)]; exact ⟨rfl, rfl⟩))
    (fun os started H enc _ => shaPadded_lifted os started H enc)

theorem shaPadded_card : Rows.ShaPaddedCardSaid :=
  Claim7.holds_tied_plain_at .later [] [.data] true _ false
    shaPadded_holds (fun _ h => by cases h) (by kernel_rfl) (fun _ h => by cases h) shaPadded_row_tie rfl ⟨rfl, rfl⟩ (by kernel_rfl) rfl
    (fun f fn hf hfn => by
      obtain rfl : f = 11 := Option.some.inj ((show Tryd.prog.funcNamed "paymaster/paymasterlaw05.ShaPadded" = some 11 by kernel_rfl).symm.trans hf) |>.symm
      obtain rfl : fn = Tryd.f11 := (Option.some.inj (Tryd.func11.symm.trans hfn)).symm
      exact ⟨by kernel_rfl, fun j t ht => by
        have hm : t ∈ Tryd.f11.params.toList := by simpa using Array.mem_of_getElem? ht
        have hall : (Tryd.f11.params.toList.all fun u => !Tryd.prog.wantsStandIn u) = true := by kernel_rfl
        exact (show Tryd.prog.wantsStandIn t = false by simpa using List.all_eq_true.1 hall t hm)⟩)
    (by kernel_rfl)

end Go.Proofs.YtlceniljnejjeaaDoor
