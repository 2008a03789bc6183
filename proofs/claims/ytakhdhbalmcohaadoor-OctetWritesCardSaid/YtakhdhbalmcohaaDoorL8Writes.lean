/-
  The law OctetWrites: whatever is written is the bytes that the chapter says, or too many.
  Conditions: none of its own; that utf8's two tables hold what their texts lay is the form's constant (tied by the card), and isn't used.
-/
import Derived.Test.YtakhdhbalmcohaaDoorR8Write
import Derived.Test.YtakhdhbalmcohaaDoorW8Laid
import Derived.Laws.MakeOwn
namespace Go.Proofs.YtakhdhbalmcohaaDoor
set_option linter.unusedVariables false
set_option linter.unusedSimpArgs false
set_option maxRecDepth 10000
open Go.ChangeShapes Go.WideShapes Go.ChangeAt Go.RowKit

theorem info_b8 : (Tryd.prog.info? 5).map (fun i => (i.zero, i.size, i.bytes)) = some (some (.int .u8 0), 1, 1) := by kernel_rfl
/-- So many noughts. -/
def zeroA (n : Nat) : Array Value := (List.replicate n (Value.int .u8 0)).toArray
theorem make_noughts (n : Nat) (hn : n ≤ 1048586) (u : World) : (Instr.makeSlice 28 (.int .i64 (n : Int)) (.int .i64 (n : Int))).run Tryd.prog u = .ok (.slice (some ⟨u.heap.size, 0, none⟩) n n) (u.alloc (.cells (zeroA n) 5)) := by
  obtain ⟨i0, hi, hzi0, hzi1, hzi2⟩ := info_parts info_b8
  have h := run_make (P := Tryd.prog) u 28 5 i0 (.int .u8 0) Tryd.underlying28 hi hzi0 .i64 .i64 (n : Int) (n : Int) (by omega) (by omega) (by rw [hzi2]; omega) (by omega)
  have e : madeCells (Value.int .u8 0).cells ((n : Int).toNat * i0.size) = zeroA n := by
    rw [hzi1]
    apply Array.ext'
    rw [show (Value.int .u8 0).cells = #[Value.int .u8 0] from rfl, toList_madeCells_one]
    simp [zeroA]
  rw [e] at h
  simpa using h
theorem noughts_at (n i : Nat) (hi : i < n) : (zeroA n)[i]? = some (.int .u8 0) := by
  unfold zeroA
  rw [List.getElem?_toArray, List.getElem?_replicate, if_pos hi]
theorem noughts_bytes {w : World} {g : Nat} {t : TypeId} {n : Nat} (h : Box w g t (zeroA n)) : BytesA w g 0 (List.replicate n 0) := by
  intro i hi
  rw [List.length_replicate] at hi
  rw [Nat.zero_add, h.read i, noughts_at n i hi, List.getD_eq_getElem?_getD, List.getElem?_replicate, if_pos hi]
  rfl

/-- What is held against it: the text, unless it is too long. -/
def reO (b : Bool) (S : ByteArray) : Option ByteArray := if b then none else some S
theorem reO_step (b : Bool) (S T : ByteArray) : putB (reO b S) T = reO (b || decide (1048576 < S.size + T.size)) (if (b || decide (1048576 < S.size + T.size)) then S else S ++ T) := by
  cases b with
  | true => rfl
  | false =>
    show putB (some S) T = _
    by_cases h : 1048576 < S.size + T.size
    · rw [putB_no S T h, Bool.false_or, decide_eq_true h]; rfl
    · rw [putB_yes S T (by omega), Bool.false_or, decide_eq_false h]; rfl

set_option maxRecDepth 100000 in
set_option maxHeartbeats 8000000 in
theorem writes_walk (A : Option Addr) (c : Nat) (xs : List Th) (ah : Int) (ok : AllOk xs) (hm : xs.length ≤ 9223372036854775807) (ha : ah < 9223372036854775808) (w : World) (hr : ThRow w w.heap.size A xs) :
    Calls Tryd.prog 3 #[.slice A xs.length c, .int .i64 ah] w (Tells (.bool true) w.heap.size w) := by
  have cL := long_things A c xs hm w hr
  have HO := hideIt ok
  clear ok
  cases hl : longT xs with
  | true =>
    rw [hl] at cL
    clear hr
    go_enter Tryd.func3, Tryd.ntmps3
    go_wp2_with (first | (go_at_call 8; refine cL.mono ?_; rintro e w1 ⟨rfl, rfl⟩))
    go_ret
    exact ⟨rfl, Below.refl _ _⟩
  | false =>
    rw [hl] at cL
    obtain ⟨h200, hsz⟩ := longT_no hl
    have HZ := hideIt hsz
    clear hsz hl
    have B0 := Box.made w 27 #[.pointer none, .int .i64 0, .bool false]
    have L2 : Below w.heap.size w (w.alloc (.cells #[.pointer none, .int .i64 0, .bool false] 27)) := (Below.refl _ w).alloc (Nat.le_refl _) _
    have O2 : OutS (w.alloc (.cells #[.pointer none, .int .i64 0, .bool false] 27)) w.heap.size (reO false ⟨#[]⟩) := out_new B0
    by_cases h0 : 0 < ah
    · obtain ⟨n, hn⟩ : ∃ n : Nat, ah.tmod 1048586 = (n : Int) := ⟨(ah % 1048586).toNat, by rw [Int.tmod_eq_emod_of_nonneg (by omega)]; omega⟩
      have hnb : n ≤ 1048585 := by rw [Int.tmod_eq_emod_of_nonneg (by omega)] at hn; omega
      have hmk := make_noughts n (by omega)
      obtain ⟨F, hF⟩ : ∃ F, ofL (List.replicate n 0) = F := ⟨_, rfl⟩
      have hFz : F.size = n := by rw [← hF, ofL_size, List.length_replicate]
      have cN := fun u => rnum_any (n : Int) ⟨by omega, by omega⟩ u
      have hNz : (ofL (wideL 0 (n : Int))).size = (wideL 0 (n : Int)).length := ofL_size _
      have hNl := wideL_len 0 (n : Int)
      have cO := fun u hu => out_text w.heap.size (reO false ⟨#[]⟩) F (by omega) u hu
      have cT := fun u => rtext_any F (by omega) u
      have hSz : (ofL (textL F)).size = (wideL 0 (n : Int)).length + n := by
        rw [ofL_size]; unfold textL; rw [List.length_append, hFz, osize, hFz]
      have hst : putB (reO false ⟨#[]⟩) (ofL (textL F)) = reO (decide (1048576 < n + (wideL 0 (n : Int)).length)) (ofL (textL F)) := by
        show putB (some ⟨#[]⟩) _ = _
        by_cases h : 1048576 < n + (wideL 0 (n : Int)).length
        · rw [putB_no _ _ (by rw [hSz]; show _ < 0 + _; omega), decide_eq_true h]; rfl
        · rw [putB_yes _ _ (by rw [hSz]; show 0 + _ ≤ _; omega), decide_eq_false h, nil_app]; rfl
      rw [hst] at cO
      clear hst hSz
      generalize ofL (textL F) = S0 at *
      generalize ofL (wideL 0 (n : Int)) = N0 at *
      generalize (wideL 0 (n : Int)).length = nl at *
      have hw1 : IntKind.u64.wrap (n : Int) = (n : Int) := by rw [IntKind.wrap_u64]; omega
      have hw2 : IntKind.i64.wrap ((n : Int) + (nl : Int)) = (n : Int) + (nl : Int) := IntWalk.i64_in _ (by omega)
      obtain ⟨b0, hb0⟩ : ∃ b0, decide (1048576 < n + nl) = b0 := ⟨_, rfl⟩
      have hbi : decide ((1048576 : Int) < (n : Int) + (nl : Int)) = b0 := by rw [← hb0]; exact decide_eq_decide.2 (by omega)
      rw [hb0] at cO
      have HB0 := hideIt hb0
      clear hb0
      go_enter Tryd.func3, Tryd.ntmps3
      go_upto_region 4 with (first | (go_at_call 8; refine cL.mono ?_; rintro e w1 ⟨rfl, rfl⟩) | fail)
      change Code.wp _ _ _ _ (w.alloc (.cells #[.pointer none, .int .i64 0, .bool false] 27))
      generalize w.alloc (.cells #[.pointer none, .int .i64 0, .bool false] 27) = W at *
      clear B0 cL
      go_upto_region 8 with fail
      have B1 := Box.made W 5 (zeroA n)
      have hWg := O2.inside
      have O1 := O2.call (w' := W.alloc (.cells (zeroA n) 5)) ((Below.refl _ W).alloc (Nat.le_refl _) _)
      have L1 := chainA L2 (.cells (zeroA n) 5)
      change Code.wp _ _ _ _ (W.alloc (.cells (zeroA n) 5))
      clear O2 L2
      generalize W.alloc (.cells (zeroA n) 5) = W1 at *
      go_upto_region 9 with (first | (go_at_call 9; refine (cN _).mono ?_; rintro e w2 ⟨rfl, j2⟩) | fail)
      have B2 := B1.call j2
      have O3 := O1.call j2
      have L3 := chain L1 j2
      have hcv := (noughts_bytes B2).conv n n (by rw [List.length_replicate])
      rw [hF] at hcv
      go_upto_region 10 with (first | (go_at_call 10; refine (cO _ O3).mono ?_; rintro e w3 ⟨rfl, O4, k4⟩) | fail)
      have B3 := k4.box B2 (fun e => by have : W.heap.size = w.heap.size := e; omega)
      have hcv3 := (noughts_bytes B3).conv n n (by rw [List.length_replicate])
      rw [hF] at hcv3
      have L4 := L3.trans (k4.below (fun i hi => by have : i = w.heap.size := hi; omega) L3.size)
      clear hcv B1 B2 O1 O3 L1 L3 j2 k4 cO cN hmk
      go_upto_region 11 with (first | (go_at_call 11; refine (cT _).mono ?_; rintro e w4 ⟨rfl, j5⟩) | fail)
      have O2 := O4.call j5
      have L2 := chain L4 j5
      clear B3 hcv3 O4 L4 j5 cT
      go_wp2
      go_loopg [6, 7, 9] xs.length (fun gk v bv i wr => ∃ (k : Nat) (S : ByteArray) (b : Bool), k ≤ xs.length ∧ gk = xs.length - k ∧ v = .string S ∧ bv = .bool b ∧ i = .int .i64 k ∧ OutS wr w.heap.size (reO b S) ∧ Below w.heap.size w wr)
      case atStart => exact ⟨0, _, _, Nat.zero_le _, rfl, rfl, rfl, rfl, O2, L2⟩
      case round =>
        clear O2 L2
        obtain ⟨k, S, b, hkl, hgk, rfl, rfl, rfl, O, L⟩ := hrel
        have HG := hideIt hgk
        clear hgk
        by_cases hlt : k < xs.length
        · obtain ⟨x, hx⟩ : ∃ x, xs[k]? = some x := ⟨_, List.getElem?_eq_getElem hlt⟩
          obtain ⟨ad, rfl, hb, hq⟩ := hr k x hx
          have hq2 : ThAt wr (ad.add (k * 5)) x := hq.keep (by rw [o8_block]; exact L.block _ hb)
          obtain ⟨q0, q1, q2, q3, q4⟩ := hq2
          have hb2 : (ad.add (k * 5)).block < wr.heap.size := by rw [o8_block]; exact Nat.lt_of_lt_of_le hb L.size
          have b1 : (k : Int) < (xs.length : Int) := by omega
          have hmem : x ∈ xs := List.mem_of_getElem? hx
          have hs := HZ.out x hmem
          have okx := HO.out x hmem
          have cw := law_write x okx (by omega) w.heap.size _ wr O
          have cT := fun u => law_text x okx (by omega) u
          have hts := x.text_size
          rw [reO_step] at cw
          simp only [Th.val] at cw cT
          clear hx hmem
          generalize x.text = T at *
          go_upto_region 15 with (first | (go_at_call 12; refine cw.mono ?_; rintro e w1 ⟨rfl, s1, k1⟩) | fail)
          have L1 := L.trans (k1.below (fun i hi => by have : i = w.heap.size := hi; omega) L.size)
          clear q0 q1 q2 q3 q4 hb2 cw
          have hq2 : ThAt w1 (ad.add (k * 5)) x := hq.keep (by rw [o8_block]; exact L1.block _ hb)
          obtain ⟨q0, q1, q2, q3, q4⟩ := hq2
          have hb2 : (ad.add (k * 5)).block < w1.heap.size := by rw [o8_block]; exact Nat.lt_of_lt_of_le hb L1.size
          go_upto_region 16 with (first | (go_at_call 13; refine (cT _).mono ?_; rintro e w2 ⟨rfl, j2⟩) | fail)
          have O2 := s1.call j2
          have L2 := chain L1 j2
          clear q0 q1 q2 q3 q4 hb2 hq cT s1 j2 k1 L1 hr
          cases b with
          | true =>
            go_wp2
            go_roundg (xs.length - (k + 1))
            case measure => have := HG.out; omega
            case rel => exact ⟨k + 1, S, true, by omega, rfl, rfl, rfl, by go_num, O2, L2⟩
          | false =>
            have hSz : S.size ≤ 1048576 := by
              obtain ⟨p, l, -, -, -, h4⟩ := (show OutS wr w.heap.size (some S) from O)
              exact h4
            have hw : IntKind.i64.wrap ((S.size : Int) + (T.size : Int)) = (S.size : Int) + (T.size : Int) := IntWalk.i64_in _ (by omega)
            clear O
            by_cases hbig : 1048576 < S.size + T.size
            · have hbi : (1048576 : Int) < (S.size : Int) + (T.size : Int) := by omega
              rw [Bool.false_or, decide_eq_true hbig] at O2
              simp only [if_true] at O2
              go_wp2
              go_roundg (xs.length - (k + 1))
              case measure => have := HG.out; omega
              case rel => exact ⟨k + 1, S, true, by omega, rfl, rfl, rfl, by go_num, O2, L2⟩
            · have hbi : ¬ ((1048576 : Int) < (S.size : Int) + (T.size : Int)) := by omega
              rw [Bool.false_or, decide_eq_false hbig] at O2
              have hadd : ∀ u : World, (Op.stringOp .add S T).run Tryd.prog u = .ok (.string (S ++ T)) u := fun u => run_string_add_sum u _ _ (by omega)
              generalize S ++ T = ST at *
              go_wp2
              go_roundg (xs.length - (k + 1))
              case measure => have := HG.out; omega
              case rel => exact ⟨k + 1, ST, false, by omega, rfl, rfl, rfl, by go_num, O2, L2⟩
        · have e : k = xs.length := by omega
          subst e
          have cD := out_done w.heap.size _ wr O
          rw [doneV_eq] at cD
          have hSS : (S.toList == S.toList) = true := by simp
          clear hr
          cases b with
          | true =>
            simp only [reO, if_true, dS, dE] at cD
            go_wp2_with (first | (go_at_call 14; refine cD.mono ?_; rintro e w1 ⟨rfl, rfl⟩))
            go_ret
            exact ⟨rfl, L⟩
          | false =>
            rw [show reO false S = some S from rfl] at cD
            simp only [dS, dE] at cD
            go_wp2_with (first | (go_at_call 14; refine cD.mono ?_; rintro e w1 ⟨rfl, rfl⟩))
            go_ret
            exact ⟨rfl, L⟩
    · have h0i : ¬ (0 < ah) := h0
      go_enter Tryd.func3, Tryd.ntmps3
      go_upto_region 4 with (first | (go_at_call 8; refine cL.mono ?_; rintro e w1 ⟨rfl, rfl⟩) | fail)
      change Code.wp _ _ _ _ (w.alloc (.cells #[.pointer none, .int .i64 0, .bool false] 27))
      generalize w.alloc (.cells #[.pointer none, .int .i64 0, .bool false] 27) = W at *
      clear B0 cL
      go_wp2
      go_loopg [6, 7, 9] xs.length (fun gk v bv i wr => ∃ (k : Nat) (S : ByteArray) (b : Bool), k ≤ xs.length ∧ gk = xs.length - k ∧ v = .string S ∧ bv = .bool b ∧ i = .int .i64 k ∧ OutS wr w.heap.size (reO b S) ∧ Below w.heap.size w wr)
      case atStart => exact ⟨0, _, _, Nat.zero_le _, rfl, rfl, rfl, rfl, O2, L2⟩
      case round =>
        clear O2 L2
        obtain ⟨k, S, b, hkl, hgk, rfl, rfl, rfl, O, L⟩ := hrel
        have HG := hideIt hgk
        clear hgk
        by_cases hlt : k < xs.length
        · obtain ⟨x, hx⟩ : ∃ x, xs[k]? = some x := ⟨_, List.getElem?_eq_getElem hlt⟩
          obtain ⟨ad, rfl, hb, hq⟩ := hr k x hx
          have hq2 : ThAt wr (ad.add (k * 5)) x := hq.keep (by rw [o8_block]; exact L.block _ hb)
          obtain ⟨q0, q1, q2, q3, q4⟩ := hq2
          have hb2 : (ad.add (k * 5)).block < wr.heap.size := by rw [o8_block]; exact Nat.lt_of_lt_of_le hb L.size
          have b1 : (k : Int) < (xs.length : Int) := by omega
          have hmem : x ∈ xs := List.mem_of_getElem? hx
          have hs := HZ.out x hmem
          have okx := HO.out x hmem
          have cw := law_write x okx (by omega) w.heap.size _ wr O
          have cT := fun u => law_text x okx (by omega) u
          have hts := x.text_size
          rw [reO_step] at cw
          simp only [Th.val] at cw cT
          clear hx hmem
          generalize x.text = T at *
          go_upto_region 15 with (first | (go_at_call 12; refine cw.mono ?_; rintro e w1 ⟨rfl, s1, k1⟩) | fail)
          have L1 := L.trans (k1.below (fun i hi => by have : i = w.heap.size := hi; omega) L.size)
          clear q0 q1 q2 q3 q4 hb2 cw
          have hq2 : ThAt w1 (ad.add (k * 5)) x := hq.keep (by rw [o8_block]; exact L1.block _ hb)
          obtain ⟨q0, q1, q2, q3, q4⟩ := hq2
          have hb2 : (ad.add (k * 5)).block < w1.heap.size := by rw [o8_block]; exact Nat.lt_of_lt_of_le hb L1.size
          go_upto_region 16 with (first | (go_at_call 13; refine (cT _).mono ?_; rintro e w2 ⟨rfl, j2⟩) | fail)
          have O2 := s1.call j2
          have L2 := chain L1 j2
          clear q0 q1 q2 q3 q4 hb2 hq cT s1 j2 k1 L1 hr
          cases b with
          | true =>
            go_wp2
            go_roundg (xs.length - (k + 1))
            case measure => have := HG.out; omega
            case rel => exact ⟨k + 1, S, true, by omega, rfl, rfl, rfl, by go_num, O2, L2⟩
          | false =>
            have hSz : S.size ≤ 1048576 := by
              obtain ⟨p, l, -, -, -, h4⟩ := (show OutS wr w.heap.size (some S) from O)
              exact h4
            have hw : IntKind.i64.wrap ((S.size : Int) + (T.size : Int)) = (S.size : Int) + (T.size : Int) := IntWalk.i64_in _ (by omega)
            clear O
            by_cases hbig : 1048576 < S.size + T.size
            · have hbi : (1048576 : Int) < (S.size : Int) + (T.size : Int) := by omega
              rw [Bool.false_or, decide_eq_true hbig] at O2
              simp only [if_true] at O2
              go_wp2
              go_roundg (xs.length - (k + 1))
              case measure => have := HG.out; omega
              case rel => exact ⟨k + 1, S, true, by omega, rfl, rfl, rfl, by go_num, O2, L2⟩
            · have hbi : ¬ ((1048576 : Int) < (S.size : Int) + (T.size : Int)) := by omega
              rw [Bool.false_or, decide_eq_false hbig] at O2
              have hadd : ∀ u : World, (Op.stringOp .add S T).run Tryd.prog u = .ok (.string (S ++ T)) u := fun u => run_string_add_sum u _ _ (by omega)
              generalize S ++ T = ST at *
              go_wp2
              go_roundg (xs.length - (k + 1))
              case measure => have := HG.out; omega
              case rel => exact ⟨k + 1, ST, false, by omega, rfl, rfl, rfl, by go_num, O2, L2⟩
        · have e : k = xs.length := by omega
          subst e
          have cD := out_done w.heap.size _ wr O
          rw [doneV_eq] at cD
          have hSS : (S.toList == S.toList) = true := by simp
          clear hr
          cases b with
          | true =>
            simp only [reO, if_true, dS, dE] at cD
            go_wp2_with (first | (go_at_call 14; refine cD.mono ?_; rintro e w1 ⟨rfl, rfl⟩))
            go_ret
            exact ⟨rfl, L⟩
          | false =>
            rw [show reO false S = some S from rfl] at cD
            simp only [dS, dE] at cD
            go_wp2_with (first | (go_at_call 14; refine cD.mono ?_; rintro e w1 ⟨rfl, rfl⟩))
            go_ret
            exact ⟨rfl, L⟩

theorem octetWrites_core (H : Type) (enc : TypeId × Value → H) (W : World) (base : Nat) (args : Array Value) (ds gs : List (DataW H)) (before : List MemPlace)
    (hval : ∀ (j : Nat) t v, Tryd.f3.params[j]? = some t → args[j]? = some v → Value.okWide Tryd.prog W .any base t v)
    (hW : DataW.Whole enc Tryd.prog Tryd.f3.params.toList Rows.octetWritesSpec.vars false W args.toList ds gs before) (hT : True) :
    gs = [] ∧ ds.length = 2 ∧ Calls Tryd.prog 3 args W (Tells (.bool true) W.heap.size W) := by
  obtain ⟨p, q, hA, hV, -, -, -⟩ := hW
  obtain ⟨rfl, rfl⟩ := trodVars_none hV
  have hA : DataW.TrodAll enc Tryd.prog W 0 (fun _ => true) true Tryd.f3.params.toList args.toList ds p := hA
  rw [Tryd.params3] at hA hval
  obtain ⟨v0, vs0, d0, ds0, p0, ps0, e0, rfl, -, h0, hA⟩ := trodAll_cons hA
  obtain ⟨v1, vs1, d1, ds1, p1, ps1, rfl, rfl, -, h1, hA⟩ := trodAll_cons hA
  obtain ⟨rfl, rfl, rfl⟩ := trodAll_nil hA
  obtain rfl : args = #[v0, v1] := Array.ext' e0
  obtain ⟨A, c, xs, rfl, hm, ok, hr⟩ := open_things (hval 0 22 v0 rfl rfl) h0
  obtain ⟨ah, rfl, ha⟩ := open_int8 (hval 1 3 v1 rfl rfl) h1
  exact ⟨rfl, rfl, writes_walk A c xs ah ok hm ha.1 W hr⟩

set_option maxRecDepth 100000 in
theorem octetWrites_lifted (os : Os) (started : os.Started) (H : Type) (enc : TypeId × Value → H) :
    ReturnsInHanded {} Tryd.checked os 3 .any (fun w args => (Rows.octetWritesSpec.pre enc Tryd.prog Tryd.f3 [] false w args ∧ laidMetH Tryd.prog laidU w) ∧ sizedMet enc Tryd.prog Tryd.f3 (OpenSpec.ofChange Rows.octetWritesSpec) false w args)
      (Rows.octetWritesSpec.post enc Tryd.prog Tryd.f3 false true false false) := by
  refine returnsInHanded_of_change_and (C := Tryd.checked) (X := fun w _ => laidMetH Tryd.prog laidU w) (fun _ _ _ hh h => h.of_heap hh) own_knob started (by kernel_rfl) Tryd.func3
    (ChangeSpec.witness_shaped (enc := enc) (C := Tryd.checked) (os := os) (X := fun w _ => laidMetH Tryd.prog laidU w) false (World.laidAll Tryd.prog os laidU) #[.slice none 0 0, .int .i64 0] 8 (World.laidAll_os _ _ _) (World.shaped_of_ZipB (by kernel_rfl) (by kernel_rfl)) (by kernel_rfl) (by kernel_rfl) (by kernel_rfl) (met_U os _)) ?_
  intro W base args ds gs before hval0 hW _ hwt hL _
  have hval : ∀ (j : Nat) t v, Tryd.f3.params[j]? = some t → args[j]? = some v → Value.okWide Tryd.prog W .any base t v := hval0
  obtain ⟨hg, hlen, hc⟩ := octetWrites_core H enc W base args ds gs before hval hW (tab_of_laidU hL)
  subst hg
  have hr : (Tryd.f3.params.toList.all fun t => Tryd.prog.readableRec t && decide (t < Tryd.prog.types.size)) = true := by kernel_rfl
  have hread : ∀ t ∈ Tryd.f3.params.toList, Tryd.prog.readableRec t = true ∧ t < Tryd.prog.types.size := fun t ht => by
    have h := List.all_eq_true.1 hr t ht
    rw [Bool.and_eq_true, decide_eq_true_eq] at h
    exact h
  refine hc.mono fun e W' ⟨he, hb⟩ => ?_
  subst he
  match ds, hlen with
  | [d0, d1], _ => exact ⟨_, rfl, law_post laid_out Tryd.underlying4 rfl hread rfl hW rfl rfl rfl hb⟩

theorem octetWrites_holds : Rows.OctetWritesSaid :=
  OpenClaim.holds_of_wide 3 Tryd.f3 rfl rfl rfl rfl rfl rfl rfl ⟨rfl, rfl, rfl, rfl, rfl⟩ rfl rfl rfl rfl rfl (by kernel_rfl) Tryd.func3 (by kernel_rfl)
    (of_decide_eq_true (by kernel_rfl)) (by unfold Func.isWrapper; first | (rw [if_pos (by decide +kernel)]; kernel_rfl) | (rw [if_neg (by decide +kernel)]; exact ⟨rfl, rfl⟩))
    (fun os started H enc _ => octetWrites_lifted os started H enc)

theorem octetWrites_card : Rows.OctetWritesCardSaid :=
  Claim7.holds_tied_plain_at .later [] [.data, .pinned] true _ false
    octetWrites_holds (fun _ h => by cases h) (by kernel_rfl) (fun _ h => by cases h) octetWrites_row_tie rfl ⟨rfl, rfl⟩ (by kernel_rfl) rfl
    (fun f fn hf hfn => by
      obtain rfl : f = 3 := Option.some.inj ((show Tryd.prog.funcNamed "paymaster/paymasterlaw08.OctetWrites" = some 3 by kernel_rfl).symm.trans hf) |>.symm
      obtain rfl : fn = Tryd.f3 := (Option.some.inj (Tryd.func3.symm.trans hfn)).symm
      exact ⟨by kernel_rfl, fun j t ht => by
        have hm : t ∈ Tryd.f3.params.toList := by simpa using Array.mem_of_getElem? ht
        have hall : (Tryd.f3.params.toList.all fun u => !Tryd.prog.wantsStandIn u) = true := by kernel_rfl
        exact (show Tryd.prog.wantsStandIn t = false by simpa using List.all_eq_true.1 hall t hm)⟩)
    (by kernel_rfl)

end Go.Proofs.YtakhdhbalmcohaaDoor
