/-
  The law RowWritten: what is written tells just the rows that it was written of, and a remark that is one line.
  Conditions: utf8's two tables hold what their texts lay (tied by the card; one is the form's constant).
-/
import Derived.Test.YtfnbehijnmbhjaaDoorU10Awake
import Derived.Test.YtfnbehijnmbhjaaDoorD10Writ
import Derived.Test.YtfnbehijnmbhjaaDoorU10All
import Derived.Test.YtfnbehijnmbhjaaDoorS10Same
import Derived.Test.YtfnbehijnmbhjaaDoorW10Laid
import Derived.ChangeMaps
namespace Go.Proofs.YtfnbehijnmbhjaaDoor
set_option linter.unusedVariables false
set_option linter.unusedSimpArgs false
set_option maxRecDepth 10000
open Go.ChangeShapes Go.WideShapes Go.ChangeAt Go.RowKit

set_option maxHeartbeats 2000000 in
theorem rwritten_long (A : Option Addr) (c : Nat) (xs : List Rw) (rem : ByteArray) (hm : xs.length ≤ 9223372036854775807) (h : longR xs = true ∨ 500 < rem.size) (w : World) (hR : RwRow w w.heap.size A xs) (hT : TabU w) :
    Calls Tryd.prog 7 #[.slice A xs.length c, .string rem] w (Tells (.bool true) w.heap.size w) := by
  have cA := fun u hu => awake10_any u hu
  have cL := fun u hu => longR_any A c xs hm u hu
  have hh : longR xs = true ∨ (longR xs = false ∧ (500 : Int) < (rem.size : Int)) := by
    rcases h with h | h
    · exact .inl h
    · cases longR xs with
      | true => exact .inl rfl
      | false => exact .inr ⟨rfl, by omega⟩
  clear h
  generalize longR xs = L at *
  rcases hh with rfl | ⟨rfl, hh⟩
  · go_enter Tryd.func7, Tryd.ntmps7
    go_wp2_with (first
      | (go_at_call 23; refine (cA _ hT).mono ?_; rintro e w1 ⟨rfl, j1⟩; have hR1 := (hR.call j1).more j1.size)
      | (go_at_call 18; refine (cL _ hR1).mono ?_; rintro e w2 ⟨rfl, rfl⟩)
      | fail)
    go_ret
    exact ⟨rfl, j1⟩
  · go_enter Tryd.func7, Tryd.ntmps7
    go_wp2_with (first
      | (go_at_call 23; refine (cA _ hT).mono ?_; rintro e w1 ⟨rfl, j1⟩; have hR1 := (hR.call j1).more j1.size)
      | (go_at_call 18; refine (cL _ hR1).mono ?_; rintro e w2 ⟨rfl, rfl⟩)
      | fail)
    go_ret
    exact ⟨rfl, j1⟩

set_option maxRecDepth 100000 in
set_option maxHeartbeats 8000000 in
theorem rwritten_short (A : Option Addr) (c : Nat) (xs : List Rw) (rem : ByteArray) (hx : AllRw xs) (h : longR xs = false) (hr : rem.size ≤ 500) (w : World) (hR : RwRow w w.heap.size A xs) (hT : TabU w) :
    Calls Tryd.prog 7 #[.slice A xs.length c, .string rem] w (Tells (.bool true) w.heap.size w) := by
  obtain ⟨hlen, hid⟩ := longR_no h
  have cA := fun u hu => awake10_any u hu
  have cL := fun u hu => longR_any A c xs (by omega) u hu
  rw [h] at cL
  have hT1 := rowsT_len xs 200 hx hid
  have hT2 : (rowsT xs).length ≤ 48200 := Nat.le_trans hT1 (Nat.le_trans (Nat.mul_le_mul_right _ hlen) (by decide))
  have cW := fun u hu hv => rowwrite_any A c xs rem (by omega) hx (fun x hx => by have := hid x hx; omega) (by omega) (by omega) u hu hv
  have hri : ¬ (500 : Int) < (rem.size : Int) := by omega
  have HZ := hideIt hid
  clear h hT1 hid
  rcases wrR_cases xs rem.data.toList with ⟨ha, hok, hw⟩ | ⟨ha, hw⟩ | ⟨ha, hw⟩
  · rw [hw] at cW
    obtain ⟨S, hS⟩ : ∃ S, bA (remL rem.data.toList ++ rowsT xs) = S := ⟨_, rfl⟩
    have hSl : S.data.toList = remL rem.data.toList ++ rowsT xs := by rw [← hS, bA_list]
    have hSs : S.size ≤ 1000000 := by
      rw [← ba_size, hSl, List.length_append]
      have : (remL rem.data.toList).length ≤ rem.size + 3 := by
        unfold remL
        split
        · simp
        · simp only [List.length_append, List.length_cons, List.length_nil, ba_size]; omega
      omega
    obtain ⟨t1, t2⟩ := written_tells xs rem.data.toList hx ha hok
    have cB := fun u hu => rowall_any S hSs u hu
    have cN := fun u => all_any S hSs u
    rw [hSl, t1, t2] at cB
    rw [hSl] at cN
    have hsp : linesL (remL rem.data.toList ++ rowsT xs) = numb 1 (hdL rem.data.toList ++ (xs.map textR ++ [[]])) := by unfold linesL; rw [split_written xs _ ha hok]
    rw [hsp] at cN
    rw [hS] at cW
    have hlen2 : xs.length ≤ 1000000000 := by omega
    obtain ⟨N, hN⟩ : ∃ N, xs.length = N := ⟨_, rfl⟩
    have hNi : (N : Int) ≤ 200 := by omega
    by_cases h0 : rem.data.toList = []
    · have es : rem = ⟨#[]⟩ := ba_ext h0
      subst es
      have hLR : ∀ (B : Nat) (u : World) (v : Value), LineRow B u v (numb 1 (hdL (⟨#[]⟩ : ByteArray).data.toList ++ (xs.map textR ++ [[]]))) → ∃ g cap, v = .slice (some ⟨g, 0, none⟩) (N + 1) cap ∧ g < u.heap.size ∧ u.cell? ⟨g, N * 4 + 1, none⟩ = some (.string ⟨#[]⟩) := fun B u v hv => by
        obtain ⟨g, cap, h1, h2, h3, h4⟩ := hv
        have e : hdL (⟨#[]⟩ : ByteArray).data.toList ++ (xs.map textR ++ [[]]) = xs.map textR ++ [[]] := rfl
        rw [e] at h1 h4
        have h5 := h4 N (N + 1, []) (by rw [numb_at, List.getElem?_append_right (by simp [hN])]; simp [hN]; omega)
        refine ⟨g, cap, ?_, h3, h5.2.1⟩
        rw [h1, numb_len]
        simp [hN]
      have hw1 : IntKind.i64.wrap ((N : Int) + 1) = ((N + 1 : Nat) : Int) := by rw [IntKind.wrap_i64]; omega
      have hw2 : IntKind.i64.wrap (((N + 1 : Nat) : Int) - 1) = (N : Int) := by rw [IntKind.wrap_i64]; omega
      have hlt : (N : Int) < ((N + 1 : Nat) : Int) := by omega
      clear hw hS hSl hSs t1 t2 hsp h0 hT2 HZ hx ha hok
      simp only [hN] at cL cW ⊢
      go_enter Tryd.func7, Tryd.ntmps7
      go_upto_region 13 with (first
        | (go_at_call 23; refine (cA _ hT).mono ?_; rintro e w1 ⟨rfl, j1⟩; have hR1 := (hR.call j1).more j1.size; have hT1 := hT.call j1)
        | (go_at_call 18; refine (cL _ hR1).mono ?_; rintro e w2 ⟨rfl, rfl⟩)
        | (go_at_call 19; refine (cW _ hR1 hT1).mono ?_; rintro e w3 ⟨rfl, j3⟩; have hR3 := (hR1.call j3).more j3.size; have hB3 := chain j1 j3)
        | fail)
      go_upto_region 16 with (first
        | (go_at_call 15; refine (cB _ (hT.call hB3)).mono ?_; rintro e w4 ⟨v4, rfl, hO4, j4⟩
           obtain ⟨A4, c4, hv4, -, hR4⟩ := rows_of_own hO4
           rw [hN] at hv4
           subst hv4
           have hB4 := chain hB3 j4
           have hR5 := (hR3.call j4).more j4.size
           have cS := rsame_any A4 A c4 c xs hlen2 w4 hR4 hR5
           rw [hN] at cS)
        | (go_at_call 17; refine cS.mono ?_; rintro e w5 ⟨rfl, j5⟩; replace hB4 := chain hB4 j5)
        | fail)
      go_upto_region 17 with (first
        | (go_at_call 25; refine (cN _).mono ?_; rintro e w6 ⟨v6, rfl, hv6, j6⟩; obtain ⟨g, cap, rfl, hgi, c0⟩ := hLR _ _ _ hv6)
        | fail)
      go_wp2
      go_ret
      exact ⟨rfl, chain hB4 j6⟩
    · have hne : (rem.toList == []) = false := by rw [Lib.toList_data]; simpa using h0
      have hne2 : rem.toList.isEmpty = false := by rw [Lib.toList_data]; cases hl : rem.data.toList with | nil => exact absurd hl h0 | cons a b => rfl
      have hhd : hdL rem.data.toList = [35 :: 32 :: rem.data.toList] := if_neg h0
      obtain ⟨T, hTT⟩ : ∃ T, bA (35 :: 32 :: rem.data.toList) = T := ⟨_, rfl⟩
      have hcat : ∀ u : World, (Op.stringOp .add ⟨#[35, 32]⟩ rem).run Tryd.prog u = .ok (.string T) u := fun u => by
        rw [run_string_add_sum u _ _ (by show 2 + rem.size ≤ _; omega)]
        rw [← hTT]
        congr 2
        all_goals (apply ba_ext; rw [ByteArray.data_append, Array.toList_append, bA_list]; rfl)
      have hLR : ∀ (B : Nat) (u : World) (v : Value), LineRow B u v (numb 1 (hdL rem.data.toList ++ (xs.map textR ++ [[]]))) → ∃ g cap, v = .slice (some ⟨g, 0, none⟩) (N + 2) cap ∧ g < u.heap.size ∧ u.cell? ⟨g, (N + 1) * 4 + 1, none⟩ = some (.string ⟨#[]⟩) ∧ u.cell? ⟨g, 1, none⟩ = some (.string T) := fun B u v hv => by
        obtain ⟨g, cap, h1, h2, h3, h4⟩ := hv
        rw [hhd] at h1 h4
        have h5 := h4 (N + 1) (N + 2, []) (by
          rw [numb_at]
          show Option.map _ ((35 :: 32 :: rem.data.toList) :: (xs.map textR ++ [[]]))[N + 1]? = _
          rw [List.getElem?_cons_succ, List.getElem?_append_right (by simp [hN])]
          simp [hN]; omega)
        have h6 := h4 0 (1, 35 :: 32 :: rem.data.toList) rfl
        refine ⟨g, cap, ?_, h3, h5.2.1, ?_⟩
        · rw [h1, numb_len]
          simp [hN]
        · have := h6.2.1
          rw [hTT] at this
          simpa using this
      have hw1 : IntKind.i64.wrap ((N : Int) + 1) = ((N + 1 : Nat) : Int) := by rw [IntKind.wrap_i64]; omega
      have hw3 : IntKind.i64.wrap (((N + 1 : Nat) : Int) + 1) = ((N + 2 : Nat) : Int) := by rw [IntKind.wrap_i64]; omega
      have hw2 : IntKind.i64.wrap (((N + 2 : Nat) : Int) - 1) = ((N + 1 : Nat) : Int) := by rw [IntKind.wrap_i64]; omega
      have hlt : ((N + 1 : Nat) : Int) < ((N + 2 : Nat) : Int) := by omega
      have hlt0 : (0 : Int) < ((N + 2 : Nat) : Int) := by omega
      clear hw hS hSl hSs t1 t2 hsp h0 hT2 HZ hx ha hok hhd hTT
      simp only [hN] at cL cW ⊢
      go_enter Tryd.func7, Tryd.ntmps7
      go_upto_region 13 with (first
        | (go_at_call 23; refine (cA _ hT).mono ?_; rintro e w1 ⟨rfl, j1⟩; have hR1 := (hR.call j1).more j1.size; have hT1 := hT.call j1)
        | (go_at_call 18; refine (cL _ hR1).mono ?_; rintro e w2 ⟨rfl, rfl⟩)
        | (go_at_call 19; refine (cW _ hR1 hT1).mono ?_; rintro e w3 ⟨rfl, j3⟩; have hR3 := (hR1.call j3).more j3.size; have hB3 := chain j1 j3)
        | fail)
      go_upto_region 16 with (first
        | (go_at_call 15; refine (cB _ (hT.call hB3)).mono ?_; rintro e w4 ⟨v4, rfl, hO4, j4⟩
           obtain ⟨A4, c4, hv4, -, hR4⟩ := rows_of_own hO4
           rw [hN] at hv4
           subst hv4
           have hB4 := chain hB3 j4
           have hR5 := (hR3.call j4).more j4.size
           have cS := rsame_any A4 A c4 c xs hlen2 w4 hR4 hR5
           rw [hN] at cS)
        | (go_at_call 17; refine cS.mono ?_; rintro e w5 ⟨rfl, j5⟩; replace hB4 := chain hB4 j5)
        | fail)
      go_upto_region 17 with (first
        | (go_at_call 25; refine (cN _).mono ?_; rintro e w6 ⟨v6, rfl, hv6, j6⟩; obtain ⟨g, cap, rfl, hgi, c0, c1⟩ := hLR _ _ _ hv6)
        | fail)
      go_wp2
      go_ret
      exact ⟨rfl, chain hB4 j6⟩
  · rw [hw] at cW
    clear hw hT2 hx
    go_enter Tryd.func7, Tryd.ntmps7
    go_upto_region 9 with (first
      | (go_at_call 23; refine (cA _ hT).mono ?_; rintro e w1 ⟨rfl, j1⟩; have hR1 := (hR.call j1).more j1.size; have hT1 := hT.call j1)
      | (go_at_call 18; refine (cL _ hR1).mono ?_; rintro e w2 ⟨rfl, rfl⟩)
      | (go_at_call 19; refine (cW _ hR1 hT1).mono ?_; rintro e w3 ⟨rfl, j3⟩; have hR3 := (hR1.call j3).more j3.size; have hB3 := chain j1 j3)
      | fail)
    go_wp2
    go_loopg [7, 8] xs.length (fun gk o i wr => ∃ k : Nat, k ≤ xs.length ∧ gk = xs.length - k ∧ i = .int .i64 k ∧ o = .bool (!allId (xs.take k)) ∧ Below w3.heap.size w3 wr)
    case atStart => exact ⟨0, by omega, rfl, rfl, rfl, Below.refl _ _⟩
    case round =>
      obtain ⟨k, hk, hgk, rfl, rfl, hb⟩ := hrel
      have HG := hideIt hgk
      clear hgk
      by_cases hlt : k < xs.length
      · obtain ⟨x, hxk⟩ : ∃ x, xs[k]? = some x := ⟨_, List.getElem?_eq_getElem hlt⟩
        have hlti : (k : Int) < (xs.length : Int) := by omega
        obtain ⟨ad, rfl, hadl, p0, p1, p2⟩ := hR3.call hb k x hxk
        have hadw : (ad.add (k * 3)).block < wr.heap.size := by rw [o10_block]; exact Nat.lt_of_lt_of_le hadl hb.size
        have hmem : x ∈ xs := List.mem_of_getElem? hxk
        have cM := fun u hu => mayId_any x.id (by have := HZ.out x hmem; omega) u hu
        have hTr := hT.call (chain hB3 hb)
        have ea : (!allId (xs.take (k + 1))) = (!allId (xs.take k) || !isId x.id.data.toList) := by
          rw [List.take_add_one, hxk]
          show (!allId (xs.take k ++ [x])) = _
          unfold allId
          rw [List.all_append]
          simp
        have HEA := hideIt ea
        generalize isId x.id.data.toList = m at *
        clear hxk hmem ea
        cases hall : allId (xs.take k) with
        | true =>
          rw [hall] at HEA
          simp only [Bool.not_true] at HEA ⊢
          go_wp2_with (first
            | (go_at_call 24; refine (cM _ hTr).mono ?_; rintro e w4 ⟨rfl, j4⟩)
            | fail)
          go_roundg (xs.length - (k + 1))
          case measure => have := HG.out; omega
          case rel => exact ⟨k + 1, by omega, rfl, by go_num, by rw [HEA.out]; simp, chain hb j4⟩
        | false =>
          rw [hall] at HEA
          simp only [Bool.not_false, Bool.true_or] at HEA ⊢
          go_wp2
          go_roundg (xs.length - (k + 1))
          case measure => have := HG.out; omega
          case rel => exact ⟨k + 1, by omega, rfl, by go_num, by rw [HEA.out], hb⟩
      · have e : k = xs.length := by omega
        subst e
        rw [List.take_length, ha]
        simp only [Bool.not_true, Bool.not_false]
        go_wp2
        go_ret
        exact ⟨rfl, chain hB3 hb⟩
  · rw [hw] at cW
    clear hw hT2 hx
    go_enter Tryd.func7, Tryd.ntmps7
    go_upto_region 9 with (first
      | (go_at_call 23; refine (cA _ hT).mono ?_; rintro e w1 ⟨rfl, j1⟩; have hR1 := (hR.call j1).more j1.size; have hT1 := hT.call j1)
      | (go_at_call 18; refine (cL _ hR1).mono ?_; rintro e w2 ⟨rfl, rfl⟩)
      | (go_at_call 19; refine (cW _ hR1 hT1).mono ?_; rintro e w3 ⟨rfl, j3⟩; have hR3 := (hR1.call j3).more j3.size; have hB3 := chain j1 j3)
      | fail)
    go_wp2
    go_loopg [7, 8] xs.length (fun gk o i wr => ∃ k : Nat, k ≤ xs.length ∧ gk = xs.length - k ∧ i = .int .i64 k ∧ o = .bool (!allId (xs.take k)) ∧ Below w3.heap.size w3 wr)
    case atStart => exact ⟨0, by omega, rfl, rfl, rfl, Below.refl _ _⟩
    case round =>
      obtain ⟨k, hk, hgk, rfl, rfl, hb⟩ := hrel
      have HG := hideIt hgk
      clear hgk
      by_cases hlt : k < xs.length
      · obtain ⟨x, hxk⟩ : ∃ x, xs[k]? = some x := ⟨_, List.getElem?_eq_getElem hlt⟩
        have hlti : (k : Int) < (xs.length : Int) := by omega
        obtain ⟨ad, rfl, hadl, p0, p1, p2⟩ := hR3.call hb k x hxk
        have hadw : (ad.add (k * 3)).block < wr.heap.size := by rw [o10_block]; exact Nat.lt_of_lt_of_le hadl hb.size
        have hmem : x ∈ xs := List.mem_of_getElem? hxk
        have cM := fun u hu => mayId_any x.id (by have := HZ.out x hmem; omega) u hu
        have hTr := hT.call (chain hB3 hb)
        have ea : (!allId (xs.take (k + 1))) = (!allId (xs.take k) || !isId x.id.data.toList) := by
          rw [List.take_add_one, hxk]
          show (!allId (xs.take k ++ [x])) = _
          unfold allId
          rw [List.all_append]
          simp
        have HEA := hideIt ea
        generalize isId x.id.data.toList = m at *
        clear hxk hmem ea
        cases hall : allId (xs.take k) with
        | true =>
          rw [hall] at HEA
          simp only [Bool.not_true] at HEA ⊢
          go_wp2_with (first
            | (go_at_call 24; refine (cM _ hTr).mono ?_; rintro e w4 ⟨rfl, j4⟩)
            | fail)
          go_roundg (xs.length - (k + 1))
          case measure => have := HG.out; omega
          case rel => exact ⟨k + 1, by omega, rfl, by go_num, by rw [HEA.out]; simp, chain hb j4⟩
        | false =>
          rw [hall] at HEA
          simp only [Bool.not_false, Bool.true_or] at HEA ⊢
          go_wp2
          go_roundg (xs.length - (k + 1))
          case measure => have := HG.out; omega
          case rel => exact ⟨k + 1, by omega, rfl, by go_num, by rw [HEA.out], hb⟩
      · have e : k = xs.length := by omega
        subst e
        rw [List.take_length, ha]
        simp only [Bool.not_true, Bool.not_false]
        go_wp2
        go_ret
        exact ⟨rfl, chain hB3 hb⟩

theorem rowWritten_core (H : Type) (enc : TypeId × Value → H) (W : World) (base : Nat) (args : Array Value) (ds gs : List (DataW H)) (before : List MemPlace)
    (hval : ∀ (j : Nat) t v, Tryd.f7.params[j]? = some t → args[j]? = some v → Value.okWide Tryd.prog W .any base t v)
    (hW : DataW.Whole enc Tryd.prog Tryd.f7.params.toList Rows.rowWrittenSpec.vars false W args.toList ds gs before) (hT : TabU W) :
    gs = [] ∧ ds.length = 2 ∧ Calls Tryd.prog 7 args W (Tells (.bool true) W.heap.size W) := by
  obtain ⟨p, q, hA, hV, -, -, -⟩ := hW
  obtain ⟨rfl, rfl⟩ := trodVars_none hV
  have hA : DataW.TrodAll enc Tryd.prog W 0 (fun _ => true) true Tryd.f7.params.toList args.toList ds p := hA
  rw [Tryd.params7] at hA hval
  obtain ⟨v0, vs0, d0, ds0, p0, ps0, e0, rfl, -, h0, hA⟩ := trodAll_cons hA
  obtain ⟨v1, vs1, d1, ds1, p1, ps1, rfl, rfl, -, h1, hA⟩ := trodAll_cons hA
  obtain ⟨rfl, rfl, rfl⟩ := trodAll_nil hA
  obtain rfl : args = #[v0, v1] := Array.ext' e0
  obtain ⟨A, c, xs, rfl, z1, -, -, z2, z3⟩ := open_rows (hval 0 41 v0 rfl rfl) h0
  obtain ⟨s, rfl, rfl, rfl, z5⟩ := Go.ChangeMaps.open_string Tryd.underlying9 (hval 1 9 v1 rfl rfl) h1
  refine ⟨rfl, rfl, ?_⟩
  by_cases h : longR xs = true ∨ 500 < s.size
  · exact rwritten_long A c xs s z1 h W z3 hT
  · exact rwritten_short A c xs s z2 (by cases hq : longR xs with | false => rfl | true => exact absurd (Or.inl hq) h) (by omega) W z3 hT

set_option maxRecDepth 100000 in
theorem rowWritten_lifted (os : Os) (started : os.Started) (H : Type) (enc : TypeId × Value → H) :
    ReturnsInHanded {} Tryd.checked os 7 .any (fun w args => (Rows.rowWrittenSpec.pre enc Tryd.prog Tryd.f7 [] false w args ∧ laidMetH Tryd.prog laidU w) ∧ sizedMet enc Tryd.prog Tryd.f7 (OpenSpec.ofChange Rows.rowWrittenSpec) false w args)
      (Rows.rowWrittenSpec.post enc Tryd.prog Tryd.f7 false true false false) := by
  refine returnsInHanded_of_change_and (C := Tryd.checked) (X := fun w _ => laidMetH Tryd.prog laidU w) (fun _ _ _ hh h => h.of_heap hh) own_knob started (by kernel_rfl) Tryd.func7
    (ChangeSpec.witness_shaped (enc := enc) (C := Tryd.checked) (os := os) (X := fun w _ => laidMetH Tryd.prog laidU w) false (World.laidAll Tryd.prog os laidU) #[.slice none 0 0, .string ⟨#[]⟩] 8 (World.laidAll_os _ _ _) (World.shaped_of_ZipB (by kernel_rfl) (by kernel_rfl)) (by kernel_rfl) (by kernel_rfl) (by kernel_rfl) (met_U os _)) ?_
  intro W base args ds gs before hval0 hW _ hwt hL _
  have hval : ∀ (j : Nat) t v, Tryd.f7.params[j]? = some t → args[j]? = some v → Value.okWide Tryd.prog W .any base t v := hval0
  obtain ⟨hg, hlen, hc⟩ := rowWritten_core H enc W base args ds gs before hval hW (tab_of_laidU hL)
  subst hg
  have hr : (Tryd.f7.params.toList.all fun t => Tryd.prog.readableRec t && decide (t < Tryd.prog.types.size)) = true := by kernel_rfl
  have hread : ∀ t ∈ Tryd.f7.params.toList, Tryd.prog.readableRec t = true ∧ t < Tryd.prog.types.size := fun t ht => by
    have h := List.all_eq_true.1 hr t ht
    rw [Bool.and_eq_true, decide_eq_true_eq] at h
    exact h
  refine hc.mono fun e W' ⟨he, hb⟩ => ?_
  subst he
  match ds, hlen with
  | [d0, d1], _ => exact ⟨_, rfl, law_post laid_out Tryd.underlying4 rfl hread rfl hW rfl rfl rfl hb⟩

theorem rowWritten_holds : Rows.RowWrittenSaid :=
  OpenClaim.holds_of_wide 7 Tryd.f7 rfl rfl rfl rfl rfl rfl rfl ⟨rfl, rfl, rfl, rfl, rfl⟩ rfl rfl rfl rfl rfl (by kernel_rfl) Tryd.func7 (by kernel_rfl)
    (of_decide_eq_true (by kernel_rfl)) (by unfold Func.isWrapper; first | (rw [if_pos (by decide +kernel)]; kernel_rfl) | (rw [if_neg (by decide +kernel)]; exact ⟨rfl, rfl⟩))
    (fun os started H enc _ => rowWritten_lifted os started H enc)

theorem rowWritten_card : Rows.RowWrittenCardSaid :=
  Claim7.holds_tied_plain_at .later [] [.data, .pinned] true _ false
    rowWritten_holds (fun _ h => by cases h) (by kernel_rfl) (fun _ h => by cases h) rowWritten_row_tie rfl ⟨rfl, rfl⟩ (by kernel_rfl) rfl
    (fun f fn hf hfn => by
      obtain rfl : f = 7 := Option.some.inj ((show Tryd.prog.funcNamed "paymaster/paymasterlaw10.RowWritten" = some 7 by kernel_rfl).symm.trans hf) |>.symm
      obtain rfl : fn = Tryd.f7 := (Option.some.inj (Tryd.func7.symm.trans hfn)).symm
      exact ⟨by kernel_rfl, fun j t ht => by
        have hm : t ∈ Tryd.f7.params.toList := by simpa using Array.mem_of_getElem? ht
        have hall : (Tryd.f7.params.toList.all fun u => !Tryd.prog.wantsStandIn u) = true := by kernel_rfl
        exact (show Tryd.prog.wantsStandIn t = false by simpa using List.all_eq_true.1 hall t hm)⟩)
    (by kernel_rfl)

end Go.Proofs.YtfnbehijnmbhjaaDoor
