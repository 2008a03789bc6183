/-
  paymasterref10's Write, walked.
-/
import Derived.Test.YtfnbehijnmbhjaaDoorR10Row
import Derived.Test.YtfnbehijnmbhjaaDoorM9Ref
import Derived.Test.YtfnbehijnmbhjaaDoorD10Write
import Derived.Test.YtfnbehijnmbhjaaDoorT10Row
import Derived.Deep.Cut
namespace Go.Proofs.YtfnbehijnmbhjaaDoor
set_option linter.unusedVariables false
set_option linter.unusedSimpArgs false
set_option maxRecDepth 10000
open Go.RowKit Go.Lib

set_option maxRecDepth 100000 in
set_option maxHeartbeats 4000000 in
theorem rrowwrite_any (A : Option Addr) (c : Nat) (xs : List Rw) (rem : ByteArray) (hm : xs.length ≤ 1000000000) (hx : AllRw xs) (hz : ∀ x ∈ xs, x.id.size ≤ 1000000) (hl : (rowsT xs).length ≤ 1000000) (hr : rem.size ≤ 900000) (w : World) (hR : RwRow w w.heap.size A xs) :
    Calls Tryd.prog 20 #[.slice A xs.length c, .string rem] w (Tells (.tuple #[.string (wrR xs rem.data.toList).1, .int .i64 (wrR xs rem.data.toList).2]) w.heap.size w) := by
  obtain ⟨R, hRR⟩ : ∃ R, wrR xs rem.data.toList = R := ⟨_, rfl⟩
  rw [hRR]
  obtain ⟨l, hlr⟩ : ∃ l, rem.data.toList = l := ⟨_, rfl⟩
  have hll : l.length = rem.size := by rw [← hlr, ba_size]
  rw [hlr] at hRR
  have cN := fun u => rrunes_any rem (by omega) u
  have cS := fun u => rsplit_any rem (by omega) u
  rw [hlr] at cN cS
  have HR := hideIt hRR
  have HL := hideIt hl
  have HZ := hideIt hz
  have HX := hideIt hx
  obtain ⟨S0, hS0⟩ : ∃ S0, bA (remL l) = S0 := ⟨_, rfl⟩
  have hrl : (remL l).length ≤ l.length + 3 := by
    unfold remL
    split
    · simp
    · simp only [List.length_append, List.length_cons, List.length_nil]; omega
  have HS0 := hideIt hS0
  obtain ⟨b0, hb0⟩ : ∃ b0, rem.toList.isEmpty = b0 := ⟨_, rfl⟩
  have hb1 : (rem.toList == []) = b0 := by rw [← hb0]; cases rem.toList <;> rfl
  have hb2 : b0 = true ↔ l = [] := by rw [← hb0, Lib.toList_data, hlr]; cases l <;> simp
  have hstart : (b0 = true → S0 = ⟨#[]⟩) ∧ (b0 = false → ∃ T, (∀ u : World, (Op.stringOp .add ⟨#[35, 32]⟩ rem).run Tryd.prog u = .ok (.string T) u) ∧ ∀ u : World, (Op.stringOp .add T ⟨#[10]⟩).run Tryd.prog u = .ok (.string S0) u) := by
    refine ⟨fun h0 => by rw [← hS0, hb2.1 h0]; rfl, fun hf => ?_⟩
    have h0 : l ≠ [] := fun e => by rw [hb2.2 e] at hf; cases hf
    refine ⟨bA (35 :: 32 :: l), fun u => ?_, fun u => ?_⟩
    · rw [run_string_add_sum u _ _ (by show 2 + rem.size ≤ _; omega)]
      congr 2
      all_goals (apply ba_ext; rw [ByteArray.data_append, Array.toList_append, hlr, bA_list]; rfl)
    · rw [run_string_add_sum u _ _ (by rw [bA_size]; show (35 :: 32 :: l).length + 1 ≤ _; simp only [List.length_cons]; omega)]
      rw [← hS0]
      have eZ : remL l = 35 :: 32 :: l ++ [10] := if_neg h0
      rw [eZ]
      congr 2
      all_goals (apply ba_ext; rw [ByteArray.data_append, Array.toList_append, bA_list, bA_list])
  have HST := hideIt hstart
  clear hRR hl hz hx hS0 hlr hstart hb2
  go_enter Tryd.func20, Tryd.ntmps20
  go_upto_if 13 with fail
  go_cut [6] from 12 (fun s6 wx => s6 = .string S0 ∧ wx = w)
  case first =>
    cases b0 with
    | true =>
      have E2 := hideIt (HST.out.1 rfl)
      go_wp2_with fail
      go_meet
      exact ⟨by rw [E2.out], rfl⟩
    | false =>
      obtain ⟨T, e3, e4⟩ := HST.out.2 rfl
      go_wp2_with fail
      go_meet
      exact ⟨rfl, rfl⟩
  case rest =>
    obtain ⟨rfl, hwc⟩ := hcut
    have hwc' := hwc.symm
    clear hwc
    subst hwc'
    go_wp2
    go_loopg [6, 7] xs.length (fun gk s i wr => ∃ (k : Nat) (S : ByteArray), k ≤ xs.length ∧ gk = xs.length - k ∧ i = .int .i64 k ∧ s = .string S ∧ Below w.heap.size w wr ∧ Hid (bA (remL l ++ rowsT (xs.take k)) = S) ∧ Hid (allId (xs.take k) = true))
    case atStart => exact ⟨0, S0, by omega, rfl, rfl, rfl, Below.refl _ _, by show bA (remL l ++ rowsT []) = S0; rw [← HS0.out]; simp [rowsT], rfl⟩
    case round =>
      obtain ⟨k, S, hk, hgk, rfl, rfl, hb, hS, hid⟩ := hrel
      have HG := hideIt hgk
      clear hgk
      by_cases hlt : k < xs.length
      · obtain ⟨x, hxk⟩ : ∃ x, xs[k]? = some x := ⟨_, List.getElem?_eq_getElem hlt⟩
        have htk : xs.take (k + 1) = xs.take k ++ [x] := by rw [List.take_add_one, hxk]; rfl
        have hle := rowsT_take xs (k + 1)
        have hle2 := HL.out
        have hmem : x ∈ xs := List.mem_of_getElem? hxk
        have cT := fun u => rrowtext_any x (HX.out x hmem) (HZ.out x hmem) u
        cases hi : isId x.id.data.toList with
        | true =>
          have e1 : rowsT (xs.take (k + 1)) = rowsT (xs.take k) ++ (textR x ++ [10]) := by rw [htk, rowsT_snoc]
          have e2 : allId (xs.take (k + 1)) = true := by
            rw [htk]
            unfold allId
            rw [List.all_append]
            have := hid.out
            unfold allId at this
            rw [this]
            simp [hi]
          have et : tolR x = (bA (textR x), 0) := if_pos hi
          rw [et] at cT
          obtain ⟨T, hT⟩ : ∃ T, bA (textR x) = T := ⟨_, rfl⟩
          simp only [hT] at cT
          obtain ⟨U, hU⟩ : ∃ U, bA (remL l ++ rowsT (xs.take k) ++ textR x) = U := ⟨_, rfl⟩
          obtain ⟨V, hV⟩ : ∃ V, bA (remL l ++ rowsT (xs.take (k + 1))) = V := ⟨_, rfl⟩
          rw [e1, List.length_append, List.length_append] at hle
          simp only [List.length_singleton] at hle
          have hSs : S.size = (remL l).length + (rowsT (xs.take k)).length := by rw [← hS.out, bA_size, List.length_append]
          have hTs : T.size = (textR x).length := by rw [← hT, bA_size]
          have hUs : U.size = (remL l).length + (rowsT (xs.take k)).length + (textR x).length := by rw [← hU, bA_size, List.length_append, List.length_append]
          have hadd1 : ∀ u : World, (Op.stringOp .add S T).run Tryd.prog u = .ok (.string U) u := fun u => by
            rw [run_string_add_sum u _ _ (by omega), ← hU, ← hS.out, ← hT]
            congr 2
            all_goals (apply ba_ext; rw [ByteArray.data_append, Array.toList_append, bA_list, bA_list, bA_list])
          have hadd2 : ∀ u : World, (Op.stringOp .add U ⟨#[10]⟩).run Tryd.prog u = .ok (.string V) u := fun u => by
            rw [run_string_add_sum u _ _ (by show U.size + 1 ≤ _; omega), ← hV, ← hU, e1]
            congr 2
            all_goals (apply ba_ext; rw [ByteArray.data_append, Array.toList_append, bA_list, bA_list]; simp)
          have HV := hideIt hV
          have HI := hideIt e2
          have hlti : (k : Int) < (xs.length : Int) := by omega
          obtain ⟨ad, rfl, hadl, p0, p1, p2⟩ := hR.call hb k x hxk
          have hadw : (ad.add (k * 3)).block < wr.heap.size := by rw [o10_block]; exact Nat.lt_of_lt_of_le hadl hb.size
          simp only [Rw.val] at cT
          clear e1 e2 hle hle2 htk hxk hmem et hT hU hV hSs hTs hUs hid hS hi hll hrl
          go_wp2_with (first
            | (go_at_call 13; refine (cT _).mono ?_; rintro e w2 ⟨rfl, j2⟩)
            | fail)
          go_roundg (xs.length - (k + 1))
          case measure => have := HG.out; omega
          case rel => exact ⟨k + 1, V, by omega, rfl, by go_num, rfl, chain hb j2, HV, HI⟩
        | false =>
          have et : tolR x = (⟨#[]⟩, 101) := if_neg (by rw [hi]; decide)
          rw [et] at cT
          have ha : allId xs = false := by
            unfold allId
            rw [List.all_eq_false]
            exact ⟨x, hmem, by rw [hi]; decide⟩
          have e : R = (⟨#[]⟩, 101) := by
            rw [← HR.out]
            unfold wrR
            rw [ha, if_neg (by decide)]
          subst e
          have hlti : (k : Int) < (xs.length : Int) := by omega
          obtain ⟨ad, rfl, hadl, p0, p1, p2⟩ := hR.call hb k x hxk
          have hadw : (ad.add (k * 3)).block < wr.heap.size := by rw [o10_block]; exact Nat.lt_of_lt_of_le hadl hb.size
          simp only [Rw.val] at cT
          clear hle hle2 htk hxk hmem et hid HR ha hS hi hll hrl
          go_wp2_with (first
            | (go_at_call 13; refine (cT _).mono ?_; rintro e w2 ⟨rfl, j2⟩)
            | fail)
          go_ret2
          exact ⟨rfl, chain hb j2⟩
      · have e : k = xs.length := by omega
        subst e
        rw [List.take_length] at hS hid
        have hlti : ¬ (xs.length : Int) < (xs.length : Int) := by omega
        have e : R = if remOk l = true then (bA (remL l ++ rowsT xs), 0) else (⟨#[]⟩, 91) := by
          rw [← HR.out]
          exact if_pos hid.out
        rw [hS.out] at e
        have hsm := split_many l
        obtain ⟨m, hmm⟩ : ∃ m, (splitL l).length = m := ⟨_, rfl⟩
        rw [hmm] at hsm cS
        unfold remOk at e
        cases hrn : runesL l with
        | none =>
          rw [hrn] at e cN
          rw [if_neg (by simp)] at e
          subst e
          go_wp2_with (first
            | (go_at_call 40; refine (cN _).mono ?_; rintro e w2 ⟨v, er, rfl, ⟨rfl, rfl⟩, j2⟩)
            | fail)
          go_ret2
          exact ⟨rfl, chain hb j2⟩
        | some r =>
          rw [hrn] at e cN
          by_cases h78 : r.length ≤ 78
          · have h78i : ¬ (78 : Int) < (r.length : Int) := by omega
            cases h10 : has10 l with
            | true =>
              have hm1 : (1 : Int) < (m : Int) := by have := hsm.2 h10; omega
              rw [h10, if_neg (by simp)] at e
              subst e
              clear HR hsm hmm h10
              go_wp2_with (first
                | (go_at_call 40; refine (cN _).mono ?_; rintro e w2 ⟨v, er, rfl, ⟨rfl, hO⟩, j2⟩; obtain ⟨a2, c2, rfl⟩ := slice_of_own hO)
                | (go_at_call 35; refine (cS _).mono ?_; rintro e w3 ⟨v3, rfl, hO3, j3⟩; obtain ⟨a3, c3, rfl⟩ := slice_of_own hO3)
                | fail)
              go_ret2
              exact ⟨rfl, chain (chain hb j2) j3⟩
            | false =>
              have hm1 : ¬ (1 : Int) < (m : Int) := by
                have h := mt hsm.1 (by rw [h10]; simp)
                omega
              rw [h10, if_pos (by simp [h78])] at e
              subst e
              clear HR hsm hmm h10
              go_wp2_with (first
                | (go_at_call 40; refine (cN _).mono ?_; rintro e w2 ⟨v, er, rfl, ⟨rfl, hO⟩, j2⟩; obtain ⟨a2, c2, rfl⟩ := slice_of_own hO)
                | (go_at_call 35; refine (cS _).mono ?_; rintro e w3 ⟨v3, rfl, hO3, j3⟩; obtain ⟨a3, c3, rfl⟩ := slice_of_own hO3)
                | fail)
              go_ret2
              exact ⟨rfl, chain (chain hb j2) j3⟩
          · have h78i : (78 : Int) < (r.length : Int) := by omega
            rw [if_neg (by simp; omega)] at e
            subst e
            clear HR hsm hmm
            go_wp2_with (first
              | (go_at_call 40; refine (cN _).mono ?_; rintro e w2 ⟨v, er, rfl, ⟨rfl, hO⟩, j2⟩; obtain ⟨a2, c2, rfl⟩ := slice_of_own hO)
              | fail)
            go_ret2
            exact ⟨rfl, chain hb j2⟩
end Go.Proofs.YtfnbehijnmbhjaaDoor
