/- Several of my texts, laid as one. -/
import Derived.Test.YtmflhodiibjpnaaGreatDoorM13Who
import Derived.Test.YtmflhodiibjpnaaGreatDoorM13Dec
import Derived.Test.YtmflhodiibjpnaaGreatDoorM13Wr
/-
  Plain words: what the program tells, and reads, of roots and leaves is what the document does.
-/
namespace Go.Proofs.YtmflhodiibjpnaaGreatDoor
set_option linter.unusedVariables false
set_option linter.unusedSimpArgs false
set_option maxRecDepth 10000
open Go.RowKit

theorem whole_fit {l : List UInt8} (h : l.length ≤ 1048576) : wholeO l = (ofL l, 0) := by unfold wholeO; rw [if_neg (by omega)]
theorem tell_rt (x : RtP) : tellP 82 rtY wrR x = rtO x := by
  unfold tellP rtO wrR
  cases x.long <;> rfl
theorem tell_lf (x : Lf) : tellP 76 lfY wrLf x = lfO x := by
  unfold tellP lfO wrLf
  cases x.may <;> rfl
theorem take_rt (st : StR) : takeG rtP wrR RtP.zero st = rtG st := by
  have h1 : (ndG st).1.hash.size ≤ 32 := tV_size 32 st
  have h2 := (lV_word 8 (ndG st).2).1
  have hw : wrR (rtP st).1 = 0 ↔ (numG (ndG st).2).1 ≤ 63 := by
    unfold wrR RtP.long rtP
    simp only
    rw [decide_eq_false (show ¬ 32 < (ndG st).1.hash.size by omega), Bool.false_or]
    change wrLong (decide (min (lV (opN 8 (ndG st).2)) 64 < 0) || decide (63 < min (lV (opN 8 (ndG st).2)) 64)) = 0 ↔ lV (opN 8 (ndG st).2) ≤ 63
    rw [decide_eq_false (show ¬ min (lV (opN 8 (ndG st).2)) 64 < 0 by omega), Bool.false_or]
    by_cases h : lV (opN 8 (ndG st).2) ≤ 63
    · rw [decide_eq_false (show ¬ 63 < min (lV (opN 8 (ndG st).2)) 64 by omega)]
      exact ⟨fun _ => h, fun _ => rfl⟩
    · rw [decide_eq_true (show 63 < min (lV (opN 8 (ndG st).2)) 64 by omega)]
      exact ⟨(fun e => by cases e), fun e => absurd e h⟩
  unfold takeG rtG
  by_cases h : (numG (ndG st).2).1 ≤ 63
  · rw [if_pos (hw.2 h), if_pos h]
    have e : (rtP st).1 = ⟨(ndG st).1.hash, (ndG st).1.h, (ndG st).1.l, (numG (ndG st).2).1⟩ := by
      unfold rtP
      simp only
      rw [show min (numG (ndG st).2).1 64 = (numG (ndG st).2).1 by omega]
    rw [e]
    rfl
  · rw [if_neg (fun e => h (hw.1 e)), if_neg h, if_pos rfl, if_pos rfl]
theorem rtY_fit (x : RtP) (h : x.hash.size ≤ 32) : (82 :: rtY x).length ≤ 1048576 := by
  unfold rtY
  rw [List.length_cons, List.length_append]
  have h1 := ndY_len ⟨x.hash, x.h, x.l⟩
  simp only at h1
  have h2 := wideL_len 0 (x.n % 18446744073709551616)
  omega
theorem read_rt (s : ByteArray) : readO rtG rtO RtP.zero s = readT 82 (takeG rtP wrR RtP.zero) RtP.zero s := by
  rw [show takeG rtP wrR RtP.zero = rtG from funext take_rt]
  refine readT_eq rtC rtC (fun x hx => ⟨hx, ?_⟩) (fun x hx ht => rt_tells x s hx.1.2 ht)
  have hl : x.long = false := by
    unfold RtP.long
    rw [decide_eq_false (by have := hx.1.1; omega), decide_eq_false (by have := hx.2.1; omega), decide_eq_false (by have := hx.2.2; omega)]
    rfl
  unfold rtO
  rw [hl]
  exact whole_fit (rtY_fit x hx.1.1)
theorem wrLf_ok {x : Lf} : wrLf x = 0 ↔ x.may = true := by
  unfold wrLf
  cases x.may <;> simp
theorem lfY_fit {x : Lf} (h : x.id.size ≤ 96 ∧ x.salt.size ≤ 32) : (lfY x).length ≤ 188 := by
  have := lfY_len x
  omega
theorem read_lf (s : ByteArray) : readO lfG lfO Lf.zero s = readT 76 (takeG lfP wrLf Lf.zero) Lf.zero s := by
  refine readT_eq lfC (takeC lfPC) (fun x hx => ⟨⟨trivial, by have := hx.1.2.1; omega, by have := hx.1.2.2.1; omega, hx.1.2.2.2⟩, ?_⟩) (fun x hx ht => ?_)
  · unfold lfO
    rw [if_pos (wrLf_ok.1 hx.2)]
    refine whole_fit ?_
    have := lfY_fit (x := x) ⟨hx.1.2.1, hx.1.2.2.1⟩
    rw [List.length_cons]
    omega
  · have h2 := (lf_tells x s hx.2.2.2 ht).2
    have hm : x.may = true := by
      unfold lfO at ht
      split at ht
      · next h => exact h
      · injection ht with _ h; cases h
    have h3 := may_sizes hm
    exact ⟨⟨⟨trivial, h3.1, h3.2, hx.2.2.2⟩, wrLf_ok.2 hm⟩, h2⟩
end Go.Proofs.YtmflhodiibjpnaaGreatDoor
/-
  Plain words: what the program tells, and reads, of entries, ranges, diffs is what the document does.
-/
namespace Go.Proofs.YtmflhodiibjpnaaGreatDoor
set_option linter.unusedVariables false
set_option linter.unusedSimpArgs false
set_option maxRecDepth 10000
open Go.RowKit

theorem wrLong_ok {b : Bool} : wrLong b = 0 ↔ b = false := by cases b <;> simp [wrLong]
theorem wrE_told (x : EnP) : wrE x = if x.leaf.may then wrLong (longN x.sides) else 130 := by
  unfold wrE wrLf
  rw [wrNs_long]
  cases x.leaf.may <;> cases longN x.sides <;> rfl
theorem wrG_told (x : RgP) : wrG x = wrLong (longN x.ins || longN x.outs) := by
  unfold wrG
  rw [wrNs_long, wrNs_long]
  cases longN x.ins <;> cases longN x.outs <;> rfl
theorem wrD_told (x : DfP) : wrD x = if badC x.chs then 130 else wrLong (decide (2048 < x.chs.length) || longN x.fr) := by
  unfold wrD
  rw [wrCs_told, wrNs_long]
  cases badC x.chs <;> cases decide (2048 < x.chs.length) <;> cases longN x.fr <;> rfl
theorem tell_en (x : EnP) : tellP 69 enY wrE x = enO x := by
  unfold tellP enO
  rw [wrE_told]
  cases x.leaf.may <;> cases longN x.sides <;> rfl
theorem tell_rg (x : RgP) : tellP 71 rgY wrG x = rgO x := by
  unfold tellP rgO
  rw [wrG_told]
  cases longN x.ins <;> cases longN x.outs <;> rfl
theorem tell_df (x : DfP) : tellP 68 dfY wrD x = dfO x := by
  unfold tellP dfO
  rw [wrD_told]
  cases badC x.chs <;> cases decide (2048 < x.chs.length) <;> cases longN x.fr <;> rfl
theorem rows_len {α : Type} {e : α → List UInt8} {B : Nat} {l : List α} (hl : l.length ≤ 2048) (h : ∀ x ∈ l, (e x).length ≤ B) : (rowY e l).length ≤ 17 + 2048 * B := by
  unfold rowY
  rw [List.length_append]
  have h1 := wideL_len 0 (l.length : Int)
  have h2 := flat_few (e := e) (B := B) l h
  have h3 : l.length * B ≤ 2048 * B := Nat.mul_le_mul_right _ hl
  omega
theorem nds_len {l : List Nd} (hl : l.length ≤ 2048) (h : ∀ x ∈ l, x.hash.size ≤ 32 ∧ x.words) : (rowY ndY l).length ≤ 17 + 2048 * 66 :=
  rows_len hl fun x hx => by have := ndY_len x; have := (h x hx).1; omega
theorem not_long {l : List Nd} (hl : l.length ≤ 2048) (h : ∀ x ∈ l, x.hash.size ≤ 32 ∧ x.words) : longN l = false := by
  unfold longN
  rw [decide_eq_false (by omega), Bool.false_or, List.any_eq_false]
  intro x hx
  have := (h x hx).1
  simp
  omega
theorem read_en (s : ByteArray) : readO enG enO EnP.zero s = readT 69 (takeG enP wrE EnP.zero) EnP.zero s := by
  refine readT_eq enC (takeC enPC) (fun x hx => ⟨⟨⟨trivial, by have := hx.1.1.2.1; omega, by have := hx.1.1.2.2.1; omega, hx.1.1.2.2.2⟩, hx.1.2⟩, ?_⟩) (fun x hx ht => ?_)
  · obtain ⟨⟨⟨-, k1, k2, k3⟩, k4, k5, k6⟩, k7⟩ := hx
    rw [wrE_told] at k7
    rw [← tell_en]
    unfold tellP
    rw [wrE_told, if_pos k7]
    refine whole_fit ?_
    have h1 := lfY_fit (x := x.leaf) ⟨k1, k2⟩
    have h2 := wideL_len 0 x.pos
    have h3 := nds_len k5 k6
    unfold enY
    rw [List.length_cons, List.length_append, List.length_append]
    omega
  · have h2 := en_tells x s ⟨hx.1.2.2.2, hx.2.1, fun y hy => (hx.2.2.2 y hy).2⟩ ht
    have hw : wrE x = 0 := by
      rw [← tell_en] at ht
      unfold tellP at ht
      by_cases h : wrE x = 0
      · exact h
      · rw [if_neg h] at ht
        exact absurd (Prod.ext_iff.1 ht).2 h
    have hm : x.leaf.may = true := by
      rw [wrE_told] at hw
      cases hm : x.leaf.may with
      | true => rfl
      | false => rw [hm] at hw; cases hw
    have h3 := may_sizes hm
    exact ⟨⟨⟨⟨trivial, h3.1, h3.2, hx.1.2.2.2⟩, hx.2⟩, hw⟩, h2.2⟩
theorem read_rg (s : ByteArray) : readO rgG rgO RgP.zero s = readT 71 (takeG rgG wrG RgP.zero) RgP.zero s := by
  refine readT_eq rgC (takeC rgC) (fun x hx => ⟨hx.1, ?_⟩) (fun x hx ht => ?_)
  · obtain ⟨⟨k1, k2, k3, k4⟩, k7⟩ := hx
    rw [← tell_rg]
    unfold tellP
    rw [if_pos k7]
    refine whole_fit ?_
    have h1 := wideL_len 0 x.a
    have h2 := wideL_len 0 x.b
    have h3 := nds_len k3.1 k3.2
    have h4 := nds_len k4.1 k4.2
    unfold rgY
    rw [List.length_cons, List.length_append, List.length_append, List.length_append]
    omega
  · have h2 := rg_tells x s ⟨hx.1, hx.2.1, fun y hy => (hx.2.2.1.2 y hy).2, fun y hy => (hx.2.2.2.2 y hy).2⟩ ht
    have hw : wrG x = 0 := by
      rw [← tell_rg] at ht
      unfold tellP at ht
      by_cases h : wrG x = 0
      · exact h
      · rw [if_neg h] at ht
        exact absurd (Prod.ext_iff.1 ht).2 h
    exact ⟨⟨hx, hw⟩, h2.2⟩
theorem read_df (s : ByteArray) : readO dfG dfO DfP.zero s = readT 68 (takeG dfP wrD DfP.zero) DfP.zero s := by
  refine readT_eq dfC (takeC dfPC) (fun x hx => ⟨⟨⟨hx.1.1.1, fun y hy => ?_⟩, hx.1.2⟩, ?_⟩) (fun x hx ht => ?_)
  · obtain ⟨a1, ⟨-, a2, a3, a4⟩, -, a5, a6, a7⟩ := hx.1.1.2 y hy
    exact ⟨a1, ⟨trivial, by omega, by omega, a4⟩, trivial, by omega, by omega, a7⟩
  · obtain ⟨⟨⟨k1, k2⟩, k3, k4⟩, k7⟩ := hx
    rw [← tell_df]
    unfold tellP
    rw [if_pos k7]
    refine whole_fit ?_
    have h1 := rows_len (e := chY) (B := 393) k1 fun y hy => by
      obtain ⟨a1, ⟨-, a2, a3, a4⟩, -, a5, a6, a7⟩ := k2 y hy
      have b1 := lfY_fit (x := y.old) ⟨a2, a3⟩
      have b2 := lfY_fit (x := y.new) ⟨a5, a6⟩
      have b3 := wideL_len 0 y.pos
      unfold chY
      rw [List.length_append, List.length_append]
      omega
    have h2 := nds_len k3 k4
    unfold dfY
    rw [List.length_cons, List.length_append]
    omega
  · have h2 := df_tells x s ⟨fun y hy => ⟨(hx.1.2 y hy).1, (hx.1.2 y hy).2.1.2.2.2, (hx.1.2 y hy).2.2.2.2.2⟩, fun y hy => (hx.2.2 y hy).2⟩ ht
    have hw : wrD x = 0 := by
      rw [← tell_df] at ht
      unfold tellP at ht
      by_cases h : wrD x = 0
      · exact h
      · rw [if_neg h] at ht
        exact absurd (Prod.ext_iff.1 ht).2 h
    have hb : badC x.chs = false := by
      rw [wrD_told] at hw
      cases hb : badC x.chs with
      | false => rfl
      | true => rw [hb] at hw; cases hw
    refine ⟨⟨⟨⟨hx.1.1, fun y hy => ?_⟩, hx.2⟩, hw⟩, h2.2⟩
    have hm : y.old.may = true ∧ y.new.may = true := by
      unfold badC at hb
      rw [List.any_eq_false] at hb
      have := hb y hy
      simpa using this
    have m1 := may_sizes hm.1
    have m2 := may_sizes hm.2
    obtain ⟨a1, ⟨-, a2, a3, a4⟩, -, a5, a6, a7⟩ := hx.1.2 y hy
    exact ⟨a1, ⟨trivial, m1.1, m1.2, a4⟩, trivial, m2.1, m2.2, a7⟩
end Go.Proofs.YtmflhodiibjpnaaGreatDoor
