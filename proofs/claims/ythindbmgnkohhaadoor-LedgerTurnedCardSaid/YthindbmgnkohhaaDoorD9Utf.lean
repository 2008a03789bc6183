/-
  Plain words: runes' bytes are read as these runes; bytes that are runes' are these runes' bytes.
-/
import Derived.Test.YthindbmgnkohhaaDoorD9Enc
namespace Go.Proofs.YthindbmgnkohhaaDoor
set_option linter.unusedVariables false
set_option linter.unusedSimpArgs false
set_option maxRecDepth 10000
open Go.RowKit Go.Lib

theorem ofNat_nat (n : Nat) (h : n < 256) : (UInt8.ofNat n).toNat = n := UInt8.toNat_ofNat_of_lt' (by show _ < 256; exact h)
theorem ofNat_of (b : UInt8) (n : Nat) (h : n = b.toNat) : UInt8.ofNat n = b := by
  subst h
  exact UInt8.ofNat_toNat
/-- A rune's bytes, read. -/
theorem dec_enc (c : Nat) (h : okR (c : Int) = true) (t : List UInt8) : decodeL (encL c ++ t) = (c, (encL c).length) := by
  have hc := (okR_iff _).1 h
  rw [decodeL_N]
  unfold encL
  by_cases c1 : c < 128
  · rw [if_pos c1]
    show decodeN (t.length + 1) (UInt8.ofNat c).toNat _ _ _ = _
    rw [ofNat_nat c (by omega)]
    unfold decodeN
    rw [if_pos c1]
    rfl
  · rw [if_neg c1]
    by_cases c2 : c < 2048
    · rw [if_pos c2]
      show decodeN (t.length + 2) (UInt8.ofNat (192 + c / 64)).toNat (UInt8.ofNat (128 + c % 64)).toNat _ _ = _
      rw [ofNat_nat _ (by omega), ofNat_nat _ (by omega)]
      unfold decodeN
      have e : (192 + c / 64) % 32 * 64 + (128 + c % 64) % 64 = c := by omega
      rw [if_neg (by omega), if_pos (by omega), e, if_pos (by omega)]
      rfl
    · rw [if_neg c2]
      by_cases c3 : c < 65536
      · rw [if_pos c3]
        show decodeN (t.length + 3) (UInt8.ofNat (224 + c / 4096)).toNat (UInt8.ofNat (128 + c / 64 % 64)).toNat (UInt8.ofNat (128 + c % 64)).toNat _ = _
        rw [ofNat_nat _ (by omega), ofNat_nat _ (by omega), ofNat_nat _ (by omega)]
        unfold decodeN
        have e : (224 + c / 4096) % 16 * 4096 + (128 + c / 64 % 64) % 64 * 64 + (128 + c % 64) % 64 = c := by omega
        rw [if_neg (by omega), if_neg (by omega), if_pos (by omega), e, if_pos (by omega)]
        rfl
      · rw [if_neg c3]
        show decodeN (t.length + 4) (UInt8.ofNat (240 + c / 262144)).toNat (UInt8.ofNat (128 + c / 4096 % 64)).toNat (UInt8.ofNat (128 + c / 64 % 64)).toNat (UInt8.ofNat (128 + c % 64)).toNat = _
        rw [ofNat_nat _ (by omega), ofNat_nat _ (by omega), ofNat_nat _ (by omega), ofNat_nat _ (by omega)]
        unfold decodeN
        have e : (240 + c / 262144) % 8 * 262144 + (128 + c / 4096 % 64) % 64 * 4096 + (128 + c / 64 % 64) % 64 * 64 + (128 + c % 64) % 64 = c := by omega
        rw [if_neg (by omega), if_neg (by omega), if_neg (by omega), if_pos (by omega), e, if_pos (by omega)]
        rfl
theorem enc_len (c : Nat) : 1 ≤ (encL c).length ∧ (encL c).length ≤ 4 := by
  unfold encL
  split
  · simp
  · split
    · simp
    · split <;> simp
theorem enc_ne (c : Nat) (t : List UInt8) : encL c ++ t ≠ [] := by
  intro h
  have := congrArg List.length h
  have h2 := (enc_len c).1
  simp only [List.length_append, List.length_nil] at this
  omega
theorem enc_good (c : Nat) (h : okR (c : Int) = true) (t : List UInt8) : ¬ badR (encL c ++ t) := by
  intro hb
  have h1 := hb.1
  have h2 := hb.2
  rw [dec_enc c h t] at h1 h2
  simp only at h1 h2
  subst h1
  revert h2
  decide
/-- The runes of runes' text. -/
theorem runes_text (l : List Int) (h : okAll l = true) : ∃ r : List Nat, runesL (textZ l) = some r ∧ (r.map fun c : Nat => (c : Int)) = l := by
  induction l with
  | nil => exact ⟨[], rfl, rfl⟩
  | cons x l ih =>
    simp only [okAll, List.all_cons, Bool.and_eq_true] at h
    obtain ⟨r, h1, h2⟩ := ih h.2
    obtain ⟨c, rfl⟩ : ∃ c : Nat, x = (c : Int) := ⟨x.toNat, by have := (okR_iff x).1 h.1; omega⟩
    refine ⟨c :: r, ?_, by simp [h2]⟩
    have e : textZ ((c : Int) :: l) = encL c ++ textZ l := by simp [textZ]
    rw [e, runesL_good _ (enc_ne c _) (enc_good c h.1 _), dec_enc c h.1]
    simp only [List.drop_left, h1, Option.map_some]
/-- Bytes that begin with a rune begin with its bytes. -/
theorem enc_dec (l : List UInt8) (hl : l ≠ []) (hb : ¬ badR l) : encL (decodeL l).1 = l.take (decodeL l).2 ∧ okR ((decodeL l).1 : Int) = true := by
  have hbb : ¬ (decodeL l = (65533, 1)) := fun e => hb (by rw [badR, e]; exact ⟨rfl, rfl⟩)
  rw [decodeL_N] at hbb ⊢
  match l, hl with
  | a :: t, _ =>
    have ha := UInt8.toNat_lt a
    have g0 : ((a :: t).getD 0 0).toNat = a.toNat := rfl
    rw [g0] at hbb ⊢
    by_cases c1 : a.toNat < 128
    · have e : ∀ n b1 b2 b3, decodeN n a.toNat b1 b2 b3 = (a.toNat, 1) := fun n b1 b2 b3 => by unfold decodeN; rw [if_pos c1]
      rw [e]
      refine ⟨?_, (okR_iff _).2 (by omega)⟩
      unfold encL
      rw [if_pos c1, ofNat_of a _ rfl]
      rfl
    · match t with
      | [] =>
        exfalso
        apply hbb
        unfold decodeN
        rw [if_neg c1, if_neg (by simp), if_neg (by simp), if_neg (by simp)]
      | b :: t =>
        have hbl := UInt8.toNat_lt b
        have g1 : ((a :: b :: t).getD 1 0).toNat = b.toNat := rfl
        have gl : (a :: b :: t).length = t.length + 2 := rfl
        rw [g1, gl] at hbb ⊢
        by_cases c2 : a.toNat / 32 = 6 ∧ (1 < t.length + 2 ∧ b.toNat / 64 = 2)
        · by_cases d : a.toNat % 32 * 64 + b.toNat % 64 ≥ 128
          · have e : ∀ b2 b3, decodeN (t.length + 2) a.toNat b.toNat b2 b3 = (a.toNat % 32 * 64 + b.toNat % 64, 2) := fun b2 b3 => by unfold decodeN; rw [if_neg c1, if_pos c2, if_pos d]
            rw [e]
            refine ⟨?_, (okR_iff _).2 (by omega)⟩
            unfold encL
            simp only
            rw [if_neg (by omega), if_pos (by omega), ofNat_of a _ (by omega), ofNat_of b _ (by omega)]
            rfl
          · exfalso
            apply hbb
            unfold decodeN
            rw [if_neg c1, if_pos c2, if_neg d]
        · match t with
          | [] =>
            exfalso
            apply hbb
            unfold decodeN
            rw [if_neg c1, if_neg c2, if_neg (by simp), if_neg (by simp)]
          | c :: t =>
            have hcl := UInt8.toNat_lt c
            have g2 : ((a :: b :: c :: t).getD 2 0).toNat = c.toNat := rfl
            rw [g2] at hbb ⊢
            have gl : (c :: t).length + 2 = t.length + 3 := rfl
            rw [gl] at hbb c2 ⊢
            by_cases c3 : a.toNat / 16 = 14 ∧ (1 < t.length + 3 ∧ b.toNat / 64 = 2) ∧ (2 < t.length + 3 ∧ c.toNat / 64 = 2)
            · by_cases d : a.toNat % 16 * 4096 + b.toNat % 64 * 64 + c.toNat % 64 ≥ 2048 ∧ (a.toNat % 16 * 4096 + b.toNat % 64 * 64 + c.toNat % 64 < 55296 ∨ (57344 ≤ a.toNat % 16 * 4096 + b.toNat % 64 * 64 + c.toNat % 64 ∧ a.toNat % 16 * 4096 + b.toNat % 64 * 64 + c.toNat % 64 ≤ 1114111))
              · have e : ∀ b3, decodeN (t.length + 3) a.toNat b.toNat c.toNat b3 = (a.toNat % 16 * 4096 + b.toNat % 64 * 64 + c.toNat % 64, 3) := fun b3 => by unfold decodeN; rw [if_neg c1, if_neg c2, if_pos c3, if_pos d]
                rw [e]
                refine ⟨?_, (okR_iff _).2 (by omega)⟩
                unfold encL
                simp only
                rw [if_neg (by omega), if_neg (by omega), if_pos (by omega), ofNat_of a _ (by omega), ofNat_of b _ (by omega), ofNat_of c _ (by omega)]
                rfl
              · exfalso
                apply hbb
                unfold decodeN
                rw [if_neg c1, if_neg c2, if_pos c3, if_neg d]
            · match t with
              | [] =>
                exfalso
                apply hbb
                unfold decodeN
                rw [if_neg c1, if_neg c2, if_neg c3, if_neg (by simp)]
              | f :: t =>
                have hfl := UInt8.toNat_lt f
                have g3 : ((a :: b :: c :: f :: t).getD 3 0).toNat = f.toNat := rfl
                rw [g3] at hbb ⊢
                have gl : (f :: t).length + 3 = t.length + 4 := rfl
                rw [gl] at hbb c2 c3 ⊢
                by_cases c4 : a.toNat / 8 = 30 ∧ (1 < t.length + 4 ∧ b.toNat / 64 = 2) ∧ (2 < t.length + 4 ∧ c.toNat / 64 = 2) ∧ (3 < t.length + 4 ∧ f.toNat / 64 = 2)
                · by_cases d : a.toNat % 8 * 262144 + b.toNat % 64 * 4096 + c.toNat % 64 * 64 + f.toNat % 64 ≥ 65536 ∧ (a.toNat % 8 * 262144 + b.toNat % 64 * 4096 + c.toNat % 64 * 64 + f.toNat % 64 < 55296 ∨ (57344 ≤ a.toNat % 8 * 262144 + b.toNat % 64 * 4096 + c.toNat % 64 * 64 + f.toNat % 64 ∧ a.toNat % 8 * 262144 + b.toNat % 64 * 4096 + c.toNat % 64 * 64 + f.toNat % 64 ≤ 1114111))
                  · have e : decodeN (t.length + 4) a.toNat b.toNat c.toNat f.toNat = (a.toNat % 8 * 262144 + b.toNat % 64 * 4096 + c.toNat % 64 * 64 + f.toNat % 64, 4) := by unfold decodeN; rw [if_neg c1, if_neg c2, if_neg c3, if_pos c4, if_pos d]
                    rw [e]
                    refine ⟨?_, (okR_iff _).2 (by omega)⟩
                    unfold encL
                    simp only
                    rw [if_neg (by omega), if_neg (by omega), if_neg (by omega), ofNat_of a _ (by omega), ofNat_of b _ (by omega), ofNat_of c _ (by omega), ofNat_of f _ (by omega)]
                    rfl
                  · exfalso
                    apply hbb
                    unfold decodeN
                    rw [if_neg c1, if_neg c2, if_neg c3, if_pos c4, if_neg d]
                · exfalso
                  apply hbb
                  unfold decodeN
                  rw [if_neg c1, if_neg c2, if_neg c3, if_neg c4]
/-- The text of a text's runes. -/
theorem text_runes : ∀ (n : Nat) (l : List UInt8) (r : List Nat), l.length ≤ n → runesL l = some r → textZ (r.map fun c : Nat => (c : Int)) = l ∧ okAll (r.map fun c : Nat => (c : Int)) = true
  | 0, l, r, h, hs => by
    have : l = [] := List.length_eq_zero_iff.1 (by omega)
    subst this
    rw [runesL_nil] at hs
    injection hs with hs
    subst hs
    exact ⟨rfl, rfl⟩
  | n + 1, l, r, h, hs => by
    by_cases hl : l = []
    · subst hl
      rw [runesL_nil] at hs
      injection hs with hs
      subst hs
      exact ⟨rfl, rfl⟩
    · by_cases hb : badR l
      · rw [runesL_bad l hl hb] at hs; cases hs
      · rw [runesL_good l hl hb] at hs
        have hw := decodeL_width l
        have hp := List.length_pos_iff.2 hl
        obtain ⟨j, hj, rfl⟩ := Option.map_eq_some_iff.1 hs
        obtain ⟨h1, h2⟩ := text_runes n _ j (by rw [List.length_drop]; omega) hj
        obtain ⟨e1, e2⟩ := enc_dec l hl hb
        constructor
        · simp only [List.map_cons, textZ, List.flatMap_cons, Int.toNat_natCast] at h1 ⊢
          rw [h1, e1, List.take_append_drop]
        · simp only [List.map_cons, okAll, List.all_cons, e2, Bool.true_and]
          exact h2
end Go.Proofs.YthindbmgnkohhaaDoor
