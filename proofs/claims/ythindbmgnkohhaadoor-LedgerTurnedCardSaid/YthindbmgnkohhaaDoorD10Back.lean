/-
  Plain words: an Id has no blank, no byte 10, and doesn't begin with #; a row's line is one with which nothing is wrong, and tells its row; what is parsed has just that line.
-/
import Derived.Test.YthindbmgnkohhaaDoorD10Write
namespace Go.Proofs.YthindbmgnkohhaaDoor
set_option linter.unusedVariables false
set_option linter.unusedSimpArgs false
set_option maxRecDepth 10000
open Go.RowKit Go.Lib

theorem idN_runes : ∀ (n : Nat) (l : List UInt8) (k : Nat), l.length ≤ n → idN n l = some k → ∃ r : List Nat, runesN n l = some r ∧ r.length = k ∧ ∀ c ∈ r, idRune c = true
  | 0, l, k, h, hs => by
    have : l = [] := List.length_eq_zero_iff.1 (by omega)
    subst this
    rw [idN_nil] at hs
    injection hs with hs
    subst hs
    exact ⟨[], runesN_nil 0, rfl, fun c hc => by simp at hc⟩
  | n + 1, l, k, h, hs => by
    by_cases hl : l = []
    · subst hl
      rw [idN_nil] at hs
      injection hs with hs
      subst hs
      exact ⟨[], runesN_nil _, rfl, fun c hc => by simp at hc⟩
    · rw [idN_more _ _ hl] at hs
      by_cases hb : badR l
      · rw [if_pos hb] at hs; cases hs
      · rw [if_neg hb] at hs
        by_cases hr : idRune (decodeL l).1 = true
        · rw [if_pos hr] at hs
          have hw := decodeL_width l
          obtain ⟨j, hj, rfl⟩ := Option.map_eq_some_iff.1 hs
          obtain ⟨r, h1, h2, h3⟩ := idN_runes n _ j (by rw [List.length_drop]; omega) hj
          refine ⟨(decodeL l).1 :: r, ?_, by simp [h2], fun c hc => ?_⟩
          · rw [runesN_more _ _ hl, if_neg hb, h1]; rfl
          · rcases List.mem_cons.1 hc with rfl | hc
            · exact hr
            · exact h3 c hc
        · rw [if_neg hr] at hs; cases hs
theorem id_runes (l : List UInt8) (h : isId l = true) : ∃ r : List Nat, runesL l = some r ∧ (∀ c ∈ r, idRune c = true) ∧ 1 ≤ r.length ∧ r.length ≤ 24 := by
  unfold isId idK at h
  split at h
  · rename_i n hn
    have h1 := of_decide_eq_true h
    obtain ⟨r, h2, h3, h4⟩ := idN_runes l.length l n (Nat.le_refl _) hn
    exact ⟨r, h2, h4, by omega, by omega⟩
  · cases h
theorem enc_byte (c : Nat) (hc : c < 1114112) (b : UInt8) (h : b ∈ encL c) : (b.toNat = c ∧ c < 128) ∨ 128 ≤ b.toNat := by
  have key : ∀ n, n < 256 → (UInt8.ofNat n).toNat = n := fun n hn => ofNat_nat n hn
  unfold encL at h
  split at h
  · rename_i h1
    rw [List.mem_singleton] at h
    subst h
    exact .inl ⟨key c (by omega), h1⟩
  · right
    split at h
    · simp only [List.mem_cons, List.not_mem_nil, or_false] at h
      rcases h with rfl | rfl <;> (rw [key _ (by omega)]; omega)
    · split at h
      · simp only [List.mem_cons, List.not_mem_nil, or_false] at h
        rcases h with rfl | rfl | rfl <;> (rw [key _ (by omega)]; omega)
      · simp only [List.mem_cons, List.not_mem_nil, or_false] at h
        rcases h with rfl | rfl | rfl | rfl <;> (rw [key _ (by omega)]; omega)
theorem okAll_mem {l : List Int} (h : okAll l = true) : ∀ r ∈ l, okR r = true := List.all_eq_true.1 h
theorem id_byte (l : List UInt8) (h : isId l = true) (b : UInt8) (hb : b ∈ l) (h128 : b.toNat < 128) : idRune b.toNat = true := by
  obtain ⟨r, h1, h2, -, -⟩ := id_runes l h
  obtain ⟨h3, h4⟩ := text_runes l.length l r (Nat.le_refl _) h1
  rw [← h3] at hb
  unfold textZ at hb
  obtain ⟨z, hz, hbz⟩ := List.mem_flatMap.1 hb
  obtain ⟨c, hc, rfl⟩ := List.mem_map.1 hz
  have ho := (okR_iff _).1 (okAll_mem h4 _ hz)
  rw [Int.toNat_natCast] at hbz
  rcases enc_byte c (by omega) b hbz with ⟨e, -⟩ | e
  · rw [e]; exact h2 c hc
  · omega
theorem id_no (l : List UInt8) (h : isId l = true) (b : UInt8) (h128 : b.toNat < 128) (hb : idRune b.toNat = false) : b ∉ l := fun hm => by
  have := id_byte l h b hm h128
  rw [hb] at this
  cases this
theorem id_blank (l : List UInt8) (h : isId l = true) : (32 : UInt8) ∉ l := id_no l h 32 (by decide) (by decide)
theorem id_ten (l : List UInt8) (h : isId l = true) : (10 : UInt8) ∉ l := id_no l h 10 (by decide) (by decide)
theorem id_hash (l : List UInt8) (h : isId l = true) : (35 : UInt8) ∉ l := id_no l h 35 (by decide) (by decide)
theorem id_ne (l : List UInt8) (h : isId l = true) : l ≠ [] := fun e => by
  have := isId_len l h
  rw [e] at this
  simp at this
theorem textZ_app (a b : List Int) : textZ (a ++ b) = textZ a ++ textZ b := by simp [textZ]
theorem textZ_ascii (l : List UInt8) (h : ∀ c ∈ l, c.toNat < 128) : textZ (l.map fun c => (c.toNat : Int)) = l ∧ okAll (l.map fun c => (c.toNat : Int)) = true := by
  induction l with
  | nil => exact ⟨rfl, rfl⟩
  | cons c r ih =>
    obtain ⟨h1, h2⟩ := ih fun x hx => h x (by simp [hx])
    have hc := h c (by simp)
    have he : encL c.toNat = [c] := by unfold encL; rw [if_pos hc]; simp
    constructor
    · show encL ((c.toNat : Int).toNat) ++ textZ (r.map fun c => (c.toNat : Int)) = c :: r
      rw [Int.toNat_natCast, he, h1]; rfl
    · show (okR (c.toNat : Int) && okAll (r.map fun c => (c.toNat : Int))) = true
      rw [h2, Bool.and_true, okR_iff]; omega
theorem dec_ascii (n : Nat) : ∀ c ∈ 32 :: decL n, c.toNat < 128 := fun c hc => by
  rcases List.mem_cons.1 hc with rfl | hc
  · decide
  · have := decL_isD n c hc; unfold IsD at this; omega
/-- The runes of a text and what is plain behind it. -/
theorem runes_tail (l t : List UInt8) (r : List Nat) (h : runesL l = some r) (ht : ∀ c ∈ t, c.toNat < 128) : ∃ r', runesL (l ++ t) = some r' ∧ r'.length = r.length + t.length := by
  obtain ⟨h3, h4⟩ := text_runes l.length l r (Nat.le_refl _) h
  obtain ⟨h5, h6⟩ := textZ_ascii t ht
  obtain ⟨r', h7, h8⟩ := runes_text ((r.map fun c : Nat => (c : Int)) ++ (t.map fun c => (c.toNat : Int))) (by unfold okAll at *; rw [List.all_append, h4, h6]; rfl)
  rw [textZ_app, h3, h5] at h7
  refine ⟨r', h7, ?_⟩
  have := congrArg List.length h8
  simpa using this
theorem textR_wrong (x : Rw) (hx : x.ok) (h : isId x.id.data.toList = true) : wrongL (textR x) = 0 := by
  obtain ⟨r, h1, -, -, h2⟩ := id_runes _ h
  obtain ⟨r', h3, h4⟩ := runes_tail _ (32 :: decL (nv x.h x.l).toNat) r h1 (dec_ascii _)
  have hd := decL_39 (n := (nv x.h x.l).toNat) (by have := nv_word hx.1 hx.2; omega)
  unfold wrongL textR
  rw [h3]
  rw [List.length_cons] at h4
  exact if_neg (by omega)
theorem textR_kind (x : Rw) (h : isId x.id.data.toList = true) : kindL (textR x) = 2 := by
  have h1 := id_ne _ h
  have h2 := id_hash _ h
  unfold textR
  cases hl : x.id.data.toList with
  | nil => exact absurd hl h1
  | cons c r =>
    rw [hl] at h2
    exact if_neg fun e => h2 (by rw [e]; simp)
theorem textR_ten (x : Rw) (h : isId x.id.data.toList = true) : (10 : UInt8) ∉ textR x := by
  unfold textR
  rw [List.mem_append, List.mem_cons, not_or, not_or]
  refine ⟨id_ten _ h, by decide, fun hm => ?_⟩
  exact absurd (decL_isD _ _ hm).1 (by decide)
theorem textR_cut (x : Rw) (h : isId x.id.data.toList = true) : cutL (textR x) = some (x.id.data.toList, decL (nv x.h x.l).toNat) := (cutL_some _ _ _).2 ⟨rfl, id_blank _ h⟩
theorem nv_nat {h l : Int} (a : Word h) (b : Word l) : (((nv h l).toNat : Nat) : Int) = nv h l := by
  have := nv_word a b; omega
theorem textR_par (x : Rw) (hx : x.ok) (h : isId x.id.data.toList = true) : parR (textR x) = (x, 0) := by
  have hw := (writB_iff _).2 (decL_written (nv x.h x.l).toNat)
  have hr : room (pv (decL (nv x.h x.l).toNat) : Int) = true := by rw [pv_decL, nv_nat hx.1 hx.2]; exact room_iff.2 (nv_word hx.1 hx.2)
  obtain ⟨e1, e2, e3⟩ := par_yes hw hr
  rw [parR_ok (textR_cut x h) h e3, e1, e2, pv_decL, nv_nat hx.1 hx.2, rh_nv hx.1 hx.2, rl_nv hx.1 hx.2, bA_of]
theorem textR_tell (x : Rw) (hx : x.ok) (h : isId x.id.data.toList = true) : tell (textR x) = (x, true, 0) := by
  unfold tell
  rw [textR_wrong x hx h, textR_kind x h, textR_par x hx h]
  rfl
/-- What is parsed has just that line. -/
theorem par_text (l : List UInt8) (x : Rw) (h : parR l = (x, 0)) : isId x.id.data.toList = true ∧ x.ok ∧ textR x = l := by
  cases hc : cutL l with
  | none => rw [parR_none hc] at h; injection h with h1 h2; cases h2
  | some p =>
    obtain ⟨a, b⟩ := p
    cases hi : isId a with
    | false => rw [parR_id hc hi] at h; injection h with h1 h2; cases h2
    | true =>
      by_cases hb : parE b = 0
      · rw [parR_ok hc hi hb] at h
        injection h with h1 h2
        subst h1
        refine ⟨by rw [bA_list]; exact hi, ⟨parH_word b, parL_word b⟩, ?_⟩
        have hw : writB b = true := by
          cases hq : writB b with
          | true => rfl
          | false => rw [(par_no hq).2.2] at hb; cases hb
        have hr : room (pv b : Int) = true := by
          cases hq : room (pv b : Int) with
          | true => rfl
          | false => rw [(par_big hw hq).2.2] at hb; cases hb
        obtain ⟨e1, e2, e3⟩ := par_yes hw hr
        unfold textR
        simp only
        rw [bA_list, e1, e2, nv_r hr, Int.toNat_natCast, decL_pv ((writB_iff _).1 hw)]
        exact ((cutL_some _ _ _).1 hc).1.symm
      · rw [parR_am hc hi hb] at h; injection h with h1 h2; cases h2
theorem textR_len (x : Rw) (hx : x.ok) : (textR x).length ≤ x.id.size + 40 := by
  have hd := decL_39 (n := (nv x.h x.l).toNat) (by have := nv_word hx.1 hx.2; omega)
  unfold textR
  rw [List.length_append, List.length_cons, ba_size]
  omega
end Go.Proofs.YthindbmgnkohhaaDoor
