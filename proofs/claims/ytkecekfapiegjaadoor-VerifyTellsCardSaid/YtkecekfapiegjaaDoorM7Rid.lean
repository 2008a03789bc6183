/- Several of my texts, laid as one. -/
import Derived.Test.YtkecekfapiegjaaDoorM7Pln
import Derived.Test.YtkecekfapiegjaaDoorRows
import Derived.Test.YtkecekfapiegjaaDoorM0Wrd
import Derived.WalkKit
import Derived.WalkSpells
import Derived.StillTactics
import Derived.RowKit3
import Derived.Outline
import Derived.BigQuiet
import Derived.Deep.QuietTactic
import Derived.LoopTactic
import Derived.Deep.RegionWith
import Derived.Deep.LoopGhost
import Derived.Laws.Strings
import Derived.Test.YtkecekfapiegjaaDoorM7Wrd
/-
  paymasterref07.Rune, walked: the rune that stands at a place of a text, and its bytes.
-/
namespace Go.Proofs.YtkecekfapiegjaaDoor
set_option linter.unusedVariables false
set_option linter.unusedSimpArgs false
set_option maxRecDepth 10000
open Go.RowKit Go.Lib

/-- The rune that a text begins with, and its bytes; nothing, where there is none. -/
def runeR (l : List UInt8) : Nat × Nat := if badR l then (0, 0) else decodeL l
/-- A lead and k bytes behind it, put together. -/
def acc (B : Nat → Nat) (lead : Nat) : Nat → Nat
  | 0 => lead
  | k + 1 => 64 * acc B lead k + B (k + 1) - 128
/-- The next k bytes may stand behind a lead. -/
def oks (B : Nat → Nat) (n k : Nat) : Prop := ∀ j, 1 ≤ j → j ≤ k → j < n ∧ 128 ≤ B j ∧ B j < 192
theorem acc_bd (B : Nat → Nat) (lead n : Nat) (hl : lead < 32) : ∀ k, oks B n k → acc B lead k < 32 * 64 ^ k
  | 0, _ => by simpa [acc] using hl
  | k + 1, h => by
    have ih := acc_bd B lead n hl k (fun j h1 h2 => h j h1 (by omega))
    have hb := h (k + 1) (by omega) (Nat.le_refl _)
    rw [acc, Nat.pow_succ]
    omega
/-- May a rune be that, which is told with so many bytes? -/
def fits (x least : Nat) : Bool := !(decide (x < least) || (decide (1114111 < x) || (decide (55296 ≤ x) && decide (x < 57344))))

theorem fits_iff (x least : Nat) : fits x least = true ↔ least ≤ x ∧ x ≤ 1114111 ∧ (x < 55296 ∨ 57344 ≤ x) := by
  unfold fits
  by_cases h1 : x < least <;> by_cases h2 : 1114111 < x <;> by_cases h3 : 55296 ≤ x <;> by_cases h4 : x < 57344 <;> simp [h1, h2, h3, h4] <;> omega
theorem pick_rune (d : Nat × Nat) (p : Prop) [Decidable p] (x m : Nat) (hm : m ≠ 1) (hd : d = if p then (x, m) else (65533, 1)) : (if d = (65533, 1) then ((0, 0) : Nat × Nat) else d) = if p then (x, m) else (0, 0) := by
  subst hd
  by_cases h : p
  · rw [if_pos h, if_pos h, if_neg (by simp [hm])]
  · rw [if_neg h, if_neg h, if_pos rfl]
theorem decode_two (n b0 b1 b2 b3 : Nat) (h1 : 192 ≤ b0) (h2 : b0 < 224) (hb : b1 < 256) :
    decodeN n b0 b1 b2 b3 = if (1 < n ∧ 128 ≤ b1 ∧ b1 < 192) ∧ fits (64 * (b0 - 192) + b1 - 128) 128 = true then (64 * (b0 - 192) + b1 - 128, 2) else (65533, 1) := by
  unfold decodeN
  rw [if_neg (by omega)]
  by_cases c : b0 / 32 = 6 ∧ (1 < n ∧ b1 / 64 = 2)
  · rw [if_pos c]
    have ex : b0 % 32 * 64 + b1 % 64 = 64 * (b0 - 192) + b1 - 128 := by omega
    have xb : 64 * (b0 - 192) + b1 - 128 < 2048 := by omega
    rw [ex]
    generalize 64 * (b0 - 192) + b1 - 128 = x at *
    by_cases d : x ≥ 128
    · rw [if_pos d, if_pos ⟨by omega, (fits_iff _ _).2 (by omega)⟩]
    · rw [if_neg d, if_neg (fun h => d ((fits_iff _ _).1 h.2).1)]
  · rw [if_neg c, if_neg (by omega), if_neg (by omega), if_neg (by omega)]
theorem decode_three (n b0 b1 b2 b3 : Nat) (h1 : 224 ≤ b0) (h2 : b0 < 240) (hb : b1 < 256) (hb2 : b2 < 256) :
    decodeN n b0 b1 b2 b3 = if ((1 < n ∧ 128 ≤ b1 ∧ b1 < 192) ∧ (2 < n ∧ 128 ≤ b2 ∧ b2 < 192)) ∧ fits (64 * (64 * (b0 - 224) + b1 - 128) + b2 - 128) 2048 = true then (64 * (64 * (b0 - 224) + b1 - 128) + b2 - 128, 3) else (65533, 1) := by
  unfold decodeN
  rw [if_neg (by omega), if_neg (by omega)]
  by_cases c : b0 / 16 = 14 ∧ (1 < n ∧ b1 / 64 = 2) ∧ (2 < n ∧ b2 / 64 = 2)
  · rw [if_pos c]
    have ex : b0 % 16 * 4096 + b1 % 64 * 64 + b2 % 64 = 64 * (64 * (b0 - 224) + b1 - 128) + b2 - 128 := by omega
    rw [ex]
    generalize 64 * (64 * (b0 - 224) + b1 - 128) + b2 - 128 = x at *
    by_cases d : x ≥ 2048 ∧ (x < 55296 ∨ (57344 ≤ x ∧ x ≤ 1114111))
    · rw [if_pos d, if_pos ⟨by omega, (fits_iff _ _).2 (by omega)⟩]
    · rw [if_neg d, if_neg (fun h => d (by have := (fits_iff _ _).1 h.2; omega))]
  · rw [if_neg c, if_neg (by omega), if_neg (by omega)]
theorem decode_four (n b0 b1 b2 b3 : Nat) (h1 : 240 ≤ b0) (h2 : b0 < 248) (hb : b1 < 256) (hb2 : b2 < 256) (hb3 : b3 < 256) :
    decodeN n b0 b1 b2 b3 = if ((1 < n ∧ 128 ≤ b1 ∧ b1 < 192) ∧ (2 < n ∧ 128 ≤ b2 ∧ b2 < 192) ∧ (3 < n ∧ 128 ≤ b3 ∧ b3 < 192)) ∧ fits (64 * (64 * (64 * (b0 - 240) + b1 - 128) + b2 - 128) + b3 - 128) 65536 = true
      then (64 * (64 * (64 * (b0 - 240) + b1 - 128) + b2 - 128) + b3 - 128, 4) else (65533, 1) := by
  unfold decodeN
  rw [if_neg (by omega), if_neg (by omega), if_neg (by omega)]
  by_cases c : b0 / 8 = 30 ∧ (1 < n ∧ b1 / 64 = 2) ∧ (2 < n ∧ b2 / 64 = 2) ∧ (3 < n ∧ b3 / 64 = 2)
  · rw [if_pos c]
    have ex : b0 % 8 * 262144 + b1 % 64 * 4096 + b2 % 64 * 64 + b3 % 64 = 64 * (64 * (64 * (b0 - 240) + b1 - 128) + b2 - 128) + b3 - 128 := by omega
    rw [ex]
    generalize 64 * (64 * (64 * (b0 - 240) + b1 - 128) + b2 - 128) + b3 - 128 = x at *
    by_cases d : x ≥ 65536 ∧ (x < 55296 ∨ (57344 ≤ x ∧ x ≤ 1114111))
    · rw [if_pos d, if_pos ⟨by omega, (fits_iff _ _).2 (by omega)⟩]
    · rw [if_neg d, if_neg (fun h => d (by have := (fits_iff _ _).1 h.2; omega))]
  · rw [if_neg c, if_neg (by omega)]
theorem oks_one (B : Nat → Nat) (n : Nat) : oks B n 1 ↔ (1 < n ∧ 128 ≤ B 1 ∧ B 1 < 192) :=
  ⟨fun h => h 1 (by omega) (by omega), fun h j h1 h2 => by
    obtain rfl : j = 1 := Nat.le_antisymm h2 h1
    exact h⟩
theorem oks_two (B : Nat → Nat) (n : Nat) : oks B n 2 ↔ ((1 < n ∧ 128 ≤ B 1 ∧ B 1 < 192) ∧ (2 < n ∧ 128 ≤ B 2 ∧ B 2 < 192)) :=
  ⟨fun h => ⟨h 1 (by omega) (by omega), h 2 (by omega) (by omega)⟩, fun h j h1 h2 => by
    rcases (show j = 1 ∨ j = 2 by omega) with rfl | rfl
    · exact h.1
    · exact h.2⟩
theorem oks_three (B : Nat → Nat) (n : Nat) : oks B n 3 ↔ ((1 < n ∧ 128 ≤ B 1 ∧ B 1 < 192) ∧ (2 < n ∧ 128 ≤ B 2 ∧ B 2 < 192) ∧ (3 < n ∧ 128 ≤ B 3 ∧ B 3 < 192)) :=
  ⟨fun h => ⟨h 1 (by omega) (by omega), h 2 (by omega) (by omega), h 3 (by omega) (by omega)⟩, fun h j h1 h2 => by
    rcases (show j = 1 ∨ j = 2 ∨ j = 3 by omega) with rfl | rfl | rfl
    · exact h.1
    · exact h.2.1
    · exact h.2.2⟩
/-- What stands behind a lead of m bytes. -/
def behind (B : Nat → Nat) (n lead m least : Nat) (d : Nat × Nat) : Prop :=
  (oks B n (m - 1) → fits (acc B lead (m - 1)) least = true → d = (acc B lead (m - 1), m)) ∧ (¬ oks B n (m - 1) → d = (0, 0)) ∧ (fits (acc B lead (m - 1)) least = false → d = (0, 0))
theorem behind_of (B : Nat → Nat) (n lead m least : Nat) (p : Prop) [Decidable p] (hp : oks B n (m - 1) ↔ p) :
    behind B n lead m least (if p ∧ fits (acc B lead (m - 1)) least = true then (acc B lead (m - 1), m) else (0, 0)) :=
  ⟨fun h1 h2 => if_pos ⟨hp.1 h1, h2⟩, fun h => if_neg (fun k => h (hp.2 k.1)), fun h => if_neg (fun k => by rw [h] at k; cases k.2)⟩
theorem rune_two (B : Nat → Nat) (n : Nat) (h1 : 192 ≤ B 0) (h2 : B 0 < 224) (hB : ∀ j, B j < 256) :
    behind B n (B 0 - 192) 2 128 (if decodeN n (B 0) (B 1) (B 2) (B 3) = (65533, 1) then (0, 0) else decodeN n (B 0) (B 1) (B 2) (B 3)) := by
  rw [pick_rune _ _ _ _ (by decide) (decode_two n (B 0) (B 1) (B 2) (B 3) h1 h2 (hB 1))]
  exact behind_of B n (B 0 - 192) 2 128 _ (oks_one B n)
theorem rune_three (B : Nat → Nat) (n : Nat) (h1 : 224 ≤ B 0) (h2 : B 0 < 240) (hB : ∀ j, B j < 256) :
    behind B n (B 0 - 224) 3 2048 (if decodeN n (B 0) (B 1) (B 2) (B 3) = (65533, 1) then (0, 0) else decodeN n (B 0) (B 1) (B 2) (B 3)) := by
  rw [pick_rune _ _ _ _ (by decide) (decode_three n (B 0) (B 1) (B 2) (B 3) h1 h2 (hB 1) (hB 2))]
  exact behind_of B n (B 0 - 224) 3 2048 _ (oks_two B n)
theorem rune_four (B : Nat → Nat) (n : Nat) (h1 : 240 ≤ B 0) (h2 : B 0 < 248) (hB : ∀ j, B j < 256) :
    behind B n (B 0 - 240) 4 65536 (if decodeN n (B 0) (B 1) (B 2) (B 3) = (65533, 1) then (0, 0) else decodeN n (B 0) (B 1) (B 2) (B 3)) := by
  rw [pick_rune _ _ _ _ (by decide) (decode_four n (B 0) (B 1) (B 2) (B 3) h1 h2 (hB 1) (hB 2) (hB 3))]
  exact behind_of B n (B 0 - 240) 4 65536 _ (oks_three B n)
theorem rune_none (B : Nat → Nat) (n : Nat) (h : (128 ≤ B 0 ∧ B 0 < 192) ∨ 248 ≤ B 0) :
    (if decodeN n (B 0) (B 1) (B 2) (B 3) = (65533, 1) then (0, 0) else decodeN n (B 0) (B 1) (B 2) (B 3)) = (0, 0) := by
  have e : decodeN n (B 0) (B 1) (B 2) (B 3) = (65533, 1) := by
    unfold decodeN
    rw [if_neg (by omega), if_neg (by omega), if_neg (by omega), if_neg (by omega)]
  rw [e, if_pos rfl]
theorem rune_one (B : Nat → Nat) (n : Nat) (h : B 0 < 128) :
    (if decodeN n (B 0) (B 1) (B 2) (B 3) = (65533, 1) then (0, 0) else decodeN n (B 0) (B 1) (B 2) (B 3)) = (B 0, 1) := by
  have e : decodeN n (B 0) (B 1) (B 2) (B 3) = (B 0, 1) := by
    unfold decodeN
    rw [if_pos h]
  rw [e, if_neg (by simp; omega)]
/-- Byte j behind a place. -/
def byB (s : ByteArray) (at_ : Nat) (j : Nat) : Nat := (s.data.toList.getD (at_ + j) 0).toNat
theorem byB_lt (s : ByteArray) (a j : Nat) : byB s a j < 256 := by
  unfold byB
  have := (s.data.toList.getD (a + j) 0).toNat_lt
  omega
theorem byB_at (s : ByteArray) (a j m : Nat) (hm : a + j = m) (h : m < s.size) : s[m].toNat = byB s a j := by
  subst hm
  unfold byB
  have hl : a + j < s.data.toList.length := by rw [ba_size]; exact h
  rw [List.getD_eq_getElem?_getD, List.getElem?_eq_getElem hl]
  rfl
theorem runeR_eq (s : ByteArray) (a : Nat) : runeR (s.data.toList.drop a) =
    (if decodeN (s.size - a) (byB s a 0) (byB s a 1) (byB s a 2) (byB s a 3) = (65533, 1) then (0, 0) else decodeN (s.size - a) (byB s a 0) (byB s a 1) (byB s a 2) (byB s a 3)) := by
  have e : ∀ j, ((s.data.toList.drop a).getD j 0).toNat = byB s a j := fun j => by
    unfold byB
    rw [List.getD_eq_getElem?_getD, List.getD_eq_getElem?_getD, List.getElem?_drop]
  have hd : decodeL (s.data.toList.drop a) = decodeN (s.size - a) (byB s a 0) (byB s a 1) (byB s a 2) (byB s a 3) := by
    rw [decodeL_N, e, e, e, e, List.length_drop, ba_size]
  rw [← hd]
  unfold runeR
  have hb : badR (s.data.toList.drop a) ↔ decodeL (s.data.toList.drop a) = (65533, 1) := by
    unfold badR
    generalize decodeL (s.data.toList.drop a) = d
    obtain ⟨x, y⟩ := d
    simp only [Prod.mk.injEq]
  by_cases h : badR (s.data.toList.drop a)
  · rw [if_pos h, if_pos (hb.1 h)]
  · rw [if_neg h, if_neg (fun k => h (hb.2 k))]

set_option maxHeartbeats 4000000 in
theorem rune_any (s : ByteArray) (a : Nat) (ha : a < s.size) (hs : s.size ≤ 1000000) (w : World) :
    Calls Tryd.prog 83 #[.string s, .int .i64 a] w (Plain (.tuple #[.int .i64 ((runeR (s.data.toList.drop a)).1 : Nat), .int .i64 ((runeR (s.data.toList.drop a)).2 : Nat)]) w) := by
  have r1 := rune_one (byB s a) (s.size - a)
  have r2 := rune_two (byB s a) (s.size - a)
  have r3 := rune_three (byB s a) (s.size - a)
  have r4 := rune_four (byB s a) (s.size - a)
  have r0 := rune_none (byB s a) (s.size - a)
  rw [← runeR_eq] at r0 r1 r2 r3 r4
  have hb := byB_lt s a
  have h0 : s[a].toNat = byB s a 0 := byB_at s a 0 a rfl ha
  generalize runeR (s.data.toList.drop a) = d at *
  have hx := hb 0
  obtain ⟨c, hc⟩ : ∃ c, byB s a 0 = c := ⟨_, rfl⟩
  rw [hc] at r0 r1 r2 r3 r4 h0 hx
  have hai : ((a : Int) < (s.size : Int)) := by omega
  have han : ¬ ((a : Int) < 0) := by omega
  by_cases c1 : c < 128
  · have e := r1 c1
    clear r0 r1 r2 r3 r4 hb hc
    subst e
    have c1i : (c : Int) < 128 := by omega
    go_enter Tryd.func83, Tryd.ntmps83
    go_wp2
    go_ret2
    exact ⟨rfl, rfl⟩
  · have k1 : ¬ (c : Int) < 128 := by omega
    by_cases c2 : 192 ≤ c ∧ c < 224
    · have e := r2 c2.1 c2.2 hb
      clear r0 r1 r2 r3 r4 hc
      have k2 : (192 : Int) ≤ c := by omega
      have k3 : (c : Int) < 224 := by omega
      obtain ⟨L, hL⟩ : ∃ L, c - 192 = L := ⟨_, rfl⟩
      have hLi : (c : Int) - 192 = (L : Int) := by omega
      rw [hL] at e
      go_enter Tryd.func83, Tryd.ntmps83
      go_wp2
      go_loopg [8, 10] 2 (fun gk v i wr => ∃ k : Nat, k + 1 ≤ 2 ∧ gk = 2 - k ∧ i = .int .i64 ((k : Int) + 1) ∧ v = .int .i64 (acc (byB s a) L k) ∧ oks (byB s a) (s.size - a) k ∧ wr = w)
      case atStart => exact ⟨0, by omega, rfl, rfl, rfl, fun j h1 h2 => by omega, rfl⟩
      case round =>
        obtain ⟨k, hk, hgk, rfl, rfl, hok, rfl⟩ := hrel
        have HG := hideIt hgk
        have hX := acc_bd (byB s a) L (s.size - a) (by omega) k hok
        have hXb : acc (byB s a) L k < 10000000 := Nat.lt_of_lt_of_le hX (by
          rcases (show k = 0 ∨ k = 1 ∨ k = 2 ∨ k = 3 by omega) with rfl | rfl | rfl | rfl <;> decide)
        clear hgk hX
        have hXs : acc (byB s a) L (k + 1) = 64 * acc (byB s a) L k + byB s a (k + 1) - 128 := rfl
        by_cases hlt : k + 1 < 2
        · have k5 : (k : Int) + 1 < 2 := by omega
          obtain ⟨m, hm⟩ : ∃ m : Nat, a + (k + 1) = m := ⟨_, rfl⟩
          have hmi : (a : Int) + ((k : Int) + 1) = (m : Int) := by omega
          by_cases hin : m < s.size
          · have hini : (m : Int) < (s.size : Int) := by omega
            have h1 := byB_at s a (k + 1) m hm hin
            have hb1 := hb (k + 1)
            obtain ⟨b, hbb⟩ : ∃ b, byB s a (k + 1) = b := ⟨_, rfl⟩
            have hno : (b < 128 ∨ 192 ≤ b) → d = (0, 0) := fun h => e.2.1 (fun h2 => by have := h2 (k + 1) (by omega) (by omega); omega)
            have hoy : 128 ≤ b → b < 192 → oks (byB s a) (s.size - a) (k + 1) := fun p1 p2 j q1 q2 => by
              rcases Nat.lt_or_ge k j with h | h
              · obtain rfl : j = k + 1 := by omega
                exact ⟨by omega, by omega, by omega⟩
              · exact hok j q1 h
            rw [hbb] at h1 hb1 hXs
            have HE := hideIt e
            have HY := hideIt hoy
            clear e hok hbb hoy
            generalize acc (byB s a) L k = X at *
            obtain ⟨Y, hY⟩ : ∃ Y, acc (byB s a) L (k + 1) = Y := ⟨_, rfl⟩
            have HYY := hideIt hY
            rw [hY] at hXs
            clear hY hm
            by_cases p1 : b < 128
            · have p1i : (b : Int) < 128 := by omega
              have e := hno (Or.inl p1)
              subst e
              clear hno
              go_wp2
              go_ret2
              exact ⟨rfl, rfl⟩
            · have p1i : ¬ (b : Int) < 128 := by omega
              by_cases p2 : 192 ≤ b
              · have p2i : (192 : Int) ≤ b := by omega
                have e := hno (Or.inr p2)
                subst e
                clear hno
                go_wp2
                go_ret2
                exact ⟨rfl, rfl⟩
              · have p2i : ¬ (192 : Int) ≤ b := by omega
                have hw1 : IntKind.i64.wrap (64 * (X : Int)) = 64 * X := by rw [IntKind.wrap_i64]; omega
                have hw2 : IntKind.i64.wrap (64 * (X : Int) + b) = 64 * X + b := by rw [IntKind.wrap_i64]; omega
                have hw3 : IntKind.i64.wrap (64 * (X : Int) + b - 128) = (Y : Int) := by rw [IntKind.wrap_i64]; omega
                have hw4 : 64 * (X : Int) + b - 128 = (Y : Int) := by omega
                clear hno hXs
                go_wp2
                go_roundg (2 - (k + 1))
                case measure => have := HG.out; omega
                case rel => exact ⟨k + 1, by omega, rfl, by go_num, by rw [HYY.out], HY.out (by omega) (by omega), rfl⟩
          · have hini : ¬ (m : Int) < (s.size : Int) := by omega
            have hini2 : (s.size : Int) ≤ (m : Int) := by omega
            have e := e.2.1 (fun h2 => by have := h2 (k + 1) (by omega) (by omega); omega)
            subst e
            clear hm hok hXs
            generalize acc (byB s a) L k = X at *
            go_wp2
            go_ret2
            exact ⟨rfl, rfl⟩
        · have hkk : k = 2 - 1 := by omega
          have k5 : ¬ ((k : Int) + 1 < 2) := by omega
          have e1 : fits (acc (byB s a) L k) 128 = true → d = (acc (byB s a) L k, 2) := by subst hkk; exact e.1 hok
          have e3 : fits (acc (byB s a) L k) 128 = false → d = (0, 0) := by subst hkk; exact e.2.2
          clear e hok hXs hkk hlt hk HG hb
          generalize acc (byB s a) L k = X at *
          by_cases q1 : X < 128
          · have e := e3 (by rw [Bool.eq_false_iff]; intro h; have := (fits_iff _ _).1 h; omega)
            subst e
            clear e1 e3
            have q1i : (X : Int) < 128 := by omega
            go_wp2
            go_ret2
            exact ⟨rfl, rfl⟩
          · have q1i : ¬ ((X : Int) < 128) := by omega
            by_cases q2 : 1114111 < X
            · have e := e3 (by rw [Bool.eq_false_iff]; intro h; have := (fits_iff _ _).1 h; omega)
              subst e
              clear e1 e3
              have q2i : (1114111 : Int) < X := by omega
              go_wp2
              go_ret2
              exact ⟨rfl, rfl⟩
            · have q2i : ¬ ((1114111 : Int) < X) := by omega
              by_cases q3 : 55296 ≤ X
              · have q3i : (55296 : Int) ≤ X := by omega
                by_cases q4 : X < 57344
                · have e := e3 (by rw [Bool.eq_false_iff]; intro h; have := (fits_iff _ _).1 h; omega)
                  subst e
                  clear e1 e3
                  have q4i : (X : Int) < 57344 := by omega
                  go_wp2
                  go_ret2
                  exact ⟨rfl, rfl⟩
                · have q4i : ¬ ((X : Int) < 57344) := by omega
                  have e := e1 ((fits_iff _ _).2 (by omega))
                  subst e
                  clear e1 e3
                  go_wp2
                  go_ret2
                  exact ⟨rfl, rfl⟩
              · have q3i : ¬ ((55296 : Int) ≤ X) := by omega
                have e := e1 ((fits_iff _ _).2 (by omega))
                subst e
                clear e1 e3
                go_wp2
                go_ret2
                exact ⟨rfl, rfl⟩
    · by_cases c3 : 224 ≤ c ∧ c < 240
      · have e := r3 c3.1 c3.2 hb
        clear r0 r1 r2 r3 r4 hc
        have k2 : (192 : Int) ≤ c := by omega
        have k3 : ¬ (c : Int) < 224 := by omega
        have k4 : (224 : Int) ≤ c := by omega
        have k6 : (c : Int) < 240 := by omega
        obtain ⟨L, hL⟩ : ∃ L, c - 224 = L := ⟨_, rfl⟩
        have hLi : (c : Int) - 224 = (L : Int) := by omega
        rw [hL] at e
        go_enter Tryd.func83, Tryd.ntmps83
        go_wp2
        go_loopg [8, 10] 3 (fun gk v i wr => ∃ k : Nat, k + 1 ≤ 3 ∧ gk = 3 - k ∧ i = .int .i64 ((k : Int) + 1) ∧ v = .int .i64 (acc (byB s a) L k) ∧ oks (byB s a) (s.size - a) k ∧ wr = w)
        case atStart => exact ⟨0, by omega, rfl, rfl, rfl, fun j h1 h2 => by omega, rfl⟩
        case round =>
          obtain ⟨k, hk, hgk, rfl, rfl, hok, rfl⟩ := hrel
          have HG := hideIt hgk
          have hX := acc_bd (byB s a) L (s.size - a) (by omega) k hok
          have hXb : acc (byB s a) L k < 10000000 := Nat.lt_of_lt_of_le hX (by
            rcases (show k = 0 ∨ k = 1 ∨ k = 2 ∨ k = 3 by omega) with rfl | rfl | rfl | rfl <;> decide)
          clear hgk hX
          have hXs : acc (byB s a) L (k + 1) = 64 * acc (byB s a) L k + byB s a (k + 1) - 128 := rfl
          by_cases hlt : k + 1 < 3
          · have k5 : (k : Int) + 1 < 3 := by omega
            obtain ⟨m, hm⟩ : ∃ m : Nat, a + (k + 1) = m := ⟨_, rfl⟩
            have hmi : (a : Int) + ((k : Int) + 1) = (m : Int) := by omega
            by_cases hin : m < s.size
            · have hini : (m : Int) < (s.size : Int) := by omega
              have h1 := byB_at s a (k + 1) m hm hin
              have hb1 := hb (k + 1)
              obtain ⟨b, hbb⟩ : ∃ b, byB s a (k + 1) = b := ⟨_, rfl⟩
              have hno : (b < 128 ∨ 192 ≤ b) → d = (0, 0) := fun h => e.2.1 (fun h2 => by have := h2 (k + 1) (by omega) (by omega); omega)
              have hoy : 128 ≤ b → b < 192 → oks (byB s a) (s.size - a) (k + 1) := fun p1 p2 j q1 q2 => by
                rcases Nat.lt_or_ge k j with h | h
                · obtain rfl : j = k + 1 := by omega
                  exact ⟨by omega, by omega, by omega⟩
                · exact hok j q1 h
              rw [hbb] at h1 hb1 hXs
              have HE := hideIt e
              have HY := hideIt hoy
              clear e hok hbb hoy
              generalize acc (byB s a) L k = X at *
              obtain ⟨Y, hY⟩ : ∃ Y, acc (byB s a) L (k + 1) = Y := ⟨_, rfl⟩
              have HYY := hideIt hY
              rw [hY] at hXs
              clear hY hm
              by_cases p1 : b < 128
              · have p1i : (b : Int) < 128 := by omega
                have e := hno (Or.inl p1)
                subst e
                clear hno
                go_wp2
                go_ret2
                exact ⟨rfl, rfl⟩
              · have p1i : ¬ (b : Int) < 128 := by omega
                by_cases p2 : 192 ≤ b
                · have p2i : (192 : Int) ≤ b := by omega
                  have e := hno (Or.inr p2)
                  subst e
                  clear hno
                  go_wp2
                  go_ret2
                  exact ⟨rfl, rfl⟩
                · have p2i : ¬ (192 : Int) ≤ b := by omega
                  have hw1 : IntKind.i64.wrap (64 * (X : Int)) = 64 * X := by rw [IntKind.wrap_i64]; omega
                  have hw2 : IntKind.i64.wrap (64 * (X : Int) + b) = 64 * X + b := by rw [IntKind.wrap_i64]; omega
                  have hw3 : IntKind.i64.wrap (64 * (X : Int) + b - 128) = (Y : Int) := by rw [IntKind.wrap_i64]; omega
                  have hw4 : 64 * (X : Int) + b - 128 = (Y : Int) := by omega
                  clear hno hXs
                  go_wp2
                  go_roundg (3 - (k + 1))
                  case measure => have := HG.out; omega
                  case rel => exact ⟨k + 1, by omega, rfl, by go_num, by rw [HYY.out], HY.out (by omega) (by omega), rfl⟩
            · have hini : ¬ (m : Int) < (s.size : Int) := by omega
              have hini2 : (s.size : Int) ≤ (m : Int) := by omega
              have e := e.2.1 (fun h2 => by have := h2 (k + 1) (by omega) (by omega); omega)
              subst e
              clear hm hok hXs
              generalize acc (byB s a) L k = X at *
              go_wp2
              go_ret2
              exact ⟨rfl, rfl⟩
          · have hkk : k = 3 - 1 := by omega
            have k5 : ¬ ((k : Int) + 1 < 3) := by omega
            have e1 : fits (acc (byB s a) L k) 2048 = true → d = (acc (byB s a) L k, 3) := by subst hkk; exact e.1 hok
            have e3 : fits (acc (byB s a) L k) 2048 = false → d = (0, 0) := by subst hkk; exact e.2.2
            clear e hok hXs hkk hlt hk HG hb
            generalize acc (byB s a) L k = X at *
            by_cases q1 : X < 2048
            · have e := e3 (by rw [Bool.eq_false_iff]; intro h; have := (fits_iff _ _).1 h; omega)
              subst e
              clear e1 e3
              have q1i : (X : Int) < 2048 := by omega
              go_wp2
              go_ret2
              exact ⟨rfl, rfl⟩
            · have q1i : ¬ ((X : Int) < 2048) := by omega
              by_cases q2 : 1114111 < X
              · have e := e3 (by rw [Bool.eq_false_iff]; intro h; have := (fits_iff _ _).1 h; omega)
                subst e
                clear e1 e3
                have q2i : (1114111 : Int) < X := by omega
                go_wp2
                go_ret2
                exact ⟨rfl, rfl⟩
              · have q2i : ¬ ((1114111 : Int) < X) := by omega
                by_cases q3 : 55296 ≤ X
                · have q3i : (55296 : Int) ≤ X := by omega
                  by_cases q4 : X < 57344
                  · have e := e3 (by rw [Bool.eq_false_iff]; intro h; have := (fits_iff _ _).1 h; omega)
                    subst e
                    clear e1 e3
                    have q4i : (X : Int) < 57344 := by omega
                    go_wp2
                    go_ret2
                    exact ⟨rfl, rfl⟩
                  · have q4i : ¬ ((X : Int) < 57344) := by omega
                    have e := e1 ((fits_iff _ _).2 (by omega))
                    subst e
                    clear e1 e3
                    go_wp2
                    go_ret2
                    exact ⟨rfl, rfl⟩
                · have q3i : ¬ ((55296 : Int) ≤ X) := by omega
                  have e := e1 ((fits_iff _ _).2 (by omega))
                  subst e
                  clear e1 e3
                  go_wp2
                  go_ret2
                  exact ⟨rfl, rfl⟩
      · by_cases c4 : 240 ≤ c ∧ c < 248
        · have e := r4 c4.1 c4.2 hb
          clear r0 r1 r2 r3 r4 hc
          have k2 : (192 : Int) ≤ c := by omega
          have k3 : ¬ (c : Int) < 224 := by omega
          have k4 : (224 : Int) ≤ c := by omega
          have k6 : ¬ (c : Int) < 240 := by omega
          have k7 : (240 : Int) ≤ c := by omega
          have k8 : (c : Int) < 248 := by omega
          obtain ⟨L, hL⟩ : ∃ L, c - 240 = L := ⟨_, rfl⟩
          have hLi : (c : Int) - 240 = (L : Int) := by omega
          rw [hL] at e
          go_enter Tryd.func83, Tryd.ntmps83
          go_wp2
          go_loopg [8, 10] 4 (fun gk v i wr => ∃ k : Nat, k + 1 ≤ 4 ∧ gk = 4 - k ∧ i = .int .i64 ((k : Int) + 1) ∧ v = .int .i64 (acc (byB s a) L k) ∧ oks (byB s a) (s.size - a) k ∧ wr = w)
          case atStart => exact ⟨0, by omega, rfl, rfl, rfl, fun j h1 h2 => by omega, rfl⟩
          case round =>
            obtain ⟨k, hk, hgk, rfl, rfl, hok, rfl⟩ := hrel
            have HG := hideIt hgk
            have hX := acc_bd (byB s a) L (s.size - a) (by omega) k hok
            have hXb : acc (byB s a) L k < 10000000 := Nat.lt_of_lt_of_le hX (by
              rcases (show k = 0 ∨ k = 1 ∨ k = 2 ∨ k = 3 by omega) with rfl | rfl | rfl | rfl <;> decide)
            clear hgk hX
            have hXs : acc (byB s a) L (k + 1) = 64 * acc (byB s a) L k + byB s a (k + 1) - 128 := rfl
            by_cases hlt : k + 1 < 4
            · have k5 : (k : Int) + 1 < 4 := by omega
              obtain ⟨m, hm⟩ : ∃ m : Nat, a + (k + 1) = m := ⟨_, rfl⟩
              have hmi : (a : Int) + ((k : Int) + 1) = (m : Int) := by omega
              by_cases hin : m < s.size
              · have hini : (m : Int) < (s.size : Int) := by omega
                have h1 := byB_at s a (k + 1) m hm hin
                have hb1 := hb (k + 1)
                obtain ⟨b, hbb⟩ : ∃ b, byB s a (k + 1) = b := ⟨_, rfl⟩
                have hno : (b < 128 ∨ 192 ≤ b) → d = (0, 0) := fun h => e.2.1 (fun h2 => by have := h2 (k + 1) (by omega) (by omega); omega)
                have hoy : 128 ≤ b → b < 192 → oks (byB s a) (s.size - a) (k + 1) := fun p1 p2 j q1 q2 => by
                  rcases Nat.lt_or_ge k j with h | h
                  · obtain rfl : j = k + 1 := by omega
                    exact ⟨by omega, by omega, by omega⟩
                  · exact hok j q1 h
                rw [hbb] at h1 hb1 hXs
                have HE := hideIt e
                have HY := hideIt hoy
                clear e hok hbb hoy
                generalize acc (byB s a) L k = X at *
                obtain ⟨Y, hY⟩ : ∃ Y, acc (byB s a) L (k + 1) = Y := ⟨_, rfl⟩
                have HYY := hideIt hY
                rw [hY] at hXs
                clear hY hm
                by_cases p1 : b < 128
                · have p1i : (b : Int) < 128 := by omega
                  have e := hno (Or.inl p1)
                  subst e
                  clear hno
                  go_wp2
                  go_ret2
                  exact ⟨rfl, rfl⟩
                · have p1i : ¬ (b : Int) < 128 := by omega
                  by_cases p2 : 192 ≤ b
                  · have p2i : (192 : Int) ≤ b := by omega
                    have e := hno (Or.inr p2)
                    subst e
                    clear hno
                    go_wp2
                    go_ret2
                    exact ⟨rfl, rfl⟩
                  · have p2i : ¬ (192 : Int) ≤ b := by omega
                    have hw1 : IntKind.i64.wrap (64 * (X : Int)) = 64 * X := by rw [IntKind.wrap_i64]; omega
                    have hw2 : IntKind.i64.wrap (64 * (X : Int) + b) = 64 * X + b := by rw [IntKind.wrap_i64]; omega
                    have hw3 : IntKind.i64.wrap (64 * (X : Int) + b - 128) = (Y : Int) := by rw [IntKind.wrap_i64]; omega
                    have hw4 : 64 * (X : Int) + b - 128 = (Y : Int) := by omega
                    clear hno hXs
                    go_wp2
                    go_roundg (4 - (k + 1))
                    case measure => have := HG.out; omega
                    case rel => exact ⟨k + 1, by omega, rfl, by go_num, by rw [HYY.out], HY.out (by omega) (by omega), rfl⟩
              · have hini : ¬ (m : Int) < (s.size : Int) := by omega
                have hini2 : (s.size : Int) ≤ (m : Int) := by omega
                have e := e.2.1 (fun h2 => by have := h2 (k + 1) (by omega) (by omega); omega)
                subst e
                clear hm hok hXs
                generalize acc (byB s a) L k = X at *
                go_wp2
                go_ret2
                exact ⟨rfl, rfl⟩
            · have hkk : k = 4 - 1 := by omega
              have k5 : ¬ ((k : Int) + 1 < 4) := by omega
              have e1 : fits (acc (byB s a) L k) 65536 = true → d = (acc (byB s a) L k, 4) := by subst hkk; exact e.1 hok
              have e3 : fits (acc (byB s a) L k) 65536 = false → d = (0, 0) := by subst hkk; exact e.2.2
              clear e hok hXs hkk hlt hk HG hb
              generalize acc (byB s a) L k = X at *
              by_cases q1 : X < 65536
              · have e := e3 (by rw [Bool.eq_false_iff]; intro h; have := (fits_iff _ _).1 h; omega)
                subst e
                clear e1 e3
                have q1i : (X : Int) < 65536 := by omega
                go_wp2
                go_ret2
                exact ⟨rfl, rfl⟩
              · have q1i : ¬ ((X : Int) < 65536) := by omega
                by_cases q2 : 1114111 < X
                · have e := e3 (by rw [Bool.eq_false_iff]; intro h; have := (fits_iff _ _).1 h; omega)
                  subst e
                  clear e1 e3
                  have q2i : (1114111 : Int) < X := by omega
                  go_wp2
                  go_ret2
                  exact ⟨rfl, rfl⟩
                · have q2i : ¬ ((1114111 : Int) < X) := by omega
                  by_cases q3 : 55296 ≤ X
                  · have q3i : (55296 : Int) ≤ X := by omega
                    by_cases q4 : X < 57344
                    · have e := e3 (by rw [Bool.eq_false_iff]; intro h; have := (fits_iff _ _).1 h; omega)
                      subst e
                      clear e1 e3
                      have q4i : (X : Int) < 57344 := by omega
                      go_wp2
                      go_ret2
                      exact ⟨rfl, rfl⟩
                    · have q4i : ¬ ((X : Int) < 57344) := by omega
                      have e := e1 ((fits_iff _ _).2 (by omega))
                      subst e
                      clear e1 e3
                      go_wp2
                      go_ret2
                      exact ⟨rfl, rfl⟩
                  · have q3i : ¬ ((55296 : Int) ≤ X) := by omega
                    have e := e1 ((fits_iff _ _).2 (by omega))
                    subst e
                    clear e1 e3
                    go_wp2
                    go_ret2
                    exact ⟨rfl, rfl⟩
        · have e := r0 (by omega)
          clear r0 r1 r2 r3 r4 hc hb
          subst e
          by_cases c5 : c < 192
          · have k2 : ¬ (192 : Int) ≤ c := by omega
            have k4 : ¬ (224 : Int) ≤ c := by omega
            have k7 : ¬ (240 : Int) ≤ c := by omega
            go_enter Tryd.func83, Tryd.ntmps83
            go_wp2
            go_ret2
            exact ⟨rfl, rfl⟩
          · have k2 : (192 : Int) ≤ c := by omega
            have k3 : ¬ (c : Int) < 224 := by omega
            have k4 : (224 : Int) ≤ c := by omega
            have k6 : ¬ (c : Int) < 240 := by omega
            have k7 : (240 : Int) ≤ c := by omega
            have k8 : ¬ (c : Int) < 248 := by omega
            go_enter Tryd.func83, Tryd.ntmps83
            go_wp2
            go_ret2
            exact ⟨rfl, rfl⟩
end Go.Proofs.YtkecekfapiegjaaDoor
/-
  paymasterref07's Ids, walked: within, MayId.
-/
namespace Go.Proofs.YtkecekfapiegjaaDoor
set_option linter.unusedVariables false
set_option linter.unusedSimpArgs false
set_option maxRecDepth 10000
open Go.RowKit Go.Lib

set_option maxHeartbeats 2000000 in
theorem within_any (c : Nat) (w : World) : Calls Tryd.prog 84 #[.int .i64 c] w (Plain (.bool (idRune c)) w) := by
  rw [idRune_def]
  obtain ⟨A, hA⟩ : ∃ A, decide ((97 ≤ c ∧ c ≤ 122) ∨ (65 ≤ c ∧ c ≤ 90) ∨ (48 ≤ c ∧ c ≤ 57) ∨ c = 46 ∨ c = 95 ∨ c = 45 ∨ 161 ≤ c) = A := ⟨_, rfl⟩
  rw [hA]
  have HA := hideIt hA
  clear hA
  go_enter Tryd.func84, Tryd.ntmps84
  go_wp2
  all_goals go_ret
  all_goals refine ⟨(congrArg (fun b => Ending.returned (Value.bool b)) ?_ : Ending.returned (Value.bool _) = Ending.returned (Value.bool A)), rfl⟩
  all_goals rw [← HA.out, Bool.eq_iff_iff]
  all_goals (simp only [Bool.or_eq_true, decide_eq_true_eq, beq_iff_eq, true_iff]; omega)

set_option maxHeartbeats 2000000 in
theorem rmayId_any (s : ByteArray) (hs : s.size ≤ 1000000) (w : World) : Calls Tryd.prog 59 #[.string s] w (Plain (.bool (isId s.data.toList)) w) := by
  obtain ⟨A, hA⟩ : ∃ A, isId s.data.toList = A := ⟨_, rfl⟩
  have HA := hideIt hA
  rw [hA]
  clear hA
  go_enter Tryd.func59, Tryd.ntmps59
  go_wp2
  go_loopg [3, 4] (s.size + 1) (fun gk n p wr => ∃ (a k : Nat), gk + a = s.size + 1 ∧ p = .int .i64 a ∧ n = .int .i64 k ∧ k ≤ a ∧ idK k (s.data.toList.drop a) = A ∧ wr = w)
  case atStart => exact ⟨0, 0, by omega, rfl, rfl, by omega, HA.out, rfl⟩
  case round =>
    obtain ⟨a, k, hg, rfl, rfl, hk, hid, rfl⟩ := hrel
    by_cases hp : a < s.size
    · have hpi : (a : Int) < (s.size : Int) := by omega
      have hne := drop_ne hp
      have hw := decodeL_width (s.data.toList.drop a)
      have hle := decodeL_le _ hne
      have hrl := decodeL_rune (s.data.toList.drop a)
      have cR := fun u => rune_any s a hp hs u
      rw [List.length_drop, ba_size] at hle
      rw [idK_step _ _ hne, List.drop_drop] at hid
      unfold runeR at cR
      by_cases hb : badR (s.data.toList.drop a)
      · rw [if_pos hb] at hid
        simp only [if_pos hb] at cR
        subst hid
        go_wp2_with (first | (go_at_call 83; refine (cR _).mono ?_; rintro e w' ⟨rfl, rfl⟩))
        go_ret
        exact ⟨rfl, rfl⟩
      · rw [if_neg hb] at hid
        simp only [if_neg hb] at cR
        generalize decodeL (s.data.toList.drop a) = d at *
        obtain ⟨r, z⟩ := d
        simp only at hw hle hrl hid cR
        have cL := fun u => within_any r u
        have hz : ((z : Int) == 0) = false := by simp; omega
        by_cases hr : idRune r = true
        · rw [if_pos hr] at hid
          rw [hr] at cL
          clear hne
          go_wp2_with (first
            | (go_at_call 83; refine (cR _).mono ?_; rintro e w' ⟨rfl, rfl⟩)
            | (go_at_call 84; refine (cL _).mono ?_; rintro e w' ⟨rfl, rfl⟩))
          go_roundg (s.size + 1 - (a + z))
          case measure => omega
          case rel => exact ⟨a + z, k + 1, by omega, by go_num, by go_num, by omega, hid, rfl⟩
        · rw [if_neg hr] at hid
          rw [Bool.not_eq_true] at hr
          rw [hr] at cL
          subst hid
          go_wp2_with (first
            | (go_at_call 83; refine (cR _).mono ?_; rintro e w' ⟨rfl, rfl⟩)
            | (go_at_call 84; refine (cL _).mono ?_; rintro e w' ⟨rfl, rfl⟩))
          go_ret
          exact ⟨rfl, rfl⟩
    · have hpi : ¬ (a : Int) < (s.size : Int) := by omega
      rw [List.drop_of_length_le (by rw [ba_size]; omega), idK_nil] at hid
      by_cases hk1 : 1 ≤ k
      · have hk1i : (1 : Int) ≤ k := by omega
        have e : decide ((k : Int) ≤ 24) = A := by rw [← hid]; exact decide_eq_decide.2 (by omega)
        clear hid HA
        go_wp2
        go_ret
        exact ⟨rfl, rfl⟩
      · have hk1i : ¬ (1 : Int) ≤ k := by omega
        rw [decide_eq_false (by omega)] at hid
        subst hid
        go_wp2
        go_ret
        exact ⟨rfl, rfl⟩
end Go.Proofs.YtkecekfapiegjaaDoor
