/-
  decimal.Text, Digits, Digit, walked: a number's text, how many digits it has, and the digit at a place.
-/
import Derived.Test.YtieieafjakcnpaaD2Digits
import Derived.IntWalk
namespace Go.Proofs.Ytieieafjakcnpaa
set_option linter.unusedVariables false
set_option linter.unusedSimpArgs false
open Go.RowKit

theorem conv_lies {w : World} {g o : Nat} {l : List UInt8} (h : Lies w g o l) (c : Nat) : (convert 47 9 (.slice (some ⟨g, o, none⟩) l.length c)).run Try.prog w = .ok (.string (str l)) w := by
  have hconv := run_convert_bytes_arg (P := Try.prog) w 47 5 Try.underlying47 Try.underlying5 g o l.length c (l.map fun c : UInt8 => (c.toNat : Int)) (by simp) h 9 Try.underlying9
  rw [str_nums] at hconv
  exact hconv
theorem text_any (ah al : Int) (a1 : Word ah) (a0 : Word al) (w : World) :
    Calls Try.prog 11 #[.agg #[.int .u64 ah, .int .u64 al]] w (Tells (.string (str (decL (nv ah al).toNat))) w.heap.size w) := by
  have L0 : Below w.heap.size w (w.alloc (.cells #[.int .u64 ah, .int .u64 al] 24)) := by repeat (first | exact Below.refl _ _ | apply Below.drew | apply below_drewN | refine Below.alloc ?_ (by simp; try omega) _ | refine Below.setCell ?_ (by simp; try omega) _)
  have cD := fun u : World => ddigits_any ah al a1 a0 u
  obtain ⟨l, hl⟩ : ∃ l, decL (nv ah al).toNat = l := ⟨_, rfl⟩
  rw [hl] at cD ⊢
  clear hl
  go_enter Try.func11, Try.ntmps11
  go_wp2_with (first
    | (go_at_call 28; refine (cD _).mono ?_; rintro e w1 ⟨g, o, rfl, h1, h2, h3, h4⟩
       have hconv := conv_lies h3 l.length))
  go_ret
  exact ⟨rfl, chain L0 h4⟩

theorem ndigits_any (ah al : Int) (a1 : Word ah) (a0 : Word al) (w : World) :
    Calls Try.prog 17 #[.agg #[.int .u64 ah, .int .u64 al]] w (Tells (.int .i64 ((decL (nv ah al).toNat).length : Int)) w.heap.size w) := by
  have L0 : Below w.heap.size w (w.alloc (.cells #[.int .u64 ah, .int .u64 al] 24)) := by repeat (first | exact Below.refl _ _ | apply Below.drew | apply below_drewN | refine Below.alloc ?_ (by simp; try omega) _ | refine Below.setCell ?_ (by simp; try omega) _)
  have cD := fun u : World => ddigits_any ah al a1 a0 u
  obtain ⟨l, hl⟩ : ∃ l, decL (nv ah al).toNat = l := ⟨_, rfl⟩
  rw [hl] at cD ⊢
  clear hl
  go_enter Try.func17, Try.ntmps17
  go_wp2_with (first
    | (go_at_call 28; refine (cD _).mono ?_; rintro e w1 ⟨g, o, rfl, h1, h2, h3, h4⟩))
  go_ret
  exact ⟨rfl, chain L0 h4⟩

/-- The digit at a place, counted from the right. -/
def digAt (n : Nat) (k : Int) : Int := if k < 0 then 0 else ((n / 10 ^ k.toNat % 10 : Nat) : Int)
theorem digAt_neg {n : Nat} {k : Int} (h : k < 0) : digAt n k = 0 := if_pos h
theorem digAt_nat (n k : Nat) : digAt n (k : Int) = ((n / 10 ^ k % 10 : Nat) : Int) := by
  unfold digAt
  rw [if_neg (by omega)]
  rfl
theorem digAt_past {n k : Nat} (h : (decL n).length ≤ k) : digAt n (k : Int) = 0 := by rw [digAt_nat, decL_none h]; rfl

set_option maxHeartbeats 2000000 in
theorem ddigit_any (ah al k : Int) (a1 : Word ah) (a0 : Word al) (hk1 : -9223372036854775808 ≤ k) (hk2 : k < 9223372036854775808) (w : World) :
    Calls Try.prog 18 #[.agg #[.int .u64 ah, .int .u64 al], .int .i64 k] w (Tells (.int .u8 (digAt (nv ah al).toNat k)) w.heap.size w) := by
  have L0 : Below w.heap.size w (w.alloc (.cells #[.int .u64 ah, .int .u64 al] 24)) := by repeat (first | exact Below.refl _ _ | apply Below.drew | apply below_drewN | refine Below.alloc ?_ (by simp; try omega) _ | refine Below.setCell ?_ (by simp; try omega) _)
  have cD := fun u : World => ddigits_any ah al a1 a0 u
  have h39 := decL_39 (n := (nv ah al).toNat) (by have := nv_word a1 a0; omega)
  obtain ⟨N, hN⟩ : ∃ N, (nv ah al).toNat = N := ⟨_, rfl⟩
  rw [hN] at cD h39 ⊢
  clear hN
  by_cases hk : k < 0
  · rw [digAt_neg hk]
    have hl : (0 : Int) ≤ ((decL N).length : Int) := by omega
    obtain ⟨l, el⟩ : ∃ l, decL N = l := ⟨_, rfl⟩
    rw [el] at cD
    clear el h39 hl
    go_enter Try.func18, Try.ntmps18
    go_wp2_with (first
      | (go_at_call 28; refine (cD _).mono ?_; rintro e w1 ⟨g, o, rfl, h1, h2, h3, h4⟩))
    go_ret
    exact ⟨rfl, chain L0 h4⟩
  · obtain ⟨j, rfl⟩ : ∃ j : Nat, k = (j : Int) := ⟨k.toNat, by omega⟩
    by_cases hj : (decL N).length ≤ j
    · rw [digAt_past hj]
      obtain ⟨l, el⟩ : ∃ l, decL N = l := ⟨_, rfl⟩
      rw [el] at cD hj
      clear el h39
      have hj2 : (l.length : Int) ≤ (j : Int) := by omega
      have hk' : ¬ ((j : Int) < 0) := hk
      go_enter Try.func18, Try.ntmps18
      go_wp2_with (first
        | (go_at_call 28; refine (cD _).mono ?_; rintro e w1 ⟨g, o, rfl, h1, h2, h3, h4⟩))
      go_ret
      exact ⟨rfl, chain L0 h4⟩
    · have hat := decL_at j N (by omega)
      rw [digAt_nat]
      obtain ⟨c, hc⟩ : ∃ c, dig (N / 10 ^ j) = c := ⟨_, rfl⟩
      have hcv := dig_nat (N / 10 ^ j)
      obtain ⟨v, hv⟩ : ∃ v, N / 10 ^ j % 10 = v := ⟨_, rfl⟩
      rw [hv] at hcv ⊢
      rw [hc] at hat hcv
      have hv10 : v < 10 := by omega
      obtain ⟨l, el⟩ : ∃ l, decL N = l := ⟨_, rfl⟩
      rw [el] at cD hat hj h39
      have hj2 : ¬ ((l.length : Int) ≤ (j : Int)) := by omega
      have hk' : ¬ ((j : Int) < 0) := hk
      have s1 : ((l.length : Int) - 1) - (j : Int) = ((l.length - 1 - j : Nat) : Int) := by omega
      have s0 : IntKind.i64.wrap ((l.length : Int) - 1) = (l.length : Int) - 1 := IntWalk.i64_in _ (by omega)
      clear hc hv el
      have s2 : IntKind.i64.wrap (((l.length - 1 - j : Nat)) : Int) = ((l.length - 1 - j : Nat) : Int) := IntWalk.i64_in _ (by omega)
      have i0 : (0 : Int) ≤ ((l.length - 1 - j : Nat) : Int) := by omega
      have i1 : ((l.length - 1 - j : Nat) : Int) < (l.length : Int) := by omega
      have i2 : l.length - 1 - j < l.length := by omega
      have y1 : IntKind.u8.wrap (48 + (v : Int) - 48) = (v : Int) := by rw [IntKind.wrap_u8]; omega
      obtain ⟨q, hq⟩ : ∃ q, l.length - 1 - j = q := ⟨_, rfl⟩
      rw [hq] at hat s1 s2 i0 i1 i2
      clear hq h39 hj hk hj2 hk1 hk2 hv10
      go_enter Try.func18, Try.ntmps18
      go_upto_region 4 with (first
        | (go_at_call 28; refine (cD _).mono ?_; rintro e w1 ⟨g, o, rfl, h1, h2, h3, h4⟩
           have hcell := h3 q i2
           rw [List.getD_eq_getElem?_getD, List.getElem?_map, hat] at hcell
           simp only [Option.map_some, Option.getD_some] at hcell
           rw [hcv, Int.natCast_add] at hcell))
      go_wp2
      go_ret
      exact ⟨rfl, chain L0 h4⟩
end Go.Proofs.Ytieieafjakcnpaa
