/-
  decimal.Text, Digits, Digit, walked: a number's text, how many digits it has, and the digit at a place.
-/
import Derived.Test.YtfnbehijnmbhjaaDoorD2Digits
import Derived.IntWalk
namespace Go.Proofs.YtfnbehijnmbhjaaDoor
set_option linter.unusedVariables false
set_option linter.unusedSimpArgs false
set_option maxRecDepth 10000
open Go.RowKit

theorem conv_lies {w : World} {g o : Nat} {l : List UInt8} (h : Lies w g o l) (c : Nat) : (convert 76 9 (.slice (some ⟨g, o, none⟩) l.length c)).run Tryd.prog w = .ok (.string (str l)) w := by
  have hconv := run_convert_bytes_arg (P := Tryd.prog) w 76 5 Tryd.underlying76 Tryd.underlying5 g o l.length c (l.map fun c : UInt8 => (c.toNat : Int)) (by simp) h 9 Tryd.underlying9
  rw [str_nums] at hconv
  exact hconv
theorem text_any (ah al : Int) (a1 : Word ah) (a0 : Word al) (w : World) :
    Calls Tryd.prog 32 #[.agg #[.int .u64 ah, .int .u64 al]] w (Tells (.string (str (decL (nv ah al).toNat))) w.heap.size w) := by
  have L0 : Below w.heap.size w (w.alloc (.cells #[.int .u64 ah, .int .u64 al] 24)) := by repeat (first | exact Below.refl _ _ | apply Below.drew | apply below_drewN | refine Below.alloc ?_ (by simp; try omega) _ | refine Below.setCell ?_ (by simp; try omega) _)
  have cD := fun u : World => ddigits_any ah al a1 a0 u
  obtain ⟨l, hl⟩ : ∃ l, decL (nv ah al).toNat = l := ⟨_, rfl⟩
  rw [hl] at cD ⊢
  clear hl
  go_enter Tryd.func32, Tryd.ntmps32
  go_wp2_with (first
    | (go_at_call 57; refine (cD _).mono ?_; rintro e w1 ⟨g, o, rfl, h1, h2, h3, h4⟩
       have hconv := conv_lies h3 l.length))
  go_ret
  exact ⟨rfl, chain L0 h4⟩

def digAt (n : Nat) (k : Int) : Int := if k < 0 then 0 else ((n / 10 ^ k.toNat % 10 : Nat) : Int)
theorem digAt_neg {n : Nat} {k : Int} (h : k < 0) : digAt n k = 0 := if_pos h
theorem digAt_nat (n k : Nat) : digAt n (k : Int) = ((n / 10 ^ k % 10 : Nat) : Int) := by
  unfold digAt
  rw [if_neg (by omega)]
  rfl
theorem digAt_past {n k : Nat} (h : (decL n).length ≤ k) : digAt n (k : Int) = 0 := by rw [digAt_nat, decL_none h]; rfl

end Go.Proofs.YtfnbehijnmbhjaaDoor
