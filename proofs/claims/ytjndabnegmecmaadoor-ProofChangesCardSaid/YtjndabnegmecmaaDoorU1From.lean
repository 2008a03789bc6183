/-
  u128.From, walked: the number whose sixteen bytes they are; any text.
-/
import Derived.Test.YtjndabnegmecmaaDoorU1Bytes
import Derived.Laws.Bits64b
import Derived.RegionTactic
import Derived.Deep.RegionWith
namespace Go.Proofs.YtjndabnegmecmaaDoor
set_option linter.unusedVariables false
set_option linter.unusedSimpArgs false
set_option maxRecDepth 10000
open Go.RowKit

/-- The number of bytes, the greatest first. -/
def beN (l : List UInt8) : Nat := l.foldl (fun a c => a * 256 + c.toNat) 0
theorem beN_snoc (l : List UInt8) (c : UInt8) : beN (l ++ [c]) = beN l * 256 + c.toNat := by simp [beN]
theorem be_fold : ∀ (l : List UInt8) (a : Nat), l.foldl (fun a c => a * 256 + c.toNat) a + 1 ≤ (a + 1) * 256 ^ l.length
  | [], a => by simp
  | c :: r, a => by
    have h := be_fold r (a * 256 + c.toNat)
    have hc := c.toNat_lt
    have h2 : (a * 256 + c.toNat + 1) * 256 ^ r.length ≤ (a + 1) * 256 * 256 ^ r.length := Nat.mul_le_mul_right _ (by omega)
    rw [List.foldl_cons, List.length_cons, Nat.pow_succ, Nat.mul_comm (256 ^ r.length), ← Nat.mul_assoc]
    exact Nat.le_trans h h2
theorem beN_lt (l : List UInt8) : beN l < 256 ^ l.length := by
  have := be_fold l 0
  unfold beN
  omega
theorem or_byte (a c : Int) (ha : 0 ≤ a) (ha' : a < 72057594037927936) (hc : 0 ≤ c) (hc' : c < 256) : bits .or .u64 (a * 256) c = a * 256 + c := by
  obtain ⟨a, rfl⟩ := Int.eq_ofNat_of_zero_le ha
  obtain ⟨c, rfl⟩ := Int.eq_ofNat_of_zero_le hc
  have h := bits_or_u64_nat (a * 256) c (by omega) (by omega)
  have e : a * 256 ||| c = a * 256 + c := by
    rw [Nat.mul_comm, show (256 : Nat) = 2 ^ 8 from rfl, ← Nat.two_pow_add_eq_or_of_lt (by omega)]
  rw [e] at h
  exact h

/-- What From tells of a text. -/
def fromH (s : ByteArray) : Int := if s.size = 16 then (beN (s.data.toList.take 8) : Nat) else 0
def fromL (s : ByteArray) : Int := if s.size = 16 then (beN (s.data.toList.drop 8) : Nat) else 0
def fromE (s : ByteArray) : Int := if s.size = 16 then 0 else 2
end Go.Proofs.YtjndabnegmecmaaDoor
