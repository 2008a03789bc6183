/- Several of my texts, laid as one. -/
import Derived.Test.YtkecekfapiegjaaDoorU1Bytes
import Derived.Laws.Bits64b
import Derived.RegionTactic
import Derived.Deep.RegionWith
import Derived.Laws.Strings
/-
  u128.From, walked: the number whose sixteen bytes they are; any text.
-/
namespace Go.Proofs.YtkecekfapiegjaaDoor
set_option linter.unusedVariables false
set_option linter.unusedSimpArgs false
set_option maxRecDepth 10000
open Go.RowKit

/-- The number of bytes, the greatest first. -/
def beN (l : List UInt8) : Nat := l.foldl (fun a c => a * 256 + c.toNat) 0
theorem beN_snoc (l : List UInt8) (c : UInt8) : beN (l ++ [c]) = beN l * 256 + c.toNat := by simp [beN]
theorem be_fold : ∀ (l : List UInt8) (a : Nat), l.foldl (fun a c => a * 256 + c.toNat) a + 1 ≤ (a + 1) * 256 ^ l.length
  | [], a => by simp
  | c :: r, a => by
    have h := be_fold r (a * 256 + c.toNat)
    have hc := c.toNat_lt
    have h2 : (a * 256 + c.toNat + 1) * 256 ^ r.length ≤ (a + 1) * 256 * 256 ^ r.length := Nat.mul_le_mul_right _ (by omega)
    rw [List.foldl_cons, List.length_cons, Nat.pow_succ, Nat.mul_comm (256 ^ r.length), ← Nat.mul_assoc]
    exact Nat.le_trans h h2
theorem beN_lt (l : List UInt8) : beN l < 256 ^ l.length := by
  have := be_fold l 0
  unfold beN
  omega
theorem or_byte (a c : Int) (ha : 0 ≤ a) (ha' : a < 72057594037927936) (hc : 0 ≤ c) (hc' : c < 256) : bits .or .u64 (a * 256) c = a * 256 + c := by
  obtain ⟨a, rfl⟩ := Int.eq_ofNat_of_zero_le ha
  obtain ⟨c, rfl⟩ := Int.eq_ofNat_of_zero_le hc
  have h := bits_or_u64_nat (a * 256) c (by omega) (by omega)
  have e : a * 256 ||| c = a * 256 + c := by
    rw [Nat.mul_comm, show (256 : Nat) = 2 ^ 8 from rfl, ← Nat.two_pow_add_eq_or_of_lt (by omega)]
  rw [e] at h
  exact h

/-- What From tells of a text. -/
def fromH (s : ByteArray) : Int := if s.size = 16 then (beN (s.data.toList.take 8) : Nat) else 0
def fromL (s : ByteArray) : Int := if s.size = 16 then (beN (s.data.toList.drop 8) : Nat) else 0
def fromE (s : ByteArray) : Int := if s.size = 16 then 0 else 2
end Go.Proofs.YtkecekfapiegjaaDoor
/-
  The order of two numbers' bytes is the order of the numbers. No program is named here.
-/
namespace Go.Proofs.YtkecekfapiegjaaDoor
set_option linter.unusedVariables false
set_option linter.unusedSimpArgs false
set_option maxRecDepth 10000
open Go.RowKit

theorem be_foldN : ∀ (l : List UInt8) (a : Nat), l.foldl (fun a c => a * 256 + c.toNat) a = a * 256 ^ l.length + l.foldl (fun a c => a * 256 + c.toNat) 0
  | [], a => by simp
  | c :: r, a => by
    have h0 := be_foldN r (a * 256 + c.toNat)
    have h1 := be_foldN r (0 * 256 + c.toNat)
    rw [List.foldl_cons, List.foldl_cons, h0, h1, List.length_cons, Nat.pow_succ, Nat.add_mul, Nat.add_mul, Nat.zero_mul, Nat.zero_add, Nat.mul_assoc, Nat.mul_comm 256]
    generalize List.foldl (fun a c => a * 256 + c.toNat) 0 r = z
    omega
theorem beN_cons (c : UInt8) (r : List UInt8) : beN (c :: r) = c.toNat * 256 ^ r.length + beN r := by
  have := be_foldN r (0 * 256 + c.toNat)
  unfold beN
  rw [List.foldl_cons, this, Nat.zero_mul, Nat.zero_add]
theorem beN_append (a b : List UInt8) : beN (a ++ b) = beN a * 256 ^ b.length + beN b := by
  unfold beN
  rw [List.foldl_append, be_foldN]
theorem less_be : ∀ (a b : List UInt8), a.length = b.length → Op.bytesLess a b = decide (beN a < beN b)
  | [], [], _ => by simp [Op.bytesLess]
  | x :: a, y :: b, h => by
    have hl : a.length = b.length := by simpa using h
    have ih := less_be a b hl
    have la := beN_lt a
    have lb := beN_lt b
    rw [hl] at la
    rw [beN_cons, beN_cons, hl]
    generalize 256 ^ b.length = P at *
    simp only [Op.bytesLess, ih]
    rcases Nat.lt_trichotomy x.toNat y.toNat with hx | hx | hx
    · have h1 : (x.toNat + 1) * P ≤ y.toNat * P := Nat.mul_le_mul_right _ hx
      rw [Nat.add_mul, Nat.one_mul] at h1
      have e1 : decide (x < y) = true := by simpa [UInt8.lt_iff_toNat_lt] using hx
      rw [e1, Bool.true_or, eq_comm, decide_eq_true_eq]
      omega
    · have e0 : x = y := UInt8.toNat_inj.1 hx
      subst e0
      have e1 : decide (x < x) = false := by simp
      rw [e1, Bool.false_or, beq_self_eq_true, Bool.true_and]
      congr 1
      simp
    · have h1 : (y.toNat + 1) * P ≤ x.toNat * P := Nat.mul_le_mul_right _ hx
      rw [Nat.add_mul, Nat.one_mul] at h1
      have e1 : decide (x < y) = false := by simp [UInt8.lt_iff_toNat_lt]; omega
      have e2 : (x == y) = false := by
        rw [beq_eq_false_iff_ne]; intro e; subst e; omega
      rw [e1, e2, Bool.false_and, Bool.or_false, eq_comm, decide_eq_false_iff_not]
      omega

/-- The bytes of a half, read again. -/
theorem be_half {h : Int} (hh : Word h) : (beN ((List.range 8).map fun i => UInt8.ofNat (byteAt h i).toNat) : Int) = h := by
  obtain ⟨h0, h1⟩ := hh
  obtain ⟨n, rfl⟩ := Int.eq_ofNat_of_zero_le h0
  have hb : ∀ i, (UInt8.ofNat (byteAt (n : Int) i).toNat).toNat = n / 2 ^ (8 * (7 - i)) % 256 := fun i => by
    have e : byteAt (n : Int) i = ((n / 2 ^ (8 * (7 - i)) % 256 : Nat) : Int) := by
      unfold byteAt
      rw [show ((2 : Int) ^ (8 * (7 - i))) = ((2 ^ (8 * (7 - i)) : Nat) : Int) by simp, ← Int.natCast_ediv]
      omega
    rw [e, Int.toNat_natCast, UInt8.toNat_ofNat']
    omega
  have e : beN ((List.range 8).map fun i => UInt8.ofNat (byteAt (n : Int) i).toNat) = n := by
    simp only [List.range, List.range.loop, List.map_cons, List.map_nil, beN, List.foldl_cons, List.foldl_nil, hb]
    simp only [Nat.reduceSub, Nat.reduceMul, Nat.reducePow]
    omega
  rw [e]

/-- The text of a number's bytes. -/
def textOf (h l : Int) : ByteArray := strOfNums (bytesOf h l)
theorem textOf_size (h l : Int) : (textOf h l).size = 16 := by rw [textOf, strOfNums_size]; simp [bytesOf]
theorem textOf_data (h l : Int) : (textOf h l).data.toList = ((List.range 8).map fun i => UInt8.ofNat (byteAt h i).toNat) ++ ((List.range 8).map fun i => UInt8.ofNat (byteAt l i).toNat) := by
  rw [textOf, strOfNums_data, bytesOf, List.map_append, List.map_map, List.map_map]; rfl
theorem textOf_be {h l : Int} (hh : Word h) (hl : Word l) : (beN (textOf h l).data.toList : Int) = nv h l := by
  rw [textOf_data, beN_append]
  have e1 := be_half hh
  have e2 := be_half hl
  have el : (List.map (fun i => UInt8.ofNat (byteAt l i).toNat) (List.range 8)).length = 8 := by simp
  rw [el]
  have e3 : (256 : Nat) ^ 8 = 18446744073709551616 := rfl
  rw [e3]
  unfold nv
  omega
theorem textOf_less {ah al bh bl : Int} (a1 : Word ah) (a0 : Word al) (b1 : Word bh) (b0 : Word bl) : Op.bytesLess (textOf ah al).data.toList (textOf bh bl).data.toList = decide (nv ah al < nv bh bl) := by
  rw [less_be _ _ (by have h1 := textOf_size ah al; have h2 := textOf_size bh bl; simp only [ByteArray.size] at h1 h2; simp [h1, h2])]
  have e1 := textOf_be a1 a0
  have e2 := textOf_be b1 b0
  rw [← e1, ← e2]
  simp
theorem textOf_same {ah al bh bl : Int} (a1 : Word ah) (a0 : Word al) (b1 : Word bh) (b0 : Word bl) : ((textOf ah al).data.toList == (textOf bh bl).data.toList) = decide (nv ah al = nv bh bl) := by
  by_cases h : nv ah al = nv bh bl
  · have : ah = bh ∧ al = bl := by
      obtain ⟨_, _⟩ := a1; obtain ⟨_, _⟩ := a0; obtain ⟨_, _⟩ := b1; obtain ⟨_, _⟩ := b0; unfold nv at h; omega
    rw [this.1, this.2]; simp
  · rw [decide_eq_false h, beq_eq_false_iff_ne]
    intro e
    apply h
    rw [← textOf_be a1 a0, ← textOf_be b1 b0, e]
theorem textOf_fromH {h l : Int} (hh : Word h) : fromH (textOf h l) = h := by
  rw [fromH, if_pos (textOf_size h l), textOf_data, List.take_left' (by simp)]
  exact be_half hh
theorem textOf_fromL {h l : Int} (hl : Word l) : fromL (textOf h l) = l := by
  rw [fromL, if_pos (textOf_size h l), textOf_data, List.drop_left' (by simp)]
  exact be_half hl
theorem textOf_fromE (h l : Int) : fromE (textOf h l) = 0 := by rw [fromE, if_pos (textOf_size h l)]
end Go.Proofs.YtkecekfapiegjaaDoor
