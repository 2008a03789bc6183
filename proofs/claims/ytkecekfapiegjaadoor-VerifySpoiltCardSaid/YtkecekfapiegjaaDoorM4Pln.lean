/- Several of my texts, laid as one. -/
import Derived.Test.YtkecekfapiegjaaDoorU1Nums
import Derived.Laws.BitsAll
import Derived.Laws.Bits64b
/-
  Plain words of 32 bits: turned, moved, put together bit by bit; what a definition that goes bit by bit makes is the same. No program is named here.
-/
namespace Go.Proofs.YtkecekfapiegjaaDoor
set_option linter.unusedVariables false
set_option linter.unusedSimpArgs false
set_option maxRecDepth 10000
open Go.RowKit

/-- A word of 32 bits. -/
abbrev B32 := BitVec 32
/-- A word as a number. -/
def iv (x : B32) : Int := (x.toNat : Int)

theorem iv_bd (x : B32) : 0 ≤ iv x ∧ iv x < 4294967296 := by
  have := x.isLt
  unfold iv
  exact ⟨by omega, by omega⟩
theorem iv_inj {x y : B32} : iv x = iv y ↔ x = y := by
  unfold iv
  constructor
  · intro h; exact BitVec.eq_of_toNat_eq (by omega)
  · rintro rfl; rfl
theorem iv_of {n : Int} (h0 : 0 ≤ n) (h1 : n < 4294967296) : ∃ x : B32, n = iv x :=
  ⟨BitVec.ofNat 32 n.toNat, by unfold iv; rw [BitVec.toNat_ofNat]; omega⟩
theorem iv_lit (n : Nat) (h : n < 4294967296) : iv (BitVec.ofNat 32 n) = (n : Int) := by
  unfold iv; rw [BitVec.toNat_ofNat]; omega
theorem wrap_iv (x : B32) : IntKind.u32.wrap (iv x) = iv x := by
  rw [IntKind.wrap_u32']; have := iv_bd x; omega
theorem iv_add (x y : B32) : IntKind.u32.wrap (iv x + iv y) = iv (x + y) := by
  rw [IntKind.wrap_u32']; unfold iv; rw [BitVec.toNat_add]; omega
theorem iv_sub (x y : B32) : IntKind.u32.wrap (iv x - iv y) = iv (x - y) := by
  rw [IntKind.wrap_u32']; unfold iv; rw [BitVec.toNat_sub]
  have := x.isLt; have := y.isLt; omega
theorem iv_addm (x y : B32) : (iv x + iv y) % 4294967296 = iv (x + y) := by rw [← iv_add, IntKind.wrap_u32']
theorem iv_subm (x y : B32) : (iv x - iv y) % 4294967296 = iv (x - y) := by rw [← iv_sub, IntKind.wrap_u32']
theorem iv_mod (x : B32) : iv x % 4294967296 = iv x := by rw [← IntKind.wrap_u32', wrap_iv]
theorem iv_xor (x y : B32) : bits .xor .u32 (iv x) (iv y) = iv (x ^^^ y) := by
  unfold iv; rw [u32_xor_nat _ _ x.isLt y.isLt, BitVec.toNat_xor]
theorem iv_and (x y : B32) : bits .and .u32 (iv x) (iv y) = iv (x &&& y) := by
  unfold iv; rw [u32_and_nat _ _ x.isLt y.isLt, BitVec.toNat_and]
theorem iv_or (x y : B32) : bits .or .u32 (iv x) (iv y) = iv (x ||| y) := by
  unfold iv; rw [u32_or_nat _ _ x.isLt y.isLt, BitVec.toNat_or]
theorem iv_not (x : B32) : (4294967295 : Int) - iv x = iv (~~~x) := by
  have := x.isLt
  unfold iv; rw [BitVec.toNat_not]; omega
theorem not_word (x : B32) : bits .xor .u32 (if IntKind.u32.signed = true then -1 else IntKind.u32.max) (iv x) = iv (~~~x) := by
  have e : (if IntKind.u32.signed = true then -1 else IntKind.u32.max) = iv (BitVec.allOnes 32) := by decide +kernel
  rw [e, iv_xor, BitVec.allOnes_xor]
theorem not_max (x : B32) : bits .xor .u32 IntKind.u32.max (iv x) = iv (~~~x) := not_word x
theorem iv_shr (x : B32) (n : Nat) : iv x / 2 ^ n = iv (x >>> n) := by
  unfold iv; rw [BitVec.toNat_ushiftRight, Nat.shiftRight_eq_div_pow]; simp
theorem shr3 (x : B32) : iv x / (8 : Int) = iv (x >>> 3) := by have h := iv_shr x 3; exact h
theorem shr10 (x : B32) : iv x / (1024 : Int) = iv (x >>> 10) := by have h := iv_shr x 10; exact h
theorem iv_shl (x : B32) (n : Nat) : IntKind.u32.wrap (iv x * 2 ^ n) = iv (x <<< n) := by
  rw [IntKind.wrap_u32']; unfold iv; rw [BitVec.toNat_shiftLeft, Nat.shiftLeft_eq]; simp
theorem iv_shlm (x : B32) (n : Nat) : iv x * 2 ^ n % 4294967296 = iv (x <<< n) := by rw [← iv_shl, IntKind.wrap_u32']

/-- A word, turned right. -/
def rot (x : B32) (n : Nat) : B32 := x >>> n ||| x <<< (32 - n)
theorem rot_bit (x : B32) (n i : Nat) (hn : n ≤ 32) : (rot x n).getLsbD i = (decide (i < 32) && x.getLsbD ((i + n) % 32)) := by
  unfold rot
  rw [BitVec.getLsbD_or, BitVec.getLsbD_ushiftRight, BitVec.getLsbD_shiftLeft]
  by_cases hi : i < 32
  · by_cases h : i < 32 - n
    · have e : (i + n) % 32 = n + i := by omega
      simp [hi, h, e]
    · have e : (i + n) % 32 = i - (32 - n) := by omega
      have o : x.getLsbD (n + i) = false := BitVec.getLsbD_of_ge _ _ (by omega)
      simp [hi, h, e, o]
  · have o : x.getLsbD (n + i) = false := BitVec.getLsbD_of_ge _ _ (by omega)
    simp [hi, o]
theorem rot_zero (x : B32) : rot x 0 = x := by
  apply BitVec.eq_of_getLsbD_eq
  intro i hi
  rw [rot_bit _ _ _ (by omega)]
  simp [hi, Nat.mod_eq_of_lt hi]
/-- One place more. -/
theorem rot_step (x : B32) (n : Nat) (hn : n < 32) : rot (rot x n) 1 = rot x (n + 1) := by
  apply BitVec.eq_of_getLsbD_eq
  intro i hi
  rw [rot_bit _ _ _ (by omega), rot_bit _ _ _ (by omega), rot_bit _ _ _ (by omega)]
  have e : ((i + 1) % 32 + n) % 32 = (i + (n + 1)) % 32 := by omega
  have l : (i + 1) % 32 < 32 := by omega
  simp [hi, e, l]
/-- As a definition turns a word by one. -/
theorem rot_one (x : B32) : iv x / 2 + iv x % 2 * 2147483648 = iv (rot x 1) := by
  unfold rot
  have h := x.isLt
  have hd : (x >>> 1 ||| x <<< (32 - 1)) = x >>> 1 + x <<< (32 - 1) := by
    rw [BitVec.add_eq_or_of_and_eq_zero]
    apply BitVec.eq_of_getLsbD_eq
    intro i hi
    rw [BitVec.getLsbD_and, BitVec.getLsbD_ushiftRight, BitVec.getLsbD_shiftLeft]
    by_cases h31 : i < 31
    · simp [h31]
    · have o : x.getLsbD (1 + i) = false := BitVec.getLsbD_of_ge _ _ (by omega)
      simp [o]
  rw [hd]
  unfold iv
  rw [BitVec.toNat_add, BitVec.toNat_ushiftRight, BitVec.toNat_shiftLeft, Nat.shiftRight_eq_div_pow, Nat.shiftLeft_eq]
  omega
theorem shr_step (x : B32) (n : Nat) : iv (x >>> n) / 2 = iv (x >>> (n + 1)) := by
  rw [show (2 : Int) = 2 ^ 1 from rfl, iv_shr, BitVec.shiftRight_add]

/-- The first k bits of a word, as a number. -/
def lowI (x : B32) (k : Nat) : Int := ((x.toNat % 2 ^ k : Nat) : Int)
/-- A bit as a number. -/
def bitI (x : B32) (k : Nat) : Int := if x.getLsbD k then 1 else 0
theorem bitI_eq (x : B32) (k : Nat) : iv x / 2 ^ k % 2 = bitI x k := by
  unfold iv bitI
  have e : x.getLsbD k = decide (x.toNat / 2 ^ k % 2 = 1) := by
    rw [BitVec.getLsbD, Nat.testBit_eq_decide_div_mod_eq]
  rw [e]
  have e2 : (x.toNat : Int) / 2 ^ k % 2 = ((x.toNat / 2 ^ k % 2 : Nat) : Int) := by simp
  rw [e2]
  by_cases h : x.toNat / 2 ^ k % 2 = 1
  · simp [h]
  · have : x.toNat / 2 ^ k % 2 = 0 := by omega
    simp [this]
theorem lowI_zero (x : B32) : lowI x 0 = 0 := by simp [lowI, Nat.mod_one]
theorem lowI_all (x : B32) : lowI x 32 = iv x := by
  unfold lowI iv
  rw [Nat.mod_eq_of_lt x.isLt]
theorem lowI_bd (x : B32) (k : Nat) (hk : k ≤ 32) : 0 ≤ lowI x k ∧ lowI x k < 2 ^ k := by
  unfold lowI
  refine ⟨by omega, ?_⟩
  have := Nat.mod_lt x.toNat (show 0 < 2 ^ k from Nat.two_pow_pos k)
  have e : ((2 ^ k : Nat) : Int) = (2 : Int) ^ k := by simp
  rw [← e]; exact Int.ofNat_lt.2 this
theorem lowI_step (x : B32) (k : Nat) : lowI x (k + 1) = lowI x k + 2 ^ k * bitI x k := by
  rw [← bitI_eq]
  unfold lowI iv
  rw [Nat.mod_pow_succ]
  simp
theorem bitI_bd (x : B32) (k : Nat) : bitI x k = 0 ∨ bitI x k = 1 := by unfold bitI; split <;> simp
/-- Bit by bit, three words put together. -/
theorem bit_xor3 (a b c : B32) (k : Nat) : (bitI a k + bitI b k + bitI c k) % 2 = bitI (a ^^^ b ^^^ c) k := by
  unfold bitI
  rw [BitVec.getLsbD_xor, BitVec.getLsbD_xor]
  cases a.getLsbD k <;> cases b.getLsbD k <;> cases c.getLsbD k <;> rfl

/-- What a round takes of two words: where the first one has a bit the second one's, else the third one's. -/
def chB (e f g : B32) : B32 := (e &&& f) ||| (~~~e &&& g)
/-- The bits that two of three have at least. -/
def majB (a b c : B32) : B32 := (a &&& b) ||| (a &&& c) ||| (b &&& c)
theorem bit_ch (e f g : B32) (k : Nat) (hk : k < 32) : bitI (chB e f g) k = if bitI e k = 1 then bitI f k else bitI g k := by
  unfold bitI chB
  rw [BitVec.getLsbD_or, BitVec.getLsbD_and, BitVec.getLsbD_and, BitVec.getLsbD_not]
  simp only [hk, decide_true, Bool.true_and]
  cases e.getLsbD k <;> cases f.getLsbD k <;> cases g.getLsbD k <;> rfl
theorem bit_maj (a b c : B32) (k : Nat) : bitI (majB a b c) k = if bitI a k + bitI b k + bitI c k ≥ 2 then 1 else 0 := by
  unfold bitI majB
  rw [BitVec.getLsbD_or, BitVec.getLsbD_or, BitVec.getLsbD_and, BitVec.getLsbD_and, BitVec.getLsbD_and]
  cases a.getLsbD k <;> cases b.getLsbD k <;> cases c.getLsbD k <;> rfl
/-- The same words, put together otherwise. -/
theorem ch_xor (e f g : B32) : (e &&& f) ^^^ (~~~e &&& g) = chB e f g := by
  apply BitVec.eq_of_getLsbD_eq
  intro i hi
  unfold chB
  rw [BitVec.getLsbD_or, BitVec.getLsbD_xor, BitVec.getLsbD_and, BitVec.getLsbD_and, BitVec.getLsbD_not]
  cases e.getLsbD i <;> cases f.getLsbD i <;> cases g.getLsbD i <;> simp
theorem maj_xor (a b c : B32) : (a &&& b) ^^^ (a &&& c) ^^^ (b &&& c) = majB a b c := by
  apply BitVec.eq_of_getLsbD_eq
  intro i hi
  unfold majB
  rw [BitVec.getLsbD_or, BitVec.getLsbD_or, BitVec.getLsbD_xor, BitVec.getLsbD_xor, BitVec.getLsbD_and, BitVec.getLsbD_and, BitVec.getLsbD_and]
  cases a.getLsbD i <;> cases b.getLsbD i <;> cases c.getLsbD i <;> rfl

/-- What later words of a block are made of. -/
def sig0 (x : B32) : B32 := rot x 7 ^^^ rot x 18 ^^^ x >>> 3
def sig1 (x : B32) : B32 := rot x 17 ^^^ rot x 19 ^^^ x >>> 10
/-- What a round makes of one word. -/
def sum1 (x : B32) : B32 := rot x 6 ^^^ rot x 11 ^^^ rot x 25
def sum0 (x : B32) : B32 := rot x 2 ^^^ rot x 13 ^^^ rot x 22

/-- The number of bytes, the greatest first. -/
def beI (l : List UInt8) : Int := l.foldl (fun a c => a * 256 + (c.toNat : Int)) 0
theorem beI_snoc (l : List UInt8) (c : UInt8) : beI (l ++ [c]) = beI l * 256 + (c.toNat : Int) := by simp [beI]
theorem beI_bd (l : List UInt8) : 0 ≤ beI l ∧ beI l < 256 ^ l.length := by
  suffices h : ∀ (l : List UInt8) (a : Int), 0 ≤ a → 0 ≤ l.foldl (fun a c => a * 256 + (c.toNat : Int)) a ∧ l.foldl (fun a c => a * 256 + (c.toNat : Int)) a + 1 ≤ (a + 1) * 256 ^ l.length by
    have := h l 0 (by omega)
    unfold beI
    exact ⟨this.1, by omega⟩
  intro l
  induction l with
  | nil => intro a ha; simp; omega
  | cons c r ih =>
    intro a ha
    have hc := c.toNat_lt
    obtain ⟨h1, h2⟩ := ih (a * 256 + (c.toNat : Int)) (by omega)
    refine ⟨h1, ?_⟩
    rw [List.foldl_cons, List.length_cons, Int.pow_succ, Int.mul_comm (256 ^ r.length), ← Int.mul_assoc]
    refine Int.le_trans h2 (Int.mul_le_mul_of_nonneg_right (by omega) (Int.pow_nonneg (by decide)))
theorem beI_lt3 (l : List UInt8) (h : l.length ≤ 3) : beI l < 16777216 := by
  have hb := (beI_bd l).2
  rcases (by omega : l.length = 0 ∨ l.length = 1 ∨ l.length = 2 ∨ l.length = 3) with e | e | e | e <;> rw [e] at hb <;> omega
/-- The number of four bytes, the greatest first. -/
def be4 (p q r s : UInt8) : B32 := BitVec.ofNat 32 (((p.toNat * 256 + q.toNat) * 256 + r.toNat) * 256 + s.toNat)
theorem four_at (l : List UInt8) (n : Nat) (h : n + 4 ≤ l.length) : (l.drop n).take 4 = [l.getD n 0, l.getD (n + 1) 0, l.getD (n + 2) 0, l.getD (n + 3) 0] := by
  apply List.ext_getElem?
  intro i
  have g : ∀ j, j < 4 → l[n + j]? = some (l.getD (n + j) 0) := fun j hj => by
    rw [List.getD_eq_getElem?_getD, List.getElem?_eq_getElem (by omega)]; rfl
  by_cases hi : i < 4
  · rw [List.getElem?_take_of_lt hi, List.getElem?_drop, g i hi]
    match i, hi with
    | 0, _ => rfl
    | 1, _ => rfl
    | 2, _ => rfl
    | 3, _ => rfl
  · rw [List.getElem?_eq_none (by simp; omega), List.getElem?_eq_none (by simp; omega)]
/-- The block's own words. -/
def own16 (l : List UInt8) : List B32 := (List.range 16).map fun t => be4 (l.getD (4 * t) 0) (l.getD (4 * t + 1) 0) (l.getD (4 * t + 2) 0) (l.getD (4 * t + 3) 0)
theorem be4_eq (p q r s : UInt8) : beI [p, q, r, s] = iv (be4 p q r s) := by
  have := p.toNat_lt; have := q.toNat_lt; have := r.toNat_lt; have := s.toNat_lt
  unfold be4
  rw [iv_lit _ (by omega)]
  simp only [beI, List.foldl_cons, List.foldl_nil]
  omega
theorem be_take (l : List UInt8) (n : Nat) (h : n + 4 ≤ l.length) : beI ((l.drop n).take 4) = iv (be4 (l.getD n 0) (l.getD (n + 1) 0) (l.getD (n + 2) 0) (l.getD (n + 3) 0)) := by
  rw [four_at l n h, be4_eq]
theorem own16_step (l : List UInt8) (t : Nat) (ht : t < 16) : (own16 l).take (t + 1) = (own16 l).take t ++ [be4 (l.getD (4 * t) 0) (l.getD (4 * t + 1) 0) (l.getD (4 * t + 2) 0) (l.getD (4 * t + 3) 0)] := by
  rw [List.take_succ_eq_append_getElem (by simp [own16]; exact ht)]
  simp [own16]
/-- One word more, behind some. -/
def nextW (l : List B32) : B32 := l.getD (l.length - 16) 0 + sig0 (l.getD (l.length - 15) 0) + l.getD (l.length - 7) 0 + sig1 (l.getD (l.length - 2) 0)
/-- So many words more. -/
def grow : Nat → List B32 → List B32
  | 0, l => l
  | n + 1, l => grow n (l ++ [nextW l])
/-- The words of a block. -/
def words64 (l : List UInt8) : List B32 := grow 48 (own16 l)
theorem grow_len : ∀ (n : Nat) (l : List B32), (grow n l).length = l.length + n
  | 0, l => rfl
  | n + 1, l => by rw [grow, grow_len n]; simp; omega
theorem own16_len (l : List UInt8) : (own16 l).length = 16 := by simp [own16]
theorem words64_len (l : List UInt8) : (words64 l).length = 64 := by rw [words64, grow_len, own16_len]
theorem grow_snoc : ∀ (n : Nat) (l : List B32), grow (n + 1) l = grow n l ++ [nextW (grow n l)]
  | 0, l => rfl
  | n + 1, l => by rw [grow, grow_snoc n, grow]

/-- Words as cells. -/
def w32s (l : List B32) : List Value := l.map fun x => .int .u32 (iv x)
def arr (l : List B32) : Array Value := (w32s l).toArray
theorem w32s_len (l : List B32) : (w32s l).length = l.length := by simp [w32s]
theorem arr_size (l : List B32) : (arr l).size = l.length := by simp [arr, w32s]
theorem arr_at (l : List B32) (i : Nat) (hi : i < l.length) : (arr l)[i]? = some (.int .u32 (iv (l.getD i 0))) := by
  simp [arr, w32s, List.getD_eq_getElem?_getD, hi]
theorem arr_get (l : List B32) (i : Nat) (x : B32) (h : l[i]? = some x) : (arr l)[i]? = some (.int .u32 (iv x)) := by
  simp [arr, w32s, h]
theorem arr_set (l : List B32) (i : Nat) (v : B32) : (arr l).setIfInBounds i (.int .u32 (iv v)) = arr (l.set i v) := by
  simp [arr, w32s, List.map_set]
theorem take_set (l : List B32) (t : Nat) (v : B32) (h : t < l.length) : (l.set t v).take (t + 1) = l.take t ++ [v] := by
  rw [List.take_succ_eq_append_getElem (by simpa using h), List.take_set_of_le (Nat.le_refl _), List.getElem_set_self]
theorem take_getD (l m : List B32) (t i : Nat) (h : l.take t = m) (hi : i < t) : l.getD i 0 = m.getD i 0 := by
  rw [← h, List.getD_eq_getElem?_getD, List.getD_eq_getElem?_getD, List.getElem?_take_of_lt hi]
/-- Sixty-four noughts. -/
def z64 : List B32 := List.replicate 64 0
theorem z64_len : z64.length = 64 := by simp [z64]
/-- A state: eight words. -/
structure St where
  a : B32
  b : B32
  c : B32
  d : B32
  e : B32
  f : B32
  g : B32
  h : B32
def St.at (s : St) : Nat → B32
  | 0 => s.a
  | 1 => s.b
  | 2 => s.c
  | 3 => s.d
  | 4 => s.e
  | 5 => s.f
  | 6 => s.g
  | 7 => s.h
  | _ => 0
def St.put (s : St) (k : Nat) (v : B32) : St :=
  match k with
  | 0 => { s with a := v }
  | 1 => { s with b := v }
  | 2 => { s with c := v }
  | 3 => { s with d := v }
  | 4 => { s with e := v }
  | 5 => { s with f := v }
  | 6 => { s with g := v }
  | 7 => { s with h := v }
  | _ => s
/-- A state's cells. -/
def St.cs (s : St) : Array Value := #[.int .u32 (iv s.a), .int .u32 (iv s.b), .int .u32 (iv s.c), .int .u32 (iv s.d), .int .u32 (iv s.e), .int .u32 (iv s.f), .int .u32 (iv s.g), .int .u32 (iv s.h)]
theorem St.cs_size (s : St) : s.cs.size = 8 := rfl
theorem St.cs_at (s : St) (k : Nat) (hk : k < 8) : s.cs[k]? = some (.int .u32 (iv (s.at k))) := by
  match k, hk with
  | 0, _ => rfl
  | 1, _ => rfl
  | 2, _ => rfl
  | 3, _ => rfl
  | 4, _ => rfl
  | 5, _ => rfl
  | 6, _ => rfl
  | 7, _ => rfl
theorem St.cs_put (s : St) (k : Nat) (v : B32) (hk : k < 8) : s.cs.setIfInBounds k (.int .u32 (iv v)) = (s.put k v).cs := by
  match k, hk with
  | 0, _ => rfl
  | 1, _ => rfl
  | 2, _ => rfl
  | 3, _ => rfl
  | 4, _ => rfl
  | 5, _ => rfl
  | 6, _ => rfl
  | 7, _ => rfl
theorem St.put0 (s : St) (v : B32) : s.put 0 v = ⟨v, s.b, s.c, s.d, s.e, s.f, s.g, s.h⟩ := rfl
theorem St.put1 (s : St) (v : B32) : s.put 1 v = ⟨s.a, v, s.c, s.d, s.e, s.f, s.g, s.h⟩ := rfl
theorem St.put2 (s : St) (v : B32) : s.put 2 v = ⟨s.a, s.b, v, s.d, s.e, s.f, s.g, s.h⟩ := rfl
theorem St.put3 (s : St) (v : B32) : s.put 3 v = ⟨s.a, s.b, s.c, v, s.e, s.f, s.g, s.h⟩ := rfl
theorem St.put4 (s : St) (v : B32) : s.put 4 v = ⟨s.a, s.b, s.c, s.d, v, s.f, s.g, s.h⟩ := rfl
theorem St.put5 (s : St) (v : B32) : s.put 5 v = ⟨s.a, s.b, s.c, s.d, s.e, v, s.g, s.h⟩ := rfl
theorem St.put6 (s : St) (v : B32) : s.put 6 v = ⟨s.a, s.b, s.c, s.d, s.e, s.f, v, s.h⟩ := rfl
theorem St.put7 (s : St) (v : B32) : s.put 7 v = ⟨s.a, s.b, s.c, s.d, s.e, s.f, s.g, v⟩ := rfl
theorem St.put_all (s0 s : St) : (((((((s0.put 0 s.a).put 1 s.b).put 2 s.c).put 3 s.d).put 4 s.e).put 5 s.f).put 6 s.g).put 7 s.h = s := by
  simp only [St.put0, St.put1, St.put2, St.put3, St.put4, St.put5, St.put6, St.put7]
/-- A round with a constant and a word. -/
def turned (s : St) (K w : B32) : St :=
  let t := s.h + (sum1 s.e + chB s.e s.f s.g) + K + w
  ⟨t + (sum0 s.a + majB s.a s.b s.c), s.a, s.b, s.c, s.d + t, s.e, s.f, s.g⟩
/-- A round, undone. -/
def unturned (s : St) (K w : B32) : St :=
  let t := s.a - (sum0 s.b + majB s.b s.c s.d)
  ⟨s.b, s.c, s.d, s.e - t, s.f, s.g, s.h, t - (sum1 s.f + chB s.f s.g s.h) - K - w⟩
theorem sub_add_b (x y : B32) : x - y + y = x := BitVec.sub_add_cancel x y
theorem add_sub_b (x y : B32) : x + y - y = x := BitVec.add_sub_cancel x y
theorem unturned_turned (s : St) (K w : B32) : unturned (turned s K w) K w = s := by
  obtain ⟨a, b, c, d, e, f, g, h⟩ := s
  simp only [unturned, turned]
  generalize sum1 e + chB e f g = u
  generalize sum0 a + majB a b c = v
  have e1 : h + u + K + w + v - v = h + u + K + w := add_sub_b _ _
  rw [e1]
  have e2 : h + u + K + w - u - K - w = h := by grind
  have e3 : d + (h + u + K + w) - (h + u + K + w) = d := add_sub_b _ _
  rw [e2, e3]
theorem turned_unturned (s : St) (K w : B32) : turned (unturned s K w) K w = s := by
  obtain ⟨a, b, c, d, e, f, g, h⟩ := s
  simp only [unturned, turned]
  generalize sum1 f + chB f g h = u
  generalize sum0 b + majB b c d = v
  have e2 : a - v - u - K - w + u + K + w = a - v := by grind
  have e3 : a - v + v = a := sub_add_b _ _
  have e4 : e - (a - v) + (a - v) = e := sub_add_b _ _
  rw [e2, e3, e4]
/-- So many rounds by constants and words. -/
def rN (ks ws : List B32) (s : St) : Nat → St
  | 0 => s
  | k + 1 => turned (rN ks ws s k) (ks.getD k 0) (ws.getD k 0)
/-- Two states, word by word. -/
def St.plus (s t : St) : St := ⟨s.a + t.a, s.b + t.b, s.c + t.c, s.d + t.d, s.e + t.e, s.f + t.f, s.g + t.g, s.h + t.h⟩
/-- The first so many of them are put together. -/
def plusN (a s : St) : Nat → St
  | 0 => a
  | i + 1 => (plusN a s i).put i (a.at i + s.at i)
theorem plusN_all (a s : St) : plusN a s 8 = a.plus s := rfl
theorem plusN_at (a s : St) (i : Nat) (hi : i < 8) : (plusN a s i).at i = a.at i := by
  match i, hi with
  | 0, _ => rfl
  | 1, _ => rfl
  | 2, _ => rfl
  | 3, _ => rfl
  | 4, _ => rfl
  | 5, _ => rfl
  | 6, _ => rfl
  | 7, _ => rfl
theorem plusN_succ (a s : St) (i : Nat) : plusN a s (i + 1) = (plusN a s i).put i (a.at i + s.at i) := rfl
/-- What comes of a state by a block's words. -/
def nextS (ks ws : List B32) (s : St) : St := (rN ks ws s 64).plus s
/-- The constants, as they are known. -/
def ktab : List Nat := [
  0x428a2f98, 0x71374491, 0xb5c0fbcf, 0xe9b5dba5, 0x3956c25b, 0x59f111f1, 0x923f82a4, 0xab1c5ed5,
  0xd807aa98, 0x12835b01, 0x243185be, 0x550c7dc3, 0x72be5d74, 0x80deb1fe, 0x9bdc06a7, 0xc19bf174,
  0xe49b69c1, 0xefbe4786, 0x0fc19dc6, 0x240ca1cc, 0x2de92c6f, 0x4a7484aa, 0x5cb0a9dc, 0x76f988da,
  0x983e5152, 0xa831c66d, 0xb00327c8, 0xbf597fc7, 0xc6e00bf3, 0xd5a79147, 0x06ca6351, 0x14292967,
  0x27b70a85, 0x2e1b2138, 0x4d2c6dfc, 0x53380d13, 0x650a7354, 0x766a0abb, 0x81c2c92e, 0x92722c85,
  0xa2bfe8a1, 0xa81a664b, 0xc24b8b70, 0xc76c51a3, 0xd192e819, 0xd6990624, 0xf40e3585, 0x106aa070,
  0x19a4c116, 0x1e376c08, 0x2748774c, 0x34b0bcb5, 0x391c0cb3, 0x4ed8aa4a, 0x5b9cca4f, 0x682e6ff3,
  0x748f82ee, 0x78a5636f, 0x84c87814, 0x8cc70208, 0x90befffa, 0xa4506ceb, 0xbef9a3f7, 0xc67178f2]
def kB : List B32 := ktab.map (BitVec.ofNat 32)
/-- The k-th constant; 0 where there is none. -/
def kAt (k : Int) : B32 := if 0 ≤ k ∧ k < 64 then kB.getD k.toNat 0 else 0
/-- The first state. -/
def st0 : St := ⟨0x6a09e667, 0xbb67ae85, 0x3c6ef372, 0xa54ff53a, 0x510e527f, 0x9b05688c, 0x1f83d9ab, 0x5be0cd19⟩
end Go.Proofs.YtkecekfapiegjaaDoor
/-
  Plain words on a block's words: each is made of those before it, so from any sixteen of them the later ones come; bytes of words, and words of bytes.
-/
namespace Go.Proofs.YtkecekfapiegjaaDoor
set_option linter.unusedVariables false
set_option linter.unusedSimpArgs false
set_option maxRecDepth 10000
open Go.RowKit

/-- Each word from the sixteenth on is made of those before it. -/
def Made (m : List B32) : Prop := ∀ t, 16 ≤ t → t < m.length → m.getD t 0 = m.getD (t - 16) 0 + sig0 (m.getD (t - 15) 0) + m.getD (t - 7) 0 + sig1 (m.getD (t - 2) 0)
theorem getD_app (m k : List B32) (t : Nat) (h : t < m.length) : (m ++ k).getD t 0 = m.getD t 0 := by
  rw [List.getD_eq_getElem?_getD, List.getD_eq_getElem?_getD, List.getElem?_append_left h]
theorem getD_last (m : List B32) (x : B32) : (m ++ [x]).getD m.length 0 = x := by
  rw [List.getD_eq_getElem?_getD, List.getElem?_append_right (Nat.le_refl _)]; simp
theorem made_snoc (m : List B32) (h : Made m) (hl : 16 ≤ m.length) : Made (m ++ [nextW m]) := by
  intro t h16 ht
  simp only [List.length_append, List.length_cons, List.length_nil] at ht
  rw [getD_app m _ (t - 16) (by omega), getD_app m _ (t - 15) (by omega), getD_app m _ (t - 7) (by omega), getD_app m _ (t - 2) (by omega)]
  by_cases e : t < m.length
  · rw [getD_app m _ t e]; exact h t h16 e
  · have e2 : t = m.length := by omega
    subst e2
    rw [getD_last]
    rfl
theorem made_grow : ∀ (n : Nat) (m : List B32), Made m → 16 ≤ m.length → Made (grow n m)
  | 0, m, h, _ => h
  | n + 1, m, h, hl => by rw [grow]; exact made_grow n _ (made_snoc m h hl) (by simp; omega)
theorem made_own (l : List UInt8) : Made (own16 l) := fun t h16 ht => by rw [own16_len] at ht; omega
theorem made_words (l : List UInt8) : Made (words64 l) := made_grow 48 _ (made_own l) (by rw [own16_len]; exact Nat.le_refl _)
theorem grow_head : ∀ (n : Nat) (m : List B32) (t : Nat), t < m.length → (grow n m).getD t 0 = m.getD t 0
  | 0, m, t, _ => rfl
  | n + 1, m, t, h => by rw [grow, grow_head n _ t (by simp; omega), getD_app m _ t h]
theorem words_head (l : List UInt8) (t : Nat) (h : t < 16) : (words64 l).getD t 0 = (own16 l).getD t 0 := grow_head 48 _ t (by rw [own16_len]; exact h)
theorem getD_drop (m : List B32) (a t : Nat) : (m.drop a).getD t 0 = m.getD (a + t) 0 := by
  rw [List.getD_eq_getElem?_getD, List.getD_eq_getElem?_getD, List.getElem?_drop]
theorem made_drop (m : List B32) (a : Nat) (h : Made m) : Made (m.drop a) := by
  intro t h16 ht
  rw [List.length_drop] at ht
  simp only [getD_drop]
  have := h (a + t) (by omega) (by omega)
  rw [this, show a + t - 16 = a + (t - 16) by omega, show a + t - 15 = a + (t - 15) by omega, show a + t - 7 = a + (t - 7) by omega, show a + t - 2 = a + (t - 2) by omega]
/-- What begins with the same sixteen words goes on with the same. -/
theorem made_same (u v : List B32) (hu : Made u) (hv : Made v) (h : ∀ t, t < 16 → u.getD t 0 = v.getD t 0) (t : Nat) (h1 : t < u.length) (h2 : t < v.length) : u.getD t 0 = v.getD t 0 := by
  induction t using Nat.strongRecOn with
  | ind t ih =>
    by_cases e : t < 16
    · exact h t e
    · rw [hu t (by omega) h1, hv t (by omega) h2, ih (t - 16) (by omega) (by omega) (by omega), ih (t - 15) (by omega) (by omega) (by omega), ih (t - 7) (by omega) (by omega) (by omega), ih (t - 2) (by omega) (by omega) (by omega)]

/-- Byte r of a word, the greatest first. -/
def byteOf (x : B32) (r : Nat) : Int := iv x / 2 ^ (24 - 8 * r) % 256
theorem byteOf_bd (x : B32) (r : Nat) : 0 ≤ byteOf x r ∧ byteOf x r < 256 := by unfold byteOf; omega
theorem byteOf_be (p q r s : UInt8) : byteOf (be4 p q r s) 0 = (p.toNat : Int) ∧ byteOf (be4 p q r s) 1 = (q.toNat : Int) ∧ byteOf (be4 p q r s) 2 = (r.toNat : Int) ∧ byteOf (be4 p q r s) 3 = (s.toNat : Int) := by
  have := p.toNat_lt; have := q.toNat_lt; have := r.toNat_lt; have := s.toNat_lt
  unfold byteOf
  rw [← be4_eq]
  simp only [beI, List.foldl_cons, List.foldl_nil, Nat.reduceMul, Nat.reduceSub, Int.reducePow]
  refine ⟨by omega, by omega, by omega, by omega⟩
theorem own_getD (l : List UInt8) (a : Nat) (h : a < 16) : (own16 l).getD a 0 = be4 (l.getD (4 * a) 0) (l.getD (4 * a + 1) 0) (l.getD (4 * a + 2) 0) (l.getD (4 * a + 3) 0) := by
  simp [own16, List.getD_eq_getElem?_getD, h]
/-- The bytes of the first sixteen words are the text's. -/
theorem words_byte (l : List UInt8) (a r : Nat) (ha : a < 16) (hr : r < 4) : byteOf ((words64 l).getD a 0) r = ((l.getD (4 * a + r) 0).toNat : Int) := by
  rw [words_head l a ha, own_getD l a ha]
  obtain ⟨h0, h1, h2, h3⟩ := byteOf_be (l.getD (4 * a) 0) (l.getD (4 * a + 1) 0) (l.getD (4 * a + 2) 0) (l.getD (4 * a + 3) 0)
  match r, hr with
  | 0, _ => exact h0
  | 1, _ => exact h1
  | 2, _ => exact h2
  | 3, _ => exact h3
/-- The bytes of sixteen words, from a place on. -/
def winB (m : List B32) (a : Nat) (k : Nat) : List Int := (List.range k).map fun i => byteOf (m.getD (a + i / 4) 0) (i % 4)
theorem winB_succ (m : List B32) (a k : Nat) : winB m a (k + 1) = winB m a k ++ [byteOf (m.getD (a + k / 4) 0) (k % 4)] := by simp [winB, List.range_succ]
theorem winB_len (m : List B32) (a k : Nat) : (winB m a k).length = k := by simp [winB]
theorem take_setI (l : List Int) (t : Nat) (v : Int) (h : t < l.length) : (l.set t v).take (t + 1) = l.take t ++ [v] := by
  rw [List.take_succ_eq_append_getElem (by simpa using h), List.take_set_of_le (Nat.le_refl _), List.getElem_set_self]
theorem winB_at (m : List B32) (a k i : Nat) (h : i < k) : (winB m a k).getD i 0 = byteOf (m.getD (a + i / 4) 0) (i % 4) := by
  simp [winB, List.getD_eq_getElem?_getD, h]
/-- Those bytes' words are these words. -/
theorem be4_byteOf (x : B32) (p q r s : UInt8) (hp : (p.toNat : Int) = byteOf x 0) (hq : (q.toNat : Int) = byteOf x 1) (hr : (r.toNat : Int) = byteOf x 2) (hs : (s.toNat : Int) = byteOf x 3) : be4 p q r s = x := by
  rw [← iv_inj, ← be4_eq]
  have := iv_bd x
  unfold byteOf at hp hq hr hs
  simp only [Nat.reduceMul, Nat.reduceSub, Int.reducePow, Nat.mul_zero, Nat.sub_zero] at hp hq hr hs
  simp only [beI, List.foldl_cons, List.foldl_nil]
  omega
theorem own_win (m : List B32) (a : Nat) (b : List UInt8) (hb : ∀ i, i < 64 → ((b.getD i 0).toNat : Int) = byteOf (m.getD (a + i / 4) 0) (i % 4)) (t : Nat) (ht : t < 16) : (own16 b).getD t 0 = m.getD (a + t) 0 := by
  rw [own_getD b t ht]
  refine be4_byteOf _ _ _ _ _ ?_ ?_ ?_ ?_
  · have := hb (4 * t) (by omega)
    rwa [show 4 * t / 4 = t by omega, show 4 * t % 4 = 0 by omega] at this
  · have := hb (4 * t + 1) (by omega)
    rwa [show (4 * t + 1) / 4 = t by omega, show (4 * t + 1) % 4 = 1 by omega] at this
  · have := hb (4 * t + 2) (by omega)
    rwa [show (4 * t + 2) / 4 = t by omega, show (4 * t + 2) % 4 = 2 by omega] at this
  · have := hb (4 * t + 3) (by omega)
    rwa [show (4 * t + 3) / 4 = t by omega, show (4 * t + 3) % 4 = 3 by omega] at this
/-- From any sixteen words that follow one another those behind them come. -/
theorem hang (l b : List UInt8) (a : Nat) (ha : a ≤ 48) (hb : ∀ i, i < 64 → ((b.getD i 0).toNat : Int) = byteOf ((words64 l).getD (a + i / 4) 0) (i % 4)) (t : Nat) (ht : t < 64 - a) : (words64 b).getD t 0 = (words64 l).getD (a + t) 0 := by
  rw [← getD_drop]
  refine made_same _ _ (made_words b) (made_drop _ a (made_words l)) (fun j hj => ?_) t (by rw [words64_len]; omega) (by rw [List.length_drop, words64_len]; exact ht)
  rw [words_head b j hj, own_win (words64 l) a b hb j hj, getD_drop]
end Go.Proofs.YtkecekfapiegjaaDoor
/-
  What comes of the first state by the block of abc, reckoned.
-/
namespace Go.Proofs.YtkecekfapiegjaaDoor
set_option linter.unusedVariables false
set_option linter.unusedSimpArgs false
set_option maxRecDepth 10000
open Go.RowKit

def abcB : ByteArray := ⟨#[97, 98, 99, 128, 0, 0, 0, 0, 0, 0, 0, 0, 0, 0, 0, 0, 0, 0, 0, 0, 0, 0, 0, 0, 0, 0, 0, 0, 0, 0, 0, 0, 0, 0, 0, 0, 0, 0, 0, 0, 0, 0, 0, 0, 0, 0, 0, 0, 0, 0, 0, 0, 0, 0, 0, 0, 0, 0, 0, 0, 0, 0, 0, 24]⟩
def St.key (s : St) : List Nat := [s.a.toNat, s.b.toNat, s.c.toNat, s.d.toNat, s.e.toNat, s.f.toNat, s.g.toNat, s.h.toNat]
def stAbc : St := ⟨0xba7816bf, 0x8f01cfea, 0x414140de, 0x5dae2223, 0xb00361a3, 0x96177a9c, 0xb410ff61, 0xf20015ad⟩
theorem St.eq_of_key {s t : St} (h : s.key = t.key) : s = t := by
  obtain ⟨a, b, c, d, e, f, g, i⟩ := s
  obtain ⟨a', b', c', d', e', f', g', i'⟩ := t
  simp only [St.key, List.cons.injEq, and_true] at h
  obtain ⟨h1, h2, h3, h4, h5, h6, h7, h8⟩ := h
  rw [BitVec.eq_of_toNat_eq h1, BitVec.eq_of_toNat_eq h2, BitVec.eq_of_toNat_eq h3, BitVec.eq_of_toNat_eq h4, BitVec.eq_of_toNat_eq h5, BitVec.eq_of_toNat_eq h6, BitVec.eq_of_toNat_eq h7, BitVec.eq_of_toNat_eq h8]
set_option maxRecDepth 100000 in
theorem abc_next : nextS kB (words64 abcB.data.toList) st0 = stAbc := St.eq_of_key (by decide +kernel)
end Go.Proofs.YtkecekfapiegjaaDoor
