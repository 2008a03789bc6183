/- Several of my texts, laid as one. -/
import Derived.Test.YtkecekfapiegjaaDoorM1Lex
import Derived.Test.YtkecekfapiegjaaDoorM7Wrd
/-
  Plain words on octet: numbers, flags and texts as bytes, and what is read of bytes. No function of the program is walked here.
-/
namespace Go.Proofs.YtkecekfapiegjaaDoor
set_option linter.unusedVariables false
set_option linter.unusedSimpArgs false
set_option maxRecDepth 10000
open Go.RowKit

theorem oext {a b : ByteArray} (h : a.data.toList = b.data.toList) : a = b := by
  cases a with | mk x => cases b with | mk y =>
  simp only [ByteArray.mk.injEq]
  exact Array.ext' h
theorem osize (a : ByteArray) : a.data.toList.length = a.size := by simp
/-- A text of bytes. -/
def ofL (l : List UInt8) : ByteArray := ⟨l.toArray⟩
theorem ofL_list (l : List UInt8) : (ofL l).data.toList = l := by simp [ofL]
theorem ofL_size (l : List UInt8) : (ofL l).size = l.length := by rw [← osize, ofL_list]
theorem ofL_app (a b : List UInt8) : ofL (a ++ b) = ofL a ++ ofL b := oext (by rw [ByteArray.data_append, Array.toList_append, ofL_list, ofL_list, ofL_list])
theorem ofL_data (s : ByteArray) : ofL s.data.toList = s := oext (ofL_list _)
theorem ofL_inj {a b : List UInt8} (h : ofL a = ofL b) : a = b := by rw [← ofL_list a, h, ofL_list]

/-- A list without the noughts ahead. -/
def trimN (l : List UInt8) : List UInt8 := l.dropWhile (· == 0)
theorem trimN_nil : trimN [] = [] := rfl
theorem trimN_zero (l : List UInt8) : trimN (0 :: l) = trimN l := by simp [trimN]
theorem trimN_pos (c : UInt8) (l : List UInt8) (h : c ≠ 0) : trimN (c :: l) = c :: l := by simp [trimN, h]
theorem trimN_len : ∀ l : List UInt8, (trimN l).length ≤ l.length
  | [] => Nat.le_refl _
  | c :: r => by
    by_cases h : c = 0
    · subst h; rw [trimN_zero, List.length_cons]; have := trimN_len r; omega
    · rw [trimN_pos c r h]; exact Nat.le_refl _
theorem beN_zero (l : List UInt8) : beN (0 :: l) = beN l := by rw [beN_cons]; simp
theorem trimN_be : ∀ l : List UInt8, beN (trimN l) = beN l
  | [] => rfl
  | c :: r => by
    by_cases h : c = 0
    · subst h; rw [trimN_zero, beN_zero]; exact trimN_be r
    · rw [trimN_pos c r h]
/-- No nought is ahead. -/
def Mn (l : List UInt8) : Prop := l.head? ≠ some 0
theorem trimN_mn : ∀ l : List UInt8, Mn (trimN l)
  | [] => by simp [Mn, trimN]
  | c :: r => by
    by_cases h : c = 0
    · subst h; rw [trimN_zero]; exact trimN_mn r
    · rw [trimN_pos c r h]; simp [Mn, h]
theorem trimN_all (l : List UInt8) (h : Mn l) : trimN l = l := by
  cases l with
  | nil => rfl
  | cons c r => exact trimN_pos c r (by simpa [Mn] using h)
theorem mn_low (l : List UInt8) (h : Mn l) (hl : 0 < l.length) : 256 ^ (l.length - 1) ≤ beN l := by
  cases l with
  | nil => simp at hl
  | cons c r =>
    have hc : c ≠ 0 := by simpa [Mn] using h
    have h1 : 1 ≤ c.toNat := by
      rcases Nat.eq_zero_or_pos c.toNat with e | e
      · exact absurd (UInt8.toNat_inj.1 (by rw [e]; rfl)) hc
      · exact e
    rw [beN_cons, List.length_cons, Nat.add_sub_cancel]
    have := Nat.mul_le_mul_right (256 ^ r.length) h1
    omega
theorem be_same : ∀ (a b : List UInt8), a.length = b.length → beN a = beN b → a = b
  | [], [], _, _ => rfl
  | x :: a, y :: b, h, e => by
    have hl : a.length = b.length := by simpa using h
    have la := beN_lt a
    have lb := beN_lt b
    have ih := be_same a b hl
    rw [beN_cons, beN_cons, hl] at e
    rw [hl] at la
    generalize 256 ^ b.length = P at *
    rcases Nat.lt_trichotomy x.toNat y.toNat with hx | hx | hx
    · have h1 : (x.toNat + 1) * P ≤ y.toNat * P := Nat.mul_le_mul_right _ hx
      rw [Nat.add_mul, Nat.one_mul] at h1
      omega
    · have e0 : x = y := UInt8.toNat_inj.1 hx
      subst e0
      rw [ih (by omega)]
    · have h1 : (y.toNat + 1) * P ≤ x.toNat * P := Nat.mul_le_mul_right _ hx
      rw [Nat.add_mul, Nat.one_mul] at h1
      omega
theorem mn_less_len (a b : List UInt8) (hb : Mn b) (h : a.length < b.length) : beN a < beN b := by
  have h1 := beN_lt a
  have h2 := mn_low b hb (by omega)
  have h3 : 256 ^ a.length ≤ 256 ^ (b.length - 1) := Nat.pow_le_pow_right (by decide) (by omega)
  omega
theorem mn_inj (a b : List UInt8) (ha : Mn a) (hb : Mn b) (h : beN a = beN b) : a = b := by
  rcases Nat.lt_trichotomy a.length b.length with hl | hl | hl
  · have := mn_less_len a b hb hl; omega
  · exact be_same a b hl h
  · have := mn_less_len b a ha hl; omega
theorem mn_nil : Mn [] := by simp [Mn]
theorem mn_zero (l : List UInt8) (h : Mn l) (e : beN l = 0) : l = [] := mn_inj l [] h mn_nil (by rw [e]; rfl)
theorem mn_short (l : List UInt8) (h : Mn l) (k : Nat) (hl : beN l < 256 ^ k) : l.length ≤ k := by
  rcases Nat.lt_or_ge k l.length with hk | hk
  · exfalso
    have h2 := mn_low l h (by omega)
    have h3 : 256 ^ k ≤ 256 ^ (l.length - 1) := Nat.pow_le_pow_right (by decide) (by omega)
    omega
  · exact hk

/-- The bytes that a number of two halves needs; these behind how many they are. -/
def numL (h l : Int) : List UInt8 := trimN (textOf h l).data.toList
def wideL (h l : Int) : List UInt8 := UInt8.ofNat (numL h l).length :: numL h l
theorem numL_mn (h l : Int) : Mn (numL h l) := trimN_mn _
theorem numL_len (h l : Int) : (numL h l).length ≤ 16 := by
  have h1 := trimN_len (textOf h l).data.toList
  rw [osize, textOf_size] at h1
  exact h1
theorem numL_be {h l : Int} (hh : Word h) (hl : Word l) : (beN (numL h l) : Int) = nv h l := by
  unfold numL; rw [trimN_be]; exact textOf_be hh hl
theorem numL_len8 {l : Int} (hl : Word l) : (numL 0 l).length ≤ 8 := by
  refine mn_short _ (numL_mn _ _) 8 ?_
  have h1 := numL_be (h := 0) ⟨by decide, by decide⟩ hl
  obtain ⟨h2, h3⟩ := hl
  have e3 : (256 : Nat) ^ 8 = 18446744073709551616 := rfl
  rw [e3]
  unfold nv at h1
  omega
theorem wideL_len (h l : Int) : (wideL h l).length ≤ 17 := by unfold wideL; rw [List.length_cons]; have := numL_len h l; omega
/-- The halves of digits. -/
def hiD (d : List UInt8) : Int := (beN d : Int) / 18446744073709551616
def loD (d : List UInt8) : Int := (beN d : Int) % 18446744073709551616
theorem be16 (d : List UInt8) (h : d.length ≤ 16) : (beN d : Int) < 340282366920938463463374607431768211456 := by
  have h1 := beN_lt d
  have h2 : 256 ^ d.length ≤ 256 ^ 16 := Nat.pow_le_pow_right (by decide) h
  have e3 : (256 : Nat) ^ 16 = 340282366920938463463374607431768211456 := rfl
  omega
theorem hiD_word (d : List UInt8) (h : d.length ≤ 16) : Word (hiD d) := by
  have := be16 d h
  unfold hiD
  exact ⟨by omega, by omega⟩
theorem loD_word (d : List UInt8) : Word (loD d) := by
  unfold loD
  exact ⟨by omega, by omega⟩
theorem nv_D (d : List UInt8) : nv (hiD d) (loD d) = beN d := by unfold nv hiD loD; omega
theorem be8 (d : List UInt8) (h : d.length ≤ 8) : (beN d : Int) < 18446744073709551616 := by
  have h1 := beN_lt d
  have h2 : 256 ^ d.length ≤ 256 ^ 8 := Nat.pow_le_pow_right (by decide) h
  have e3 : (256 : Nat) ^ 8 = 18446744073709551616 := rfl
  omega
theorem hiD_8 (d : List UInt8) (h : d.length ≤ 8) : hiD d = 0 := by
  have := be8 d h
  unfold hiD
  omega
theorem loD_8 (d : List UInt8) (h : d.length ≤ 8) : loD d = beN d := by
  have := be8 d h
  unfold loD
  omega
theorem numL_D (d : List UInt8) (h : d.length ≤ 16) (hm : Mn d) : numL (hiD d) (loD d) = d := by
  refine mn_inj _ _ (numL_mn _ _) hm ?_
  have h1 := numL_be (hiD_word d h) (loD_word d)
  rw [nv_D] at h1
  omega
theorem hiD_num {h l : Int} (hh : Word h) (hl : Word l) : hiD (numL h l) = h := by
  have h1 := numL_be hh hl
  obtain ⟨_, _⟩ := hl
  unfold hiD
  rw [h1]
  unfold nv
  omega
theorem loD_num {h l : Int} (hh : Word h) (hl : Word l) : loD (numL h l) = l := by
  have h1 := numL_be hh hl
  obtain ⟨_, _⟩ := hl
  unfold loD
  rw [h1]
  unfold nv
  omega

theorem ofNat_b (n : Nat) (h : n < 256) : (UInt8.ofNat n).toNat = n := UInt8.toNat_ofNat_of_lt' h
/-- What is read of bytes: a number's digits, of at most so many; a byte; a flag; a text of at most so many bytes; and what is left. -/
def rNum (most : Nat) : List UInt8 → Option (List UInt8 × List UInt8)
  | [] => none
  | c :: r => if most < c.toNat ∨ r.length < c.toNat ∨ (r.take c.toNat).head? = some 0 then none else some (r.take c.toNat, r.drop c.toNat)
def rByte : List UInt8 → Option (UInt8 × List UInt8)
  | [] => none
  | c :: r => some (c, r)
def rFlag : List UInt8 → Option (Bool × List UInt8)
  | [] => none
  | c :: r => if 1 < c.toNat then none else some (decide (c.toNat = 1), r)
def rText (m : Nat) (l : List UInt8) : Option (List UInt8 × List UInt8) :=
  match rNum 8 l with
  | none => none
  | some (d, r) => if m < beN d ∨ r.length < beN d then none else some (r.take (beN d), r.drop (beN d))

theorem rNum_wide (most : Nat) (d r : List UInt8) (hd : d.length ≤ most) (h2 : d.length < 256) (hm : Mn d) : rNum most (UInt8.ofNat d.length :: d ++ r) = some (d, r) := by
  have e : (UInt8.ofNat d.length).toNat = d.length := ofNat_b _ h2
  show (if most < (UInt8.ofNat d.length).toNat ∨ (d ++ r).length < (UInt8.ofNat d.length).toNat ∨ ((d ++ r).take (UInt8.ofNat d.length).toNat).head? = some 0 then none else some ((d ++ r).take (UInt8.ofNat d.length).toNat, (d ++ r).drop (UInt8.ofNat d.length).toNat)) = _
  rw [e, List.take_left, List.drop_left]
  rw [if_neg]
  rintro (h | h | h)
  · omega
  · rw [List.length_append] at h; omega
  · exact hm h
theorem rNum_some {most : Nat} {l d r : List UInt8} (h : rNum most l = some (d, r)) : Mn d ∧ d.length ≤ most ∧ d.length < 256 ∧ l = UInt8.ofNat d.length :: d ++ r := by
  cases l with
  | nil => cases h
  | cons c q =>
    have h : (if most < c.toNat ∨ q.length < c.toNat ∨ (q.take c.toNat).head? = some 0 then none else some (q.take c.toNat, q.drop c.toNat)) = some (d, r) := h
    split at h
    · cases h
    · next hn =>
      injection h with h
      injection h with h1 h2
      subst h1 h2
      have hc := c.toNat_lt
      have hlen : (q.take c.toNat).length = c.toNat := by rw [List.length_take]; omega
      refine ⟨fun e => hn (Or.inr (Or.inr e)), by omega, by omega, ?_⟩
      rw [hlen, UInt8.ofNat_toNat, List.cons_append, List.take_append_drop]
theorem rNum_more {most : Nat} {l d r : List UInt8} (h : rNum most l = some (d, r)) (e : List UInt8) : rNum most (l ++ e) = some (d, r ++ e) := by
  obtain ⟨h1, h2, h3, rfl⟩ := rNum_some h
  rw [List.append_assoc]
  exact rNum_wide most d (r ++ e) h2 h3 h1
theorem rNum_len {most : Nat} {l d r : List UInt8} (h : rNum most l = some (d, r)) : r.length ≤ l.length := by
  obtain ⟨h1, h2, h3, rfl⟩ := rNum_some h
  simp only [List.cons_append, List.length_cons, List.length_append]
  omega

/-- A thing that is written: its kind, its number's halves, its text. -/
structure Th where
  k : Nat
  h : Int
  l : Int
  s : ByteArray
  m : Int
def b01 (b : Bool) : UInt8 := if b then 1 else 0
/-- A thing's bytes, by its kind modulo 5. -/
def wrL (k : Nat) (h l : Int) (s : List UInt8) : List UInt8 :=
  if k = 0 then [UInt8.ofNat (l % 256).toNat] else if k = 1 then wideL 0 l else if k = 2 then wideL h l else if k = 3 then [b01 (decide (l % 2 = 1))] else wideL 0 (s.length : Int) ++ s
def Th.list (x : Th) : List UInt8 := wrL (x.k % 5) x.h x.l x.s.data.toList
def Th.text (x : Th) : ByteArray := ofL x.list
/-- What is read as a kind: its number's halves, its text. -/
structure Vl where
  h : Int
  l : Int
  s : List UInt8
def Vl.zero : Vl := ⟨0, 0, []⟩
def rdK (k m : Nat) (l : List UInt8) : Option (Vl × List UInt8) :=
  if k = 0 then (rByte l).map fun x => (⟨0, (x.1.toNat : Int), []⟩, x.2)
  else if k = 1 then (rNum 8 l).map fun x => (⟨0, (beN x.1 : Int), []⟩, x.2)
  else if k = 2 then (rNum 16 l).map fun x => (⟨hiD x.1, loD x.1, []⟩, x.2)
  else if k = 3 then (rFlag l).map fun x => (⟨0, if x.1 then 1 else 0, []⟩, x.2)
  else (rText m l).map fun x => (⟨0, 0, x.1⟩, x.2)
theorem rdK_0 (m : Nat) (l : List UInt8) : rdK 0 m l = (rByte l).map fun x => (⟨0, (x.1.toNat : Int), []⟩, x.2) := rfl
theorem rdK_1 (m : Nat) (l : List UInt8) : rdK 1 m l = (rNum 8 l).map fun x => (⟨0, (beN x.1 : Int), []⟩, x.2) := rfl
theorem rdK_2 (m : Nat) (l : List UInt8) : rdK 2 m l = (rNum 16 l).map fun x => (⟨hiD x.1, loD x.1, []⟩, x.2) := rfl
theorem rdK_3 (m : Nat) (l : List UInt8) : rdK 3 m l = (rFlag l).map fun x => (⟨0, if x.1 then 1 else 0, []⟩, x.2) := rfl
theorem rdK_4 (k m : Nat) (l : List UInt8) (h : 4 ≤ k) : rdK k m l = (rText m l).map fun x => (⟨0, 0, x.1⟩, x.2) := by
  unfold rdK; rw [if_neg (by omega), if_neg (by omega), if_neg (by omega), if_neg (by omega)]
theorem wrL_4 (k : Nat) (h l : Int) (s : List UInt8) (hk : 4 ≤ k) : wrL k h l s = wideL 0 (s.length : Int) ++ s := by
  unfold wrL; rw [if_neg (by omega), if_neg (by omega), if_neg (by omega), if_neg (by omega)]

theorem rText_some {m : Nat} {l s r : List UInt8} (h : rText m l = some (s, r)) : s.length ≤ m ∧ (s.length : Int) < 18446744073709551616 ∧ l = wideL 0 (s.length : Int) ++ s ++ r := by
  unfold rText at h
  cases hn : rNum 8 l with
  | none => rw [hn] at h; cases h
  | some x =>
    obtain ⟨d, q⟩ := x
    rw [hn] at h
    obtain ⟨h1, h2, h3, rfl⟩ := rNum_some hn
    have h : (if m < beN d ∨ q.length < beN d then none else some (q.take (beN d), q.drop (beN d))) = some (s, r) := h
    split at h
    · cases h
    · next hx =>
      injection h with h
      injection h with e1 e2
      subst e1 e2
      have hl : (q.take (beN d)).length = beN d := by rw [List.length_take]; omega
      have hb := be8 d h2
      rw [hl]
      refine ⟨by omega, hb, ?_⟩
      have e : numL 0 (beN d : Int) = d := by
        have := numL_D d (by omega) h1
        rw [hiD_8 d h2, loD_8 d h2] at this
        exact this
      unfold wideL
      rw [e, List.append_assoc, List.take_append_drop]
theorem rText_wide (m : Nat) (s r : List UInt8) (h : s.length ≤ m) (hw : (s.length : Int) < 18446744073709551616) : rText m (wideL 0 (s.length : Int) ++ s ++ r) = some (s, r) := by
  have hw0 : Word (s.length : Int) := ⟨by omega, hw⟩
  have h8 := numL_len8 hw0
  have hb := numL_be (h := 0) ⟨by decide, by decide⟩ hw0
  unfold rText wideL
  rw [List.append_assoc, rNum_wide 8 _ _ h8 (by omega) (numL_mn _ _)]
  have e : beN (numL 0 (s.length : Int)) = s.length := by unfold nv at hb; omega
  show (if _ then _ else _) = _
  rw [e, List.take_left, List.drop_left, if_neg]
  rw [List.length_append]
  omega
theorem rText_long (m : Nat) (s r : List UInt8) (h : m < s.length) (hw : (s.length : Int) < 18446744073709551616) : rText m (wideL 0 (s.length : Int) ++ s ++ r) = none := by
  have hw0 : Word (s.length : Int) := ⟨by omega, hw⟩
  have h8 := numL_len8 hw0
  have hb := numL_be (h := 0) ⟨by decide, by decide⟩ hw0
  unfold rText wideL
  rw [List.append_assoc, rNum_wide 8 _ _ h8 (by omega) (numL_mn _ _)]
  have e : beN (numL 0 (s.length : Int)) = s.length := by unfold nv at hb; omega
  show (if _ then _ else _) = _
  rw [e, if_pos (Or.inl h)]

/-- What is read of what was written of a thing. -/
def Th.vl (x : Th) : Vl :=
  if x.k % 5 = 0 then ⟨0, x.l % 256, []⟩ else if x.k % 5 = 1 then ⟨0, x.l, []⟩ else if x.k % 5 = 2 then ⟨x.h, x.l, []⟩ else if x.k % 5 = 3 then ⟨0, x.l % 2, []⟩ else ⟨0, 0, x.s.data.toList⟩
/-- There and back: a thing's bytes are read as what it is, and what is behind is left. -/
theorem rd_wr (x : Th) (hh : Word x.h) (hl : Word x.l) (m : Nat) (hm : x.s.size ≤ m) (hz : x.s.size < 18446744073709551616) (r : List UInt8) : rdK (x.k % 5) m (x.list ++ r) = some (x.vl, r) := by
  have hl2 := hl
  obtain ⟨l0, l1⟩ := hl2
  have h5 : x.k % 5 < 5 := Nat.mod_lt _ (by decide)
  unfold Th.list Th.vl
  generalize x.k % 5 = k at *
  rcases (show k = 0 ∨ k = 1 ∨ k = 2 ∨ k = 3 ∨ k = 4 by omega) with rfl | rfl | rfl | rfl | rfl
  · show some ((⟨0, ((UInt8.ofNat (x.l % 256).toNat).toNat : Int), []⟩ : Vl), r) = some (⟨0, x.l % 256, []⟩, r)
    rw [ofNat_b _ (by omega)]
    congr 3
    omega
  · rw [rdK_1]
    show (rNum 8 (wideL 0 x.l ++ r)).map _ = some ((⟨0, x.l, []⟩ : Vl), r)
    have h8 := numL_len8 hl
    have hb := numL_be (h := 0) ⟨by decide, by decide⟩ hl
    unfold wideL
    rw [rNum_wide 8 _ _ h8 (by omega) (numL_mn _ _)]
    show some ((⟨0, (beN (numL 0 x.l) : Int), []⟩ : Vl), r) = _
    rw [hb]
    congr 3
    unfold nv; omega
  · rw [rdK_2]
    show (rNum 16 (wideL x.h x.l ++ r)).map _ = some ((⟨x.h, x.l, []⟩ : Vl), r)
    have h16 := numL_len x.h x.l
    unfold wideL
    rw [rNum_wide 16 _ _ h16 (by omega) (numL_mn _ _)]
    show some ((⟨hiD (numL x.h x.l), loD (numL x.h x.l), []⟩ : Vl), r) = _
    rw [hiD_num hh hl, loD_num hh hl]
  · rw [rdK_3]
    show (rFlag (b01 (decide (x.l % 2 = 1)) :: r)).map _ = some ((⟨0, x.l % 2, []⟩ : Vl), r)
    rcases (show x.l % 2 = 0 ∨ x.l % 2 = 1 by omega) with e | e
    · rw [e]; rfl
    · rw [e]; rfl
  · rw [rdK_4 4 m _ (Nat.le_refl _), wrL_4 4 _ _ _ (Nat.le_refl _)]
    rw [rText_wide m _ r (by rw [osize]; exact hm) (by rw [osize]; omega)]
    rfl
theorem Th.list_len (x : Th) : x.list.length ≤ 17 + x.s.size := by
  unfold Th.list wrL
  split
  · simp; omega
  · split
    · have := wideL_len 0 x.l; omega
    · split
      · have := wideL_len x.h x.l; omega
      · split
        · simp; omega
        · rw [List.length_append, osize]
          have := wideL_len 0 (x.s.size : Int)
          omega
theorem Th.text_size (x : Th) : x.text.size ≤ 17 + x.s.size := by unfold Th.text; rw [ofL_size]; exact x.list_len
/-- Just one way: what is read as a kind are the bytes that it is written as, and what is left. -/
theorem wr_rd {k m : Nat} {l r : List UInt8} {v : Vl} (hk : k < 5) (h : rdK k m l = some (v, r)) : l = wrL k v.h v.l v.s ++ r ∧ Word v.h ∧ Word v.l ∧ v.s.length ≤ m := by
  have w0 : Word 0 := ⟨by decide, by decide⟩
  rcases (show k = 0 ∨ k = 1 ∨ k = 2 ∨ k = 3 ∨ k = 4 by omega) with rfl | rfl | rfl | rfl | rfl
  · rw [rdK_0] at h
    cases l with
    | nil => cases h
    | cons c q =>
      injection h with h
      injection h with h1 h2
      subst h1 h2
      have hc := c.toNat_lt
      refine ⟨?_, w0, ⟨by show (0 : Int) ≤ (c.toNat : Int); omega, by show (c.toNat : Int) < _; omega⟩, Nat.zero_le _⟩
      show c :: q = UInt8.ofNat (((c.toNat : Int) % 256).toNat) :: q
      rw [show ((c.toNat : Int) % 256).toNat = c.toNat by omega, UInt8.ofNat_toNat]
  · rw [rdK_1] at h
    cases hn : rNum 8 l with
    | none => rw [hn] at h; cases h
    | some x =>
      obtain ⟨d, q⟩ := x
      rw [hn] at h
      injection h with h
      injection h with h1 h2
      subst h1 h2
      obtain ⟨g1, g2, g3, rfl⟩ := rNum_some hn
      have hb := be8 d g2
      have e : numL 0 (beN d : Int) = d := by
        have := numL_D d (by omega) g1
        rw [hiD_8 d g2, loD_8 d g2] at this
        exact this
      refine ⟨?_, w0, ⟨by show (0 : Int) ≤ (beN d : Int); omega, hb⟩, Nat.zero_le _⟩
      show _ = wideL 0 (beN d : Int) ++ q
      unfold wideL
      rw [e]
  · rw [rdK_2] at h
    cases hn : rNum 16 l with
    | none => rw [hn] at h; cases h
    | some x =>
      obtain ⟨d, q⟩ := x
      rw [hn] at h
      injection h with h
      injection h with h1 h2
      subst h1 h2
      obtain ⟨g1, g2, g3, rfl⟩ := rNum_some hn
      refine ⟨?_, hiD_word d g2, loD_word d, Nat.zero_le _⟩
      show _ = wideL (hiD d) (loD d) ++ q
      unfold wideL
      rw [numL_D d g2 g1]
  · rw [rdK_3] at h
    cases l with
    | nil => cases h
    | cons c q =>
      have h : (if 1 < c.toNat then none else some (decide (c.toNat = 1), q)).map (fun x : Bool × List UInt8 => ((⟨0, if x.1 then 1 else 0, []⟩ : Vl), x.2)) = some (v, r) := h
      split at h
      · cases h
      · next hc =>
        injection h with h
        injection h with h1 h2
        subst h1 h2
        have hcc : c = 0 ∨ c = 1 := by
          rcases (show c.toNat = 0 ∨ c.toNat = 1 by omega) with e | e
          · exact Or.inl (UInt8.toNat_inj.1 (by rw [e]; rfl))
          · exact Or.inr (UInt8.toNat_inj.1 (by rw [e]; rfl))
        rcases hcc with rfl | rfl
        · exact ⟨rfl, w0, w0, Nat.zero_le _⟩
        · exact ⟨rfl, w0, show Word 1 from ⟨by decide, by decide⟩, Nat.zero_le _⟩
  · rw [rdK_4 4 m _ (Nat.le_refl _)] at h
    cases hn : rText m l with
    | none => rw [hn] at h; cases h
    | some x =>
      obtain ⟨d, q⟩ := x
      rw [hn] at h
      injection h with h
      injection h with h1 h2
      subst h1 h2
      obtain ⟨g1, g2, rfl⟩ := rText_some hn
      refine ⟨?_, w0, w0, g1⟩
      rw [wrL_4 4 _ _ _ (Nat.le_refl _)]
theorem rdK_more {k m : Nat} {l r : List UInt8} {v : Vl} (hk : k < 5) (h : rdK k m l = some (v, r)) (e : List UInt8) : rdK k m (l ++ e) = some (v, r ++ e) := by
  rcases (show k = 0 ∨ k = 1 ∨ k = 2 ∨ k = 3 ∨ k = 4 by omega) with rfl | rfl | rfl | rfl | rfl
  · rw [rdK_0] at h ⊢
    cases l with
    | nil => cases h
    | cons c q =>
      injection h with h
      injection h with h1 h2
      subst h1 h2
      rfl
  · rw [rdK_1] at h ⊢
    cases hn : rNum 8 l with
    | none => rw [hn] at h; cases h
    | some x =>
      obtain ⟨d, q⟩ := x
      rw [hn] at h
      injection h with h
      injection h with h1 h2
      subst h1 h2
      rw [rNum_more hn e]
      rfl
  · rw [rdK_2] at h ⊢
    cases hn : rNum 16 l with
    | none => rw [hn] at h; cases h
    | some x =>
      obtain ⟨d, q⟩ := x
      rw [hn] at h
      injection h with h
      injection h with h1 h2
      subst h1 h2
      rw [rNum_more hn e]
      rfl
  · rw [rdK_3] at h ⊢
    cases l with
    | nil => cases h
    | cons c q =>
      have h : (if 1 < c.toNat then none else some (decide (c.toNat = 1), q)).map (fun x : Bool × List UInt8 => ((⟨0, if x.1 then 1 else 0, []⟩ : Vl), x.2)) = some (v, r) := h
      split at h
      · cases h
      · next hc =>
        injection h with h
        injection h with h1 h2
        subst h1 h2
        show (if 1 < c.toNat then none else some (decide (c.toNat = 1), q ++ e)).map _ = _
        rw [if_neg hc]
        rfl
  · rw [rdK_4 4 m _ (Nat.le_refl _)] at h ⊢
    cases hn : rText m l with
    | none => rw [hn] at h; cases h
    | some x =>
      obtain ⟨d, q⟩ := x
      rw [hn] at h
      injection h with h
      injection h with h1 h2
      subst h1 h2
      obtain ⟨g1, g2, rfl⟩ := rText_some hn
      rw [List.append_assoc, rText_wide m d (q ++ e) g1 g2]
      rfl

/-- What is written, and a text behind it; where it has no room, it is spoilt. -/
def putB (o : Option ByteArray) (t : ByteArray) : Option ByteArray := o.bind fun s => if s.size + t.size ≤ 1048576 then some (s ++ t) else none
theorem putB_none (t : ByteArray) : putB none t = none := rfl
theorem putB_yes (s t : ByteArray) (h : s.size + t.size ≤ 1048576) : putB (some s) t = some (s ++ t) := by show (if _ then _ else _) = _; rw [if_pos h]
theorem putB_no (s t : ByteArray) (h : 1048576 < s.size + t.size) : putB (some s) t = none := by show (if _ then _ else _) = _; rw [if_neg (by omega)]
theorem putB_two (o : Option ByteArray) (a b : ByteArray) : putB (putB o a) b = putB o (a ++ b) := by
  cases o with
  | none => rfl
  | some s =>
    by_cases h : s.size + a.size ≤ 1048576
    · rw [putB_yes s a h]
      by_cases h2 : s.size + (a ++ b).size ≤ 1048576
      · rw [putB_yes s _ h2, putB_yes _ _ (by rw [ByteArray.size_append] at h2 ⊢; omega), ByteArray.append_assoc]
      · rw [putB_no s _ (by omega), putB_no _ _ (by rw [ByteArray.size_append] at h2 ⊢; omega)]
    · rw [putB_no s a (by omega), putB_none, putB_no s _ (by rw [ByteArray.size_append]; omega)]
theorem putB_nil (s : ByteArray) (h : s.size ≤ 1048576) : putB (some s) ⟨#[]⟩ = some s := by
  rw [putB_yes s _ (by show s.size + 0 ≤ _; omega)]
  congr 1
  exact oext (by simp [ByteArray.data_append])

/-- Of two numbers' bytes. -/
theorem less_cons (x : UInt8) (a b : List UInt8) : Op.bytesLess (x :: a) (x :: b) = Op.bytesLess a b := by
  simp [Op.bytesLess]
theorem wide_less {ah al bh bl : Int} (a1 : Word ah) (a0 : Word al) (b1 : Word bh) (b0 : Word bl) : Op.bytesLess (wideL ah al) (wideL bh bl) = decide (nv ah al < nv bh bl) := by
  have ea := numL_be a1 a0
  have eb := numL_be b1 b0
  have la := numL_len ah al
  have lb := numL_len bh bl
  have ma := numL_mn ah al
  have mb := numL_mn bh bl
  rw [← ea, ← eb]
  unfold wideL
  generalize numL ah al = x at *
  generalize numL bh bl = y at *
  rcases Nat.lt_trichotomy x.length y.length with h | h | h
  · have h1 := mn_less_len x y mb h
    have e1 : decide (UInt8.ofNat x.length < UInt8.ofNat y.length) = true := by
      rw [decide_eq_true_eq, UInt8.lt_iff_toNat_lt, ofNat_b _ (by omega), ofNat_b _ (by omega)]; exact h
    show (decide (UInt8.ofNat x.length < UInt8.ofNat y.length) || _) = _
    rw [e1, Bool.true_or, eq_comm, decide_eq_true_eq]
    omega
  · rw [h, less_cons, less_be x y h]
    simp
  · have h1 := mn_less_len y x ma h
    have e1 : decide (UInt8.ofNat x.length < UInt8.ofNat y.length) = false := by
      rw [decide_eq_false_iff_not, UInt8.lt_iff_toNat_lt, ofNat_b _ (by omega), ofNat_b _ (by omega)]; omega
    have e2 : (UInt8.ofNat x.length == UInt8.ofNat y.length) = false := by
      rw [beq_eq_false_iff_ne]
      intro e
      have := congrArg UInt8.toNat e
      rw [ofNat_b _ (by omega), ofNat_b _ (by omega)] at this
      omega
    show (decide (UInt8.ofNat x.length < UInt8.ofNat y.length) || ((UInt8.ofNat x.length == UInt8.ofNat y.length) && _)) = _
    rw [e1, e2, Bool.false_and, Bool.or_false, eq_comm, decide_eq_false_iff_not]
    omega
theorem wide_same {ah al bh bl : Int} (a1 : Word ah) (a0 : Word al) (b1 : Word bh) (b0 : Word bl) (h : wideL ah al = wideL bh bl) : ah = bh ∧ al = bl := by
  unfold wideL at h
  injection h with _ h
  exact ⟨by rw [← hiD_num a1 a0, h, hiD_num b1 b0], by rw [← loD_num a1 a0, h, loD_num b1 b0]⟩
theorem wide_begins {ah al bh bl : Int} (a1 : Word ah) (a0 : Word al) (b1 : Word bh) (b0 : Word bl) (h : (wideL ah al).length ≤ (wideL bh bl).length) (e : (wideL bh bl).take (wideL ah al).length = wideL ah al) : ah = bh ∧ al = bl := by
  refine wide_same a1 a0 b1 b0 ?_
  have la := numL_len ah al
  have lb := numL_len bh bl
  have e0 := e
  unfold wideL at e
  rw [List.length_cons, List.take_succ_cons] at e
  injection e with e1 _
  have := congrArg UInt8.toNat e1
  rw [ofNat_b _ (by omega), ofNat_b _ (by omega)] at this
  rw [List.take_of_length_le (by unfold wideL; rw [List.length_cons, List.length_cons]; omega)] at e0
  exact e0.symm
theorem word0 : Word 0 := ⟨by decide, by decide⟩
/-- A text's bytes behind how many they are. -/
def textL (s : ByteArray) : List UInt8 := wideL 0 (s.size : Int) ++ s.data.toList
end Go.Proofs.YtkecekfapiegjaaDoor
/-
  Plain words on what is read of bytes: what is told, what is left.
-/
namespace Go.Proofs.YtkecekfapiegjaaDoor
set_option linter.unusedVariables false
set_option linter.unusedSimpArgs false
set_option maxRecDepth 10000
open Go.RowKit

/-- What is told of what was read; what is left. -/
def nxt {α : Type} (r : Option (α × List UInt8)) : Option (List UInt8) := r.map (·.2)
def bV (r : Option (UInt8 × List UInt8)) : Int := match r with | none => 0 | some x => (x.1.toNat : Int)
def fV (r : Option (Bool × List UInt8)) : Bool := match r with | none => false | some x => x.1
def hV (r : Option (List UInt8 × List UInt8)) : Int := match r with | none => 0 | some x => hiD x.1
def lV (r : Option (List UInt8 × List UInt8)) : Int := match r with | none => 0 | some x => loD x.1
def tV (r : Option (List UInt8 × List UInt8)) : ByteArray := match r with | none => ⟨#[]⟩ | some x => ofL x.1
def opB (st : Option (List UInt8)) := st.bind rByte
def opF (st : Option (List UInt8)) := st.bind rFlag
def opN (most : Nat) (st : Option (List UInt8)) := st.bind (rNum most)
def opT (m : Nat) (st : Option (List UInt8)) := st.bind (rText m)
end Go.Proofs.YtkecekfapiegjaaDoor
/-
  Plain words on bytes there and back: what is written as bytes, and read from them, one thing behind the other, in rows. No function of the program is walked here.
-/
namespace Go.Proofs.YtkecekfapiegjaaDoor
set_option linter.unusedVariables false
set_option linter.unusedSimpArgs false
set_option maxRecDepth 10000
open Go.RowKit

/-- What is left to read: bytes, or none (spoilt). -/
abbrev StR := Option (List UInt8)
/-- What may be is read from its bytes, whatever is behind; what is read has just its bytes, and may be. -/
def Cod {α : Type} (enc : α → List UInt8) (ok : α → Prop) (dec : StR → α × StR) : Prop :=
  (∀ x r, ok x → dec (some (enc x ++ r)) = (x, some r)) ∧ ∀ st x r, dec st = (x, some r) → ok x ∧ st = some (enc x ++ r)
section
variable {α β : Type} {e : α → List UInt8} {o : α → Prop} {d : StR → α × StR} {e' : β → List UInt8} {o' : β → Prop} {d' : StR → β × StR}
theorem Cod.none_ (h : Cod e o d) : (d none).2 = none := by
  cases hd : d none with
  | mk x st =>
    cases st with
    | none => rfl
    | some r => have := (h.2 none x r hd).2; cases this
theorem Cod.same (h : Cod e o d) {x y : α} {r r' : List UInt8} (hx : o x) (hy : o y) (k : e x ++ r = e y ++ r') : x = y ∧ r = r' := by
  have h1 := h.1 x r hx
  rw [k, h.1 y r' hy] at h1
  injection h1 with h1 h2
  injection h2 with h2
  exact ⟨h1.symm, h2.symm⟩
/-- One behind the other. -/
def seqG (d : StR → α × StR) (d' : StR → β × StR) (st : StR) : (α × β) × StR := (((d st).1, (d' (d st).2).1), (d' (d st).2).2)
theorem Cod.seq (h : Cod e o d) (h' : Cod e' o' d') : Cod (fun x : α × β => e x.1 ++ e' x.2) (fun x => o x.1 ∧ o' x.2) (seqG d d') := by
  refine ⟨fun x r hx => ?_, fun st x r hx => ?_⟩
  · unfold seqG
    rw [List.append_assoc, h.1 _ _ hx.1]
    simp only
    rw [h'.1 _ _ hx.2]
  · unfold seqG at hx
    injection hx with h1 h2
    cases hd : d st with
    | mk a sa =>
      rw [hd] at h1 h2
      simp only at h1 h2
      cases sa with
      | none => rw [h'.none_] at h2; cases h2
      | some la =>
        cases hd' : d' (some la) with
        | mk b sb =>
          rw [hd'] at h1 h2
          simp only at h1 h2
          subst h2
          obtain ⟨k1, k2⟩ := h.2 _ _ _ hd
          obtain ⟨k3, k4⟩ := h'.2 _ _ _ hd'
          injection k4 with k4
          subst h1
          exact ⟨⟨k1, k3⟩, by rw [k2, k4]; simp⟩
/-- The same, told otherwise. -/
theorem Cod.turn (h : Cod e o d) (f : α → β) (g : β → α) (fg : ∀ b, f (g b) = b) (gf : ∀ a, g (f a) = a) : Cod (fun b => e (g b)) (fun b => o (g b)) (fun st => (f (d st).1, (d st).2)) := by
  refine ⟨fun x r hx => ?_, fun st x r hx => ?_⟩
  · show (f (d (some (e (g x) ++ r))).1, (d (some (e (g x) ++ r))).2) = (x, some r)
    rw [h.1 _ _ hx]
    simp only
    rw [fg]
  · injection hx with h1 h2
    have h3 := h.2 st (d st).1 r (by rw [← h2])
    subst h1
    show o (g (f (d st).1)) ∧ st = some (e (g (f (d st).1)) ++ r)
    rw [gf]
    exact h3
theorem Cod.more (h : Cod e o d) {p : α → Prop} (dp : ∀ x, Decidable (p x)) : Cod e (fun x => o x ∧ p x) (fun st => if p (d st).1 then d st else ((d st).1, none)) := by
  refine ⟨fun x r hx => ?_, fun st x r hx => ?_⟩
  · show (if p (d (some (e x ++ r))).1 then d (some (e x ++ r)) else ((d (some (e x ++ r))).1, none)) = (x, some r)
    rw [h.1 _ _ hx.1]
    simp only
    rw [if_pos hx.2]
  · change (if p (d st).1 then d st else ((d st).1, none)) = (x, some r) at hx
    split at hx
    · next hp =>
      obtain ⟨k1, k2⟩ := h.2 _ _ _ hx
      exact ⟨⟨k1, by rw [hx] at hp; exact hp⟩, k2⟩
    · injection hx with h1 h2
      cases h2
/-- So many of them. -/
def repG (d : StR → α × StR) : Nat → StR → List α × StR
  | 0, st => ([], st)
  | _ + 1, none => ([], none)
  | n + 1, some l => ((d (some l)).1 :: (repG d n (d (some l)).2).1, (repG d n (d (some l)).2).2)
theorem repG_none (d : StR → α × StR) (n : Nat) : repG d n none = ([], none) := by cases n <;> rfl
theorem Cod.rep (h : Cod e o d) (n : Nat) : Cod (fun l : List α => l.flatMap e) (fun l => l.length = n ∧ ∀ x ∈ l, o x) (repG d n) := by
  induction n with
  | zero =>
    refine ⟨fun x r hx => ?_, fun st x r hx => ?_⟩
    · have : x = [] := List.eq_nil_of_length_eq_zero hx.1
      subst this
      rfl
    · injection hx with h1 h2
      subst h1 h2
      exact ⟨⟨rfl, fun x hx => by cases hx⟩, rfl⟩
  | succ n ih =>
    refine ⟨fun x r hx => ?_, fun st x r hx => ?_⟩
    · cases x with
      | nil => cases hx.1
      | cons a q =>
        show repG d (n + 1) (some ((a :: q).flatMap e ++ r)) = (a :: q, some r)
        rw [List.flatMap_cons, List.append_assoc, repG, h.1 _ _ (hx.2 a (by simp))]
        simp only
        rw [ih.1 q r ⟨by simpa using hx.1, fun y hy => hx.2 y (by simp [hy])⟩]
    · cases st with
      | none => rw [repG_none] at hx; injection hx with _ h2; cases h2
      | some l =>
        rw [repG] at hx
        injection hx with h1 h2
        cases hd : d (some l) with
        | mk a sa =>
          rw [hd] at h1 h2
          simp only at h1 h2
          cases sa with
          | none => rw [repG_none] at h2; cases h2
          | some la =>
            cases hq : repG d n (some la) with
            | mk q sq =>
              rw [hq] at h1 h2
              simp only at h1 h2
              subst h1 h2
              obtain ⟨k1, k2⟩ := h.2 _ _ _ hd
              obtain ⟨⟨k3, k4⟩, k5⟩ := ih.2 _ _ _ hq
              injection k5 with k5
              refine ⟨⟨by simp [k3], fun y hy => ?_⟩, ?_⟩
              · rcases List.mem_cons.1 hy with rfl | hy
                · exact k1
                · exact k4 y hy
              · show some l = some ((a :: q).flatMap e ++ r)
                rw [k2, k5, List.flatMap_cons, List.append_assoc]
/-- How many, and then these. -/
def rowY (e : α → List UInt8) (l : List α) : List UInt8 := wideL 0 (l.length : Int) ++ l.flatMap e
def rowG (d : StR → α × StR) (st : StR) : List α × StR := repG d (lV (opN 8 st)).toNat (if 2048 < lV (opN 8 st) then none else nxt (opN 8 st))
end
/-- A number, a wide one, a flag, a text, a byte. -/
def numG (st : StR) : Int × StR := (lV (opN 8 st), nxt (opN 8 st))
def wideG (st : StR) : (Int × Int) × StR := ((hV (opN 16 st), lV (opN 16 st)), nxt (opN 16 st))
def flagG (st : StR) : Bool × StR := (fV (opF st), nxt (opF st))
def textG (m : Nat) (st : StR) : ByteArray × StR := (tV (opT m st), nxt (opT m st))
theorem opN_back (most : Nat) (h l : Int) (hn : (numL h l).length ≤ most) (r : List UInt8) : opN most (some (wideL h l ++ r)) = some (numL h l, r) := by
  have := numL_len h l
  exact rNum_wide most (numL h l) r hn (by omega) (numL_mn h l)
theorem opN_some {most : Nat} {st : StR} {d r : List UInt8} (h : opN most st = some (d, r)) : Mn d ∧ d.length ≤ most ∧ d.length < 256 ∧ st = some (UInt8.ofNat d.length :: d ++ r) := by
  cases st with
  | none => cases h
  | some l =>
    obtain ⟨h1, h2, h3, h4⟩ := rNum_some (show rNum most l = some (d, r) from h)
    exact ⟨h1, h2, h3, by rw [h4]⟩
theorem numC : Cod (fun n => wideL 0 n) Word numG := by
  refine ⟨fun x r hx => ?_, fun st x r hx => ?_⟩
  · unfold numG
    rw [opN_back 8 0 x (numL_len8 hx)]
    show (loD (numL 0 x), some r) = _
    rw [loD_num word0 hx]
  · unfold numG at hx
    injection hx with h1 h2
    cases ho : opN 8 st with
    | none => rw [ho] at h2; cases h2
    | some p =>
      obtain ⟨d, q⟩ := p
      rw [ho] at h1 h2
      injection h2 with h2
      obtain ⟨k1, k2, k3, k4⟩ := opN_some ho
      change loD d = x at h1
      change q = r at h2
      subst h1 h2
      refine ⟨loD_word d, ?_⟩
      have := numL_D d (by omega) k1
      rw [hiD_8 d k2] at this
      rw [k4]
      show _ = some ((UInt8.ofNat (numL 0 (loD d)).length :: numL 0 (loD d)) ++ q)
      rw [this]
theorem wideC : Cod (fun n : Int × Int => wideL n.1 n.2) (fun n => Word n.1 ∧ Word n.2) wideG := by
  refine ⟨fun x r hx => ?_, fun st x r hx => ?_⟩
  · unfold wideG
    rw [opN_back 16 x.1 x.2 (numL_len _ _)]
    show ((hiD (numL x.1 x.2), loD (numL x.1 x.2)), some r) = _
    rw [loD_num hx.1 hx.2, hiD_num hx.1 hx.2]
  · unfold wideG at hx
    injection hx with h1 h2
    cases ho : opN 16 st with
    | none => rw [ho] at h2; cases h2
    | some p =>
      obtain ⟨d, q⟩ := p
      rw [ho] at h1 h2
      injection h2 with h2
      obtain ⟨k1, k2, k3, k4⟩ := opN_some ho
      change (hiD d, loD d) = x at h1
      change q = r at h2
      subst h1 h2
      refine ⟨⟨hiD_word d k2, loD_word d⟩, ?_⟩
      have := numL_D d k2 k1
      rw [k4]
      show _ = some ((UInt8.ofNat (numL (hiD d) (loD d)).length :: numL (hiD d) (loD d)) ++ q)
      rw [this]
theorem flagC : Cod (fun b => [b01 b]) (fun _ => True) flagG := by
  refine ⟨fun x r _ => ?_, fun st x r hx => ?_⟩
  · cases x <;> rfl
  · unfold flagG at hx
    injection hx with h1 h2
    cases st with
    | none => cases h2
    | some l =>
      cases l with
      | nil => cases h2
      | cons c q =>
        change fV (if 1 < c.toNat then none else some (decide (c.toNat = 1), q)) = x at h1
        change nxt (if 1 < c.toNat then none else some (decide (c.toNat = 1), q)) = some r at h2
        split at h2
        · cases h2
        · next hc =>
          rw [if_neg hc] at h1
          injection h2 with h2
          change decide (c.toNat = 1) = x at h1
          change q = r at h2
          subst h1 h2
          have hcc : c = 0 ∨ c = 1 := by
            rcases (show c.toNat = 0 ∨ c.toNat = 1 by omega) with e | e
            · exact Or.inl (UInt8.toNat_inj.1 (by rw [e]; rfl))
            · exact Or.inr (UInt8.toNat_inj.1 (by rw [e]; rfl))
          refine ⟨trivial, ?_⟩
          rcases hcc with rfl | rfl <;> rfl
theorem textC (m : Nat) (hm : m < 18446744073709551616) : Cod textL (fun s => s.size ≤ m) (textG m) := by
  refine ⟨fun s r hs => ?_, fun st x r hx => ?_⟩
  · have h := rText_wide m s.data.toList r (by rw [osize]; exact hs) (by rw [osize]; omega)
    rw [osize] at h
    have h2 : opT m (some (textL s ++ r)) = some (s.data.toList, r) := h
    unfold textG
    rw [h2]
    show (ofL s.data.toList, some r) = _
    rw [ofL_data]
  · unfold textG at hx
    injection hx with h1 h2
    cases st with
    | none => cases h2
    | some l =>
      cases ho : rText m l with
      | none => rw [show opT m (some l) = none from ho] at h2; cases h2
      | some p =>
        obtain ⟨d, q⟩ := p
        rw [show opT m (some l) = some (d, q) from ho] at h1 h2
        injection h2 with h2
        change ofL d = x at h1
        change q = r at h2
        subst h1 h2
        obtain ⟨k1, k2, k3⟩ := rText_some ho
        refine ⟨by show (ofL d).size ≤ m; rw [ofL_size]; exact k1, ?_⟩
        unfold textL
        rw [k3, ofL_list, ofL_size]
theorem Cod.row {α : Type} {e : α → List UInt8} {o : α → Prop} {d : StR → α × StR} (h : Cod e o d) : Cod (rowY e) (fun l => l.length ≤ 2048 ∧ ∀ x ∈ l, o x) (rowG d) := by
  refine ⟨fun l r hl => ?_, fun st l r hl => ?_⟩
  · have hw : Word (l.length : Int) := ⟨by omega, by have := hl.1; omega⟩
    unfold rowG rowY
    rw [List.append_assoc, opN_back 8 0 _ (numL_len8 hw)]
    show repG d (loD (numL 0 (l.length : Int))).toNat (if 2048 < loD (numL 0 (l.length : Int)) then none else some (l.flatMap e ++ r)) = _
    rw [loD_num word0 hw, if_neg (by have := hl.1; omega), Int.toNat_natCast]
    exact (h.rep l.length).1 l r ⟨rfl, hl.2⟩
  · unfold rowG at hl
    split at hl
    · rw [repG_none] at hl
      injection hl with _ h2
      cases h2
    · next hn =>
      obtain ⟨⟨k1, k2⟩, k3⟩ := (h.rep _).2 _ _ _ hl
      have h3 := numC.2 st (lV (opN 8 st)) (l.flatMap e ++ r) (by unfold numG; rw [k3])
      obtain ⟨h4, h5⟩ := h3
      have h6 := h4.1
      have e1 : (l.length : Int) = lV (opN 8 st) := by omega
      refine ⟨⟨by omega, k2⟩, ?_⟩
      rw [h5]
      unfold rowY
      rw [e1, List.append_assoc]
end Go.Proofs.YtkecekfapiegjaaDoor
/-
  Plain words on records: their bytes, what may be told, what is read. No function of the program is walked here.
-/
namespace Go.Proofs.YtkecekfapiegjaaDoor
set_option linter.unusedVariables false
set_option linter.unusedSimpArgs false
set_option maxRecDepth 10000
open Go.RowKit

/-- A root, an entry, a range, a change, a diff, plainly. -/
structure RtP where
  hash : ByteArray
  h : Int
  l : Int
  n : Int
structure EnP where
  leaf : Lf
  pos : Int
  sides : List Nd
structure RgP where
  a : Int
  b : Int
  ins : List Nd
  outs : List Nd
structure ChP where
  pos : Int
  old : Lf
  new : Lf
structure DfP where
  chs : List ChP
  fr : List Nd
def RtP.zero : RtP := ⟨⟨#[]⟩, 0, 0, 0⟩
def EnP.zero : EnP := ⟨Lf.zero, 0, []⟩
def RgP.zero : RgP := ⟨0, 0, [], []⟩
def DfP.zero : DfP := ⟨[], []⟩
/-- Their numbers are such of 64 bits. -/
def Lf.words (x : Lf) : Prop := Word x.h ∧ Word x.l
def Nd.words (x : Nd) : Prop := Word x.h ∧ Word x.l
/-- Their bytes. -/
def ndY (x : Nd) : List UInt8 := textL x.hash ++ wideL x.h x.l
def lfY (x : Lf) : List UInt8 := [b01 x.pad] ++ (textL x.id ++ (textL x.salt ++ wideL x.h x.l))
def rtY (x : RtP) : List UInt8 := ndY ⟨x.hash, x.h, x.l⟩ ++ wideL 0 (x.n % 18446744073709551616)
def enY (x : EnP) : List UInt8 := lfY x.leaf ++ (wideL 0 x.pos ++ rowY ndY x.sides)
def rgY (x : RgP) : List UInt8 := wideL 0 x.a ++ (wideL 0 x.b ++ (rowY ndY x.ins ++ rowY ndY x.outs))
def chY (x : ChP) : List UInt8 := wideL 0 x.pos ++ (lfY x.old ++ lfY x.new)
def dfY (x : DfP) : List UInt8 := rowY chY x.chs ++ rowY ndY x.fr
/-- .. and what is read of bytes. -/
def ndG (st : StR) : Nd × StR := (⟨(textG 32 st).1, (wideG (textG 32 st).2).1.1, (wideG (textG 32 st).2).1.2⟩, (wideG (textG 32 st).2).2)
def lfG (st : StR) : Lf × StR :=
  (⟨(flagG st).1, (textG 255 (flagG st).2).1, (textG 255 (textG 255 (flagG st).2).2).1, (wideG (textG 255 (textG 255 (flagG st).2).2).2).1.1, (wideG (textG 255 (textG 255 (flagG st).2).2).2).1.2⟩, (wideG (textG 255 (textG 255 (flagG st).2).2).2).2)
def rtG (st : StR) : RtP × StR :=
  if (if (numG (ndG st).2).1 ≤ 63 then (numG (ndG st).2).2 else none) = none then (RtP.zero, none) else (⟨(ndG st).1.hash, (ndG st).1.h, (ndG st).1.l, (numG (ndG st).2).1⟩, (numG (ndG st).2).2)
def enG (st : StR) : EnP × StR := (⟨(lfG st).1, (numG (lfG st).2).1, (rowG ndG (numG (lfG st).2).2).1⟩, (rowG ndG (numG (lfG st).2).2).2)
def rgG (st : StR) : RgP × StR :=
  (⟨(numG st).1, (numG (numG st).2).1, (rowG ndG (numG (numG st).2).2).1, (rowG ndG (rowG ndG (numG (numG st).2).2).2).1⟩, (rowG ndG (rowG ndG (numG (numG st).2).2).2).2)
def chG (st : StR) : ChP × StR := (⟨(numG st).1, (lfG (numG st).2).1, (lfG (lfG (numG st).2).2).1⟩, (lfG (lfG (numG st).2).2).2)
def dfG (st : StR) : DfP × StR := (⟨(rowG chG st).1, (rowG ndG (rowG chG st).2).1⟩, (rowG ndG (rowG chG st).2).2)
theorem ndC : Cod ndY (fun x => x.hash.size ≤ 32 ∧ x.words) ndG :=
  ((textC 32 (by omega)).seq wideC).turn (fun p => (⟨p.1, p.2.1, p.2.2⟩ : Nd)) (fun x => (x.hash, (x.h, x.l))) (fun _ => rfl) (fun _ => rfl)
theorem lfC : Cod lfY (fun x => True ∧ x.id.size ≤ 255 ∧ x.salt.size ≤ 255 ∧ x.words) lfG :=
  (flagC.seq ((textC 255 (by omega)).seq ((textC 255 (by omega)).seq wideC))).turn (fun p => (⟨p.1, p.2.1, p.2.2.1, p.2.2.2.1, p.2.2.2.2⟩ : Lf)) (fun x => (x.pad, (x.id, (x.salt, (x.h, x.l))))) (fun _ => rfl) (fun _ => rfl)
theorem enC : Cod enY (fun x => (True ∧ x.leaf.id.size ≤ 255 ∧ x.leaf.salt.size ≤ 255 ∧ x.leaf.words) ∧ Word x.pos ∧ x.sides.length ≤ 2048 ∧ ∀ y ∈ x.sides, y.hash.size ≤ 32 ∧ y.words) enG :=
  (lfC.seq (numC.seq ndC.row)).turn (fun p => (⟨p.1, p.2.1, p.2.2⟩ : EnP)) (fun x => (x.leaf, (x.pos, x.sides))) (fun _ => rfl) (fun _ => rfl)
theorem rgC : Cod rgY (fun x => Word x.a ∧ Word x.b ∧ (x.ins.length ≤ 2048 ∧ ∀ y ∈ x.ins, y.hash.size ≤ 32 ∧ y.words) ∧ x.outs.length ≤ 2048 ∧ ∀ y ∈ x.outs, y.hash.size ≤ 32 ∧ y.words) rgG :=
  (numC.seq (numC.seq (ndC.row.seq ndC.row))).turn (fun p => (⟨p.1, p.2.1, p.2.2.1, p.2.2.2⟩ : RgP)) (fun x => (x.a, (x.b, (x.ins, x.outs)))) (fun _ => rfl) (fun _ => rfl)
theorem chC : Cod chY (fun x => Word x.pos ∧ (True ∧ x.old.id.size ≤ 255 ∧ x.old.salt.size ≤ 255 ∧ x.old.words) ∧ True ∧ x.new.id.size ≤ 255 ∧ x.new.salt.size ≤ 255 ∧ x.new.words) chG :=
  (numC.seq (lfC.seq lfC)).turn (fun p => (⟨p.1, p.2.1, p.2.2⟩ : ChP)) (fun x => (x.pos, (x.old, x.new))) (fun _ => rfl) (fun _ => rfl)
theorem dfC : Cod dfY (fun x => (x.chs.length ≤ 2048 ∧ ∀ y ∈ x.chs, Word y.pos ∧ (True ∧ y.old.id.size ≤ 255 ∧ y.old.salt.size ≤ 255 ∧ y.old.words) ∧ True ∧ y.new.id.size ≤ 255 ∧ y.new.salt.size ≤ 255 ∧ y.new.words) ∧ x.fr.length ≤ 2048 ∧ ∀ y ∈ x.fr, y.hash.size ≤ 32 ∧ y.words) dfG :=
  (chC.row.seq ndC.row).turn (fun p => (⟨p.1, p.2⟩ : DfP)) (fun x => (x.chs, x.fr)) (fun _ => rfl) (fun _ => rfl)
theorem rtC : Cod rtY (fun x => (x.hash.size ≤ 32 ∧ Word x.h ∧ Word x.l) ∧ 0 ≤ x.n ∧ x.n ≤ 63) rtG := by
  have hc := ndC.seq numC
  refine ⟨fun x r hx => ?_, fun st x r hx => ?_⟩
  · have h1 := hc.1 (⟨x.hash, x.h, x.l⟩, x.n) r ⟨⟨hx.1.1, hx.1.2⟩, ⟨hx.2.1, by have := hx.2.2; omega⟩⟩
    have e : x.n % 18446744073709551616 = x.n := by omega
    unfold rtY
    rw [e]
    unfold seqG at h1
    injection h1 with h1 h2
    injection h1 with h1 h3
    simp only at h1 h2 h3
    unfold rtG
    simp only [h1, h2, h3]
    rw [if_pos hx.2.2, if_neg (by simp)]
  · unfold rtG at hx
    by_cases h63 : (numG (ndG st).2).1 ≤ 63
    · rw [if_pos h63] at hx
      by_cases hn : (numG (ndG st).2).2 = none
      · rw [if_pos hn] at hx
        injection hx with _ h2
        cases h2
      · rw [if_neg hn] at hx
        injection hx with h1 h2
        have h3 := hc.2 st ((ndG st).1, (numG (ndG st).2).1) r (by unfold seqG; rw [h2])
        have h4 : st = some (ndY (ndG st).1 ++ wideL 0 (numG (ndG st).2).1 ++ r) := h3.2
        subst h1
        have hw : 0 ≤ (numG (ndG st).2).1 := h3.1.2.1
        refine ⟨⟨h3.1.1, hw, h63⟩, ?_⟩
        have e : (numG (ndG st).2).1 % 18446744073709551616 = (numG (ndG st).2).1 := by omega
        show st = some (ndY (ndG st).1 ++ wideL 0 ((numG (ndG st).2).1 % 18446744073709551616) ++ r)
        rw [e]
        exact h4
    · rw [if_neg h63, if_pos rfl] at hx
      injection hx with _ h2
      cases h2

/-- Bytes, unless there are too many. -/
def wholeO (l : List UInt8) : ByteArray × Int := if 1048576 < l.length then (⟨#[]⟩, 3) else (ofL l, 0)
/-- Are nodes too many, or has one too long a digest? -/
def longN (l : List Nd) : Bool := decide (2048 < l.length) || l.any (fun n => decide (32 < n.hash.size))
def RtP.long (x : RtP) : Bool := decide (32 < x.hash.size) || (decide (x.n < 0) || decide (63 < x.n))
def badC (l : List ChP) : Bool := l.any fun c => !c.old.may || !c.new.may
/-- What is told of a record. -/
def rtO (x : RtP) : ByteArray × Int := if x.long then (⟨#[]⟩, 3) else wholeO (82 :: rtY x)
def lfO (x : Lf) : ByteArray × Int := if x.may then wholeO (76 :: lfY x) else (⟨#[]⟩, 130)
def enO (x : EnP) : ByteArray × Int := if x.leaf.may then (if longN x.sides then (⟨#[]⟩, 3) else wholeO (69 :: enY x)) else (⟨#[]⟩, 130)
def rgO (x : RgP) : ByteArray × Int := if longN x.ins || longN x.outs then (⟨#[]⟩, 3) else wholeO (71 :: rgY x)
def dfO (x : DfP) : ByteArray × Int := if badC x.chs then (⟨#[]⟩, 130) else if decide (2048 < x.chs.length) || longN x.fr then (⟨#[]⟩, 3) else wholeO (68 :: dfY x)
/-- What is read of a text. -/
def readO {α : Type} (d : StR → α × StR) (told : α → ByteArray × Int) (z : α) (s : ByteArray) : α × Int :=
  if (d (nxt (opB (some s.data.toList)))).2 = some [] ∧ (told (d (nxt (opB (some s.data.toList)))).1).2 = 0 ∧ (told (d (nxt (opB (some s.data.toList)))).1).1 = s then ((d (nxt (opB (some s.data.toList)))).1, 0) else (z, 80)
theorem whole_ok {l : List UInt8} {s : ByteArray} (h : wholeO l = (s, 0)) : s = ofL l := by
  unfold wholeO at h
  split at h
  · injection h with _ h; cases h
  · injection h with h; exact h.symm
theorem longN_no {l : List Nd} (h : longN l = false) : l.length ≤ 2048 ∧ ∀ y ∈ l, y.hash.size ≤ 32 := by
  unfold longN at h
  rw [Bool.or_eq_false_iff] at h
  have h1 := of_decide_eq_false h.1
  refine ⟨by omega, fun y hy => ?_⟩
  have h2 := h.2
  rw [List.any_eq_false] at h2
  have := h2 y hy
  simp at this
  exact this
theorem may_sizes {x : Lf} (h : x.may = true) : x.id.size ≤ 96 ∧ x.salt.size ≤ 32 := by
  cases hp : x.pad with
  | true =>
    obtain ⟨h1, -, -, h2⟩ := x.may_pad h hp
    exact ⟨by rw [h1]; exact Nat.zero_le _, h2⟩
  | false =>
    obtain ⟨-, h1, h2⟩ := x.may_id h hp
    exact ⟨h1, h2⟩
/-- What is told is a letter and the bytes of what may be. -/
def TellsY {α : Type} (c : UInt8) (e : α → List UInt8) (o w : α → Prop) (told : α → ByteArray × Int) : Prop := ∀ x s, w x → told x = (s, 0) → o x ∧ s = ofL (c :: e x)
theorem rt_tells : TellsY 82 rtY (fun x => (x.hash.size ≤ 32 ∧ Word x.h ∧ Word x.l) ∧ 0 ≤ x.n ∧ x.n ≤ 63) (fun x => Word x.h ∧ Word x.l) rtO := fun x s hw h => by
  unfold rtO at h
  split at h
  · injection h with _ h; cases h
  · next hl =>
    unfold RtP.long at hl
    simp only [Bool.or_eq_true, decide_eq_true_eq, not_or] at hl
    exact ⟨⟨⟨by omega, hw⟩, by omega, by omega⟩, whole_ok h⟩
theorem lf_tells : TellsY 76 lfY (fun x => True ∧ x.id.size ≤ 255 ∧ x.salt.size ≤ 255 ∧ x.words) Lf.words lfO := fun x s hw h => by
  unfold lfO at h
  split at h
  · next hl =>
    have := may_sizes hl
    exact ⟨⟨trivial, by omega, by omega, hw⟩, whole_ok h⟩
  · injection h with _ h; cases h
theorem en_tells : TellsY 69 enY (fun x => (True ∧ x.leaf.id.size ≤ 255 ∧ x.leaf.salt.size ≤ 255 ∧ x.leaf.words) ∧ Word x.pos ∧ x.sides.length ≤ 2048 ∧ ∀ y ∈ x.sides, y.hash.size ≤ 32 ∧ y.words) (fun x => x.leaf.words ∧ Word x.pos ∧ ∀ y ∈ x.sides, y.words) enO := fun x s hw h => by
  unfold enO at h
  split at h
  · next hl =>
    have := may_sizes hl
    split at h
    · injection h with _ h; cases h
    · next hn =>
      obtain ⟨k1, k2⟩ := longN_no (by simpa using hn)
      exact ⟨⟨⟨trivial, by omega, by omega, hw.1⟩, hw.2.1, k1, fun y hy => ⟨k2 y hy, hw.2.2 y hy⟩⟩, whole_ok h⟩
  · injection h with _ h; cases h
theorem rg_tells : TellsY 71 rgY (fun x => Word x.a ∧ Word x.b ∧ (x.ins.length ≤ 2048 ∧ ∀ y ∈ x.ins, y.hash.size ≤ 32 ∧ y.words) ∧ x.outs.length ≤ 2048 ∧ ∀ y ∈ x.outs, y.hash.size ≤ 32 ∧ y.words)
    (fun x => Word x.a ∧ Word x.b ∧ (∀ y ∈ x.ins, y.words) ∧ ∀ y ∈ x.outs, y.words) rgO := fun x s hw h => by
  unfold rgO at h
  split at h
  · injection h with _ h; cases h
  · next hn =>
    rw [Bool.or_eq_true, not_or] at hn
    obtain ⟨k1, k2⟩ := longN_no (by simpa using hn.1)
    obtain ⟨k3, k4⟩ := longN_no (by simpa using hn.2)
    exact ⟨⟨hw.1, hw.2.1, ⟨k1, fun y hy => ⟨k2 y hy, hw.2.2.1 y hy⟩⟩, k3, fun y hy => ⟨k4 y hy, hw.2.2.2 y hy⟩⟩, whole_ok h⟩
theorem df_tells : TellsY 68 dfY (fun x => (x.chs.length ≤ 2048 ∧ ∀ y ∈ x.chs, Word y.pos ∧ (True ∧ y.old.id.size ≤ 255 ∧ y.old.salt.size ≤ 255 ∧ y.old.words) ∧ True ∧ y.new.id.size ≤ 255 ∧ y.new.salt.size ≤ 255 ∧ y.new.words) ∧ x.fr.length ≤ 2048 ∧ ∀ y ∈ x.fr, y.hash.size ≤ 32 ∧ y.words)
    (fun x => (∀ y ∈ x.chs, Word y.pos ∧ y.old.words ∧ y.new.words) ∧ ∀ y ∈ x.fr, y.words) dfO := fun x s hw h => by
  unfold dfO at h
  split at h
  · injection h with _ h; cases h
  · next hb =>
    split at h
    · injection h with _ h; cases h
    · next hn =>
      rw [Bool.or_eq_true, not_or] at hn
      have k1 : x.chs.length ≤ 2048 := by have := hn.1; simp at this; exact this
      obtain ⟨k3, k4⟩ := longN_no (by simpa using hn.2)
      refine ⟨⟨⟨k1, fun y hy => ?_⟩, k3, fun y hy => ⟨k4 y hy, hw.2 y hy⟩⟩, whole_ok h⟩
      have hm : y.old.may = true ∧ y.new.may = true := by
        unfold badC at hb
        rw [Bool.not_eq_true, List.any_eq_false] at hb
        have := hb y hy
        simpa using this
      have m1 := may_sizes hm.1
      have m2 := may_sizes hm.2
      obtain ⟨w1, w2, w3⟩ := hw.1 y hy
      exact ⟨w1, ⟨trivial, by omega, by omega, w2⟩, trivial, by omega, by omega, w3⟩
section
variable {α : Type} {c : UInt8} {e : α → List UInt8} {o w : α → Prop} {told : α → ByteArray × Int} {d : StR → α × StR} {z : α} {s : ByteArray}
/-- What has bytes is read from them. -/
theorem read_told (hc : Cod e o d) (ht : TellsY c e o w told) {x : α} (hw : w x) (h : told x = (s, 0)) : readO d told z s = (x, 0) := by
  obtain ⟨h1, h2⟩ := ht x s hw h
  have h3 : nxt (opB (some s.data.toList)) = some (e x ++ []) := by rw [h2, ofL_list, List.append_nil]; rfl
  unfold readO
  rw [h3, hc.1 x [] h1, if_pos ⟨rfl, by rw [h], by rw [h]⟩]
/-- What is read has just those bytes. -/
theorem told_read {x : α} {n : Int} (h : readO d told z s = (x, n)) : n = 0 ∧ told x = (s, 0) ∨ n = 80 ∧ x = z := by
  unfold readO at h
  split at h
  · next k =>
    injection h with h1 h2
    subst h1 h2
    exact .inl ⟨rfl, Prod.ext k.2.2 k.2.1⟩
  · injection h with h1 h2
    exact .inr ⟨h2.symm, h1.symm⟩
/-- Of bytes that are none's nothing is read. -/
theorem read_none (h : ∀ x, told x ≠ (s, 0)) : readO d told z s = (z, 80) := by
  unfold readO
  rw [if_neg fun k => h _ (Prod.ext k.2.2 k.2.1)]
theorem told_letter (ht : TellsY c e o w told) {x : α} (hw : w x) (h : told x = (s, 0)) : ∃ r, s.data.toList = c :: r := ⟨e x, by rw [(ht x s hw h).2, ofL_list]⟩
/-- One's bytes don't begin another's. -/
theorem told_ends (hc : Cod e o d) (ht : TellsY c e o w told) {x y : α} {s' : ByteArray} (hx : w x) (hy : w y) (h : told x = (s, 0)) (h' : told y = (s', 0)) {r : List UInt8} (k : s.data.toList ++ r = s'.data.toList) : r = [] := by
  obtain ⟨h1, h2⟩ := ht x s hx h
  obtain ⟨h3, h4⟩ := ht y s' hy h'
  rw [h2, h4, ofL_list, ofL_list] at k
  have k2 : e x ++ r = e y ++ [] := by
    rw [List.append_nil]
    exact (List.cons.inj k).2
  exact (hc.same h1 h3 k2).2
end
end Go.Proofs.YtkecekfapiegjaaDoor
/-
  Plain words on records, for the laws: what is read has its sizes; what is told twice is one; bytes of one sort are no other's.
-/
namespace Go.Proofs.YtkecekfapiegjaaDoor
set_option linter.unusedVariables false
set_option linter.unusedSimpArgs false
set_option maxRecDepth 10000
open Go.RowKit

theorem hl_words (st : StR) : Word (hV (opN 16 st)) ∧ Word (lV (opN 16 st)) := by
  cases ho : opN 16 st with
  | none => exact ⟨word0, word0⟩
  | some p =>
    obtain ⟨d, q⟩ := p
    obtain ⟨-, k2, -, -⟩ := opN_some ho
    exact ⟨hiD_word d k2, loD_word d⟩
theorem l_word (st : StR) : Word (lV (opN 8 st)) := by
  cases ho : opN 8 st with
  | none => exact word0
  | some p =>
    obtain ⟨d, q⟩ := p
    exact loD_word d
theorem tV_size (m : Nat) (st : StR) : (tV (opT m st)).size ≤ m := by
  cases ho : opT m st with
  | none => exact Nat.zero_le _
  | some p =>
    obtain ⟨d, q⟩ := p
    cases st with
    | none => cases ho
    | some l =>
      obtain ⟨k1, -, -⟩ := rText_some (show rText m l = some (d, q) from ho)
      show (ofL d).size ≤ m
      rw [ofL_size]
      exact k1
theorem ndG_ok (st : StR) : (ndG st).1.hash.size ≤ 32 ∧ (ndG st).1.words := ⟨tV_size 32 st, hl_words _⟩
theorem lfG_ok (st : StR) : (lfG st).1.id.size ≤ 255 ∧ (lfG st).1.salt.size ≤ 255 ∧ (lfG st).1.words := ⟨tV_size 255 _, tV_size 255 _, hl_words _⟩
theorem rep_ok {α : Type} {d : StR → α × StR} {p : α → Prop} (h : ∀ st, p (d st).1) : ∀ n st, (repG d n st).1.length ≤ n ∧ ∀ x ∈ (repG d n st).1, p x
  | 0, st => ⟨Nat.le_refl _, fun x hx => by simp [repG] at hx⟩
  | n + 1, none => ⟨Nat.zero_le _, fun x hx => by simp [repG] at hx⟩
  | n + 1, some l => by
    obtain ⟨h1, h2⟩ := rep_ok h n (d (some l)).2
    rw [repG]
    refine ⟨by simp only [List.length_cons]; omega, fun x hx => ?_⟩
    rcases List.mem_cons.1 hx with rfl | hx
    · exact h _
    · exact h2 x hx
theorem row_ok {α : Type} {d : StR → α × StR} {p : α → Prop} (h : ∀ st, p (d st).1) (st : StR) : (rowG d st).1.length ≤ 2048 ∧ ∀ x ∈ (rowG d st).1, p x := by
  unfold rowG
  split
  · rw [repG_none]
    exact ⟨Nat.zero_le _, fun x hx => by cases hx⟩
  · obtain ⟨h1, h2⟩ := rep_ok h (lV (opN 8 st)).toNat (nxt (opN 8 st))
    exact ⟨by omega, h2⟩
theorem rtG_ok (st : StR) : (rtG st).1.hash.size ≤ 32 ∧ Word (rtG st).1.h ∧ Word (rtG st).1.l := by
  unfold rtG
  by_cases h : (if (numG (ndG st).2).1 ≤ 63 then (numG (ndG st).2).2 else none) = none
  · rw [if_pos h]
    exact ⟨Nat.zero_le _, word0, word0⟩
  · rw [if_neg h]
    exact ndG_ok st
theorem chG_ok (st : StR) : Word (chG st).1.pos ∧ ((chG st).1.old.id.size ≤ 255 ∧ (chG st).1.old.salt.size ≤ 255 ∧ (chG st).1.old.words) ∧ (chG st).1.new.id.size ≤ 255 ∧ (chG st).1.new.salt.size ≤ 255 ∧ (chG st).1.new.words := ⟨l_word _, lfG_ok _, lfG_ok _⟩
/-- What is read, by three tests. -/
theorem read_if {α : Type} {d : StR → α × StR} {told : α → ByteArray × Int} {z : α} {s T : ByteArray} {s1 s2 : StR} {x : α} {n : Int} (h1 : nxt (opB (some s.data.toList)) = s1) (hd : d s1 = (x, s2)) (ht : told x = (T, n)) :
    readO d told z s = if decide (s2 = some []) = true ∧ (n == 0) = true ∧ (T.toList == s.toList) = true then (x, 0) else (z, 80) := by
  unfold readO
  rw [h1, hd]
  simp only [ht, same_str7, decide_eq_true_eq, beq_iff_eq]
theorem enG_fit (st : StR) : (enG st).1.leaf.words ∧ Word (enG st).1.pos ∧ ∀ y ∈ (enG st).1.sides, y.words := ⟨(lfG_ok st).2.2, l_word _, fun y hy => ((row_ok (p := fun y : Nd => y.hash.size ≤ 32 ∧ y.words) ndG_ok _).2 y hy).2⟩
theorem rgG_fit (st : StR) : Word (rgG st).1.a ∧ Word (rgG st).1.b ∧ (∀ y ∈ (rgG st).1.ins, y.words) ∧ ∀ y ∈ (rgG st).1.outs, y.words :=
  ⟨l_word _, l_word _, fun y hy => ((row_ok (p := fun y : Nd => y.hash.size ≤ 32 ∧ y.words) ndG_ok _).2 y hy).2, fun y hy => ((row_ok (p := fun y : Nd => y.hash.size ≤ 32 ∧ y.words) ndG_ok _).2 y hy).2⟩
theorem dfG_fit (st : StR) : (∀ y ∈ (dfG st).1.chs, Word y.pos ∧ y.old.words ∧ y.new.words) ∧ ∀ y ∈ (dfG st).1.fr, y.words :=
  ⟨fun y hy => (row_ok (p := fun y : ChP => Word y.pos ∧ y.old.words ∧ y.new.words) (fun st => ⟨l_word _, (lfG_ok _).2.2, (lfG_ok _).2.2⟩) _).2 y hy, fun y hy => ((row_ok (p := fun y : Nd => y.hash.size ≤ 32 ∧ y.words) ndG_ok _).2 y hy).2⟩
/-- A root that may not be told is not read, and spoils what is left. -/
theorem rt_bad {x : RtP} (hs : x.hash.size < 18446744073709551616) (hw : Word x.h ∧ Word x.l) (hn : -9223372036854775808 ≤ x.n ∧ x.n < 9223372036854775808) (h : x.long = true) (r : List UInt8) : rtG (some (rtY x ++ r)) = (RtP.zero, none) := by
  have hfin : (if (numG (ndG (some (rtY x ++ r))).2).1 ≤ 63 then (numG (ndG (some (rtY x ++ r))).2).2 else none) = none := by
    have e0 : rtY x ++ r = ndY ⟨x.hash, x.h, x.l⟩ ++ (wideL 0 (x.n % 18446744073709551616) ++ r) := by unfold rtY; rw [List.append_assoc]
    rw [e0]
    by_cases h32 : 32 < x.hash.size
    · have e1 : opT 32 (some (ndY ⟨x.hash, x.h, x.l⟩ ++ (wideL 0 (x.n % 18446744073709551616) ++ r))) = none := by
        have := rText_long 32 x.hash.data.toList (wideL x.h x.l ++ (wideL 0 (x.n % 18446744073709551616) ++ r)) (by rw [osize]; exact h32) (by rw [osize]; omega)
        rw [osize] at this
        show rText 32 _ = none
        unfold ndY textL
        rw [List.append_assoc]
        exact this
      have e2 : (ndG (some (ndY ⟨x.hash, x.h, x.l⟩ ++ (wideL 0 (x.n % 18446744073709551616) ++ r)))).2 = none := by
        unfold ndG textG
        simp only [e1]
        rfl
      rw [e2]
      rfl
    · have e2 := ndC.1 ⟨x.hash, x.h, x.l⟩ (wideL 0 (x.n % 18446744073709551616) ++ r) ⟨by show x.hash.size ≤ 32; omega, hw⟩
      rw [e2]
      have e3 := numC.1 (x.n % 18446744073709551616) r ⟨by omega, by omega⟩
      simp only
      rw [e3]
      unfold RtP.long at h
      simp only [Bool.or_eq_true, decide_eq_true_eq] at h
      rw [if_neg (by simp only; omega)]
  unfold rtG
  rw [if_pos hfin]
/-- What is told is bytes, or an error that may be. -/
def Fair (p : ByteArray × Int) : Prop := (p.2 = 0 ∧ 0 < p.1.size) ∨ (p.1 = ⟨#[]⟩ ∧ (p.2 = 3 ∨ p.2 = 130))
theorem whole_fair (c : UInt8) (l : List UInt8) : Fair (wholeO (c :: l)) := by
  unfold wholeO
  split
  · exact .inr ⟨rfl, .inl rfl⟩
  · exact .inl ⟨rfl, by show 0 < (ofL (c :: l)).size; rw [ofL_size]; exact Nat.succ_pos _⟩
theorem rt_fair (x : RtP) : Fair (rtO x) ∧ (rtO x).2 ≠ 130 := by
  unfold rtO
  split
  · exact ⟨.inr ⟨rfl, .inl rfl⟩, by decide⟩
  · refine ⟨whole_fair _ _, ?_⟩
    unfold wholeO
    split <;> (intro k; cases k)
theorem lf_fair (x : Lf) : Fair (lfO x) ∧ ((lfO x).2 = 130 ↔ x.may = false) := by
  unfold lfO
  split
  · next h =>
    refine ⟨whole_fair _ _, fun k => ?_, fun k => by rw [h] at k; cases k⟩
    unfold wholeO at k
    split at k <;> cases k
  · next h => exact ⟨.inr ⟨rfl, .inr rfl⟩, fun _ => by simpa using h, fun _ => rfl⟩
theorem en_fair (x : EnP) : Fair (enO x) ∧ ((enO x).2 = 130 ↔ x.leaf.may = false) := by
  unfold enO
  split
  · next h =>
    split
    · exact ⟨.inr ⟨rfl, .inl rfl⟩, (fun k => by cases k), fun k => by rw [h] at k; cases k⟩
    · refine ⟨whole_fair _ _, fun k => ?_, fun k => by rw [h] at k; cases k⟩
      unfold wholeO at k
      split at k <;> cases k
  · next h => exact ⟨.inr ⟨rfl, .inr rfl⟩, fun _ => by simpa using h, fun _ => rfl⟩
theorem rg_fair (x : RgP) : Fair (rgO x) ∧ (rgO x).2 ≠ 130 := by
  unfold rgO
  split
  · exact ⟨.inr ⟨rfl, .inl rfl⟩, by decide⟩
  · refine ⟨whole_fair _ _, ?_⟩
    unfold wholeO
    split <;> (intro k; cases k)
theorem df_fair (x : DfP) : Fair (dfO x) := by
  unfold dfO
  split
  · exact .inr ⟨rfl, .inr rfl⟩
  · split
    · exact .inr ⟨rfl, .inl rfl⟩
    · exact whole_fair _ _
/-- Is it of that sort? -/
def isR {α : Type} (d : StR → α × StR) (told : α → ByteArray × Int) (z : α) (s : ByteArray) : Bool := decide ((readO d told z s).2 = 0)
section
variable {α : Type} {c : UInt8} {e : α → List UInt8} {o w : α → Prop} {told : α → ByteArray × Int} {d : StR → α × StR} {z : α} {s s' : ByteArray}
theorem isR_told (h : isR d told z s = true) : told (readO d told z s).1 = (s, 0) ∧ (readO d told z s).1 = (d (nxt (opB (some s.data.toList)))).1 := by
  have h2 := of_decide_eq_true h
  unfold readO at h2 ⊢
  split at h2
  · next k =>
    rw [if_pos k]
    exact ⟨Prod.ext k.2.2 k.2.1, rfl⟩
  · cases h2
theorem isR_letter (ht : TellsY c e o w told) (hw : ∀ st, w (d st).1) (h : isR d told z s = true) : ∃ r, s.data.toList = c :: r := by
  obtain ⟨h1, h2⟩ := isR_told h
  exact told_letter ht (by rw [h2]; exact hw _) h1
/-- Bytes less, or more, are none's of that sort. -/
theorem isR_ends (hc : Cod e o d) (ht : TellsY c e o w told) (hw : ∀ st, w (d st).1) (h : isR d told z s = true) (h' : isR d told z s' = true) {r : List UInt8} (k : s.data.toList ++ r = s'.data.toList) : r = [] := by
  obtain ⟨h1, h2⟩ := isR_told h
  obtain ⟨h3, h4⟩ := isR_told h'
  exact told_ends hc ht (by rw [h2]; exact hw _) (by rw [h4]; exact hw _) h1 h3 k
/-- Two are the same just if their bytes are. -/
theorem told_same (hc : Cod e o d) (ht : TellsY c e o w told) {x y : α} (hx : w x) (hy : w y) (h : told x = (s, 0)) (h' : told y = (s', 0)) : s = s' ↔ x = y := by
  constructor
  · intro k
    subst k
    have h1 := read_told (z := x) hc ht hx h
    rw [read_told (z := x) hc ht hy h'] at h1
    exact (Prod.ext_iff.1 h1).1.symm
  · intro k
    subst k
    rw [h] at h'
    exact (Prod.ext_iff.1 h').1
end
def isRt (s : ByteArray) : Bool := isR rtG rtO RtP.zero s
def isLf (s : ByteArray) : Bool := isR lfG lfO Lf.zero s
def isEn (s : ByteArray) : Bool := isR enG enO EnP.zero s
def isRg (s : ByteArray) : Bool := isR rgG rgO RgP.zero s
def isDf (s : ByteArray) : Bool := isR dfG dfO DfP.zero s
theorem isRt_letter {s : ByteArray} (h : isRt s = true) : s.data.toList.head? = some 82 := by
  obtain ⟨r, e⟩ := isR_letter rt_tells (fun st => (rtG_ok st).2) h
  rw [e]; rfl
theorem isLf_letter {s : ByteArray} (h : isLf s = true) : s.data.toList.head? = some 76 := by
  obtain ⟨r, e⟩ := isR_letter lf_tells (fun st => (lfG_ok st).2.2) h
  rw [e]; rfl
theorem isEn_letter {s : ByteArray} (h : isEn s = true) : s.data.toList.head? = some 69 := by
  obtain ⟨r, e⟩ := isR_letter en_tells enG_fit h
  rw [e]; rfl
theorem isRg_letter {s : ByteArray} (h : isRg s = true) : s.data.toList.head? = some 71 := by
  obtain ⟨r, e⟩ := isR_letter rg_tells rgG_fit h
  rw [e]; rfl
theorem isDf_letter {s : ByteArray} (h : isDf s = true) : s.data.toList.head? = some 68 := by
  obtain ⟨r, e⟩ := isR_letter df_tells dfG_fit h
  rw [e]; rfl
/-- Which sorts bytes are of, one bit each. -/
def waysN (s : ByteArray) : Nat := (if isRt s then 1 else 0) + (if isLf s then 2 else 0) + (if isEn s then 4 else 0) + (if isRg s then 8 else 0) + (if isDf s then 16 else 0)
/-- Of one sort, or of none. -/
theorem ways_split (s : ByteArray) : (waysN s = 0 ∧ isRt s = false ∧ isLf s = false ∧ isEn s = false ∧ isRg s = false ∧ isDf s = false) ∨ (waysN s = 1 ∧ isRt s = true ∧ s.data.toList.head? = some 82) ∨ (waysN s = 2 ∧ isLf s = true ∧ s.data.toList.head? = some 76) ∨
    (waysN s = 4 ∧ isEn s = true ∧ s.data.toList.head? = some 69) ∨ (waysN s = 8 ∧ isRg s = true ∧ s.data.toList.head? = some 71) ∨ (waysN s = 16 ∧ isDf s = true ∧ s.data.toList.head? = some 68) := by
  have h1 := @isRt_letter s
  have h2 := @isLf_letter s
  have h3 := @isEn_letter s
  have h4 := @isRg_letter s
  have h5 := @isDf_letter s
  unfold waysN
  generalize s.data.toList.head? = c at *
  cases b1 : isRt s <;> cases b2 : isLf s <;> cases b3 : isEn s <;> cases b4 : isRg s <;> cases b5 : isDf s <;> rw [b1] at h1 <;> rw [b2] at h2 <;> rw [b3] at h3 <;> rw [b4] at h4 <;> rw [b5] at h5 <;> simp at h1 h2 h3 h4 h5 <;> (try subst_vars) <;> simp_all
/-- Bytes of some sort: with bytes more they are none's. -/
theorem ways_ends {s s' : ByteArray} {r : List UInt8} (k : s.data.toList ++ r = s'.data.toList) (hr : r ≠ []) (h : waysN s ≠ 0) : waysN s' = 0 := by
  have hd : ∀ c, s.data.toList.head? = some c → s'.data.toList.head? = some c := fun c hc => by
    rw [← k]
    cases hs : s.data.toList with
    | nil => rw [hs] at hc; cases hc
    | cons a q => rw [hs] at hc; exact hc
  have e1 := fun a b => isR_ends (s := s) (s' := s') (z := RtP.zero) rtC rt_tells (fun st => (rtG_ok st).2) a b k
  have e2 := fun a b => isR_ends (s := s) (s' := s') (z := Lf.zero) lfC lf_tells (fun st => (lfG_ok st).2.2) a b k
  have e3 := fun a b => isR_ends (s := s) (s' := s') (z := EnP.zero) enC en_tells enG_fit a b k
  have e4 := fun a b => isR_ends (s := s) (s' := s') (z := RgP.zero) rgC rg_tells rgG_fit a b k
  have e5 := fun a b => isR_ends (s := s) (s' := s') (z := DfP.zero) dfC df_tells dfG_fit a b k
  rcases ways_split s' with q | q | q | q | q | q
  · exact q.1
  all_goals
    exfalso
    rcases ways_split s with p | p | p | p | p | p
    · exact h p.1
    all_goals
      have hc := hd _ p.2.2
      rw [q.2.2] at hc
      first
        | (cases hc; done)
        | exact hr (e1 p.2.1 q.2.1)
        | exact hr (e2 p.2.1 q.2.1)
        | exact hr (e3 p.2.1 q.2.1)
        | exact hr (e4 p.2.1 q.2.1)
        | exact hr (e5 p.2.1 q.2.1)
theorem ways_some {s : ByteArray} (h : waysN s ≠ 0) : 0 < s.size := by
  rw [← osize]
  rcases ways_split s with p | p | p | p | p | p
  · exact absurd p.1 h
  all_goals
    cases hs : s.data.toList with
    | nil => rw [hs] at p; exact absurd p.2.2 (by simp)
    | cons a q => simp
end Go.Proofs.YtkecekfapiegjaaDoor
/-
  Plain words on what the program reads: its own bounds of texts; what may not be told is none's. No function of the program is walked here.
-/
namespace Go.Proofs.YtkecekfapiegjaaDoor
set_option linter.unusedVariables false
set_option linter.unusedSimpArgs false
set_option maxRecDepth 10000
open Go.RowKit

def lfP (st : StR) : Lf × StR :=
  (⟨(flagG st).1, (textG 96 (flagG st).2).1, (textG 32 (textG 96 (flagG st).2).2).1, (wideG (textG 32 (textG 96 (flagG st).2).2).2).1.1, (wideG (textG 32 (textG 96 (flagG st).2).2).2).1.2⟩, (wideG (textG 32 (textG 96 (flagG st).2).2).2).2)
def rtP (st : StR) : RtP × StR := (⟨(ndG st).1.hash, (ndG st).1.h, (ndG st).1.l, min (numG (ndG st).2).1 64⟩, (numG (ndG st).2).2)
def enP (st : StR) : EnP × StR := (⟨(lfP st).1, (numG (lfP st).2).1, (rowG ndG (numG (lfP st).2).2).1⟩, (rowG ndG (numG (lfP st).2).2).2)
def chP (st : StR) : ChP × StR := (⟨(numG st).1, (lfP (numG st).2).1, (lfP (lfP (numG st).2).2).1⟩, (lfP (lfP (numG st).2).2).2)
def dfP (st : StR) : DfP × StR := (⟨(rowG chP st).1, (rowG ndG (rowG chP st).2).1⟩, (rowG ndG (rowG chP st).2).2)
/-- What is taken: a record that may be told, or none. -/
def takeG {α : Type} (d : StR → α × StR) (wr : α → Int) (z : α) (st : StR) : α × StR :=
  if (if wr (d st).1 = 0 then (d st).2 else none) = none then (z, none) else ((d st).1, (d st).2)
/-- What is read of a whole text. -/
def readT {α : Type} (c : UInt8) (t : StR → α × StR) (z : α) (s : ByteArray) : α × Int :=
  if (t (if bV (opB (some s.data.toList)) = (c.toNat : Int) then nxt (opB (some s.data.toList)) else none)).2 = some [] then ((t (if bV (opB (some s.data.toList)) = (c.toNat : Int) then nxt (opB (some s.data.toList)) else none)).1, 0) else (z, 80)
theorem lfPC : Cod lfY (fun x => True ∧ x.id.size ≤ 96 ∧ x.salt.size ≤ 32 ∧ x.words) lfP :=
  (flagC.seq ((textC 96 (by omega)).seq ((textC 32 (by omega)).seq wideC))).turn (fun p => (⟨p.1, p.2.1, p.2.2.1, p.2.2.2.1, p.2.2.2.2⟩ : Lf)) (fun x => (x.pad, (x.id, (x.salt, (x.h, x.l))))) (fun _ => rfl) (fun _ => rfl)
theorem enPC : Cod enY (fun x => (True ∧ x.leaf.id.size ≤ 96 ∧ x.leaf.salt.size ≤ 32 ∧ x.leaf.words) ∧ Word x.pos ∧ x.sides.length ≤ 2048 ∧ ∀ y ∈ x.sides, y.hash.size ≤ 32 ∧ y.words) enP :=
  (lfPC.seq (numC.seq ndC.row)).turn (fun p => (⟨p.1, p.2.1, p.2.2⟩ : EnP)) (fun x => (x.leaf, (x.pos, x.sides))) (fun _ => rfl) (fun _ => rfl)
theorem chPC : Cod chY (fun x => Word x.pos ∧ (True ∧ x.old.id.size ≤ 96 ∧ x.old.salt.size ≤ 32 ∧ x.old.words) ∧ True ∧ x.new.id.size ≤ 96 ∧ x.new.salt.size ≤ 32 ∧ x.new.words) chP :=
  (numC.seq (lfPC.seq lfPC)).turn (fun p => (⟨p.1, p.2.1, p.2.2⟩ : ChP)) (fun x => (x.pos, (x.old, x.new))) (fun _ => rfl) (fun _ => rfl)
theorem dfPC : Cod dfY (fun x => (x.chs.length ≤ 2048 ∧ ∀ y ∈ x.chs, Word y.pos ∧ (True ∧ y.old.id.size ≤ 96 ∧ y.old.salt.size ≤ 32 ∧ y.old.words) ∧ True ∧ y.new.id.size ≤ 96 ∧ y.new.salt.size ≤ 32 ∧ y.new.words) ∧ x.fr.length ≤ 2048 ∧ ∀ y ∈ x.fr, y.hash.size ≤ 32 ∧ y.words) dfP :=
  (chPC.row.seq ndC.row).turn (fun p => (⟨p.1, p.2⟩ : DfP)) (fun x => (x.chs, x.fr)) (fun _ => rfl) (fun _ => rfl)
section
variable {α : Type} {c : UInt8} {e : α → List UInt8} {o o' w : α → Prop} {told : α → ByteArray × Int} {d d' t : StR → α × StR} {wr : α → Int} {z : α} {s : ByteArray}
theorem takeC (h : Cod e o d) : Cod e (fun x => o x ∧ wr x = 0) (takeG d wr z) := by
  refine ⟨fun x r hx => ?_, fun st x r hx => ?_⟩
  · have h1 := h.1 x r hx.1
    unfold takeG
    rw [h1]
    simp only
    rw [if_pos hx.2, if_neg (by simp)]
  · unfold takeG at hx
    by_cases hw : wr (d st).1 = 0
    · rw [if_pos hw] at hx
      by_cases hn : (d st).2 = none
      · rw [if_pos hn] at hx
        injection hx with _ h2
        cases h2
      · rw [if_neg hn] at hx
        obtain ⟨k1, k2⟩ := h.2 st x r (show d st = (x, some r) from hx)
        have e1 : (d st).1 = x := (Prod.ext_iff.1 hx).1
        exact ⟨⟨k1, by rw [← e1]; exact hw⟩, k2⟩
    · rw [if_neg hw, if_pos rfl] at hx
      injection hx with _ h2
      cases h2
/-- What the program reads is what the document reads. -/
theorem readT_eq (hc : Cod e o d) (ht : Cod e o' t) (h1 : ∀ x, o' x → o x ∧ told x = (ofL (c :: e x), 0)) (h2 : ∀ x, o x → told x = (s, 0) → o' x ∧ s = ofL (c :: e x)) : readO d told z s = readT c t z s := by
  by_cases hA : ∃ x, o' x ∧ s = ofL (c :: e x)
  · obtain ⟨x, hx, rfl⟩ := hA
    obtain ⟨h3, h4⟩ := h1 x hx
    have eb : opB (some (ofL (c :: e x)).data.toList) = some (c, e x ++ []) := by rw [ofL_list, List.append_nil]; rfl
    have e1 := hc.1 x [] h3
    have e2 := ht.1 x [] hx
    unfold readO readT
    rw [eb]
    rw [show nxt (some (c, e x ++ [])) = some (e x ++ []) from rfl, show bV (some (c, e x ++ [])) = (c.toNat : Int) from rfl, if_pos rfl, e1, e2]
    rw [if_pos ⟨rfl, by rw [h4], by rw [h4]⟩, if_pos rfl]
  · have n1 : readO d told z s = (z, 80) := by
      unfold readO
      rw [if_neg]
      intro k
      apply hA
      cases hd : d (nxt (opB (some s.data.toList))) with
      | mk x st =>
        rw [hd] at k
        obtain ⟨k1, k2, k3⟩ := k
        simp only at k1 k2 k3
        subst k1
        exact ⟨x, h2 x (hc.2 _ _ _ hd).1 (Prod.ext k3 k2)⟩
    have n2 : readT c t z s = (z, 80) := by
      unfold readT
      rw [if_neg]
      intro k
      apply hA
      by_cases hb : bV (opB (some s.data.toList)) = (c.toNat : Int)
      · rw [if_pos hb] at k
        cases hd : t (nxt (opB (some s.data.toList))) with
        | mk x st =>
          rw [hd] at k
          simp only at k
          subst k
          obtain ⟨k1, k2⟩ := ht.2 _ _ _ hd
          refine ⟨x, k1, ?_⟩
          cases hs : s.data.toList with
          | nil =>
            rw [hs] at k2
            have : nxt (opB (some ([] : List UInt8))) = none := rfl
            rw [this] at k2
            cases k2
          | cons b r =>
            rw [hs] at hb k2
            have e3 : nxt (opB (some (b :: r))) = some r := rfl
            rw [e3] at k2
            injection k2 with k2
            have hb2 : (b.toNat : Int) = (c.toNat : Int) := hb
            have hb3 : b = c := UInt8.toNat_inj.1 (by omega)
            rw [← ofL_data s, hs, hb3, k2, List.append_nil]
      · rw [if_neg hb] at k
        have h3 := ht.none_
        rw [h3] at k
        cases k
    rw [n1, n2]
end
end Go.Proofs.YtkecekfapiegjaaDoor
