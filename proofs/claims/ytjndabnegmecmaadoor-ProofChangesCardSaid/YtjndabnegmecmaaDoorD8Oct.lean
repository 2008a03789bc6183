/-
  Plain words on octet: numbers, flags and texts as bytes, and what is read of bytes. No function of the program is walked here.
-/
import Derived.Test.YtjndabnegmecmaaDoorU1Lex
namespace Go.Proofs.YtjndabnegmecmaaDoor
set_option linter.unusedVariables false
set_option linter.unusedSimpArgs false
set_option maxRecDepth 10000
open Go.RowKit

theorem oext {a b : ByteArray} (h : a.data.toList = b.data.toList) : a = b := by
  cases a with | mk x => cases b with | mk y =>
  simp only [ByteArray.mk.injEq]
  exact Array.ext' h
theorem osize (a : ByteArray) : a.data.toList.length = a.size := by simp
/-- A text of bytes. -/
def ofL (l : List UInt8) : ByteArray := ⟨l.toArray⟩
theorem ofL_list (l : List UInt8) : (ofL l).data.toList = l := by simp [ofL]
theorem ofL_size (l : List UInt8) : (ofL l).size = l.length := by rw [← osize, ofL_list]
theorem ofL_app (a b : List UInt8) : ofL (a ++ b) = ofL a ++ ofL b := oext (by rw [ByteArray.data_append, Array.toList_append, ofL_list, ofL_list, ofL_list])
theorem ofL_data (s : ByteArray) : ofL s.data.toList = s := oext (ofL_list _)
theorem ofL_inj {a b : List UInt8} (h : ofL a = ofL b) : a = b := by rw [← ofL_list a, h, ofL_list]

/-- A list without the noughts ahead. -/
def trimN (l : List UInt8) : List UInt8 := l.dropWhile (· == 0)
theorem trimN_nil : trimN [] = [] := rfl
theorem trimN_zero (l : List UInt8) : trimN (0 :: l) = trimN l := by simp [trimN]
theorem trimN_pos (c : UInt8) (l : List UInt8) (h : c ≠ 0) : trimN (c :: l) = c :: l := by simp [trimN, h]
theorem trimN_len : ∀ l : List UInt8, (trimN l).length ≤ l.length
  | [] => Nat.le_refl _
  | c :: r => by
    by_cases h : c = 0
    · subst h; rw [trimN_zero, List.length_cons]; have := trimN_len r; omega
    · rw [trimN_pos c r h]; exact Nat.le_refl _
theorem beN_zero (l : List UInt8) : beN (0 :: l) = beN l := by rw [beN_cons]; simp
theorem trimN_be : ∀ l : List UInt8, beN (trimN l) = beN l
  | [] => rfl
  | c :: r => by
    by_cases h : c = 0
    · subst h; rw [trimN_zero, beN_zero]; exact trimN_be r
    · rw [trimN_pos c r h]
/-- No nought is ahead. -/
def Mn (l : List UInt8) : Prop := l.head? ≠ some 0
theorem trimN_mn : ∀ l : List UInt8, Mn (trimN l)
  | [] => by simp [Mn, trimN]
  | c :: r => by
    by_cases h : c = 0
    · subst h; rw [trimN_zero]; exact trimN_mn r
    · rw [trimN_pos c r h]; simp [Mn, h]
theorem trimN_all (l : List UInt8) (h : Mn l) : trimN l = l := by
  cases l with
  | nil => rfl
  | cons c r => exact trimN_pos c r (by simpa [Mn] using h)
theorem mn_low (l : List UInt8) (h : Mn l) (hl : 0 < l.length) : 256 ^ (l.length - 1) ≤ beN l := by
  cases l with
  | nil => simp at hl
  | cons c r =>
    have hc : c ≠ 0 := by simpa [Mn] using h
    have h1 : 1 ≤ c.toNat := by
      rcases Nat.eq_zero_or_pos c.toNat with e | e
      · exact absurd (UInt8.toNat_inj.1 (by rw [e]; rfl)) hc
      · exact e
    rw [beN_cons, List.length_cons, Nat.add_sub_cancel]
    have := Nat.mul_le_mul_right (256 ^ r.length) h1
    omega
theorem be_same : ∀ (a b : List UInt8), a.length = b.length → beN a = beN b → a = b
  | [], [], _, _ => rfl
  | x :: a, y :: b, h, e => by
    have hl : a.length = b.length := by simpa using h
    have la := beN_lt a
    have lb := beN_lt b
    have ih := be_same a b hl
    rw [beN_cons, beN_cons, hl] at e
    rw [hl] at la
    generalize 256 ^ b.length = P at *
    rcases Nat.lt_trichotomy x.toNat y.toNat with hx | hx | hx
    · have h1 : (x.toNat + 1) * P ≤ y.toNat * P := Nat.mul_le_mul_right _ hx
      rw [Nat.add_mul, Nat.one_mul] at h1
      omega
    · have e0 : x = y := UInt8.toNat_inj.1 hx
      subst e0
      rw [ih (by omega)]
    · have h1 : (y.toNat + 1) * P ≤ x.toNat * P := Nat.mul_le_mul_right _ hx
      rw [Nat.add_mul, Nat.one_mul] at h1
      omega
theorem mn_less_len (a b : List UInt8) (hb : Mn b) (h : a.length < b.length) : beN a < beN b := by
  have h1 := beN_lt a
  have h2 := mn_low b hb (by omega)
  have h3 : 256 ^ a.length ≤ 256 ^ (b.length - 1) := Nat.pow_le_pow_right (by decide) (by omega)
  omega
theorem mn_inj (a b : List UInt8) (ha : Mn a) (hb : Mn b) (h : beN a = beN b) : a = b := by
  rcases Nat.lt_trichotomy a.length b.length with hl | hl | hl
  · have := mn_less_len a b hb hl; omega
  · exact be_same a b hl h
  · have := mn_less_len b a ha hl; omega
theorem mn_nil : Mn [] := by simp [Mn]
theorem mn_zero (l : List UInt8) (h : Mn l) (e : beN l = 0) : l = [] := mn_inj l [] h mn_nil (by rw [e]; rfl)
theorem mn_short (l : List UInt8) (h : Mn l) (k : Nat) (hl : beN l < 256 ^ k) : l.length ≤ k := by
  rcases Nat.lt_or_ge k l.length with hk | hk
  · exfalso
    have h2 := mn_low l h (by omega)
    have h3 : 256 ^ k ≤ 256 ^ (l.length - 1) := Nat.pow_le_pow_right (by decide) (by omega)
    omega
  · exact hk

/-- The bytes that a number of two halves needs; these behind how many they are. -/
def numL (h l : Int) : List UInt8 := trimN (textOf h l).data.toList
def wideL (h l : Int) : List UInt8 := UInt8.ofNat (numL h l).length :: numL h l
theorem numL_mn (h l : Int) : Mn (numL h l) := trimN_mn _
theorem numL_len (h l : Int) : (numL h l).length ≤ 16 := by
  have h1 := trimN_len (textOf h l).data.toList
  rw [osize, textOf_size] at h1
  exact h1
theorem numL_be {h l : Int} (hh : Word h) (hl : Word l) : (beN (numL h l) : Int) = nv h l := by
  unfold numL; rw [trimN_be]; exact textOf_be hh hl
theorem numL_len8 {l : Int} (hl : Word l) : (numL 0 l).length ≤ 8 := by
  refine mn_short _ (numL_mn _ _) 8 ?_
  have h1 := numL_be (h := 0) ⟨by decide, by decide⟩ hl
  obtain ⟨h2, h3⟩ := hl
  have e3 : (256 : Nat) ^ 8 = 18446744073709551616 := rfl
  rw [e3]
  unfold nv at h1
  omega
theorem wideL_len (h l : Int) : (wideL h l).length ≤ 17 := by unfold wideL; rw [List.length_cons]; have := numL_len h l; omega
/-- The halves of digits. -/
def hiD (d : List UInt8) : Int := (beN d : Int) / 18446744073709551616
def loD (d : List UInt8) : Int := (beN d : Int) % 18446744073709551616
theorem be16 (d : List UInt8) (h : d.length ≤ 16) : (beN d : Int) < 340282366920938463463374607431768211456 := by
  have h1 := beN_lt d
  have h2 : 256 ^ d.length ≤ 256 ^ 16 := Nat.pow_le_pow_right (by decide) h
  have e3 : (256 : Nat) ^ 16 = 340282366920938463463374607431768211456 := rfl
  omega
theorem hiD_word (d : List UInt8) (h : d.length ≤ 16) : Word (hiD d) := by
  have := be16 d h
  unfold hiD
  exact ⟨by omega, by omega⟩
theorem loD_word (d : List UInt8) : Word (loD d) := by
  unfold loD
  exact ⟨by omega, by omega⟩
theorem nv_D (d : List UInt8) : nv (hiD d) (loD d) = beN d := by unfold nv hiD loD; omega
theorem be8 (d : List UInt8) (h : d.length ≤ 8) : (beN d : Int) < 18446744073709551616 := by
  have h1 := beN_lt d
  have h2 : 256 ^ d.length ≤ 256 ^ 8 := Nat.pow_le_pow_right (by decide) h
  have e3 : (256 : Nat) ^ 8 = 18446744073709551616 := rfl
  omega
theorem hiD_8 (d : List UInt8) (h : d.length ≤ 8) : hiD d = 0 := by
  have := be8 d h
  unfold hiD
  omega
theorem loD_8 (d : List UInt8) (h : d.length ≤ 8) : loD d = beN d := by
  have := be8 d h
  unfold loD
  omega
theorem numL_D (d : List UInt8) (h : d.length ≤ 16) (hm : Mn d) : numL (hiD d) (loD d) = d := by
  refine mn_inj _ _ (numL_mn _ _) hm ?_
  have h1 := numL_be (hiD_word d h) (loD_word d)
  rw [nv_D] at h1
  omega
theorem hiD_num {h l : Int} (hh : Word h) (hl : Word l) : hiD (numL h l) = h := by
  have h1 := numL_be hh hl
  obtain ⟨_, _⟩ := hl
  unfold hiD
  rw [h1]
  unfold nv
  omega
theorem loD_num {h l : Int} (hh : Word h) (hl : Word l) : loD (numL h l) = l := by
  have h1 := numL_be hh hl
  obtain ⟨_, _⟩ := hl
  unfold loD
  rw [h1]
  unfold nv
  omega

theorem ofNat_b (n : Nat) (h : n < 256) : (UInt8.ofNat n).toNat = n := UInt8.toNat_ofNat_of_lt' h
/-- What is read of bytes: a number's digits, of at most so many; a byte; a flag; a text of at most so many bytes; and what is left. -/
def rNum (most : Nat) : List UInt8 → Option (List UInt8 × List UInt8)
  | [] => none
  | c :: r => if most < c.toNat ∨ r.length < c.toNat ∨ (r.take c.toNat).head? = some 0 then none else some (r.take c.toNat, r.drop c.toNat)
def rByte : List UInt8 → Option (UInt8 × List UInt8)
  | [] => none
  | c :: r => some (c, r)
def rFlag : List UInt8 → Option (Bool × List UInt8)
  | [] => none
  | c :: r => if 1 < c.toNat then none else some (decide (c.toNat = 1), r)
def rText (m : Nat) (l : List UInt8) : Option (List UInt8 × List UInt8) :=
  match rNum 8 l with
  | none => none
  | some (d, r) => if m < beN d ∨ r.length < beN d then none else some (r.take (beN d), r.drop (beN d))

theorem rNum_wide (most : Nat) (d r : List UInt8) (hd : d.length ≤ most) (h2 : d.length < 256) (hm : Mn d) : rNum most (UInt8.ofNat d.length :: d ++ r) = some (d, r) := by
  have e : (UInt8.ofNat d.length).toNat = d.length := ofNat_b _ h2
  show (if most < (UInt8.ofNat d.length).toNat ∨ (d ++ r).length < (UInt8.ofNat d.length).toNat ∨ ((d ++ r).take (UInt8.ofNat d.length).toNat).head? = some 0 then none else some ((d ++ r).take (UInt8.ofNat d.length).toNat, (d ++ r).drop (UInt8.ofNat d.length).toNat)) = _
  rw [e, List.take_left, List.drop_left]
  rw [if_neg]
  rintro (h | h | h)
  · omega
  · rw [List.length_append] at h; omega
  · exact hm h
theorem rNum_some {most : Nat} {l d r : List UInt8} (h : rNum most l = some (d, r)) : Mn d ∧ d.length ≤ most ∧ d.length < 256 ∧ l = UInt8.ofNat d.length :: d ++ r := by
  cases l with
  | nil => cases h
  | cons c q =>
    have h : (if most < c.toNat ∨ q.length < c.toNat ∨ (q.take c.toNat).head? = some 0 then none else some (q.take c.toNat, q.drop c.toNat)) = some (d, r) := h
    split at h
    · cases h
    · next hn =>
      injection h with h
      injection h with h1 h2
      subst h1 h2
      have hc := c.toNat_lt
      have hlen : (q.take c.toNat).length = c.toNat := by rw [List.length_take]; omega
      refine ⟨fun e => hn (Or.inr (Or.inr e)), by omega, by omega, ?_⟩
      rw [hlen, UInt8.ofNat_toNat, List.cons_append, List.take_append_drop]
theorem rNum_more {most : Nat} {l d r : List UInt8} (h : rNum most l = some (d, r)) (e : List UInt8) : rNum most (l ++ e) = some (d, r ++ e) := by
  obtain ⟨h1, h2, h3, rfl⟩ := rNum_some h
  rw [List.append_assoc]
  exact rNum_wide most d (r ++ e) h2 h3 h1
theorem rNum_len {most : Nat} {l d r : List UInt8} (h : rNum most l = some (d, r)) : r.length ≤ l.length := by
  obtain ⟨h1, h2, h3, rfl⟩ := rNum_some h
  simp only [List.cons_append, List.length_cons, List.length_append]
  omega

/-- A thing that is written: its kind, its number's halves, its text. -/
structure Th where
  k : Nat
  h : Int
  l : Int
  s : ByteArray
  m : Int
def b01 (b : Bool) : UInt8 := if b then 1 else 0
/-- A thing's bytes, by its kind modulo 5. -/
def wrL (k : Nat) (h l : Int) (s : List UInt8) : List UInt8 :=
  if k = 0 then [UInt8.ofNat (l % 256).toNat] else if k = 1 then wideL 0 l else if k = 2 then wideL h l else if k = 3 then [b01 (decide (l % 2 = 1))] else wideL 0 (s.length : Int) ++ s
def Th.list (x : Th) : List UInt8 := wrL (x.k % 5) x.h x.l x.s.data.toList
def Th.text (x : Th) : ByteArray := ofL x.list
/-- What is read as a kind: its number's halves, its text. -/
structure Vl where
  h : Int
  l : Int
  s : List UInt8
def Vl.zero : Vl := ⟨0, 0, []⟩
def rdK (k m : Nat) (l : List UInt8) : Option (Vl × List UInt8) :=
  if k = 0 then (rByte l).map fun x => (⟨0, (x.1.toNat : Int), []⟩, x.2)
  else if k = 1 then (rNum 8 l).map fun x => (⟨0, (beN x.1 : Int), []⟩, x.2)
  else if k = 2 then (rNum 16 l).map fun x => (⟨hiD x.1, loD x.1, []⟩, x.2)
  else if k = 3 then (rFlag l).map fun x => (⟨0, if x.1 then 1 else 0, []⟩, x.2)
  else (rText m l).map fun x => (⟨0, 0, x.1⟩, x.2)
theorem rdK_0 (m : Nat) (l : List UInt8) : rdK 0 m l = (rByte l).map fun x => (⟨0, (x.1.toNat : Int), []⟩, x.2) := rfl
theorem rdK_1 (m : Nat) (l : List UInt8) : rdK 1 m l = (rNum 8 l).map fun x => (⟨0, (beN x.1 : Int), []⟩, x.2) := rfl
theorem rdK_2 (m : Nat) (l : List UInt8) : rdK 2 m l = (rNum 16 l).map fun x => (⟨hiD x.1, loD x.1, []⟩, x.2) := rfl
theorem rdK_3 (m : Nat) (l : List UInt8) : rdK 3 m l = (rFlag l).map fun x => (⟨0, if x.1 then 1 else 0, []⟩, x.2) := rfl
theorem rdK_4 (k m : Nat) (l : List UInt8) (h : 4 ≤ k) : rdK k m l = (rText m l).map fun x => (⟨0, 0, x.1⟩, x.2) := by
  unfold rdK; rw [if_neg (by omega), if_neg (by omega), if_neg (by omega), if_neg (by omega)]
theorem wrL_4 (k : Nat) (h l : Int) (s : List UInt8) (hk : 4 ≤ k) : wrL k h l s = wideL 0 (s.length : Int) ++ s := by
  unfold wrL; rw [if_neg (by omega), if_neg (by omega), if_neg (by omega), if_neg (by omega)]

theorem rText_some {m : Nat} {l s r : List UInt8} (h : rText m l = some (s, r)) : s.length ≤ m ∧ (s.length : Int) < 18446744073709551616 ∧ l = wideL 0 (s.length : Int) ++ s ++ r := by
  unfold rText at h
  cases hn : rNum 8 l with
  | none => rw [hn] at h; cases h
  | some x =>
    obtain ⟨d, q⟩ := x
    rw [hn] at h
    obtain ⟨h1, h2, h3, rfl⟩ := rNum_some hn
    have h : (if m < beN d ∨ q.length < beN d then none else some (q.take (beN d), q.drop (beN d))) = some (s, r) := h
    split at h
    · cases h
    · next hx =>
      injection h with h
      injection h with e1 e2
      subst e1 e2
      have hl : (q.take (beN d)).length = beN d := by rw [List.length_take]; omega
      have hb := be8 d h2
      rw [hl]
      refine ⟨by omega, hb, ?_⟩
      have e : numL 0 (beN d : Int) = d := by
        have := numL_D d (by omega) h1
        rw [hiD_8 d h2, loD_8 d h2] at this
        exact this
      unfold wideL
      rw [e, List.append_assoc, List.take_append_drop]
theorem rText_wide (m : Nat) (s r : List UInt8) (h : s.length ≤ m) (hw : (s.length : Int) < 18446744073709551616) : rText m (wideL 0 (s.length : Int) ++ s ++ r) = some (s, r) := by
  have hw0 : Word (s.length : Int) := ⟨by omega, hw⟩
  have h8 := numL_len8 hw0
  have hb := numL_be (h := 0) ⟨by decide, by decide⟩ hw0
  unfold rText wideL
  rw [List.append_assoc, rNum_wide 8 _ _ h8 (by omega) (numL_mn _ _)]
  have e : beN (numL 0 (s.length : Int)) = s.length := by unfold nv at hb; omega
  show (if _ then _ else _) = _
  rw [e, List.take_left, List.drop_left, if_neg]
  rw [List.length_append]
  omega
theorem rText_long (m : Nat) (s r : List UInt8) (h : m < s.length) (hw : (s.length : Int) < 18446744073709551616) : rText m (wideL 0 (s.length : Int) ++ s ++ r) = none := by
  have hw0 : Word (s.length : Int) := ⟨by omega, hw⟩
  have h8 := numL_len8 hw0
  have hb := numL_be (h := 0) ⟨by decide, by decide⟩ hw0
  unfold rText wideL
  rw [List.append_assoc, rNum_wide 8 _ _ h8 (by omega) (numL_mn _ _)]
  have e : beN (numL 0 (s.length : Int)) = s.length := by unfold nv at hb; omega
  show (if _ then _ else _) = _
  rw [e, if_pos (Or.inl h)]

/-- What is read of what was written of a thing. -/
def Th.vl (x : Th) : Vl :=
  if x.k % 5 = 0 then ⟨0, x.l % 256, []⟩ else if x.k % 5 = 1 then ⟨0, x.l, []⟩ else if x.k % 5 = 2 then ⟨x.h, x.l, []⟩ else if x.k % 5 = 3 then ⟨0, x.l % 2, []⟩ else ⟨0, 0, x.s.data.toList⟩
/-- There and back: a thing's bytes are read as what it is, and what is behind is left. -/
theorem rd_wr (x : Th) (hh : Word x.h) (hl : Word x.l) (m : Nat) (hm : x.s.size ≤ m) (hz : x.s.size < 18446744073709551616) (r : List UInt8) : rdK (x.k % 5) m (x.list ++ r) = some (x.vl, r) := by
  have hl2 := hl
  obtain ⟨l0, l1⟩ := hl2
  have h5 : x.k % 5 < 5 := Nat.mod_lt _ (by decide)
  unfold Th.list Th.vl
  generalize x.k % 5 = k at *
  rcases (show k = 0 ∨ k = 1 ∨ k = 2 ∨ k = 3 ∨ k = 4 by omega) with rfl | rfl | rfl | rfl | rfl
  · show some ((⟨0, ((UInt8.ofNat (x.l % 256).toNat).toNat : Int), []⟩ : Vl), r) = some (⟨0, x.l % 256, []⟩, r)
    rw [ofNat_b _ (by omega)]
    congr 3
    omega
  · rw [rdK_1]
    show (rNum 8 (wideL 0 x.l ++ r)).map _ = some ((⟨0, x.l, []⟩ : Vl), r)
    have h8 := numL_len8 hl
    have hb := numL_be (h := 0) ⟨by decide, by decide⟩ hl
    unfold wideL
    rw [rNum_wide 8 _ _ h8 (by omega) (numL_mn _ _)]
    show some ((⟨0, (beN (numL 0 x.l) : Int), []⟩ : Vl), r) = _
    rw [hb]
    congr 3
    unfold nv; omega
  · rw [rdK_2]
    show (rNum 16 (wideL x.h x.l ++ r)).map _ = some ((⟨x.h, x.l, []⟩ : Vl), r)
    have h16 := numL_len x.h x.l
    unfold wideL
    rw [rNum_wide 16 _ _ h16 (by omega) (numL_mn _ _)]
    show some ((⟨hiD (numL x.h x.l), loD (numL x.h x.l), []⟩ : Vl), r) = _
    rw [hiD_num hh hl, loD_num hh hl]
  · rw [rdK_3]
    show (rFlag (b01 (decide (x.l % 2 = 1)) :: r)).map _ = some ((⟨0, x.l % 2, []⟩ : Vl), r)
    rcases (show x.l % 2 = 0 ∨ x.l % 2 = 1 by omega) with e | e
    · rw [e]; rfl
    · rw [e]; rfl
  · rw [rdK_4 4 m _ (Nat.le_refl _), wrL_4 4 _ _ _ (Nat.le_refl _)]
    rw [rText_wide m _ r (by rw [osize]; exact hm) (by rw [osize]; omega)]
    rfl
theorem Th.list_len (x : Th) : x.list.length ≤ 17 + x.s.size := by
  unfold Th.list wrL
  split
  · simp; omega
  · split
    · have := wideL_len 0 x.l; omega
    · split
      · have := wideL_len x.h x.l; omega
      · split
        · simp; omega
        · rw [List.length_append, osize]
          have := wideL_len 0 (x.s.size : Int)
          omega
theorem Th.text_size (x : Th) : x.text.size ≤ 17 + x.s.size := by unfold Th.text; rw [ofL_size]; exact x.list_len
/-- Just one way: what is read as a kind are the bytes that it is written as, and what is left. -/
theorem wr_rd {k m : Nat} {l r : List UInt8} {v : Vl} (hk : k < 5) (h : rdK k m l = some (v, r)) : l = wrL k v.h v.l v.s ++ r ∧ Word v.h ∧ Word v.l ∧ v.s.length ≤ m := by
  have w0 : Word 0 := ⟨by decide, by decide⟩
  rcases (show k = 0 ∨ k = 1 ∨ k = 2 ∨ k = 3 ∨ k = 4 by omega) with rfl | rfl | rfl | rfl | rfl
  · rw [rdK_0] at h
    cases l with
    | nil => cases h
    | cons c q =>
      injection h with h
      injection h with h1 h2
      subst h1 h2
      have hc := c.toNat_lt
      refine ⟨?_, w0, ⟨by show (0 : Int) ≤ (c.toNat : Int); omega, by show (c.toNat : Int) < _; omega⟩, Nat.zero_le _⟩
      show c :: q = UInt8.ofNat (((c.toNat : Int) % 256).toNat) :: q
      rw [show ((c.toNat : Int) % 256).toNat = c.toNat by omega, UInt8.ofNat_toNat]
  · rw [rdK_1] at h
    cases hn : rNum 8 l with
    | none => rw [hn] at h; cases h
    | some x =>
      obtain ⟨d, q⟩ := x
      rw [hn] at h
      injection h with h
      injection h with h1 h2
      subst h1 h2
      obtain ⟨g1, g2, g3, rfl⟩ := rNum_some hn
      have hb := be8 d g2
      have e : numL 0 (beN d : Int) = d := by
        have := numL_D d (by omega) g1
        rw [hiD_8 d g2, loD_8 d g2] at this
        exact this
      refine ⟨?_, w0, ⟨by show (0 : Int) ≤ (beN d : Int); omega, hb⟩, Nat.zero_le _⟩
      show _ = wideL 0 (beN d : Int) ++ q
      unfold wideL
      rw [e]
  · rw [rdK_2] at h
    cases hn : rNum 16 l with
    | none => rw [hn] at h; cases h
    | some x =>
      obtain ⟨d, q⟩ := x
      rw [hn] at h
      injection h with h
      injection h with h1 h2
      subst h1 h2
      obtain ⟨g1, g2, g3, rfl⟩ := rNum_some hn
      refine ⟨?_, hiD_word d g2, loD_word d, Nat.zero_le _⟩
      show _ = wideL (hiD d) (loD d) ++ q
      unfold wideL
      rw [numL_D d g2 g1]
  · rw [rdK_3] at h
    cases l with
    | nil => cases h
    | cons c q =>
      have h : (if 1 < c.toNat then none else some (decide (c.toNat = 1), q)).map (fun x : Bool × List UInt8 => ((⟨0, if x.1 then 1 else 0, []⟩ : Vl), x.2)) = some (v, r) := h
      split at h
      · cases h
      · next hc =>
        injection h with h
        injection h with h1 h2
        subst h1 h2
        have hcc : c = 0 ∨ c = 1 := by
          rcases (show c.toNat = 0 ∨ c.toNat = 1 by omega) with e | e
          · exact Or.inl (UInt8.toNat_inj.1 (by rw [e]; rfl))
          · exact Or.inr (UInt8.toNat_inj.1 (by rw [e]; rfl))
        rcases hcc with rfl | rfl
        · exact ⟨rfl, w0, w0, Nat.zero_le _⟩
        · exact ⟨rfl, w0, show Word 1 from ⟨by decide, by decide⟩, Nat.zero_le _⟩
  · rw [rdK_4 4 m _ (Nat.le_refl _)] at h
    cases hn : rText m l with
    | none => rw [hn] at h; cases h
    | some x =>
      obtain ⟨d, q⟩ := x
      rw [hn] at h
      injection h with h
      injection h with h1 h2
      subst h1 h2
      obtain ⟨g1, g2, rfl⟩ := rText_some hn
      refine ⟨?_, w0, w0, g1⟩
      rw [wrL_4 4 _ _ _ (Nat.le_refl _)]
theorem rdK_more {k m : Nat} {l r : List UInt8} {v : Vl} (hk : k < 5) (h : rdK k m l = some (v, r)) (e : List UInt8) : rdK k m (l ++ e) = some (v, r ++ e) := by
  rcases (show k = 0 ∨ k = 1 ∨ k = 2 ∨ k = 3 ∨ k = 4 by omega) with rfl | rfl | rfl | rfl | rfl
  · rw [rdK_0] at h ⊢
    cases l with
    | nil => cases h
    | cons c q =>
      injection h with h
      injection h with h1 h2
      subst h1 h2
      rfl
  · rw [rdK_1] at h ⊢
    cases hn : rNum 8 l with
    | none => rw [hn] at h; cases h
    | some x =>
      obtain ⟨d, q⟩ := x
      rw [hn] at h
      injection h with h
      injection h with h1 h2
      subst h1 h2
      rw [rNum_more hn e]
      rfl
  · rw [rdK_2] at h ⊢
    cases hn : rNum 16 l with
    | none => rw [hn] at h; cases h
    | some x =>
      obtain ⟨d, q⟩ := x
      rw [hn] at h
      injection h with h
      injection h with h1 h2
      subst h1 h2
      rw [rNum_more hn e]
      rfl
  · rw [rdK_3] at h ⊢
    cases l with
    | nil => cases h
    | cons c q =>
      have h : (if 1 < c.toNat then none else some (decide (c.toNat = 1), q)).map (fun x : Bool × List UInt8 => ((⟨0, if x.1 then 1 else 0, []⟩ : Vl), x.2)) = some (v, r) := h
      split at h
      · cases h
      · next hc =>
        injection h with h
        injection h with h1 h2
        subst h1 h2
        show (if 1 < c.toNat then none else some (decide (c.toNat = 1), q ++ e)).map _ = _
        rw [if_neg hc]
        rfl
  · rw [rdK_4 4 m _ (Nat.le_refl _)] at h ⊢
    cases hn : rText m l with
    | none => rw [hn] at h; cases h
    | some x =>
      obtain ⟨d, q⟩ := x
      rw [hn] at h
      injection h with h
      injection h with h1 h2
      subst h1 h2
      obtain ⟨g1, g2, rfl⟩ := rText_some hn
      rw [List.append_assoc, rText_wide m d (q ++ e) g1 g2]
      rfl

/-- What is written, and a text behind it; where it has no room, it is spoilt. -/
def putB (o : Option ByteArray) (t : ByteArray) : Option ByteArray := o.bind fun s => if s.size + t.size ≤ 1048576 then some (s ++ t) else none
theorem putB_none (t : ByteArray) : putB none t = none := rfl
theorem putB_yes (s t : ByteArray) (h : s.size + t.size ≤ 1048576) : putB (some s) t = some (s ++ t) := by show (if _ then _ else _) = _; rw [if_pos h]
theorem putB_no (s t : ByteArray) (h : 1048576 < s.size + t.size) : putB (some s) t = none := by show (if _ then _ else _) = _; rw [if_neg (by omega)]
theorem putB_two (o : Option ByteArray) (a b : ByteArray) : putB (putB o a) b = putB o (a ++ b) := by
  cases o with
  | none => rfl
  | some s =>
    by_cases h : s.size + a.size ≤ 1048576
    · rw [putB_yes s a h]
      by_cases h2 : s.size + (a ++ b).size ≤ 1048576
      · rw [putB_yes s _ h2, putB_yes _ _ (by rw [ByteArray.size_append] at h2 ⊢; omega), ByteArray.append_assoc]
      · rw [putB_no s _ (by omega), putB_no _ _ (by rw [ByteArray.size_append] at h2 ⊢; omega)]
    · rw [putB_no s a (by omega), putB_none, putB_no s _ (by rw [ByteArray.size_append]; omega)]
theorem putB_nil (s : ByteArray) (h : s.size ≤ 1048576) : putB (some s) ⟨#[]⟩ = some s := by
  rw [putB_yes s _ (by show s.size + 0 ≤ _; omega)]
  congr 1
  exact oext (by simp [ByteArray.data_append])

/-- Of two numbers' bytes. -/
theorem less_cons (x : UInt8) (a b : List UInt8) : Op.bytesLess (x :: a) (x :: b) = Op.bytesLess a b := by
  simp [Op.bytesLess]
theorem wide_less {ah al bh bl : Int} (a1 : Word ah) (a0 : Word al) (b1 : Word bh) (b0 : Word bl) : Op.bytesLess (wideL ah al) (wideL bh bl) = decide (nv ah al < nv bh bl) := by
  have ea := numL_be a1 a0
  have eb := numL_be b1 b0
  have la := numL_len ah al
  have lb := numL_len bh bl
  have ma := numL_mn ah al
  have mb := numL_mn bh bl
  rw [← ea, ← eb]
  unfold wideL
  generalize numL ah al = x at *
  generalize numL bh bl = y at *
  rcases Nat.lt_trichotomy x.length y.length with h | h | h
  · have h1 := mn_less_len x y mb h
    have e1 : decide (UInt8.ofNat x.length < UInt8.ofNat y.length) = true := by
      rw [decide_eq_true_eq, UInt8.lt_iff_toNat_lt, ofNat_b _ (by omega), ofNat_b _ (by omega)]; exact h
    show (decide (UInt8.ofNat x.length < UInt8.ofNat y.length) || _) = _
    rw [e1, Bool.true_or, eq_comm, decide_eq_true_eq]
    omega
  · rw [h, less_cons, less_be x y h]
    simp
  · have h1 := mn_less_len y x ma h
    have e1 : decide (UInt8.ofNat x.length < UInt8.ofNat y.length) = false := by
      rw [decide_eq_false_iff_not, UInt8.lt_iff_toNat_lt, ofNat_b _ (by omega), ofNat_b _ (by omega)]; omega
    have e2 : (UInt8.ofNat x.length == UInt8.ofNat y.length) = false := by
      rw [beq_eq_false_iff_ne]
      intro e
      have := congrArg UInt8.toNat e
      rw [ofNat_b _ (by omega), ofNat_b _ (by omega)] at this
      omega
    show (decide (UInt8.ofNat x.length < UInt8.ofNat y.length) || ((UInt8.ofNat x.length == UInt8.ofNat y.length) && _)) = _
    rw [e1, e2, Bool.false_and, Bool.or_false, eq_comm, decide_eq_false_iff_not]
    omega
theorem wide_same {ah al bh bl : Int} (a1 : Word ah) (a0 : Word al) (b1 : Word bh) (b0 : Word bl) (h : wideL ah al = wideL bh bl) : ah = bh ∧ al = bl := by
  unfold wideL at h
  injection h with _ h
  exact ⟨by rw [← hiD_num a1 a0, h, hiD_num b1 b0], by rw [← loD_num a1 a0, h, loD_num b1 b0]⟩
theorem wide_begins {ah al bh bl : Int} (a1 : Word ah) (a0 : Word al) (b1 : Word bh) (b0 : Word bl) (h : (wideL ah al).length ≤ (wideL bh bl).length) (e : (wideL bh bl).take (wideL ah al).length = wideL ah al) : ah = bh ∧ al = bl := by
  refine wide_same a1 a0 b1 b0 ?_
  have la := numL_len ah al
  have lb := numL_len bh bl
  have e0 := e
  unfold wideL at e
  rw [List.length_cons, List.take_succ_cons] at e
  injection e with e1 _
  have := congrArg UInt8.toNat e1
  rw [ofNat_b _ (by omega), ofNat_b _ (by omega)] at this
  rw [List.take_of_length_le (by unfold wideL; rw [List.length_cons, List.length_cons]; omega)] at e0
  exact e0.symm
theorem word0 : Word 0 := ⟨by decide, by decide⟩
/-- A text's bytes behind how many they are. -/
def textL (s : ByteArray) : List UInt8 := wideL 0 (s.size : Int) ++ s.data.toList
end Go.Proofs.YtjndabnegmecmaaDoor
