/-
  Plain words on decimal texts: a number's digits, the number of digits, places, groups of three. No program is named here.
-/
import Derived.Test.YtfnbehijnmbhjaaDoorW0Words
import Derived.Laws.Strings
import Derived.Laws.BytesArg
namespace Go.Proofs.YtfnbehijnmbhjaaDoor
set_option linter.unusedVariables false
set_option linter.unusedSimpArgs false
set_option maxRecDepth 10000

/-- A digit's byte. -/
def dig (n : Nat) : UInt8 := UInt8.ofNat (48 + n % 10)
theorem dig_nat (n : Nat) : (dig n).toNat = 48 + n % 10 := by
  unfold dig
  rw [UInt8.toNat_ofNat']
  omega
theorem dig_of {c : UInt8} (h0 : 48 ≤ c.toNat) (h1 : c.toNat ≤ 57) (m : Nat) : dig (m * 10 + (c.toNat - 48)) = c := by
  apply UInt8.toNat_inj.1
  rw [dig_nat]
  omega
def decF : Nat → Nat → List UInt8
  | 0, n => [dig n]
  | f + 1, n => if n < 10 then [dig n] else decF f (n / 10) ++ [dig n]
/-- A number's digits. -/
def decL (n : Nat) : List UInt8 := decF n n
theorem decF_any : ∀ (f n g : Nat), n ≤ f → n ≤ g → decF f n = decF g n
  | 0, n, 0, _, _ => rfl
  | 0, n, g + 1, h, _ => by
    have : n = 0 := by omega
    subst this; rfl
  | f + 1, n, 0, _, h => by
    have : n = 0 := by omega
    subst this; rfl
  | f + 1, n, g + 1, h1, h2 => by
    unfold decF
    by_cases h : n < 10
    · rw [if_pos h, if_pos h]
    · rw [if_neg h, if_neg h, decF_any f (n / 10) g (by omega) (by omega)]
theorem decL_small {n : Nat} (h : n < 10) : decL n = [dig n] := by
  unfold decL
  cases n with
  | zero => rfl
  | succ m => unfold decF; rw [if_pos h]
theorem decL_big {n : Nat} (h : 10 ≤ n) : decL n = decL (n / 10) ++ [dig n] := by
  obtain ⟨m, rfl⟩ : ∃ m, n = m + 1 := ⟨n - 1, by omega⟩
  show decF (m + 1) (m + 1) = _
  unfold decF
  rw [if_neg (by omega)]
  congr 1
  exact decF_any m _ _ (by omega) (Nat.le_refl _)
/-- By ten: what has no digit yet is nothing, unless it is the number itself. -/
def pre (k m : Nat) : List UInt8 := if m = 0 ∧ 0 < k then [] else decL m
theorem pre_step {k m : Nat} (h : k = 0 ∨ m ≠ 0) : pre k m = pre (k + 1) (m / 10) ++ [dig m] := by
  unfold pre
  rw [if_neg (by omega)]
  by_cases hm : m < 10
  · rw [if_pos (by omega), decL_small hm]; rfl
  · rw [if_neg (by omega), decL_big (by omega)]
theorem pre_end {k : Nat} (h : 0 < k) : pre k 0 = [] := if_pos ⟨rfl, h⟩
theorem pre_zero (n : Nat) : pre 0 n = decL n := if_neg (by omega)

theorem decL_ind {P : Nat → Prop} (h0 : ∀ n, n < 10 → P n) (h1 : ∀ n, 10 ≤ n → P (n / 10) → P n) (n : Nat) : P n := by
  induction n using Nat.strongRecOn with
  | ind n ih =>
    by_cases h : n < 10
    · exact h0 n h
    · exact h1 n (by omega) (ih (n / 10) (by omega))
/-- Is a byte a digit? -/
def IsD (c : UInt8) : Prop := 48 ≤ c.toNat ∧ c.toNat ≤ 57
theorem dig_isD (n : Nat) : IsD (dig n) := by unfold IsD; rw [dig_nat]; omega
theorem decL_isD (n : Nat) : ∀ c ∈ decL n, IsD c := by
  refine decL_ind (P := fun n => ∀ c ∈ decL n, IsD c) (fun n h c hc => ?_) (fun n h ih c hc => ?_) n
  · rw [decL_small h, List.mem_singleton] at hc; subst hc; exact dig_isD n
  · rw [decL_big h, List.mem_append, List.mem_singleton] at hc
    rcases hc with hc | rfl
    · exact ih c hc
    · exact dig_isD n
theorem decL_head (n : Nat) : ∃ c r, decL n = c :: r ∧ (n ≠ 0 → c ≠ 48) := by
  refine decL_ind (P := fun n => ∃ c r, decL n = c :: r ∧ (n ≠ 0 → c ≠ 48)) (fun n h => ?_) (fun n h ih => ?_) n
  · refine ⟨dig n, [], decL_small h, fun h0 e => ?_⟩
    have := dig_nat n
    rw [e] at this
    simp at this
    omega
  · obtain ⟨c, r, e, hc⟩ := ih
    exact ⟨c, r ++ [dig n], by rw [decL_big h, e]; rfl, fun _ => hc (by omega)⟩
theorem decL_pos (n : Nat) : 0 < (decL n).length := by
  obtain ⟨c, r, e, -⟩ := decL_head n
  rw [e]; simp

/-- The number of digits. -/
def pv (l : List UInt8) : Nat := l.foldl (fun a c => a * 10 + (c.toNat - 48)) 0
theorem pv_snoc (l : List UInt8) (c : UInt8) : pv (l ++ [c]) = pv l * 10 + (c.toNat - 48) := by simp [pv]
theorem pv_decL (n : Nat) : pv (decL n) = n := by
  refine decL_ind (P := fun n => pv (decL n) = n) (fun n h => ?_) (fun n h ih => ?_) n
  · rw [decL_small h]; show 0 * 10 + ((dig n).toNat - 48) = n; rw [dig_nat]; omega
  · rw [decL_big h, pv_snoc, ih, dig_nat]; omega
theorem fold_grow (c : List UInt8) : ∀ a : Nat, a * 10 ^ c.length ≤ c.foldl (fun a c => a * 10 + (c.toNat - 48)) a := by
  induction c with
  | nil => intro a; simp
  | cons d r ih =>
    intro a
    refine Nat.le_trans ?_ (ih (a * 10 + (d.toNat - 48)))
    rw [List.length_cons, Nat.pow_succ, Nat.mul_comm (10 ^ r.length), ← Nat.mul_assoc]
    exact Nat.mul_le_mul_right _ (by omega)
theorem pv_le_append (a b : List UInt8) : pv a ≤ pv (a ++ b) := by
  unfold pv
  rw [List.foldl_append]
  refine Nat.le_trans ?_ (fold_grow b _)
  exact Nat.le_mul_of_pos_right _ (Nat.pow_pos (by decide))
theorem pv_lt {l : List UInt8} (h : ∀ c ∈ l, IsD c) : pv l < 10 ^ l.length := by
  obtain ⟨r, rfl⟩ : ∃ r, l = r.reverse := ⟨l.reverse, by simp⟩
  induction r with
  | nil => simp [pv]
  | cons c r ih =>
    have hc := h c (by simp)
    have hr := ih (fun x hx => h x (by simp at hx ⊢; exact .inl hx))
    rw [List.reverse_cons, pv_snoc, List.length_append, List.length_singleton, Nat.pow_succ]
    unfold IsD at hc
    omega
/-- The first digit is none's: the number has as many digits. -/
theorem pv_ge {c : UInt8} {r : List UInt8} (hc : IsD c) (h0 : c ≠ 48) : 10 ^ r.length ≤ pv (c :: r) := by
  have h := fold_grow r (c.toNat - 48)
  have h1 : c.toNat ≠ 48 := fun e => h0 (UInt8.toNat_inj.1 (by rw [e]; rfl))
  unfold IsD at hc
  have h2 : pv (c :: r) = r.foldl (fun a c => a * 10 + (c.toNat - 48)) (c.toNat - 48) := by simp [pv]
  rw [h2]
  refine Nat.le_trans ?_ h
  exact Nat.le_mul_of_pos_left _ (by omega)
/-- Is a text written as numbers are? -/
def Written (l : List UInt8) : Prop := (∀ c ∈ l, IsD c) ∧ (l = [48] ∨ ∃ c r, l = c :: r ∧ c ≠ 48)
theorem decL_written (n : Nat) : Written (decL n) := by
  refine ⟨decL_isD n, ?_⟩
  obtain ⟨c, r, e, hc⟩ := decL_head n
  by_cases h : n = 0
  · subst h; exact .inl (by decide)
  · exact .inr ⟨c, r, e, hc h⟩
theorem decL_pv {l : List UInt8} (h : Written l) : decL (pv l) = l := by
  obtain ⟨r, rfl⟩ : ∃ r, l = r.reverse := ⟨l.reverse, by simp⟩
  induction r with
  | nil => obtain ⟨-, h | ⟨c, r, h, -⟩⟩ := h <;> simp at h
  | cons c r ih =>
    rw [List.reverse_cons] at h ⊢
    obtain ⟨hd, h2⟩ := h
    have hc : IsD c := hd c (by simp)
    rw [pv_snoc]
    unfold IsD at hc
    by_cases hr : r = []
    · subst hr
      show decL (0 * 10 + (c.toNat - 48)) = [c]
      rw [decL_small (by omega)]
      congr 1
      exact dig_of hc.1 hc.2 0
    · have hw : ∃ d t, r.reverse = d :: t ∧ d ≠ 48 := by
        rcases h2 with h2 | ⟨d, t, h2, h3⟩
        · have := congrArg List.length h2
          simp at this
          exact absurd this hr
        · obtain ⟨d', t', e⟩ : ∃ d' t', r.reverse = d' :: t' := List.exists_cons_of_ne_nil (by simpa using hr)
          rw [e, List.cons_append] at h2
          injection h2 with h4 h5
          subst h4
          exact ⟨d', t', e, h3⟩
      have hw' : Written r.reverse := ⟨fun x hx => hd x (by simp at hx ⊢; exact .inl hx), .inr hw⟩
      obtain ⟨d, t, e, h3⟩ := hw
      have hge := pv_ge (r := t) (hw'.1 d (by rw [e]; simp)) h3
      rw [← e] at hge
      have h1 : 0 < 10 ^ t.length := Nat.pow_pos (by decide)
      rw [decL_big (by omega), dig_of hc.1 hc.2]
      congr 1
      rw [show (pv r.reverse * 10 + (c.toNat - 48)) / 10 = pv r.reverse by omega]
      exact ih hw'
/-- How many digits a number has. -/
theorem decL_len {n k : Nat} (hk : 0 < k) : (decL n).length ≤ k ↔ n < 10 ^ k := by
  constructor
  · intro h
    have h1 := pv_lt (decL_isD n)
    rw [pv_decL] at h1
    exact Nat.lt_of_lt_of_le h1 (Nat.pow_le_pow_right (by decide) h)
  · intro h
    obtain ⟨c, r, e, hc⟩ := decL_head n
    by_cases h0 : n = 0
    · subst h0; rw [show (decL 0).length = 1 by decide]; exact hk
    · have h1 := pv_ge (r := r) (decL_isD n c (by rw [e]; simp)) (hc h0)
      rw [← e, pv_decL] at h1
      have h2 : 10 ^ r.length < 10 ^ k := Nat.lt_of_le_of_lt h1 h
      have h3 := (Nat.pow_lt_pow_iff_right (by decide : 1 < 10)).1 h2
      rw [e, List.length_cons]; omega
theorem decL_39 {n : Nat} (h : n < 340282366920938463463374607431768211456) : (decL n).length ≤ 39 := (decL_len (by decide)).2 (Nat.lt_of_lt_of_le h (by decide))
/-- The digit at a place, counted from the right. -/
theorem decL_at : ∀ (k n : Nat), k < (decL n).length → (decL n)[(decL n).length - 1 - k]? = some (dig (n / 10 ^ k))
  | 0, n, h => by
    rw [Nat.pow_zero, Nat.div_one]
    by_cases hn : n < 10
    · rw [decL_small hn]; rfl
    · rw [decL_big (by omega)]; simp
  | k + 1, n, h => by
    by_cases hn : n < 10
    · rw [decL_small hn] at h; simp at h
    · rw [decL_big (by omega)] at h ⊢
      rw [List.length_append, List.length_singleton] at h ⊢
      have ih := decL_at k (n / 10) (by omega)
      rw [List.getElem?_append_left (by omega), show (decL (n / 10)).length + 1 - 1 - (k + 1) = (decL (n / 10)).length - 1 - k by omega, ih, Nat.div_div_eq_div_mul, Nat.pow_succ, Nat.mul_comm]
theorem decL_none {k n : Nat} (h : (decL n).length ≤ k) : n / 10 ^ k = 0 := by
  have := decL_pos n
  exact Nat.div_eq_of_lt ((decL_len (by omega)).1 h)

/-- A text. -/
def str (l : List UInt8) : ByteArray := ⟨l.toArray⟩
theorem str_toList (l : List UInt8) : (str l).toList = l := ByteArray.toList_mk l
theorem str_data (l : List UInt8) : (str l).data.toList = l := rfl
theorem str_size (l : List UInt8) : (str l).size = l.length := rfl
theorem str_of (s : ByteArray) : s = str s.data.toList := rfl
theorem str_nums (l : List UInt8) : strOfNums (l.map fun c => (c.toNat : Int)) = str l := by
  unfold strOfNums str
  congr 2
  rw [List.map_map]
  conv => rhs; rw [← List.map_id l]
  apply List.map_congr_left
  intro c _
  simp
theorem str_append (a b : List UInt8) : str (a ++ b) = str a ++ str b := by
  apply ByteArray.ext
  simp [str]

/-- Digits of two numbers of as many digits, byte by byte. -/
theorem fold_shift : ∀ (l : List UInt8) (a : Nat), l.foldl (fun a c => a * 10 + (c.toNat - 48)) a = a * 10 ^ l.length + pv l
  | [], a => by simp [pv]
  | c :: r, a => by
    have h0 := fold_shift r (a * 10 + (c.toNat - 48))
    have h1 := fold_shift r (0 * 10 + (c.toNat - 48))
    have h2 : pv (c :: r) = r.foldl (fun a c => a * 10 + (c.toNat - 48)) (0 * 10 + (c.toNat - 48)) := rfl
    rw [List.foldl_cons, h2, h0, h1, List.length_cons, Nat.pow_succ, Nat.add_mul, Nat.add_mul, Nat.zero_mul, Nat.zero_add, Nat.mul_assoc, Nat.mul_comm 10]
    omega
theorem pv_cons (c : UInt8) (r : List UInt8) : pv (c :: r) = (c.toNat - 48) * 10 ^ r.length + pv r := by
  have h2 : pv (c :: r) = r.foldl (fun a c => a * 10 + (c.toNat - 48)) (0 * 10 + (c.toNat - 48)) := rfl
  rw [h2, fold_shift, Nat.zero_mul, Nat.zero_add]
theorem less_pv : ∀ (a b : List UInt8), a.length = b.length → (∀ c ∈ a, IsD c) → (∀ c ∈ b, IsD c) → Op.bytesLess a b = decide (pv a < pv b)
  | [], [], _, _, _ => by simp [Op.bytesLess]
  | x :: a, y :: b, h, ha, hb => by
    have hl : a.length = b.length := by simpa using h
    have ha' := fun c hc => ha c (List.mem_cons_of_mem _ hc)
    have hb' := fun c hc => hb c (List.mem_cons_of_mem _ hc)
    have ih := less_pv a b hl ha' hb'
    have la := pv_lt ha'
    have lb := pv_lt hb'
    have hx := ha x (by simp)
    have hy := hb y (by simp)
    unfold IsD at hx hy
    rw [hl] at la
    rw [pv_cons, pv_cons, hl]
    generalize 10 ^ b.length = P at *
    simp only [Op.bytesLess, ih]
    rcases Nat.lt_trichotomy x.toNat y.toNat with hxy | hxy | hxy
    · have h1 : (x.toNat - 48 + 1) * P ≤ (y.toNat - 48) * P := Nat.mul_le_mul_right _ (by omega)
      rw [Nat.add_mul, Nat.one_mul] at h1
      have e1 : decide (x < y) = true := by simpa [UInt8.lt_iff_toNat_lt] using hxy
      rw [e1, Bool.true_or, eq_comm, decide_eq_true_eq]
      omega
    · have e0 : x = y := UInt8.toNat_inj.1 hxy
      subst e0
      have e1 : decide (x < x) = false := by simp
      rw [e1, Bool.false_or, beq_self_eq_true, Bool.true_and]
      congr 1
      simp
    · have h1 : (y.toNat - 48 + 1) * P ≤ (x.toNat - 48) * P := Nat.mul_le_mul_right _ (by omega)
      rw [Nat.add_mul, Nat.one_mul] at h1
      have e1 : decide (x < y) = false := by simp [UInt8.lt_iff_toNat_lt]; omega
      have e2 : (x == y) = false := by
        rw [beq_eq_false_iff_ne]; intro e; subst e; omega
      rw [e1, e2, Bool.false_and, Bool.or_false, eq_comm, decide_eq_false_iff_not]
      omega
/-- The order of numbers is that of their texts: the shorter one first. -/
theorem decL_order (m n : Nat) : (decide ((decL m).length < (decL n).length) || (decide ((decL m).length = (decL n).length) && Op.bytesLess (decL m) (decL n))) = decide (m < n) := by
  rcases Nat.lt_trichotomy (decL m).length (decL n).length with h | h | h
  · have h1 := (decL_len (n := m) (decL_pos m)).1 (Nat.le_refl _)
    have h2 : 10 ^ (decL m).length ≤ n := by
      rcases Nat.lt_or_ge n (10 ^ (decL m).length) with h3 | h3
      · exact absurd ((decL_len (decL_pos m)).2 h3) (by omega)
      · exact h3
    have : m < n := by omega
    simp [h, this]
  · rw [less_pv _ _ h (decL_isD m) (decL_isD n), pv_decL, pv_decL]
    simp [h]
  · have h1 := (decL_len (n := n) (decL_pos n)).1 (Nat.le_refl _)
    have h2 : 10 ^ (decL n).length ≤ m := by
      rcases Nat.lt_or_ge m (10 ^ (decL n).length) with h3 | h3
      · exact absurd ((decL_len (decL_pos n)).2 h3) (by omega)
      · exact h3
    have h4 : ¬ m < n := by omega
    have h5 : ¬ (decL m).length < (decL n).length := by omega
    have h6 : ¬ (decL m).length = (decL n).length := by omega
    simp [h4, h5, h6]
theorem decL_inj {m n : Nat} (h : decL m = decL n) : m = n := by rw [← pv_decL m, h, pv_decL]

/-- With a sign between each three digits, counted from the right: what stands behind the first digit. -/
def grpR : List UInt8 → List UInt8
  | [] => []
  | c :: r => (if (r.length + 1) % 3 = 0 then [95] else []) ++ c :: grpR r
def grp : List UInt8 → List UInt8
  | [] => []
  | c :: r => c :: grpR r
theorem grp_short {l : List UInt8} (h : l.length ≤ 3) : grp l = l := by
  match l, h with
  | [], _ => rfl
  | [a], _ => rfl
  | [a, b], _ => rfl
  | [a, b, c], _ => rfl
theorem grp_step {l : List UInt8} (h : (l.length - 1) % 3 + 1 < l.length) : grp l = l.take ((l.length - 1) % 3 + 1) ++ 95 :: grp (l.drop ((l.length - 1) % 3 + 1)) := by
  match l, h with
  | [a], h => simp at h
  | [a, b], h => simp at h
  | [a, b, c], h => simp at h
  | a :: b :: c :: d :: r, h =>
    simp only [List.length_cons] at h ⊢
    have hk : r.length % 3 = 0 ∨ r.length % 3 = 1 ∨ r.length % 3 = 2 := by omega
    rcases hk with hk | hk | hk
    · rw [show (r.length + 1 + 1 + 1 + 1 - 1) % 3 + 1 = 1 by omega]
      simp only [List.take_succ_cons, List.take_zero, List.drop_succ_cons, List.drop_zero, grp, grpR, List.length_cons]
      rw [if_pos (by omega), if_neg (by omega), if_neg (by omega)]
      rfl
    · rw [show (r.length + 1 + 1 + 1 + 1 - 1) % 3 + 1 = 2 by omega]
      simp only [List.take_succ_cons, List.take_zero, List.drop_succ_cons, List.drop_zero, grp, grpR, List.length_cons]
      rw [if_neg (by omega), if_pos (by omega), if_neg (by omega)]
      rfl
    · rw [show (r.length + 1 + 1 + 1 + 1 - 1) % 3 + 1 = 3 by omega]
      simp only [List.take_succ_cons, List.take_zero, List.drop_succ_cons, List.drop_zero, grp, grpR, List.length_cons]
      rw [if_neg (by omega), if_neg (by omega), if_pos (by omega)]
      rfl
end Go.Proofs.YtfnbehijnmbhjaaDoor
