/- Several of my texts, laid as one. -/
import Derived.Test.YthindbmgnkohhaaDoorW0Words
import Derived.Laws.Strings
import Derived.Laws.BytesArg
import Derived.Test.YthindbmgnkohhaaDoorM1Num
import Derived.LoopTactic
import Derived.Deep.LoopGhost
import Derived.Deep.RegionHeld3
import Derived.Deep.RegionWith
import Derived.BigQuiet
import Derived.Deep.QuietTactic
import Derived.Deep.DeepCutAuto
import Derived.Deep.CutRange
import Derived.IntWalk
/-
  Plain words on decimal texts: a number's digits, the number of digits, places, groups of three. No program is named here.
-/
namespace Go.Proofs.YthindbmgnkohhaaDoor
set_option linter.unusedVariables false
set_option linter.unusedSimpArgs false
set_option maxRecDepth 10000

/-- A digit's byte. -/
def dig (n : Nat) : UInt8 := UInt8.ofNat (48 + n % 10)
theorem dig_nat (n : Nat) : (dig n).toNat = 48 + n % 10 := by
  unfold dig
  rw [UInt8.toNat_ofNat']
  omega
theorem dig_of {c : UInt8} (h0 : 48 ≤ c.toNat) (h1 : c.toNat ≤ 57) (m : Nat) : dig (m * 10 + (c.toNat - 48)) = c := by
  apply UInt8.toNat_inj.1
  rw [dig_nat]
  omega
def decF : Nat → Nat → List UInt8
  | 0, n => [dig n]
  | f + 1, n => if n < 10 then [dig n] else decF f (n / 10) ++ [dig n]
/-- A number's digits. -/
def decL (n : Nat) : List UInt8 := decF n n
theorem decF_any : ∀ (f n g : Nat), n ≤ f → n ≤ g → decF f n = decF g n
  | 0, n, 0, _, _ => rfl
  | 0, n, g + 1, h, _ => by
    have : n = 0 := by omega
    subst this; rfl
  | f + 1, n, 0, _, h => by
    have : n = 0 := by omega
    subst this; rfl
  | f + 1, n, g + 1, h1, h2 => by
    unfold decF
    by_cases h : n < 10
    · rw [if_pos h, if_pos h]
    · rw [if_neg h, if_neg h, decF_any f (n / 10) g (by omega) (by omega)]
theorem decL_small {n : Nat} (h : n < 10) : decL n = [dig n] := by
  unfold decL
  cases n with
  | zero => rfl
  | succ m => unfold decF; rw [if_pos h]
theorem decL_big {n : Nat} (h : 10 ≤ n) : decL n = decL (n / 10) ++ [dig n] := by
  obtain ⟨m, rfl⟩ : ∃ m, n = m + 1 := ⟨n - 1, by omega⟩
  show decF (m + 1) (m + 1) = _
  unfold decF
  rw [if_neg (by omega)]
  congr 1
  exact decF_any m _ _ (by omega) (Nat.le_refl _)
/-- By ten: what has no digit yet is nothing, unless it is the number itself. -/
def pre (k m : Nat) : List UInt8 := if m = 0 ∧ 0 < k then [] else decL m
theorem pre_step {k m : Nat} (h : k = 0 ∨ m ≠ 0) : pre k m = pre (k + 1) (m / 10) ++ [dig m] := by
  unfold pre
  rw [if_neg (by omega)]
  by_cases hm : m < 10
  · rw [if_pos (by omega), decL_small hm]; rfl
  · rw [if_neg (by omega), decL_big (by omega)]
theorem pre_end {k : Nat} (h : 0 < k) : pre k 0 = [] := if_pos ⟨rfl, h⟩
theorem pre_zero (n : Nat) : pre 0 n = decL n := if_neg (by omega)

theorem decL_ind {P : Nat → Prop} (h0 : ∀ n, n < 10 → P n) (h1 : ∀ n, 10 ≤ n → P (n / 10) → P n) (n : Nat) : P n := by
  induction n using Nat.strongRecOn with
  | ind n ih =>
    by_cases h : n < 10
    · exact h0 n h
    · exact h1 n (by omega) (ih (n / 10) (by omega))
/-- Is a byte a digit? -/
def IsD (c : UInt8) : Prop := 48 ≤ c.toNat ∧ c.toNat ≤ 57
theorem dig_isD (n : Nat) : IsD (dig n) := by unfold IsD; rw [dig_nat]; omega
theorem decL_isD (n : Nat) : ∀ c ∈ decL n, IsD c := by
  refine decL_ind (P := fun n => ∀ c ∈ decL n, IsD c) (fun n h c hc => ?_) (fun n h ih c hc => ?_) n
  · rw [decL_small h, List.mem_singleton] at hc; subst hc; exact dig_isD n
  · rw [decL_big h, List.mem_append, List.mem_singleton] at hc
    rcases hc with hc | rfl
    · exact ih c hc
    · exact dig_isD n
theorem decL_head (n : Nat) : ∃ c r, decL n = c :: r ∧ (n ≠ 0 → c ≠ 48) := by
  refine decL_ind (P := fun n => ∃ c r, decL n = c :: r ∧ (n ≠ 0 → c ≠ 48)) (fun n h => ?_) (fun n h ih => ?_) n
  · refine ⟨dig n, [], decL_small h, fun h0 e => ?_⟩
    have := dig_nat n
    rw [e] at this
    simp at this
    omega
  · obtain ⟨c, r, e, hc⟩ := ih
    exact ⟨c, r ++ [dig n], by rw [decL_big h, e]; rfl, fun _ => hc (by omega)⟩
theorem decL_pos (n : Nat) : 0 < (decL n).length := by
  obtain ⟨c, r, e, -⟩ := decL_head n
  rw [e]; simp

/-- The number of digits. -/
def pv (l : List UInt8) : Nat := l.foldl (fun a c => a * 10 + (c.toNat - 48)) 0
theorem pv_snoc (l : List UInt8) (c : UInt8) : pv (l ++ [c]) = pv l * 10 + (c.toNat - 48) := by simp [pv]
theorem pv_decL (n : Nat) : pv (decL n) = n := by
  refine decL_ind (P := fun n => pv (decL n) = n) (fun n h => ?_) (fun n h ih => ?_) n
  · rw [decL_small h]; show 0 * 10 + ((dig n).toNat - 48) = n; rw [dig_nat]; omega
  · rw [decL_big h, pv_snoc, ih, dig_nat]; omega
theorem fold_grow (c : List UInt8) : ∀ a : Nat, a * 10 ^ c.length ≤ c.foldl (fun a c => a * 10 + (c.toNat - 48)) a := by
  induction c with
  | nil => intro a; simp
  | cons d r ih =>
    intro a
    refine Nat.le_trans ?_ (ih (a * 10 + (d.toNat - 48)))
    rw [List.length_cons, Nat.pow_succ, Nat.mul_comm (10 ^ r.length), ← Nat.mul_assoc]
    exact Nat.mul_le_mul_right _ (by omega)
theorem pv_le_append (a b : List UInt8) : pv a ≤ pv (a ++ b) := by
  unfold pv
  rw [List.foldl_append]
  refine Nat.le_trans ?_ (fold_grow b _)
  exact Nat.le_mul_of_pos_right _ (Nat.pow_pos (by decide))
theorem pv_lt {l : List UInt8} (h : ∀ c ∈ l, IsD c) : pv l < 10 ^ l.length := by
  obtain ⟨r, rfl⟩ : ∃ r, l = r.reverse := ⟨l.reverse, by simp⟩
  induction r with
  | nil => simp [pv]
  | cons c r ih =>
    have hc := h c (by simp)
    have hr := ih (fun x hx => h x (by simp at hx ⊢; exact .inl hx))
    rw [List.reverse_cons, pv_snoc, List.length_append, List.length_singleton, Nat.pow_succ]
    unfold IsD at hc
    omega
/-- The first digit is none's: the number has as many digits. -/
theorem pv_ge {c : UInt8} {r : List UInt8} (hc : IsD c) (h0 : c ≠ 48) : 10 ^ r.length ≤ pv (c :: r) := by
  have h := fold_grow r (c.toNat - 48)
  have h1 : c.toNat ≠ 48 := fun e => h0 (UInt8.toNat_inj.1 (by rw [e]; rfl))
  unfold IsD at hc
  have h2 : pv (c :: r) = r.foldl (fun a c => a * 10 + (c.toNat - 48)) (c.toNat - 48) := by simp [pv]
  rw [h2]
  refine Nat.le_trans ?_ h
  exact Nat.le_mul_of_pos_left _ (by omega)
/-- Is a text written as numbers are? -/
def Written (l : List UInt8) : Prop := (∀ c ∈ l, IsD c) ∧ (l = [48] ∨ ∃ c r, l = c :: r ∧ c ≠ 48)
theorem decL_written (n : Nat) : Written (decL n) := by
  refine ⟨decL_isD n, ?_⟩
  obtain ⟨c, r, e, hc⟩ := decL_head n
  by_cases h : n = 0
  · subst h; exact .inl (by decide)
  · exact .inr ⟨c, r, e, hc h⟩
theorem decL_pv {l : List UInt8} (h : Written l) : decL (pv l) = l := by
  obtain ⟨r, rfl⟩ : ∃ r, l = r.reverse := ⟨l.reverse, by simp⟩
  induction r with
  | nil => obtain ⟨-, h | ⟨c, r, h, -⟩⟩ := h <;> simp at h
  | cons c r ih =>
    rw [List.reverse_cons] at h ⊢
    obtain ⟨hd, h2⟩ := h
    have hc : IsD c := hd c (by simp)
    rw [pv_snoc]
    unfold IsD at hc
    by_cases hr : r = []
    · subst hr
      show decL (0 * 10 + (c.toNat - 48)) = [c]
      rw [decL_small (by omega)]
      congr 1
      exact dig_of hc.1 hc.2 0
    · have hw : ∃ d t, r.reverse = d :: t ∧ d ≠ 48 := by
        rcases h2 with h2 | ⟨d, t, h2, h3⟩
        · have := congrArg List.length h2
          simp at this
          exact absurd this hr
        · obtain ⟨d', t', e⟩ : ∃ d' t', r.reverse = d' :: t' := List.exists_cons_of_ne_nil (by simpa using hr)
          rw [e, List.cons_append] at h2
          injection h2 with h4 h5
          subst h4
          exact ⟨d', t', e, h3⟩
      have hw' : Written r.reverse := ⟨fun x hx => hd x (by simp at hx ⊢; exact .inl hx), .inr hw⟩
      obtain ⟨d, t, e, h3⟩ := hw
      have hge := pv_ge (r := t) (hw'.1 d (by rw [e]; simp)) h3
      rw [← e] at hge
      have h1 : 0 < 10 ^ t.length := Nat.pow_pos (by decide)
      rw [decL_big (by omega), dig_of hc.1 hc.2]
      congr 1
      rw [show (pv r.reverse * 10 + (c.toNat - 48)) / 10 = pv r.reverse by omega]
      exact ih hw'
/-- How many digits a number has. -/
theorem decL_len {n k : Nat} (hk : 0 < k) : (decL n).length ≤ k ↔ n < 10 ^ k := by
  constructor
  · intro h
    have h1 := pv_lt (decL_isD n)
    rw [pv_decL] at h1
    exact Nat.lt_of_lt_of_le h1 (Nat.pow_le_pow_right (by decide) h)
  · intro h
    obtain ⟨c, r, e, hc⟩ := decL_head n
    by_cases h0 : n = 0
    · subst h0; rw [show (decL 0).length = 1 by decide]; exact hk
    · have h1 := pv_ge (r := r) (decL_isD n c (by rw [e]; simp)) (hc h0)
      rw [← e, pv_decL] at h1
      have h2 : 10 ^ r.length < 10 ^ k := Nat.lt_of_le_of_lt h1 h
      have h3 := (Nat.pow_lt_pow_iff_right (by decide : 1 < 10)).1 h2
      rw [e, List.length_cons]; omega
theorem decL_39 {n : Nat} (h : n < 340282366920938463463374607431768211456) : (decL n).length ≤ 39 := (decL_len (by decide)).2 (Nat.lt_of_lt_of_le h (by decide))
/-- The digit at a place, counted from the right. -/
theorem decL_at : ∀ (k n : Nat), k < (decL n).length → (decL n)[(decL n).length - 1 - k]? = some (dig (n / 10 ^ k))
  | 0, n, h => by
    rw [Nat.pow_zero, Nat.div_one]
    by_cases hn : n < 10
    · rw [decL_small hn]; rfl
    · rw [decL_big (by omega)]; simp
  | k + 1, n, h => by
    by_cases hn : n < 10
    · rw [decL_small hn] at h; simp at h
    · rw [decL_big (by omega)] at h ⊢
      rw [List.length_append, List.length_singleton] at h ⊢
      have ih := decL_at k (n / 10) (by omega)
      rw [List.getElem?_append_left (by omega), show (decL (n / 10)).length + 1 - 1 - (k + 1) = (decL (n / 10)).length - 1 - k by omega, ih, Nat.div_div_eq_div_mul, Nat.pow_succ, Nat.mul_comm]
theorem decL_none {k n : Nat} (h : (decL n).length ≤ k) : n / 10 ^ k = 0 := by
  have := decL_pos n
  exact Nat.div_eq_of_lt ((decL_len (by omega)).1 h)

/-- A text. -/
def str (l : List UInt8) : ByteArray := ⟨l.toArray⟩
theorem str_toList (l : List UInt8) : (str l).toList = l := ByteArray.toList_mk l
theorem str_data (l : List UInt8) : (str l).data.toList = l := rfl
theorem str_size (l : List UInt8) : (str l).size = l.length := rfl
theorem str_of (s : ByteArray) : s = str s.data.toList := rfl
theorem str_nums (l : List UInt8) : strOfNums (l.map fun c => (c.toNat : Int)) = str l := by
  unfold strOfNums str
  congr 2
  rw [List.map_map]
  conv => rhs; rw [← List.map_id l]
  apply List.map_congr_left
  intro c _
  simp
theorem str_append (a b : List UInt8) : str (a ++ b) = str a ++ str b := by
  apply ByteArray.ext
  simp [str]

/-- Digits of two numbers of as many digits, byte by byte. -/
theorem fold_shift : ∀ (l : List UInt8) (a : Nat), l.foldl (fun a c => a * 10 + (c.toNat - 48)) a = a * 10 ^ l.length + pv l
  | [], a => by simp [pv]
  | c :: r, a => by
    have h0 := fold_shift r (a * 10 + (c.toNat - 48))
    have h1 := fold_shift r (0 * 10 + (c.toNat - 48))
    have h2 : pv (c :: r) = r.foldl (fun a c => a * 10 + (c.toNat - 48)) (0 * 10 + (c.toNat - 48)) := rfl
    rw [List.foldl_cons, h2, h0, h1, List.length_cons, Nat.pow_succ, Nat.add_mul, Nat.add_mul, Nat.zero_mul, Nat.zero_add, Nat.mul_assoc, Nat.mul_comm 10]
    omega
theorem pv_cons (c : UInt8) (r : List UInt8) : pv (c :: r) = (c.toNat - 48) * 10 ^ r.length + pv r := by
  have h2 : pv (c :: r) = r.foldl (fun a c => a * 10 + (c.toNat - 48)) (0 * 10 + (c.toNat - 48)) := rfl
  rw [h2, fold_shift, Nat.zero_mul, Nat.zero_add]
theorem less_pv : ∀ (a b : List UInt8), a.length = b.length → (∀ c ∈ a, IsD c) → (∀ c ∈ b, IsD c) → Op.bytesLess a b = decide (pv a < pv b)
  | [], [], _, _, _ => by simp [Op.bytesLess]
  | x :: a, y :: b, h, ha, hb => by
    have hl : a.length = b.length := by simpa using h
    have ha' := fun c hc => ha c (List.mem_cons_of_mem _ hc)
    have hb' := fun c hc => hb c (List.mem_cons_of_mem _ hc)
    have ih := less_pv a b hl ha' hb'
    have la := pv_lt ha'
    have lb := pv_lt hb'
    have hx := ha x (by simp)
    have hy := hb y (by simp)
    unfold IsD at hx hy
    rw [hl] at la
    rw [pv_cons, pv_cons, hl]
    generalize 10 ^ b.length = P at *
    simp only [Op.bytesLess, ih]
    rcases Nat.lt_trichotomy x.toNat y.toNat with hxy | hxy | hxy
    · have h1 : (x.toNat - 48 + 1) * P ≤ (y.toNat - 48) * P := Nat.mul_le_mul_right _ (by omega)
      rw [Nat.add_mul, Nat.one_mul] at h1
      have e1 : decide (x < y) = true := by simpa [UInt8.lt_iff_toNat_lt] using hxy
      rw [e1, Bool.true_or, eq_comm, decide_eq_true_eq]
      omega
    · have e0 : x = y := UInt8.toNat_inj.1 hxy
      subst e0
      have e1 : decide (x < x) = false := by simp
      rw [e1, Bool.false_or, beq_self_eq_true, Bool.true_and]
      congr 1
      simp
    · have h1 : (y.toNat - 48 + 1) * P ≤ (x.toNat - 48) * P := Nat.mul_le_mul_right _ (by omega)
      rw [Nat.add_mul, Nat.one_mul] at h1
      have e1 : decide (x < y) = false := by simp [UInt8.lt_iff_toNat_lt]; omega
      have e2 : (x == y) = false := by
        rw [beq_eq_false_iff_ne]; intro e; subst e; omega
      rw [e1, e2, Bool.false_and, Bool.or_false, eq_comm, decide_eq_false_iff_not]
      omega
/-- The order of numbers is that of their texts: the shorter one first. -/
theorem decL_order (m n : Nat) : (decide ((decL m).length < (decL n).length) || (decide ((decL m).length = (decL n).length) && Op.bytesLess (decL m) (decL n))) = decide (m < n) := by
  rcases Nat.lt_trichotomy (decL m).length (decL n).length with h | h | h
  · have h1 := (decL_len (n := m) (decL_pos m)).1 (Nat.le_refl _)
    have h2 : 10 ^ (decL m).length ≤ n := by
      rcases Nat.lt_or_ge n (10 ^ (decL m).length) with h3 | h3
      · exact absurd ((decL_len (decL_pos m)).2 h3) (by omega)
      · exact h3
    have : m < n := by omega
    simp [h, this]
  · rw [less_pv _ _ h (decL_isD m) (decL_isD n), pv_decL, pv_decL]
    simp [h]
  · have h1 := (decL_len (n := n) (decL_pos n)).1 (Nat.le_refl _)
    have h2 : 10 ^ (decL n).length ≤ m := by
      rcases Nat.lt_or_ge m (10 ^ (decL n).length) with h3 | h3
      · exact absurd ((decL_len (decL_pos n)).2 h3) (by omega)
      · exact h3
    have h4 : ¬ m < n := by omega
    have h5 : ¬ (decL m).length < (decL n).length := by omega
    have h6 : ¬ (decL m).length = (decL n).length := by omega
    simp [h4, h5, h6]
theorem decL_inj {m n : Nat} (h : decL m = decL n) : m = n := by rw [← pv_decL m, h, pv_decL]

/-- With a sign between each three digits, counted from the right: what stands behind the first digit. -/
def grpR : List UInt8 → List UInt8
  | [] => []
  | c :: r => (if (r.length + 1) % 3 = 0 then [95] else []) ++ c :: grpR r
def grp : List UInt8 → List UInt8
  | [] => []
  | c :: r => c :: grpR r
theorem grp_short {l : List UInt8} (h : l.length ≤ 3) : grp l = l := by
  match l, h with
  | [], _ => rfl
  | [a], _ => rfl
  | [a, b], _ => rfl
  | [a, b, c], _ => rfl
theorem grp_step {l : List UInt8} (h : (l.length - 1) % 3 + 1 < l.length) : grp l = l.take ((l.length - 1) % 3 + 1) ++ 95 :: grp (l.drop ((l.length - 1) % 3 + 1)) := by
  match l, h with
  | [a], h => simp at h
  | [a, b], h => simp at h
  | [a, b, c], h => simp at h
  | a :: b :: c :: d :: r, h =>
    simp only [List.length_cons] at h ⊢
    have hk : r.length % 3 = 0 ∨ r.length % 3 = 1 ∨ r.length % 3 = 2 := by omega
    rcases hk with hk | hk | hk
    · rw [show (r.length + 1 + 1 + 1 + 1 - 1) % 3 + 1 = 1 by omega]
      simp only [List.take_succ_cons, List.take_zero, List.drop_succ_cons, List.drop_zero, grp, grpR, List.length_cons]
      rw [if_pos (by omega), if_neg (by omega), if_neg (by omega)]
      rfl
    · rw [show (r.length + 1 + 1 + 1 + 1 - 1) % 3 + 1 = 2 by omega]
      simp only [List.take_succ_cons, List.take_zero, List.drop_succ_cons, List.drop_zero, grp, grpR, List.length_cons]
      rw [if_neg (by omega), if_pos (by omega), if_neg (by omega)]
      rfl
    · rw [show (r.length + 1 + 1 + 1 + 1 - 1) % 3 + 1 = 3 by omega]
      simp only [List.take_succ_cons, List.take_zero, List.drop_succ_cons, List.drop_zero, grp, grpR, List.length_cons]
      rw [if_neg (by omega), if_neg (by omega), if_pos (by omega)]
      rfl
end Go.Proofs.YthindbmgnkohhaaDoor
/-
  decimal.digits, walked: the bytes of a number's text, in a block of its own.
-/
namespace Go.Proofs.YthindbmgnkohhaaDoor
set_option linter.unusedVariables false
set_option linter.unusedSimpArgs false
set_option maxRecDepth 10000
open Go.RowKit

def u8s (l : List UInt8) : List Value := l.map fun c => .int .u8 (c.toNat : Int)
/-- Bytes lie in a block, from a place on. -/
def Lies (w : World) (g o : Nat) (l : List UInt8) : Prop := ∀ i, i < l.length → w.cell? ⟨g, o + i, none⟩ = some (.int .u8 ((l.map fun c => (c.toNat : Int)).getD i 0))
/-- 39 places, of which the last k are put. -/
def places (k : Nat) (tl : List UInt8) : Array Value := (List.replicate (39 - k) (Value.int .u8 0) ++ u8s tl).toArray
theorem places_size {k : Nat} {tl : List UInt8} (h : tl.length = k) (hk : k ≤ 39) : (places k tl).size = 39 := by simp [places, u8s]; omega
theorem places_put {k : Nat} {tl : List UInt8} (h : k < 39) (c : UInt8) : (places k tl).setIfInBounds (39 - (k + 1)) (.int .u8 (c.toNat : Int)) = places (k + 1) (c :: tl) := by
  unfold places u8s
  rw [show 39 - k = 39 - (k + 1) + 1 by omega, List.replicate_succ', List.setIfInBounds_toArray, List.append_assoc, List.set_append_right _ _ (by simp)]
  simp
theorem places_lies {w : World} {g : Nat} {t : TypeId} {k : Nat} {tl : List UInt8} (hb : Box w g t (places k tl)) (h : tl.length = k) : Lies w g (39 - k) tl := by
  intro i hi
  rw [hb.read]
  simp only [places, List.getElem?_toArray]
  rw [List.getElem?_append_right (by simp), List.length_replicate, show 39 - k + i - (39 - k) = i by omega]
  simp [u8s, List.getD, hi]
/-- What digits tells. -/
def DigitsTell (l : List UInt8) (B : Nat) (w : World) (e : Ending) (w' : World) : Prop :=
  ∃ g o, e = .returned (.slice (some ⟨g, o, none⟩) l.length l.length) ∧ B ≤ g ∧ g < w'.heap.size ∧ Lies w' g o l ∧ Below B w w'

abbrev nought39 : Array Value := #[.int .u8 0, .int .u8 0, .int .u8 0, .int .u8 0, .int .u8 0, .int .u8 0, .int .u8 0, .int .u8 0, .int .u8 0, .int .u8 0, .int .u8 0, .int .u8 0, .int .u8 0, .int .u8 0, .int .u8 0, .int .u8 0, .int .u8 0, .int .u8 0, .int .u8 0, .int .u8 0, .int .u8 0, .int .u8 0, .int .u8 0, .int .u8 0, .int .u8 0, .int .u8 0, .int .u8 0, .int .u8 0, .int .u8 0, .int .u8 0, .int .u8 0, .int .u8 0, .int .u8 0, .int .u8 0, .int .u8 0, .int .u8 0, .int .u8 0, .int .u8 0, .int .u8 0]
theorem nought_places : nought39 = places 0 [] := by
  unfold places u8s
  rw [show 39 - 0 = 39 from rfl]
  rfl

theorem equal_num (d : Nat) (x y a b : Int) (w : World) : (Op.equalIn (d + 2) 45 (.agg #[.int .u64 x, .int .u64 y]) (.agg #[.int .u64 a, .int .u64 b])).run Tryd.prog w = .ok (x == a && y == b) w := by
  rw [run_equalIn_agg w (d + 1) 45 _ _ (by kernel_rfl) (by kernel_rfl)]
  simp only [Program.fieldsOf, Tryd.underlying45, Op.eqFields]
  cases h : x == a <;> cases h2 : y == b <;> simp [go_sem, run_equalIn_int, Tryd.underlying33, h, h2]
theorem run_eql_num (x y a b : Int) (w : World) : (binOp .eql 45 (.agg #[.int .u64 x, .int .u64 y]) (.agg #[.int .u64 a, .int .u64 b])).run Tryd.prog w = .ok (.bool (x == a && y == b)) w := by
  rw [run_eql_struct, equal_num 9998]
  rfl
theorem run_neq_num (x y a b : Int) (w : World) : (binOp .neq 45 (.agg #[.int .u64 x, .int .u64 y]) (.agg #[.int .u64 a, .int .u64 b])).run Tryd.prog w = .ok (.bool (!(x == a && y == b))) w := by
  rw [run_neq_struct, equal_num 9998]
  rfl
/-- A number is none just if both halves are. -/
theorem num_none {m : Nat} (hr : room (m : Int) = true) : (!(rh (m : Int) == 0 && rl (m : Int) == 0)) = decide (m ≠ 0) := by
  have hv := nv_r hr
  obtain ⟨h0, h1⟩ := rh_word (m : Int)
  obtain ⟨l0, l1⟩ := rl_word (m : Int)
  unfold nv at hv
  generalize rh (m : Int) = x at *
  generalize rl (m : Int) = y at *
  by_cases hx : x = 0 <;> by_cases hy : y = 0
  · subst hx; subst hy
    have : m = 0 := by omega
    simp [this]
  · have : m ≠ 0 := by omega
    simp [hx, hy, this]
  · have : m ≠ 0 := by omega
    simp [hx, hy, this]
  · have : m ≠ 0 := by omega
    simp [hx, hy, this]
theorem guard_num : Tryd.prog.eqGuardType Tryd.prog.depth 45 = false := by kernel_rfl
theorem eq39 {f k : Nat} (h : f + k = 39) (hk : k = 0) : ((f : Int) == 39) = true := by rw [beq_iff_eq]; omega
theorem ne39 {f k : Nat} (h : f + k = 39) (hk : ¬ k = 0) : ((f : Int) == 39) = false := by rw [beq_eq_false_iff_ne]; omega
theorem lt39 {N : Nat} (h : (N : Int) < 340282366920938463463374607431768211456) : N < 10 ^ 39 :=
  Nat.lt_of_lt_of_le (show N < 340282366920938463463374607431768211456 by omega) (by decide)
theorem pos_ten {m f : Nat} (h : m < 10 ^ f) (h0 : m ≠ 0 ∨ f = 39) : 1 ≤ f := by
  rcases Nat.eq_zero_or_pos f with h1 | h1
  · subst h1; simp at h; omega
  · exact h1
theorem over_ten {m : Nat} (hm : (m : Int) < 340282366920938463463374607431768211456) (w : World) :
    Calls Tryd.prog 105 #[.agg #[.int .u64 (rh (m : Int)), .int .u64 (rl (m : Int))], .int .u64 10] w fun e w' =>
      e = .returned (.tuple #[.agg #[.int .u64 (rh ((m / 10 : Nat) : Int)), .int .u64 (rl ((m / 10 : Nat) : Int))], .int .u64 ((m % 10 : Nat) : Int), .int .i64 0]) ∧ Below w.heap.size w w' := by
  have hr : room (m : Int) = true := room_iff.2 (by omega)
  refine (over_any _ _ 10 (rh_word _) (rl_word _) word_lit w).mono fun e w' ⟨he, hb⟩ => ⟨?_, hb⟩
  rw [he, nv_r hr]
  simp [orest, oerr, Int.natCast_ediv, Int.natCast_emod]

set_option maxRecDepth 100000 in
set_option maxHeartbeats 4000000 in
theorem ddigits_any (ah al : Int) (a1 : Word ah) (a0 : Word al) (w : World) :
    Calls Tryd.prog 84 #[.agg #[.int .u64 ah, .int .u64 al]] w (DigitsTell (decL (nv ah al).toNat) w.heap.size w) := by
  obtain ⟨nA0, nA1⟩ := nv_word a1 a0
  have B0 : Box ((w.alloc (.cells #[.int .u64 ah, .int .u64 al] 45)).alloc (.cells nought39 154)) w.heap.size 45 #[.int .u64 ah, .int .u64 al] := (Box.made w _ _).past _
  have B1 : Box ((w.alloc (.cells #[.int .u64 ah, .int .u64 al] 45)).alloc (.cells nought39 154)) (w.heap.size + 1) 154 nought39 := by
    have := Box.made (w.alloc (.cells #[.int .u64 ah, .int .u64 al] 45)) 154 nought39
    simpa using this
  have L1 : Below w.heap.size w ((w.alloc (.cells #[.int .u64 ah, .int .u64 al] 45)).alloc (.cells nought39 154)) := by repeat (first | exact Below.refl _ _ | apply Below.drew | apply below_drewN | refine Below.alloc ?_ (by simp; try omega) _ | refine Below.setCell ?_ (by simp; try omega) _)
  obtain ⟨N, hN⟩ : ∃ N, (nv ah al).toNat = N := ⟨_, rfl⟩
  have hN' : nv ah al = (N : Int) := by omega
  have eh : ah = rh (N : Int) := by rw [← hN', rh_nv a1 a0]
  have el : al = rl (N : Int) := by rw [← hN', rl_nv a1 a0]
  have HNl := nA1
  rw [hN'] at HNl
  have hN39 := lt39 HNl
  have EH := hideIt eh
  have EL := hideIt el
  rw [hN]
  clear eh el hN hN' nA0 nA1
  go_enter Tryd.func84, Tryd.ntmps84
  go_wp2
  generalize (w.alloc (.cells #[.int .u64 ah, .int .u64 al] 45)).alloc (.cells nought39 154) = W at *
  rw [nought_places] at B1
  go_loopg [4] 39 (fun gk first wr => ∃ (f k m : Nat) (x y : Int) (tl : List UInt8), f + k = 39 ∧ gk = f ∧ first = .int .i64 (f : Int) ∧ tl.length = k ∧ decL N = pre k m ++ tl ∧ m < 10 ^ f ∧ m ≤ N ∧ rh (m : Int) = x ∧ rl (m : Int) = y ∧
    Box wr w.heap.size 45 #[.int .u64 x, .int .u64 y] ∧ Box wr (w.heap.size + 1) 154 (places k tl) ∧ Below w.heap.size w wr)
  case atStart => exact ⟨39, 0, N, ah, al, [], by omega, rfl, rfl, rfl, by rw [pre_zero, List.append_nil], hN39, Nat.le_refl _, EH.out.symm, EL.out.symm, B0, B1, L1⟩
  case round =>
    obtain ⟨f, k, m, x, y, tl, hk, hgk, rfl, htl, hpre, hm, hmN, ex, ey, hb0, hb1, hbel⟩ := hrel
    have HG := hideIt hgk
    have HT := hideIt htl
    have HP := hideIt hpre
    have hmr : (m : Int) < 340282366920938463463374607431768211456 := by omega
    have hne := num_none (room_iff.2 ⟨by omega, hmr⟩)
    rw [ex, ey] at hne
    have cO := fun u : World => over_ten hmr u
    rw [ex, ey] at cO
    clear hgk htl hpre B0 B1 L1 EH EL hN39 ex ey hmr
    obtain ⟨c0, c1, hlt⟩ := hb0.num
    have hb1s := hb1
    clear hb1
    go_upto_region 3 with fail
    go_cut [12] from 6 to 25 (fun s12 wx => s12 = .bool (decide (k = 0 ∨ m ≠ 0)) ∧ Below wr.heap.size wr wx)
    case first =>
      by_cases hk0 : k = 0
      · have hf2 : ((f : Int) == 39) = true := eq39 hk hk0
        go_quiet (fail)
        have hx : Below wr.heap.size wr (wr.drewN nq) := below_drewN (Below.refl _ _) _
        all_goals go_wp2_with fail
        all_goals go_meet
        exact ⟨by rw [decide_eq_true (Or.inl hk0)], hx⟩
      · have hf2 : ((f : Int) == 39) = false := ne39 hk hk0
        obtain ⟨e, he⟩ : ∃ e, decide (k = 0 ∨ m ≠ 0) = e := ⟨_, rfl⟩
        have hnq := fun u : World => run_neq_num x y 0 0 u
        rw [hne, show decide (m ≠ 0) = decide (k = 0 ∨ m ≠ 0) by simp [hk0], he] at hnq
        have HK := hideIt hk0
        have HE := hideIt he
        clear hk0 he hne cO
        go_region_held3 (fun w' => Below wr.heap.size wr w' ∧ w'.cell? ⟨w.heap.size, 0, none⟩ = some (.int .u64 x) ∧ w'.cell? ⟨w.heap.size, 1, none⟩ = some (.int .u64 y))
          (first
            | exact keep_first (by assumption) (by assumption) (fun hb => ⟨hb, (hb0.call hb).read 0, (hb0.call hb).read 1⟩)
            | exact ⟨(Below.refl _ _).drew, hb0.read 0, hb0.read 1⟩)
          (first
            | (go_at_call 31; refine (of_any _ _).mono ?_; rintro e u1 ⟨rfl, j1⟩))
        have hx : ∃ Q, Below wr.heap.size wr u1 ∧ Q := ⟨_, by assumption⟩
        obtain ⟨Q, hx, -⟩ := hx
        all_goals go_wp2_with fail
        all_goals go_meet
        exact ⟨by rw [HE.out], hx⟩
    case rest =>
      obtain ⟨rfl, hx⟩ := hcut
      have Z0 := hb0.call hx
      have Z1 := hb1s.call hx
      have Z2 := chain hbel hx
      clear hne hb0 hb1s hbel c0 c1
      by_cases hgo : k = 0 ∨ m ≠ 0
      · rw [decide_eq_true hgo]
        have hf0 : 1 ≤ f := pos_ten hm (by omega)
        obtain ⟨f', rfl⟩ : ∃ f', f = f' + 1 := ⟨f - 1, by omega⟩
        obtain ⟨n, hn⟩ : ∃ n : Nat, m / 10 = n := ⟨_, rfl⟩
        obtain ⟨r, hr⟩ : ∃ r : Nat, m % 10 = r := ⟨_, rfl⟩
        rw [hn, hr] at cO
        obtain ⟨x', ex⟩ : ∃ x' : Int, rh (n : Int) = x' := ⟨_, rfl⟩
        obtain ⟨y', ey⟩ : ∃ y' : Int, rl (n : Int) = y' := ⟨_, rfl⟩
        rw [ex, ey] at cO
        have hr10 : r < 10 := by omega
        have hn10 : n < 10 ^ f' := by
          rw [← hn]
          rw [Nat.pow_succ] at hm
          exact Nat.div_lt_of_lt_mul (by omega)
        have hnN : n ≤ N := by omega
        have hdn : ((dig m).toNat : Int) = 48 + (r : Int) := by rw [dig_nat, hr]; omega
        have hpr := HP.out
        rw [pre_step hgo, hn, List.append_assoc, List.singleton_append] at hpr
        have HPR := hideIt hpr
        have HD := hideIt hdn
        have HX := hideIt ex
        have HY := hideIt ey
        have HN10 := hideIt hn10
        have HNN := hideIt hnN
        clear hn hr hdn hgo hmN hm ex ey hpr hn10 hnN
        obtain ⟨q0, q1, q2⟩ := Z0.num
        have q3 := Z0.free 0
        have q4 := Z0.free 1
        have ef : (((f' + 1 : Nat) : Int) - 1) = (f' : Int) := by omega
        have y1 : IntKind.u8.wrap (r : Int) = (r : Int) := by rw [IntKind.wrap_u8]; omega
        have y2 : IntKind.u8.wrap (48 + (r : Int)) = 48 + (r : Int) := by rw [IntKind.wrap_u8]; omega
        have i0 : (0 : Int) ≤ (f' : Int) := by omega
        have i1 : (f' : Int) < 39 := by omega
        go_upto_region 7 with (first
          | (go_at_call 105; refine (cO _).mono ?_; rintro e w2 ⟨rfl, h2⟩
             have Y0 := Z0.call h2
             have Y1 := Z1.call h2
             have Y2 := chain Z2 h2
             obtain ⟨r0, r1, r2⟩ := Y0.num
             have r3 := Y0.free 0
             have r4 := Y0.free 1))
        obtain ⟨u, hu⟩ : ∃ u, (places k tl)[f']? = some u := ⟨_, Array.getElem?_eq_getElem (by rw [places_size HT.out (by omega)]; omega)⟩
        have d0 : w2.cell? ⟨w.heap.size + 1, f', none⟩ = some u := by rw [Y1.read, hu]
        have d1 := Y1.free f'
        clear hu
        go_wp2
        go_roundg f'
        case measure => have := HG.out; omega
        case rel =>
          have hput := places_put (k := k) (tl := tl) (by omega) (dig m)
          rw [show 39 - (k + 1) = f' by omega, HD.out] at hput
          refine ⟨f', k + 1, n, x', y', dig m :: tl, by omega, rfl, rfl, by rw [List.length_cons, HT.out], HPR.out, HN10.out, HNN.out, HX.out, HY.out, ?_, ?_, ?_⟩
          · exact ((Y0.wrote 0 _).wrote 1 _).apart (by simp) _
          · rw [← hput]
            exact ((Y1.apart (by simp) _).apart (by simp) _).wrote f' _
          · repeat (first | exact Y2 | refine Below.setCell ?_ (by simp) _)
      · rw [decide_eq_false hgo]
        have hk0 : 0 < k := by omega
        have hm0 : m = 0 := by omega
        subst hm0
        have hpr := HP.out
        rw [pre_end hk0, List.nil_append] at hpr
        have HPR := hideIt hpr
        clear hpr cO
        have i0 : (0 : Int) ≤ (f : Int) := by omega
        have i1 : (f : Int) ≤ 39 := by omega
        go_wp2
        have e39 : 39 - f = k := by omega
        have el : tl.length = 39 - f := by rw [HT.out, e39]
        rw [← el]
        have hz := places_lies Z1 HT.out
        rw [show 39 - k = f by omega] at hz
        go_ret
        rw [HPR.out]
        exact ⟨w.heap.size + 1, f, rfl, by omega, Z1.inside, hz, Z2⟩
end Go.Proofs.YthindbmgnkohhaaDoor
/-
  decimal.Text, Digits, Digit, walked: a number's text, how many digits it has, and the digit at a place.
-/
namespace Go.Proofs.YthindbmgnkohhaaDoor
set_option linter.unusedVariables false
set_option linter.unusedSimpArgs false
set_option maxRecDepth 10000
open Go.RowKit

theorem conv_lies {w : World} {g o : Nat} {l : List UInt8} (h : Lies w g o l) (c : Nat) : (convert 22 9 (.slice (some ⟨g, o, none⟩) l.length c)).run Tryd.prog w = .ok (.string (str l)) w := by
  have hconv := run_convert_bytes_arg (P := Tryd.prog) w 22 5 Tryd.underlying22 Tryd.underlying5 g o l.length c (l.map fun c : UInt8 => (c.toNat : Int)) (by simp) h 9 Tryd.underlying9
  rw [str_nums] at hconv
  exact hconv
theorem text_any (ah al : Int) (a1 : Word ah) (a0 : Word al) (w : World) :
    Calls Tryd.prog 60 #[.agg #[.int .u64 ah, .int .u64 al]] w (Tells (.string (str (decL (nv ah al).toNat))) w.heap.size w) := by
  have L0 : Below w.heap.size w (w.alloc (.cells #[.int .u64 ah, .int .u64 al] 45)) := by repeat (first | exact Below.refl _ _ | apply Below.drew | apply below_drewN | refine Below.alloc ?_ (by simp; try omega) _ | refine Below.setCell ?_ (by simp; try omega) _)
  have cD := fun u : World => ddigits_any ah al a1 a0 u
  obtain ⟨l, hl⟩ : ∃ l, decL (nv ah al).toNat = l := ⟨_, rfl⟩
  rw [hl] at cD ⊢
  clear hl
  go_enter Tryd.func60, Tryd.ntmps60
  go_wp2_with (first
    | (go_at_call 84; refine (cD _).mono ?_; rintro e w1 ⟨g, o, rfl, h1, h2, h3, h4⟩
       have hconv := conv_lies h3 l.length))
  go_ret
  exact ⟨rfl, chain L0 h4⟩

def digAt (n : Nat) (k : Int) : Int := if k < 0 then 0 else ((n / 10 ^ k.toNat % 10 : Nat) : Int)
theorem digAt_neg {n : Nat} {k : Int} (h : k < 0) : digAt n k = 0 := if_pos h
theorem digAt_nat (n k : Nat) : digAt n (k : Int) = ((n / 10 ^ k % 10 : Nat) : Int) := by
  unfold digAt
  rw [if_neg (by omega)]
  rfl
theorem digAt_past {n k : Nat} (h : (decL n).length ≤ k) : digAt n (k : Int) = 0 := by rw [digAt_nat, decL_none h]; rfl

end Go.Proofs.YthindbmgnkohhaaDoor
/-
  decimal.Parse, walked: whether a text is written as numbers are, and its number, digit by digit.
-/
namespace Go.Proofs.YthindbmgnkohhaaDoor
set_option linter.unusedVariables false
set_option linter.unusedSimpArgs false
set_option maxRecDepth 10000
open Go.RowKit

/-- Is a text written as numbers are? -/
def writB (l : List UInt8) : Bool := l.all (fun c => decide (48 ≤ c.toNat ∧ c.toNat ≤ 57)) && (l == [48] || (l != [] && l.head? != some 48))
theorem writB_iff (l : List UInt8) : writB l = true ↔ Written l := by
  unfold writB Written IsD
  rw [Bool.and_eq_true, List.all_eq_true]
  refine and_congr (by simp) ?_
  cases l with
  | nil => simp
  | cons c r =>
    simp only [Bool.or_eq_true, Bool.and_eq_true, beq_iff_eq, bne_iff_ne, ne_eq, List.head?_cons, Option.some.injEq, reduceCtorEq, not_false_eq_true, true_and]
    constructor
    · rintro (h | h)
      · exact .inl h
      · exact .inr ⟨c, r, rfl, h⟩
    · rintro (h | ⟨d, t, h, h2⟩)
      · exact .inl h
      · injection h with h3 h4
        subst h3
        exact .inr h2

set_option maxHeartbeats 4000000 in
theorem written_any (s : ByteArray) (hs : s.size ≤ 9223372036854775807) (w : World) :
    Calls Tryd.prog 107 #[.string s] w fun e w' => e = .returned (.bool (writB s.data.toList)) ∧ w = w' := by
  have hsl : s.data.toList.length = s.size := by simp
  have l0 : (0 : Int) ≤ (s.size : Int) := by omega
  obtain ⟨b, hb⟩ : ∃ b, writB s.data.toList = b := ⟨_, rfl⟩
  rw [hb]
  have HB := hideIt hb
  clear hb
  go_enter Tryd.func107, Tryd.ntmps107
  go_wp2
  go_loopg [6] s.size (fun gk i wr => ∃ k : Nat, k ≤ s.size ∧ gk = s.size - k ∧ i = .int .i64 k ∧ (∀ c ∈ s.data.toList.take k, IsD c) ∧ wr = w)
  case atStart => exact ⟨0, Nat.zero_le _, rfl, rfl, by simp, rfl⟩
  case round =>
    obtain ⟨k, hk, hgk, rfl, hd, rfl⟩ := hrel
    have HG := hideIt hgk
    have HD := hideIt hd
    clear hgk hd
    by_cases hlt : k < s.size
    · have i0 : (0 : Int) ≤ (k : Int) := by omega
      have i1 : (k : Int) < (s.size : Int) := by omega
      have hts : s.data.toList.take (k + 1) = s.data.toList.take k ++ [s[k]] := by
        rw [List.take_succ_eq_append_getElem (by simpa using hlt)]; rfl
      have hmem : s[k] ∈ s.data.toList := by
        have : s.data.toList[k]'(by omega) ∈ s.data.toList := List.getElem_mem _
        exact this
      have HTS := hideIt hts
      have HM := hideIt hmem
      clear hts hmem
      have hno : ¬ IsD s[k] → writB s.data.toList = false := fun h => by
        rw [← Bool.not_eq_true, writB_iff]
        exact fun hw => h (hw.1 _ HM.out)
      have HNO := hideIt hno
      clear hno
      obtain ⟨c, hc⟩ : ∃ c, s[k] = c := ⟨_, rfl⟩
      rw [hc] at HTS HM HNO
      by_cases h0 : c.toNat < 48
      · have hr := HNO.out (fun h => by have := h.1; omega)
        rw [HB.out] at hr
        have HR := hideIt hr
        clear hr
        have j0 : c < 48 := UInt8.lt_iff_toNat_lt.2 h0
        go_wp2
        go_ret
        exact ⟨by rw [HR.out]; rfl, rfl⟩
      · by_cases h1 : 57 < c.toNat
        · have hr := HNO.out (fun h => by have := h.2; omega)
          rw [HB.out] at hr
          have HR := hideIt hr
          clear hr
          go_wp2
          go_ret
          exact ⟨by rw [HR.out]; rfl, rfl⟩
        · go_wp2
          go_roundg (s.size - (k + 1))
          case measure => have := HG.out; omega
          case rel =>
            refine ⟨k + 1, by omega, rfl, by go_num, ?_, rfl⟩
            rw [HTS.out]
            intro d hd
            rcases List.mem_append.1 hd with hd | hd
            · exact HD.out d hd
            · rw [List.mem_singleton] at hd; subst hd; exact ⟨by omega, by omega⟩
    · have e : k = s.size := by omega
      subst e
      have hall : ∀ c ∈ s.data.toList, IsD c := by
        have := HD.out
        rwa [List.take_of_length_le (by omega)] at this
      have HA := hideIt hall
      clear hall hlt
      have hts := ByteArray.toList_eq s
      obtain ⟨l, hl⟩ : ∃ l, s.data.toList = l := ⟨_, rfl⟩
      have hb := HB.out
      rw [hl] at HA hts hsl hb
      clear HD HB
      rcases l with _ | ⟨c, r⟩
      · have HL := hideIt hl
        have HBB := hideIt (show b = false by rw [← hb]; rfl)
        clear hl hsl hb
        go_wp2
        go_ret
        exact ⟨by rw [HBB.out]; rfl, rfl⟩
      · have hz : 0 < s.size := by rw [← hsl]; simp
        have hi0 : s[0] = c := by
          have : s.data.toList[0]'(by rw [hl]; simp) = c := by simp [hl]
          exact this
        have z0 : (0 : Int) < (s.size : Int) := by omega
        have hwb : writB (c :: r) = ((c :: r) == [48] || decide (c ≠ 48)) := by
          unfold writB
          rw [List.all_eq_true.2 (fun x hx => by have := HA.out x hx; unfold IsD at this; simpa using this)]
          by_cases h : c = 48 <;> simp [h]
        rw [hwb] at hb
        clear hwb
        by_cases h48 : c = 48
        · subst h48
          rcases r with _ | ⟨d, r⟩
          · have HBB := hideIt (show b = true by rw [← hb]; rfl)
            clear hl hsl hb
            go_wp2
            go_ret
            exact ⟨by rw [HBB.out]; rfl, rfl⟩
          · have HBB := hideIt (show b = false by rw [← hb]; rfl)
            clear hl hsl hb
            go_wp2
            go_ret
            exact ⟨by rw [HBB.out]; rfl, rfl⟩
        · have HBB := hideIt (show b = true by rw [← hb]; simp [h48])
          have g1 : (c == 48) = false := by rw [beq_eq_false_iff_ne]; exact h48
          have g2 : ((c.toNat : Int) != 48) = true := by
            rw [bne_iff_ne]; intro h; exact h48 (UInt8.toNat_inj.1 (by rw [show (48 : UInt8).toNat = 48 from rfl]; omega))
          clear hl hsl hb
          go_wp2
          go_ret
          exact ⟨by rw [HBB.out]; rfl, rfl⟩

set_option maxHeartbeats 4000000 in
theorem behind_any (ah al d : Int) (a1 : Word ah) (a0 : Word al) (d0 : 0 ≤ d) (d9 : d < 10) (w : World) :
    Calls Tryd.prog 108 #[.agg #[.int .u64 ah, .int .u64 al], .int .u8 d] w (Fit (nv ah al * 10 + d) w.heap.size w) := by
  obtain ⟨nA0, nA1⟩ := nv_word a1 a0
  have wd : Word d := ⟨d0, by omega⟩
  have hw : IntKind.u64.wrap d = d := by rw [IntKind.wrap_u64]; omega
  have A0 : Box ((w.alloc (.cells #[.int .u64 ah, .int .u64 al] 45)).alloc (.cells #[.int .u64 0, .int .u64 0] 45)) w.heap.size 45 #[.int .u64 ah, .int .u64 al] := (Box.made w _ _).past _
  have B0 : Box ((w.alloc (.cells #[.int .u64 ah, .int .u64 al] 45)).alloc (.cells #[.int .u64 0, .int .u64 0] 45)) (w.heap.size + 1) 45 #[.int .u64 0, .int .u64 0] := by
    have := Box.made (w.alloc (.cells #[.int .u64 ah, .int .u64 al] 45)) 45 #[.int .u64 0, .int .u64 0]
    simpa using this
  have L0 : Below w.heap.size w ((w.alloc (.cells #[.int .u64 ah, .int .u64 al] 45)).alloc (.cells #[.int .u64 0, .int .u64 0] 45)) := by repeat (first | exact Below.refl _ _ | apply Below.drew | apply below_drewN | refine Below.alloc ?_ (by simp; try omega) _ | refine Below.setCell ?_ (by simp; try omega) _)
  cases hr : room (nv ah al * 10)
  · have hno := room_not.1 hr
    have hr2 : room (nv ah al * 10 + d) = false := room_not.2 (by omega)
    have cT := fun u : World => (times_any ah al 10 a1 a0 word_lit u).mono fun e w' hf => Fit.no hr hf
    rw [show Fit (nv ah al * 10 + d) w.heap.size w = fun e w' => e = .returned (.tuple #[.agg #[.int .u64 0, .int .u64 0], .int .i64 10]) ∧ Below w.heap.size w w' from by unfold Fit; rw [rh_no hr2, rl_no hr2, re_no hr2]]
    clear hno hr hr2 hw
    go_enter Tryd.func108, Tryd.ntmps108
    go_upto_region 1 with fail
    generalize (w.alloc (.cells #[.int .u64 ah, .int .u64 al] 45)).alloc (.cells #[.int .u64 0, .int .u64 0] 45) = W at *
    obtain ⟨p1, p2, p3⟩ := A0.num
    go_wp2_with (first
      | (go_at_call 115; refine (cT _).mono ?_; rintro e w1 ⟨rfl, h1⟩
         have A1 := A0.call h1
         have B1 := B0.call h1
         have L1 := chain L0 h1
         obtain ⟨q1, q2, q3⟩ := A1.num
         obtain ⟨r1, r2, r3⟩ := B1.num
         have q4 := A1.free 0
         have q5 := A1.free 1
         have r4 := B1.free 0
         have r5 := B1.free 1))
    have ee := (((B1.apart (p := ⟨w.heap.size, 0, none⟩) (by simp) (.int .u64 0)).apart (p := ⟨w.heap.size, 1, none⟩) (by simp) (.int .u64 0)).wrote 0 (.int .u64 0)).wrote 1 (.int .u64 0)
    have e0 := ee.read 0
    have e1 := ee.read 1
    simp only [Nat.reduceLT, List.setIfInBounds_toArray, List.set_cons_zero, List.set_cons_succ, List.getElem?_toArray, List.getElem?_cons_zero, List.getElem?_cons_succ] at e0 e1
    exact bodyPost_ret (v := .tuple #[.agg #[.int .u64 0, .int .u64 0], .int .i64 10]) (by simp [results, Tryd.results108, go_sem, e0, e1]) rfl
      ⟨rfl, by repeat (first | exact L1 | refine Below.setCell ?_ (by simp) _)⟩
  · obtain ⟨th, tl, t1, t0, ht⟩ := halves (s := nv ah al * 10) (by omega) (room_iff.1 hr).2
    have cT := fun u : World => (times_any ah al 10 a1 a0 word_lit u).mono fun e w' hf => Fit.yes ht t1 t0 hf
    have cA := fun u : World => add_any th tl 0 d t1 t0 word_lit wd u
    rw [ht, show nv 0 d = d by unfold nv; omega] at cA
    obtain ⟨sh, hsh⟩ : ∃ sh, rh (nv ah al * 10 + d) = sh := ⟨_, rfl⟩
    obtain ⟨sl, hsl⟩ : ∃ sl, rl (nv ah al * 10 + d) = sl := ⟨_, rfl⟩
    obtain ⟨se, hse⟩ : ∃ se, re (nv ah al * 10 + d) = se := ⟨_, rfl⟩
    have hF : ∀ B u, Fit (nv ah al * 10 + d) B u = fun e w' => e = .returned (.tuple #[.agg #[.int .u64 sh, .int .u64 sl], .int .i64 se]) ∧ Below B u w' := fun B u => by unfold Fit; rw [hsh, hsl, hse]
    simp only [hF] at cA ⊢
    clear hr ht hsh hsl hse hF nA0 nA1
    go_enter Tryd.func108, Tryd.ntmps108
    go_upto_region 1 with fail
    generalize (w.alloc (.cells #[.int .u64 ah, .int .u64 al] 45)).alloc (.cells #[.int .u64 0, .int .u64 0] 45) = W at *
    obtain ⟨p1, p2, p3⟩ := A0.num
    go_upto_region 4 with (first
      | (go_at_call 115; refine (cT _).mono ?_; rintro e w1 ⟨rfl, h1⟩
         have A1 := A0.call h1
         have B1 := B0.call h1
         have L1 := chain L0 h1
         obtain ⟨q1, q2, q3⟩ := A1.num
         have q4 := A1.free 0
         have q5 := A1.free 1))
    have A2 := (A1.wrote 0 (.int .u64 th)).wrote 1 (.int .u64 tl)
    have B2 := (B1.apart (p := ⟨w.heap.size, 0, none⟩) (by simp) (.int .u64 th)).apart (p := ⟨w.heap.size, 1, none⟩) (by simp) (.int .u64 tl)
    have L2 : Below w.heap.size w ((w1.setCell ⟨w.heap.size, 0, none⟩ (.int .u64 th)).setCell ⟨w.heap.size, 1, none⟩ (.int .u64 tl)) := (L1.setCell (by simp) _).setCell (by simp) _
    have A2' : Box ((w1.setCell ⟨w.heap.size, 0, none⟩ (.int .u64 th)).setCell ⟨w.heap.size, 1, none⟩ (.int .u64 tl)) w.heap.size 45 #[.int .u64 th, .int .u64 tl] := by simpa using A2
    clear A1 B1 L1 A0 B0 L0 A2 q1 q2 q3 q4 q5 p1 p2 p3
    generalize (w1.setCell ⟨w.heap.size, 0, none⟩ (.int .u64 th)).setCell ⟨w.heap.size, 1, none⟩ (.int .u64 tl) = V at *
    go_cut [5] (fun s5 wx => s5 = .int .i64 se ∧ Box wx (w.heap.size + 1) 45 #[.int .u64 sh, .int .u64 sl] ∧ Below w.heap.size w wx)
    case first =>
      go_region_held3 (fun w' => Below w.heap.size w w' ∧ w'.cell? ⟨w.heap.size, 0, none⟩ = some (.int .u64 th) ∧ w'.cell? ⟨w.heap.size, 1, none⟩ = some (.int .u64 tl))
        (first
          | exact ⟨L2.drew, A2'.read 0, A2'.read 1⟩
          | exact ⟨chain L2.drew k2, (A2'.draw.call k2).read 0, (A2'.draw.call k2).read 1⟩
          | exact ⟨chain (chain L2.drew k2) k3, ((A2'.draw.call k2).call k3).read 0, ((A2'.draw.call k2).call k3).read 1⟩
          | exact ⟨((chain (chain L2.drew k2) k3).setCell (by simp) _).setCell (by simp) _, ((((A2'.draw.call k2).call k3).apart (by simp) _).apart (by simp) _).read 0, ((((A2'.draw.call k2).call k3).apart (by simp) _).apart (by simp) _).read 1⟩)
        (first
          | (go_at_call 31; refine (of_any _ _).mono ?_; rintro e v2 ⟨rfl, k2⟩)
          | (go_at_call 65; ((with_reducible refine (cA _).mono ?_); rintro e v3 ⟨rfl, k3⟩)
             have R3 := (B2.draw.call k2).call k3
             obtain ⟨g1, g2, g3⟩ := R3.num
             have g4 := R3.free 0
             have g5 := R3.free 1))
      all_goals go_wp2_with fail
      all_goals go_meet
      all_goals exact ⟨rfl, (R3.wrote 0 _).wrote 1 _, ((chain (chain L2.drew k2) k3).setCell (by simp) _).setCell (by simp) _⟩
    case rest =>
      obtain ⟨rfl, hb, hl⟩ := hcut
      have e0 := hb.read 0
      have e1 := hb.read 1
      simp only [Nat.reduceLT, List.setIfInBounds_toArray, List.set_cons_zero, List.set_cons_succ, List.getElem?_toArray, List.getElem?_cons_zero, List.getElem?_cons_succ] at e0 e1
      go_wp2
      exact bodyPost_ret (v := .tuple #[.agg #[.int .u64 sh, .int .u64 sl], .int .i64 se]) (by simp [results, Tryd.results108, go_sem, e0, e1]) rfl ⟨rfl, hl⟩

/-- What Parse tells of a text. -/
def parH (l : List UInt8) : Int := if writB l then rh (pv l : Int) else 0
def parL (l : List UInt8) : Int := if writB l then rl (pv l : Int) else 0
def parE (l : List UInt8) : Int := if writB l then re (pv l : Int) else 20
def ParseTells (l : List UInt8) (B : Nat) (w : World) (e : Ending) (w' : World) : Prop :=
  e = .returned (.tuple #[.agg #[.int .u64 (parH l), .int .u64 (parL l)], .int .i64 (parE l)]) ∧ Below B w w'
theorem par_no {l : List UInt8} (h : writB l = false) : parH l = 0 ∧ parL l = 0 ∧ parE l = 20 := by simp [parH, parL, parE, h]
theorem par_big {l : List UInt8} (h : writB l = true) (hr : room (pv l : Int) = false) : parH l = 0 ∧ parL l = 0 ∧ parE l = 10 := by
  simp [parH, parL, parE, h, rh_no hr, rl_no hr, re_no hr]
theorem par_yes {l : List UInt8} (h : writB l = true) (hr : room (pv l : Int) = true) : parH l = rh (pv l : Int) ∧ parL l = rl (pv l : Int) ∧ parE l = 0 := by
  simp [parH, parL, parE, h, re_yes hr]

set_option maxHeartbeats 8000000 in
theorem parse_any (s : ByteArray) (hs : s.size ≤ 9223372036854775807) (w : World) : Calls Tryd.prog 89 #[.string s] w (ParseTells s.data.toList w.heap.size w) := by
  have hsl : s.data.toList.length = s.size := by simp
  have l0 : (0 : Int) ≤ (s.size : Int) := by omega
  obtain ⟨l, hl⟩ : ∃ l, s.data.toList = l := ⟨_, rfl⟩
  obtain ⟨ph, hph⟩ : ∃ ph, parH l = ph := ⟨_, rfl⟩
  obtain ⟨pl, hpl⟩ : ∃ pl, parL l = pl := ⟨_, rfl⟩
  obtain ⟨pe, hpe⟩ : ∃ pe, parE l = pe := ⟨_, rfl⟩
  obtain ⟨b, hb⟩ : ∃ b, writB l = b := ⟨_, rfl⟩
  have cW := fun u : World => written_any s hs u
  rw [hl, hb] at cW
  rw [show ParseTells s.data.toList w.heap.size w = fun e w' => e = .returned (.tuple #[.agg #[.int .u64 ph, .int .u64 pl], .int .i64 pe]) ∧ Below w.heap.size w w' from by unfold ParseTells; rw [hl, hph, hpl, hpe]]
  rw [hl] at hsl
  have A0 := Box.made w 45 #[.int .u64 0, .int .u64 0]
  have L0 : Below w.heap.size w (w.alloc (.cells #[.int .u64 0, .int .u64 0] 45)) := by repeat (first | exact Below.refl _ _ | apply Below.drew | apply below_drewN | refine Below.alloc ?_ (by simp; try omega) _ | refine Below.setCell ?_ (by simp; try omega) _)
  cases b
  · obtain ⟨e1, e2, e3⟩ := par_no hb
    obtain rfl : ph = 0 := by omega
    obtain rfl : pl = 0 := by omega
    obtain rfl : pe = 20 := by omega
    clear e1 e2 e3 hph hpl hpe hb hl hsl
    go_enter Tryd.func89, Tryd.ntmps89
    go_upto_region 1 with fail
    generalize w.alloc (.cells #[.int .u64 0, .int .u64 0] 45) = W at *
    obtain ⟨p1, p2, p3⟩ := A0.num
    have p4 := A0.free 0
    have p5 := A0.free 1
    go_wp2_with (first
      | (go_at_call 107; refine (cW _).mono ?_; rintro e w1 ⟨rfl, rfl⟩))
    have ee := (A0.wrote 0 (.int .u64 0)).wrote 1 (.int .u64 0)
    have e0 := ee.read 0
    have e1 := ee.read 1
    simp only [Nat.reduceLT, List.setIfInBounds_toArray, List.set_cons_zero, List.set_cons_succ, List.getElem?_toArray, List.getElem?_cons_zero, List.getElem?_cons_succ] at e0 e1
    exact bodyPost_ret (v := .tuple #[.agg #[.int .u64 0, .int .u64 0], .int .i64 20]) (by simp [results, Tryd.results89, go_sem, e0, e1]) rfl
      ⟨rfl, by repeat (first | exact L0 | refine Below.setCell ?_ (by simp) _)⟩
  · have HB := hideIt hb
    have HPH := hideIt hph
    have HPL := hideIt hpl
    have HPE := hideIt hpe
    have HL := hideIt hl
    clear hb hph hpl hpe hl
    go_enter Tryd.func89, Tryd.ntmps89
    go_upto_region 1 with fail
    have hW : (w.alloc (.cells #[.int .u64 0, .int .u64 0] 45)).heap.size = w.heap.size + 1 := by simp
    generalize w.alloc (.cells #[.int .u64 0, .int .u64 0] 45) = W at *
    go_upto_region 4 with (first
      | (go_at_call 107; refine (cW _).mono ?_; rintro e w1 ⟨rfl, rfl⟩))
    have A1 := A0.past (.cells #[.int .u64 0, .int .u64 0] 45)
    have B1 := Box.made W 45 #[.int .u64 0, .int .u64 0]
    rw [hW] at B1
    have L1 : Below w.heap.size w (W.alloc (.cells #[.int .u64 0, .int .u64 0] 45)) := chainA L0 _
    simp only [hW] at *
    generalize W.alloc (.cells #[.int .u64 0, .int .u64 0] 45) = V at *
    clear A0 L0 hW
    go_wp2
    go_loopg [13] s.size (fun gk i wr => ∃ (k : Nat) (x y : Int), k ≤ s.size ∧ gk = s.size - k ∧ i = .int .i64 k ∧ rh (pv (l.take k) : Int) = x ∧ rl (pv (l.take k) : Int) = y ∧ room (pv (l.take k) : Int) = true ∧
      Box wr w.heap.size 45 #[.int .u64 0, .int .u64 0] ∧ Box wr (w.heap.size + 1) 45 #[.int .u64 x, .int .u64 y] ∧ Below w.heap.size w wr)
    case atStart => exact ⟨0, 0, 0, Nat.zero_le _, rfl, rfl, by simp [pv, rh, room], by simp [pv, rl, room], by simp [pv, room], A1, B1, L1⟩
    case round =>
      obtain ⟨k, x, y, hk, hgk, rfl, hx, hy, hroom, hA, hB, hL⟩ := hrel
      have HG := hideIt hgk
      clear hgk A1 B1 L1
      by_cases hlt : k < s.size
      · obtain ⟨c, hc⟩ : ∃ c, s[k] = c := ⟨_, rfl⟩
        have hkl : k < l.length := by omega
        have hcl : l[k] = c := by
          have hll := HL.out
          subst hll
          exact hc
        have htk : l.take (k + 1) = l.take k ++ [c] := by rw [List.take_succ_eq_append_getElem hkl, hcl]
        have hD : IsD c := ((writB_iff l).1 HB.out).1 c (by rw [← hcl]; exact List.getElem_mem _)
        have hD1 : 48 ≤ c.toNat := hD.1
        have hD2 : c.toNat ≤ 57 := hD.2
        have wx : Word x := by rw [← hx]; exact rh_word _
        have wy : Word y := by rw [← hy]; exact rl_word _
        have hv : nv x y = (pv (l.take k) : Int) := by rw [← hx, ← hy]; exact nv_r hroom
        have cB := fun u : World => behind_any x y ((c.toNat : Int) - 48) wx wy (by omega) (by omega) u
        have hs1 : (pv (l.take (k + 1)) : Int) = nv x y * 10 + ((c.toNat : Int) - 48) := by rw [htk, pv_snoc, hv]; omega
        rw [← hs1] at cB
        obtain ⟨sh, hsh⟩ : ∃ sh, rh (pv (l.take (k + 1)) : Int) = sh := ⟨_, rfl⟩
        obtain ⟨sl, hsl⟩ : ∃ sl, rl (pv (l.take (k + 1)) : Int) = sl := ⟨_, rfl⟩
        obtain ⟨se, hse⟩ : ∃ se, re (pv (l.take (k + 1)) : Int) = se := ⟨_, rfl⟩
        have hF : ∀ B u, Fit (pv (l.take (k + 1)) : Int) B u = fun e w' => e = .returned (.tuple #[.agg #[.int .u64 sh, .int .u64 sl], .int .i64 se]) ∧ Below B u w' := fun B u => by unfold Fit; rw [hsh, hsl, hse]
        simp only [hF] at cB
        have HSH := hideIt hsh
        have HSL := hideIt hsl
        have HSE := hideIt hse
        have y1 : IntKind.u8.wrap ((c.toNat : Int) - 48) = (c.toNat : Int) - 48 := by rw [IntKind.wrap_u8]; omega
        have i0 : (0 : Int) ≤ (k : Int) := by omega
        have i1 : (k : Int) < (s.size : Int) := by omega
        clear hF hsh hsl hse hs1 hv hx hy hroom hD hcl htk hkl
        go_upto_region 8 with fail
        go_cut [6] from 16 to 25 (fun s6 wx => s6 = .int .i64 se ∧ Box wx w.heap.size 45 #[.int .u64 0, .int .u64 0] ∧ Box wx (w.heap.size + 1) 45 #[.int .u64 sh, .int .u64 sl] ∧ Below w.heap.size w wx)
        case first =>
          obtain ⟨r1, r2, r3⟩ := hB.num
          go_region_with (first
            | (go_at_call 108; ((with_reducible refine (cB _).mono ?_); rintro e v2 ⟨rfl, k2⟩)
               have A3 := hA.draw.call k2
               have R3 := hB.draw.call k2
               have L3 := chain hL.drew k2
               obtain ⟨g1, g2, g3⟩ := R3.num
               have g4 := R3.free 0
               have g5 := R3.free 1))
          all_goals go_wp2_with fail
          all_goals go_meet
          all_goals exact ⟨rfl, (A3.apart (by simp) _).apart (by simp) _, (R3.wrote 0 _).wrote 1 _, (L3.setCell (by simp) _).setCell (by simp) _⟩
        case rest =>
          obtain ⟨rfl, hA2, hB2, hL2⟩ := hcut
          clear cB cW hA hB hL
          obtain ⟨p1, p2, p3⟩ := hA2.num
          have p4 := hA2.free 0
          have p5 := hA2.free 1
          cases hr2 : room (pv (l.take (k + 1)) : Int)
          · have hno : room (pv l : Int) = false := by
              have h1 := room_not.1 hr2
              have h2 := pv_le_append (l.take (k + 1)) (l.drop (k + 1))
              rw [List.take_append_drop] at h2
              exact room_not.2 (by omega)
            obtain ⟨e1, e2, e3⟩ := par_big HB.out hno
            have q1 : ph = 0 := by rw [← HPH.out, e1]
            have q2 : pl = 0 := by rw [← HPL.out, e2]
            have q3 : pe = 10 := by rw [← HPE.out, e3]
            have q4 : se = 10 := by rw [← HSE.out, re_no hr2]
            subst q1 q2 q3 q4
            clear hno e1 e2 e3 hr2
            go_wp2
            have ee := (hA2.wrote 0 (.int .u64 0)).wrote 1 (.int .u64 0)
            have e0 := ee.read 0
            have e1 := ee.read 1
            simp only [Nat.reduceLT, List.setIfInBounds_toArray, List.set_cons_zero, List.set_cons_succ, List.getElem?_toArray, List.getElem?_cons_zero, List.getElem?_cons_succ] at e0 e1
            exact bodyPost_ret (v := .tuple #[.agg #[.int .u64 0, .int .u64 0], .int .i64 10]) (by simp [results, Tryd.results89, go_sem, e0, e1]) rfl
              ⟨rfl, by repeat (first | exact hL2 | refine Below.setCell ?_ (by simp) _)⟩
          · have q4 : se = 0 := by rw [← HSE.out, re_yes hr2]
            subst q4
            have HR2 := hideIt hr2
            have v1 : IntKind.i64.wrap ((k : Int) + 1) = (k : Int) + 1 := IntWalk.i64_in _ (by omega)
            clear hr2
            go_wp2
            go_roundg (s.size - (k + 1))
            case measure => have := HG.out; omega
            case rel => exact ⟨k + 1, sh, sl, by omega, rfl, by go_num, HSH.out, HSL.out, HR2.out, hA2, hB2, hL2⟩
      · have e : k = s.size := by omega
        subst e
        have ht : l.take s.size = l := List.take_of_length_le (by omega)
        rw [ht] at hx hy hroom
        obtain ⟨e1, e2, e3⟩ := par_yes HB.out hroom
        have q1 : ph = x := by rw [← HPH.out, e1, hx]
        have q2 : pl = y := by rw [← HPL.out, e2, hy]
        have q3 : pe = 0 := by rw [← HPE.out, e3]
        subst q1 q2 q3
        clear ht hx hy hroom e1 e2 e3 cW
        obtain ⟨p1, p2, p3⟩ := hA.num
        have p4 := hA.free 0
        have p5 := hA.free 1
        obtain ⟨r1, r2, r3⟩ := hB.num
        go_wp2
        have ee := (hA.wrote 0 (.int .u64 ph)).wrote 1 (.int .u64 pl)
        have e0 := ee.read 0
        have e1 := ee.read 1
        simp only [Nat.reduceLT, List.setIfInBounds_toArray, List.set_cons_zero, List.set_cons_succ, List.getElem?_toArray, List.getElem?_cons_zero, List.getElem?_cons_succ] at e0 e1
        exact bodyPost_ret (v := .tuple #[.agg #[.int .u64 ph, .int .u64 pl], .int .i64 0]) (by simp [results, Tryd.results89, go_sem, e0, e1]) rfl
          ⟨rfl, by repeat (first | exact hL | refine Below.setCell ?_ (by simp) _)⟩
end Go.Proofs.YthindbmgnkohhaaDoor
