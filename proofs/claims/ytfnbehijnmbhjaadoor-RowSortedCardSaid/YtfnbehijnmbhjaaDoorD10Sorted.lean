/-
  Plain words on what the statement of sorted rows counts: which row of the first is which of the second.
-/
import Derived.Test.YtfnbehijnmbhjaaDoorD10Merge
namespace Go.Proofs.YtfnbehijnmbhjaaDoor
set_option linter.unusedVariables false
set_option linter.unusedSimpArgs false
set_option maxRecDepth 10000
open Go.RowKit Go.Sort

/-- One is the other, sorted, rows of one Id as they stood. -/
def Sd (xs ys : List Rw) : Prop := Sl ys ∧ ∀ k, fil k ys = fil k xs
theorem fil_yes {k : List UInt8} {x : Rw} (l : List Rw) (h : keyR x = k) : fil k (x :: l) = x :: fil k l := by simp [fil, h]
theorem fil_not {k : List UInt8} {x : Rw} (l : List Rw) (h : keyR x ≠ k) : fil k (x :: l) = fil k l := by simp [fil, h]
theorem sg_all (d : Array Rw) : sg d 0 d.size = d.toList := by
  unfold sg
  apply List.ext_getElem
  · simp
  · intro i h1 h2
    have hi : i < d.size := by simpa using h2
    rw [List.getElem_map, List.getElem_range', Nat.one_mul, Nat.zero_add, getElem!_pos d i hi, Array.getElem_toList]
theorem Mg.sorted {xs : List Rw} {d : Array Rw} (h : Mg xs.toArray d 0 xs.length) : d.toList.length = xs.length ∧ Sd xs d.toList := by
  have hs : d.size = xs.length := by have := h.size; simpa using this
  have e1 : sg d 0 xs.length = d.toList := by rw [← hs]; exact sg_all d
  have e2 : sg xs.toArray 0 xs.length = xs := by have := sg_all xs.toArray; simpa using this
  obtain ⟨k, k2⟩ := h
  rw [e1] at k2
  refine ⟨by simpa using hs, k2, fun q => ?_⟩
  have := k.2.2 q
  rw [e1, e2] at this
  exact this
theorem Sd.same {xs ys zs : List Rw} (h1 : Sd xs ys) (h2 : Sd xs zs) : ys = zs := Sl_unique ys zs h1.1 h2.1 fun k => (h1.2 k).trans (h2.2 k).symm
theorem Sd.self {xs ys : List Rw} (h1 : Sd xs ys) : Sd ys ys := ⟨h1.1, fun _ => rfl⟩

def cntR (k : List UInt8) (l : List Rw) : Nat := (fil k l).length
theorem cntR_nil (k : List UInt8) : cntR k [] = 0 := rfl
theorem at_bang {l : List Rw} {j : Nat} (h : j < l.length) : l[j]? = some l[j]! := by rw [List.getElem?_eq_getElem h, getElem!_pos l j h]
theorem cntR_step (k : List UInt8) (l : List Rw) (j : Nat) (h : j < l.length) : cntR k (l.take (j + 1)) = cntR k (l.take j) + (if keyR l[j]! = k then 1 else 0) := by
  unfold cntR
  rw [List.take_add_one, at_bang h, fil_app, List.length_append]
  congr 1
  rw [Option.toList_some]
  by_cases e : keyR l[j]! = k
  · rw [if_pos e, fil_yes [] e]; rfl
  · rw [if_neg e, fil_not [] e]; rfl
theorem cntR_mono (k : List UInt8) (l : List Rw) : ∀ (q j : Nat), j ≤ q → q ≤ l.length → cntR k (l.take j) ≤ cntR k (l.take q)
  | 0, j, h, _ => by
    have e : j = 0 := by omega
    rw [e]
    exact Nat.le_refl _
  | q + 1, j, h, hq => by
    by_cases e : j = q + 1
    · rw [e]; exact Nat.le_refl _
    · have h1 := cntR_mono k l q j (by omega) (by omega)
      rw [cntR_step k l q (by omega)]
      omega
theorem nth_fil (k : List UInt8) : ∀ (l : List Rw) (c : Nat) (x : Rw), (fil k l)[c]? = some x → ∃ p, l[p]? = some x ∧ keyR x = k ∧ cntR k (l.take p) = c
  | [], c, x, h => by simp [fil] at h
  | a :: r, c, x, h => by
    by_cases e : keyR a = k
    · have e1 : fil k (a :: r) = a :: fil k r := by simp [fil, e]
      rw [e1] at h
      cases c with
      | zero =>
        simp at h
        subst h
        exact ⟨0, rfl, e, rfl⟩
      | succ c =>
        obtain ⟨p, h1, h2, h3⟩ := nth_fil k r c x (by simpa using h)
        refine ⟨p + 1, by simpa using h1, h2, ?_⟩
        rw [List.take_succ_cons]
        unfold cntR at *
        have e2 : fil k (a :: r.take p) = a :: fil k (r.take p) := by simp [fil, e]
        rw [e2, List.length_cons, h3]
    · have e1 : fil k (a :: r) = fil k r := by simp [fil, e]
      rw [e1] at h
      obtain ⟨p, h1, h2, h3⟩ := nth_fil k r c x h
      refine ⟨p + 1, by simpa using h1, h2, ?_⟩
      rw [List.take_succ_cons]
      unfold cntR at *
      have e2 : fil k (a :: r.take p) = fil k (r.take p) := by simp [fil, e]
      rw [e2, h3]
/-- Has a row gone by, when so many have been told? -/
def tk (xs ys : List Rw) (i j : Nat) : Bool := decide (cntR (keyR xs[j]!) (xs.take j) < cntR (keyR xs[j]!) (ys.take i))
theorem tk_none (xs ys : List Rw) (j : Nat) : tk xs ys 0 j = false := by
  unfold tk
  rw [List.take_zero, cntR_nil]
  exact decide_eq_false (Nat.not_lt_zero _)
/-- The row that is told next. -/
theorem tk_find (xs ys : List Rw) (h : Sd xs ys) (i : Nat) (hi : i < ys.length) :
    ∃ p, p < xs.length ∧ xs[p]! = ys[i]! ∧ cntR (keyR ys[i]!) (xs.take p) = cntR (keyR ys[i]!) (ys.take i) ∧ tk xs ys i p = false ∧ (∀ j, j < p → keyR xs[j]! = keyR ys[i]! → tk xs ys i j = true) ∧
      ∀ j, j < xs.length → tk xs ys (i + 1) j = (tk xs ys i j || decide (j = p)) := by
  obtain ⟨κ, hk⟩ : ∃ κ, keyR ys[i]! = κ := ⟨_, rfl⟩
  rw [hk]
  have e1 : (fil κ ys)[cntR κ (ys.take i)]? = some ys[i]! := by
    have e : ys = ys.take i ++ ys[i]! :: ys.drop (i + 1) := by
      rw [getElem!_pos ys i hi, ← List.drop_eq_getElem_cons hi, List.take_append_drop]
    have e2 : fil κ ys = fil κ (ys.take i) ++ ys[i]! :: fil κ (ys.drop (i + 1)) := by
      have e3 : fil κ (ys.take i ++ ys[i]! :: ys.drop (i + 1)) = fil κ (ys.take i) ++ ys[i]! :: fil κ (ys.drop (i + 1)) := by
        rw [fil_app, fil_yes _ hk]
      rw [← e] at e3
      exact e3
    rw [e2]
    unfold cntR
    rw [List.getElem?_append_right (Nat.le_refl _), Nat.sub_self]
    rfl
  rw [h.2 κ] at e1
  obtain ⟨p, h1, h2, h3⟩ := nth_fil κ xs _ _ e1
  have hp : p < xs.length := (List.getElem?_eq_some_iff.1 h1).1
  have ep : xs[p]! = ys[i]! := by
    rw [at_bang hp] at h1
    injection h1
  have hkp : keyR xs[p]! = κ := by rw [ep, hk]
  have below : ∀ j, j < p → keyR xs[j]! = κ → cntR κ (xs.take j) < cntR κ (ys.take i) := fun j hj hq => by
    have k1 := cntR_mono κ xs p (j + 1) hj (by omega)
    rw [cntR_step κ xs j (by omega), if_pos hq] at k1
    omega
  refine ⟨p, hp, ep, h3, ?_, fun j hj hq => ?_, fun j hj => ?_⟩
  · unfold tk
    rw [hkp, h3]
    exact decide_eq_false (Nat.lt_irrefl _)
  · unfold tk
    rw [hq]
    exact decide_eq_true (below j hj hq)
  · unfold tk
    rw [cntR_step _ ys i hi, hk]
    by_cases hq : keyR xs[j]! = κ
    · rw [hq, if_pos rfl]
      by_cases ej : j = p
      · subst ej
        rw [h3]
        simp
      · by_cases hlt : j < p
        · have := below j hlt hq
          rw [decide_eq_true this, decide_eq_true (by omega)]
          rfl
        · have k1 := cntR_mono κ xs j (p + 1) (by omega) (by omega)
          rw [cntR_step κ xs p hp, if_pos hkp] at k1
          rw [decide_eq_false (by omega), decide_eq_false (by omega), decide_eq_false ej]
          rfl
    · rw [if_neg (fun e => hq e.symm), Nat.add_zero]
      have ej : j ≠ p := fun e => hq (by rw [e]; exact hkp)
      rw [decide_eq_false ej, Bool.or_false]
/-- The last one told, if one of the same Id was. -/
def La (xs ys : List Rw) (i : Nat) (L : Int) : Prop := L = -1 ∨ ∃ q : Nat, L = (q : Int) ∧ q < xs.length ∧ 0 < i ∧ keyR xs[q]! = keyR ys[i - 1]! ∧ cntR (keyR ys[i - 1]!) (xs.take q) + 1 = cntR (keyR ys[i - 1]!) (ys.take i)
theorem La.at {xs ys : List Rw} {i : Nat} {L : Int} (h : La xs ys i L) : L = -1 ∨ (0 ≤ L ∧ L < xs.length) := by
  rcases h with h | ⟨q, h, h2, -⟩
  · exact .inl h
  · exact .inr (by omega)
theorem La.less {xs ys : List Rw} {i p : Nat} {L : Int} (h : La xs ys i L) (hs : L = -1 ∨ keyR ys[i]! = keyR ys[i - 1]!) (hp : p < xs.length) (hc : cntR (keyR ys[i]!) (xs.take p) = cntR (keyR ys[i]!) (ys.take i)) : L ≤ p := by
  rcases h with h | ⟨q, h, h1, h2, h3, h4⟩
  · omega
  · rcases hs with hs | hs
    · omega
    · rw [← hs] at h4
      by_cases k : p < q
      · have := cntR_mono (keyR ys[i]!) xs q p (by omega) (by omega)
        omega
      · omega
theorem La.next {xs ys : List Rw} {i p : Nat} (hi : i < ys.length) (hp : p < xs.length) (he : xs[p]! = ys[i]!) (hc : cntR (keyR ys[i]!) (xs.take p) = cntR (keyR ys[i]!) (ys.take i)) : La xs ys (i + 1) p := by
  refine .inr ⟨p, rfl, hp, Nat.succ_pos _, ?_, ?_⟩
  · rw [Nat.add_sub_cancel, he]
  · rw [Nat.add_sub_cancel, cntR_step _ ys i hi, if_pos rfl, hc]
theorem La.none (xs ys : List Rw) (i : Nat) : La xs ys i (-1) := .inl rfl
end Go.Proofs.YtfnbehijnmbhjaaDoor
