/-
  Plain words on who is placed where: who stays, who is new, and all of them, row by row.
-/
import Derived.Test.YtngofpdpangajaaDoorD12Acc
import Derived.Test.YtngofpdpangajaaDoorM10Mer
namespace Go.Proofs.YtngofpdpangajaaDoor
set_option linter.unusedVariables false
set_option linter.unusedSimpArgs false
set_option maxRecDepth 10000
open Go.RowKit Go.Sort

/-- The account of one who stays. -/
def stayA (was : List Ac) (r : Rw) : Option Ac := if (findA was (keyR r)).2 then some ⟨r.id, r.h, r.l, (findA was (keyR r)).1.salt, (findA was (keyR r)).1.slot⟩ else none
def newIn (was : List Ac) (r : Rw) : Bool := !(findA was (keyR r)).2
theorem stay_new {was : List Ac} {r : Rw} (h : newIn was r = true) : stayA was r = none := by
  unfold newIn at h
  unfold stayA
  rw [if_neg]
  simpa using h
theorem stay_old {was : List Ac} {r : Rw} (h : newIn was r = false) : stayA was r = some ⟨r.id, r.h, r.l, (findA was (keyR r)).1.salt, (findA was (keyR r)).1.slot⟩ := by
  unfold newIn at h
  unfold stayA
  rw [if_pos]
  simpa using h
section
variable (σ : ByteArray → ByteArray) (φ : ByteArray → Int) (A : Int)
/-- The account of one who is new, where these slots are taken. -/
def newA (T : List Int) (r : Rw) : Ac := ⟨r.id, r.h, r.l, σ r.id, (freeF A T (φ r.id)).1⟩
def newsL : List Int → List Rw → List Ac
  | _, [] => []
  | T, r :: rs => newA σ φ A T r :: newsL (T ++ [(newA σ φ A T r).slot]) rs
/-- All of them: who stays, and in the others' places these. -/
def weave (was : List Ac) : List Rw → List Ac → List Ac
  | [], _ => []
  | r :: rs, ns => match stayA was r with
    | some a => a :: weave was rs ns
    | none => ns.headD Ac.zero :: weave was rs ns.tail
def staysL (was : List Ac) (ys : List Rw) : List Ac := ys.filterMap (stayA was)
def stayT (was : List Ac) (ys : List Rw) : List Int := (staysL was ys).map Ac.slot
def placeL (was : List Ac) (ys : List Rw) : List Ac := weave was ys (newsL σ φ A (stayT was ys) (ys.filter (newIn was)))
/-- What one who is new does to the taken slots and to the accounts. -/
def stP (s : List Int × List Ac) (x : Nat × Rw) : List Int × List Ac := (s.1 ++ [(newA σ φ A s.1 x.2).slot], s.2.set x.1 (newA σ φ A s.1 x.2))
end
def cntN (was : List Ac) (l : List Rw) : Nat := (l.filter (newIn was)).length
/-- Who is new, each with its place. -/
def comK (was : List Ac) : Nat → List Rw → List (Nat × Rw)
  | _, [] => []
  | k, r :: rs => if newIn was r then (k, r) :: comK was (k + 1) rs else comK was (k + 1) rs
theorem weave_new {was : List Ac} {r : Rw} (h : newIn was r = true) (rs : List Rw) (ns : List Ac) : weave was (r :: rs) ns = ns.headD Ac.zero :: weave was rs ns.tail := by
  rw [weave, stay_new h]
theorem weave_old {was : List Ac} {r : Rw} (h : newIn was r = false) (rs : List Rw) (ns : List Ac) :
    weave was (r :: rs) ns = ⟨r.id, r.h, r.l, (findA was (keyR r)).1.salt, (findA was (keyR r)).1.slot⟩ :: weave was rs ns := by
  rw [weave, stay_old h]
theorem com_new {was : List Ac} {r : Rw} (h : newIn was r = true) (k : Nat) (rs : List Rw) : comK was k (r :: rs) = (k, r) :: comK was (k + 1) rs := by rw [comK, if_pos h]
theorem com_old {was : List Ac} {r : Rw} (h : newIn was r = false) (k : Nat) (rs : List Rw) : comK was k (r :: rs) = comK was (k + 1) rs := by rw [comK, if_neg (by rw [h]; exact Bool.noConfusion)]
theorem weave_len (was : List Ac) (ys : List Rw) : ∀ ns, (weave was ys ns).length = ys.length := by
  induction ys with
  | nil => intro ns; rfl
  | cons r rs ih =>
    intro ns
    cases h : newIn was r with
    | true => rw [weave_new h, List.length_cons, List.length_cons, ih]
    | false => rw [weave_old h, List.length_cons, List.length_cons, ih]
theorem cnt_new {was : List Ac} {r : Rw} (h : newIn was r = true) (rs : List Rw) : cntN was (r :: rs) = cntN was rs + 1 := by simp [cntN, List.filter_cons, h]
theorem cnt_old {was : List Ac} {r : Rw} (h : newIn was r = false) (rs : List Rw) : cntN was (r :: rs) = cntN was rs := by simp [cntN, List.filter_cons, h]
theorem weave_app (was : List Ac) (a b : List Rw) : ∀ ns, weave was (a ++ b) ns = weave was a ns ++ weave was b (ns.drop (cntN was a)) := by
  induction a with
  | nil => intro ns; rfl
  | cons r rs ih =>
    intro ns
    rw [List.cons_append]
    cases h : newIn was r with
    | true =>
      rw [weave_new h, weave_new h, cnt_new h, ih, List.cons_append]
      congr 2
      rw [← List.drop_one, List.drop_drop, Nat.add_comm]
    | false => rw [weave_old h, weave_old h, cnt_old h, ih, List.cons_append]
theorem weave_more (was : List Ac) (a : List Rw) : ∀ ns ms, ns.length = cntN was a → weave was a (ns ++ ms) = weave was a ns := by
  induction a with
  | nil => intro ns ms _; rfl
  | cons r rs ih =>
    intro ns ms hl
    cases h : newIn was r with
    | true =>
      rw [cnt_new h] at hl
      cases ns with
      | nil => cases hl
      | cons n ns =>
        rw [weave_new h, weave_new h]
        simp only [List.cons_append, List.headD_cons, List.tail_cons]
        rw [ih ns ms (by simp at hl; omega)]
    | false =>
      rw [cnt_old h] at hl
      rw [weave_old h, weave_old h, ih ns ms hl]
theorem weave_set (was : List Ac) (a b : List Rw) (r : Rw) (hr : newIn was r = true) (ns : List Ac) (hn : ns.length = cntN was a) (x : Ac) :
    (weave was (a ++ r :: b) ns).set a.length x = weave was (a ++ r :: b) (ns ++ [x]) := by
  rw [weave_app, weave_app, weave_more was a ns [x] hn, ← hn]
  simp only [List.drop_length, List.drop_append, Nat.sub_self, List.drop_zero, List.nil_append]
  rw [List.set_append_right _ _ (by rw [weave_len]; exact Nat.le_refl _), weave_len, Nat.sub_self, weave_new hr, weave_new hr]
  rfl
theorem newsL_len (σ : ByteArray → ByteArray) (φ : ByteArray → Int) (A : Int) (rs : List Rw) : ∀ T, (newsL σ φ A T rs).length = rs.length := by
  induction rs with
  | nil => intro T; rfl
  | cons r rs ih => intro T; simp [newsL, ih]
theorem fold_com (σ : ByteArray → ByteArray) (φ : ByteArray → Int) (A : Int) (was : List Ac) (suf : List Rw) : ∀ (pre : List Rw) (T : List Int) (ns : List Ac), ns.length = cntN was pre →
    ((comK was pre.length suf).foldl (stP σ φ A) (T, weave was (pre ++ suf) ns)).2 = weave was (pre ++ suf) (ns ++ newsL σ φ A T (suf.filter (newIn was))) := by
  induction suf with
  | nil => intro pre T ns _; simp [comK, newsL]
  | cons r rs ih =>
    intro pre T ns hn
    have e : pre ++ r :: rs = (pre ++ [r]) ++ rs := by simp
    have el : (pre ++ [r]).length = pre.length + 1 := by simp
    cases h : newIn was r with
    | true =>
      have ec : cntN was (pre ++ [r]) = cntN was pre + 1 := by simp [cntN, List.filter_append, h]
      rw [comK, if_pos h, List.foldl_cons, List.filter_cons, if_pos h, newsL]
      have e2 : stP σ φ A (T, weave was (pre ++ r :: rs) ns) (pre.length, r) = (T ++ [(newA σ φ A T r).slot], weave was ((pre ++ [r]) ++ rs) (ns ++ [newA σ φ A T r])) := by
        unfold stP
        simp only
        rw [weave_set was pre rs r h ns hn, ← e]
      rw [e2, ← el, ih (pre ++ [r]) _ _ (by rw [ec, List.length_append, hn]; rfl), ← e]
      simp
    | false =>
      have ec : cntN was (pre ++ [r]) = cntN was pre := by simp [cntN, List.filter_append, h]
      rw [comK, if_neg (by rw [h]; exact Bool.noConfusion), List.filter_cons, if_neg (by rw [h]; exact Bool.noConfusion), e, ← el, ih (pre ++ [r]) T ns (by rw [ec, hn])]
/-- Gone over from the first row on, all are placed. -/
theorem fold_place (σ : ByteArray → ByteArray) (φ : ByteArray → Int) (A : Int) (was : List Ac) (ys : List Rw) :
    ((comK was 0 ys).foldl (stP σ φ A) (stayT was ys, weave was ys [])).2 = placeL σ φ A was ys := by
  have := fold_com σ φ A was ys [] (stayT was ys) [] rfl
  simpa [placeL] using this
theorem weave_zero (was : List Ac) (ys : List Rw) (k : Nat) (hk : k < ys.length) {r : Rw} (hr : ys[k]? = some r) (m : Nat) :
    (weave was (ys.take k) [] ++ List.replicate (m + 1) Ac.zero).set k ((stayA was r).getD Ac.zero) = weave was (ys.take (k + 1)) [] ++ List.replicate m Ac.zero := by
  have e : ys.take (k + 1) = ys.take k ++ [r] := by rw [List.take_add_one, hr]; rfl
  have hl : (weave was (ys.take k) []).length = k := by rw [weave_len, List.length_take]; omega
  rw [e, weave_app, List.set_append_right _ _ (by omega), hl, Nat.sub_self, List.replicate_succ, List.set_cons_zero]
  have e2 : weave was [r] (List.drop (cntN was (ys.take k)) []) = [(stayA was r).getD Ac.zero] := by
    rw [List.drop_nil]
    unfold weave
    cases stayA was r <;> simp [weave]
  rw [e2, List.append_assoc]
  rfl
theorem stayT_snoc (was : List Ac) (l : List Rw) (r : Rw) : stayT was (l ++ [r]) = stayT was l ++ (match stayA was r with | some a => [a.slot] | none => []) := by
  unfold stayT staysL
  rw [List.filterMap_append, List.map_append]
  congr 1
  cases h : stayA was r <;> simp [h]
theorem comK_len (was : List Ac) (ys : List Rw) : ∀ k, (comK was k ys).length = cntN was ys := by
  induction ys with
  | nil => intro k; rfl
  | cons r rs ih =>
    intro k
    cases h : newIn was r with
    | true => rw [com_new h, cnt_new h, List.length_cons, ih]
    | false => rw [com_old h, cnt_old h, ih]
theorem comK_app (was : List Ac) (a b : List Rw) : ∀ k, comK was k (a ++ b) = comK was k a ++ comK was (k + a.length) b := by
  induction a with
  | nil => intro k; rfl
  | cons r rs ih =>
    intro k
    rw [List.cons_append, List.length_cons]
    cases h : newIn was r with
    | true => rw [com_new h, com_new h, ih, List.cons_append]; congr 3; omega
    | false => rw [com_old h, com_old h, ih]; congr 2; omega
theorem comK_take {was : List Ac} {ys : List Rw} {k : Nat} {r : Rw} (hr : ys[k]? = some r) : comK was 0 (ys.take (k + 1)) = comK was 0 (ys.take k) ++ (if newIn was r then [(k, r)] else []) := by
  have hk : k < ys.length := (List.getElem?_eq_some_iff.1 hr).1
  have e : ys.take (k + 1) = ys.take k ++ [r] := by rw [List.take_add_one, hr]; rfl
  rw [e, comK_app, Nat.zero_add, List.length_take, Nat.min_eq_left (by omega)]
  congr 1
end Go.Proofs.YtngofpdpangajaaDoor
