/- Several of my texts, laid as one. -/
import Derived.Test.YtngofpdpangajaaDoorM10Mer
import Derived.Test.YtngofpdpangajaaDoorM12Set
/-
  Rows with the same rows of each Id, in another order; sorted rows there are.
-/
namespace Go.Proofs.YtngofpdpangajaaDoor
set_option linter.unusedVariables false
set_option linter.unusedSimpArgs false
set_option maxRecDepth 10000
open Go.RowKit Go.Sort

/-- Rows with the same rows of each Id are the same rows in another order. -/
theorem fil_perm : ∀ (xs ys : List Rw), (∀ k, fil k ys = fil k xs) → xs.Perm ys
  | [], ys, h => by
    cases ys with
    | nil => exact List.Perm.refl _
    | cons y r =>
      have := h (keyR y)
      rw [fil_yes r rfl] at this
      simp [fil] at this
  | x :: r, ys, h => by
    have h0 := h (keyR x)
    rw [fil_yes r rfl] at h0
    have hm : x ∈ ys := (mem_fil ys x).2 (by rw [h0]; simp)
    -- the first row of that Id
    obtain ⟨p, z, q, hy, hp, hz⟩ : ∃ p z q, ys = p ++ z :: q ∧ (∀ a ∈ p, keyR a ≠ keyR x) ∧ keyR z = keyR x := by
      clear h h0
      induction ys with
      | nil => cases hm
      | cons y s ih =>
        by_cases e : keyR y = keyR x
        · exact ⟨[], y, s, rfl, fun a ha => (by cases ha), e⟩
        · have hm2 : x ∈ s := by
            rcases List.mem_cons.1 hm with rfl | hm
            · exact absurd rfl e
            · exact hm
          obtain ⟨p, z, q, h1, h2, h3⟩ := ih hm2
          exact ⟨y :: p, z, q, by rw [h1]; rfl, fun a ha => by
            rcases List.mem_cons.1 ha with rfl | ha
            · exact e
            · exact h2 a ha, h3⟩
    have hp0 : fil (keyR x) p = [] := by
      unfold fil
      exact List.filter_eq_nil_iff.2 fun a ha => by simpa using hp a ha
    subst hy
    rw [fil_app, hp0, List.nil_append, fil_yes q hz] at h0
    injection h0 with e1 e2
    subst e1
    have ih := fil_perm r (p ++ q) (fun k => by
      have hk := h k
      rw [fil_app] at hk ⊢
      by_cases e : keyR z = k
      · rw [fil_yes _ e, fil_yes _ e] at hk
        subst e
        rw [hp0, List.nil_append] at hk ⊢
        injection hk
      · rw [fil_not _ e, fil_not _ e] at hk
        exact hk)
    exact (List.Perm.cons z ih).trans List.perm_middle.symm
theorem Sd.perm {xs ys : List Rw} (h : Sd xs ys) : xs.Perm ys := fil_perm xs ys h.2
/-- Any rows may be put by their Ids. -/
theorem sd_exists (xs : List Rw) : ∃ ys, Sd xs ys := by
  have key : ∀ (l acc : List Rw), Sd acc acc → ∃ ys, Sd (acc ++ l) ys := by
    intro l
    induction l with
    | nil => intro acc h; exact ⟨acc, by simpa using h⟩
    | cons x r ih =>
      intro acc h
      have hsp : ∀ zs : List Rw, Sl zs → ∃ p q, zs = p ++ q ∧ (∀ a ∈ p, ¬ LR x a) ∧ ∀ a ∈ q, LR x a := by
        intro zs
        induction zs with
        | nil => intro _; exact ⟨[], [], rfl, fun a ha => (by cases ha), fun a ha => (by cases ha)⟩
        | cons z s ihz =>
          intro hz
          by_cases hl : LR x z
          · refine ⟨[], z :: s, rfl, fun a ha => (by cases ha), fun a ha => ?_⟩
            rcases List.mem_cons.1 ha with rfl | ha
            · exact hl
            · exact LR_lt_not hl ((List.pairwise_cons.1 hz).1 a ha)
          · obtain ⟨p, q, h1, h2, h3⟩ := ihz (List.pairwise_cons.1 hz).2
            refine ⟨z :: p, q, by rw [h1]; rfl, fun a ha => ?_, h3⟩
            rcases List.mem_cons.1 ha with rfl | ha
            · exact hl
            · exact h2 a ha
      obtain ⟨p, q, h1, h2, h3⟩ := hsp acc h.1
      have hs := h.1
      rw [h1] at hs
      obtain ⟨s1, s2, s3⟩ := hs.part
      have hnew : Sd (acc ++ [x]) (p ++ [x] ++ q) := by
        refine ⟨Sl.join (Sl.join s1 (Sl_one x) ?_) s2 ?_, fun k => ?_⟩
        · intro a ha b hb
          rw [List.mem_singleton.1 hb]
          exact h2 a ha
        · intro a ha b hb
          rcases List.mem_append.1 ha with ha | ha
          · exact s3 a ha b hb
          · rw [List.mem_singleton.1 ha]
            exact LR_asymm (h3 b hb)
        · rw [h1, List.append_assoc, List.append_assoc, fil_app k p, fil_app k p]
          congr 1
          exact fil_turn k q [x] (fun a ha b hb => by
            rw [List.mem_singleton.1 hb]
            exact h3 a ha)
      obtain ⟨ys, hy⟩ := ih (p ++ [x] ++ q) hnew.self
      refine ⟨ys, hy.1, fun k => ?_⟩
      rw [hy.2, fil_app, hnew.2, ← fil_app]
      simp
  obtain ⟨ys, h⟩ := key xs [] ⟨List.Pairwise.nil, fun _ => rfl⟩
  exact ⟨ys, by simpa using h⟩
/-- Of unlike Ids, in another order: the same rows of each Id. -/
theorem fil_nodup {xs : List Rw} (h : (xs.map keyR).Nodup) (k : List UInt8) : fil k xs = [] ∨ ∃ x ∈ xs, fil k xs = [x] := by
  induction xs with
  | nil => exact .inl rfl
  | cons x r ih =>
    rw [List.map_cons, List.nodup_cons] at h
    by_cases e : keyR x = k
    · right
      refine ⟨x, by simp, ?_⟩
      rw [fil_yes r e]
      have : fil k r = [] := by
        unfold fil
        exact List.filter_eq_nil_iff.2 fun a ha => by
          simp
          intro e2
          exact h.1 (by rw [e, ← e2]; exact List.mem_map_of_mem ha)
      rw [this]
    · rw [fil_not r e]
      rcases ih h.2 with h1 | ⟨y, hy, h1⟩
      · exact .inl h1
      · exact .inr ⟨y, by simp [hy], h1⟩
theorem fil_turned {xs ys : List Rw} (h : (xs.map keyR).Nodup) (hp : xs.Perm ys) (k : List UInt8) : fil k ys = fil k xs := by
  have hq := hp.filter (fun x => decide (keyR x = k))
  have e1 : fil k xs = xs.filter (fun x => decide (keyR x = k)) := rfl
  have e2 : fil k ys = ys.filter (fun x => decide (keyR x = k)) := rfl
  rw [← e1, ← e2] at hq
  rcases fil_nodup h k with h1 | ⟨x, -, h1⟩
  · rw [h1] at hq ⊢
    exact List.Perm.eq_nil hq.symm
  · rw [h1] at hq ⊢
    exact List.perm_singleton.1 hq.symm
theorem Sd.turned {xs ys zs : List Rw} (h : (xs.map keyR).Nodup) (hp : xs.Perm ys) (hs : Sd ys zs) : Sd xs zs := ⟨hs.1, fun k => (hs.2 k).trans (fil_turned h hp k)⟩
end Go.Proofs.YtngofpdpangajaaDoor
/-
  Plain words on who is placed where: who stays, who is new, and all of them, row by row.
-/
namespace Go.Proofs.YtngofpdpangajaaDoor
set_option linter.unusedVariables false
set_option linter.unusedSimpArgs false
set_option maxRecDepth 10000
open Go.RowKit Go.Sort

/-- The account of one who stays. -/
def stayA (was : List Ac) (r : Rw) : Option Ac := if (findA was (keyR r)).2 then some ⟨r.id, r.h, r.l, (findA was (keyR r)).1.salt, (findA was (keyR r)).1.slot⟩ else none
def newIn (was : List Ac) (r : Rw) : Bool := !(findA was (keyR r)).2
theorem stay_new {was : List Ac} {r : Rw} (h : newIn was r = true) : stayA was r = none := by
  unfold newIn at h
  unfold stayA
  rw [if_neg]
  simpa using h
theorem stay_old {was : List Ac} {r : Rw} (h : newIn was r = false) : stayA was r = some ⟨r.id, r.h, r.l, (findA was (keyR r)).1.salt, (findA was (keyR r)).1.slot⟩ := by
  unfold newIn at h
  unfold stayA
  rw [if_pos]
  simpa using h
section
variable (σ : ByteArray → ByteArray) (φ : ByteArray → Int) (A : Int)
/-- The account of one who is new, where these slots are taken. -/
def newA (T : List Int) (r : Rw) : Ac := ⟨r.id, r.h, r.l, σ r.id, (freeF A T (φ r.id)).1⟩
def newsL : List Int → List Rw → List Ac
  | _, [] => []
  | T, r :: rs => newA σ φ A T r :: newsL (T ++ [(newA σ φ A T r).slot]) rs
/-- All of them: who stays, and in the others' places these. -/
def weave (was : List Ac) : List Rw → List Ac → List Ac
  | [], _ => []
  | r :: rs, ns => match stayA was r with
    | some a => a :: weave was rs ns
    | none => ns.headD Ac.zero :: weave was rs ns.tail
def staysL (was : List Ac) (ys : List Rw) : List Ac := ys.filterMap (stayA was)
def stayT (was : List Ac) (ys : List Rw) : List Int := (staysL was ys).map Ac.slot
def placeL (was : List Ac) (ys : List Rw) : List Ac := weave was ys (newsL σ φ A (stayT was ys) (ys.filter (newIn was)))
/-- What one who is new does to the taken slots and to the accounts. -/
def stP (s : List Int × List Ac) (x : Nat × Rw) : List Int × List Ac := (s.1 ++ [(newA σ φ A s.1 x.2).slot], s.2.set x.1 (newA σ φ A s.1 x.2))
end
def cntN (was : List Ac) (l : List Rw) : Nat := (l.filter (newIn was)).length
/-- Who is new, each with its place. -/
def comK (was : List Ac) : Nat → List Rw → List (Nat × Rw)
  | _, [] => []
  | k, r :: rs => if newIn was r then (k, r) :: comK was (k + 1) rs else comK was (k + 1) rs
theorem weave_new {was : List Ac} {r : Rw} (h : newIn was r = true) (rs : List Rw) (ns : List Ac) : weave was (r :: rs) ns = ns.headD Ac.zero :: weave was rs ns.tail := by
  rw [weave, stay_new h]
theorem weave_old {was : List Ac} {r : Rw} (h : newIn was r = false) (rs : List Rw) (ns : List Ac) :
    weave was (r :: rs) ns = ⟨r.id, r.h, r.l, (findA was (keyR r)).1.salt, (findA was (keyR r)).1.slot⟩ :: weave was rs ns := by
  rw [weave, stay_old h]
theorem com_new {was : List Ac} {r : Rw} (h : newIn was r = true) (k : Nat) (rs : List Rw) : comK was k (r :: rs) = (k, r) :: comK was (k + 1) rs := by rw [comK, if_pos h]
theorem com_old {was : List Ac} {r : Rw} (h : newIn was r = false) (k : Nat) (rs : List Rw) : comK was k (r :: rs) = comK was (k + 1) rs := by rw [comK, if_neg (by rw [h]; exact Bool.noConfusion)]
theorem weave_len (was : List Ac) (ys : List Rw) : ∀ ns, (weave was ys ns).length = ys.length := by
  induction ys with
  | nil => intro ns; rfl
  | cons r rs ih =>
    intro ns
    cases h : newIn was r with
    | true => rw [weave_new h, List.length_cons, List.length_cons, ih]
    | false => rw [weave_old h, List.length_cons, List.length_cons, ih]
theorem cnt_new {was : List Ac} {r : Rw} (h : newIn was r = true) (rs : List Rw) : cntN was (r :: rs) = cntN was rs + 1 := by simp [cntN, List.filter_cons, h]
theorem cnt_old {was : List Ac} {r : Rw} (h : newIn was r = false) (rs : List Rw) : cntN was (r :: rs) = cntN was rs := by simp [cntN, List.filter_cons, h]
theorem weave_app (was : List Ac) (a b : List Rw) : ∀ ns, weave was (a ++ b) ns = weave was a ns ++ weave was b (ns.drop (cntN was a)) := by
  induction a with
  | nil => intro ns; rfl
  | cons r rs ih =>
    intro ns
    rw [List.cons_append]
    cases h : newIn was r with
    | true =>
      rw [weave_new h, weave_new h, cnt_new h, ih, List.cons_append]
      congr 2
      rw [← List.drop_one, List.drop_drop, Nat.add_comm]
    | false => rw [weave_old h, weave_old h, cnt_old h, ih, List.cons_append]
theorem weave_more (was : List Ac) (a : List Rw) : ∀ ns ms, ns.length = cntN was a → weave was a (ns ++ ms) = weave was a ns := by
  induction a with
  | nil => intro ns ms _; rfl
  | cons r rs ih =>
    intro ns ms hl
    cases h : newIn was r with
    | true =>
      rw [cnt_new h] at hl
      cases ns with
      | nil => cases hl
      | cons n ns =>
        rw [weave_new h, weave_new h]
        simp only [List.cons_append, List.headD_cons, List.tail_cons]
        rw [ih ns ms (by simp at hl; omega)]
    | false =>
      rw [cnt_old h] at hl
      rw [weave_old h, weave_old h, ih ns ms hl]
theorem weave_set (was : List Ac) (a b : List Rw) (r : Rw) (hr : newIn was r = true) (ns : List Ac) (hn : ns.length = cntN was a) (x : Ac) :
    (weave was (a ++ r :: b) ns).set a.length x = weave was (a ++ r :: b) (ns ++ [x]) := by
  rw [weave_app, weave_app, weave_more was a ns [x] hn, ← hn]
  simp only [List.drop_length, List.drop_append, Nat.sub_self, List.drop_zero, List.nil_append]
  rw [List.set_append_right _ _ (by rw [weave_len]; exact Nat.le_refl _), weave_len, Nat.sub_self, weave_new hr, weave_new hr]
  rfl
theorem newsL_len (σ : ByteArray → ByteArray) (φ : ByteArray → Int) (A : Int) (rs : List Rw) : ∀ T, (newsL σ φ A T rs).length = rs.length := by
  induction rs with
  | nil => intro T; rfl
  | cons r rs ih => intro T; simp [newsL, ih]
theorem fold_com (σ : ByteArray → ByteArray) (φ : ByteArray → Int) (A : Int) (was : List Ac) (suf : List Rw) : ∀ (pre : List Rw) (T : List Int) (ns : List Ac), ns.length = cntN was pre →
    ((comK was pre.length suf).foldl (stP σ φ A) (T, weave was (pre ++ suf) ns)).2 = weave was (pre ++ suf) (ns ++ newsL σ φ A T (suf.filter (newIn was))) := by
  induction suf with
  | nil => intro pre T ns _; simp [comK, newsL]
  | cons r rs ih =>
    intro pre T ns hn
    have e : pre ++ r :: rs = (pre ++ [r]) ++ rs := by simp
    have el : (pre ++ [r]).length = pre.length + 1 := by simp
    cases h : newIn was r with
    | true =>
      have ec : cntN was (pre ++ [r]) = cntN was pre + 1 := by simp [cntN, List.filter_append, h]
      rw [comK, if_pos h, List.foldl_cons, List.filter_cons, if_pos h, newsL]
      have e2 : stP σ φ A (T, weave was (pre ++ r :: rs) ns) (pre.length, r) = (T ++ [(newA σ φ A T r).slot], weave was ((pre ++ [r]) ++ rs) (ns ++ [newA σ φ A T r])) := by
        unfold stP
        simp only
        rw [weave_set was pre rs r h ns hn, ← e]
      rw [e2, ← el, ih (pre ++ [r]) _ _ (by rw [ec, List.length_append, hn]; rfl), ← e]
      simp
    | false =>
      have ec : cntN was (pre ++ [r]) = cntN was pre := by simp [cntN, List.filter_append, h]
      rw [comK, if_neg (by rw [h]; exact Bool.noConfusion), List.filter_cons, if_neg (by rw [h]; exact Bool.noConfusion), e, ← el, ih (pre ++ [r]) T ns (by rw [ec, hn])]
/-- Gone over from the first row on, all are placed. -/
theorem fold_place (σ : ByteArray → ByteArray) (φ : ByteArray → Int) (A : Int) (was : List Ac) (ys : List Rw) :
    ((comK was 0 ys).foldl (stP σ φ A) (stayT was ys, weave was ys [])).2 = placeL σ φ A was ys := by
  have := fold_com σ φ A was ys [] (stayT was ys) [] rfl
  simpa [placeL] using this
theorem weave_zero (was : List Ac) (ys : List Rw) (k : Nat) (hk : k < ys.length) {r : Rw} (hr : ys[k]? = some r) (m : Nat) :
    (weave was (ys.take k) [] ++ List.replicate (m + 1) Ac.zero).set k ((stayA was r).getD Ac.zero) = weave was (ys.take (k + 1)) [] ++ List.replicate m Ac.zero := by
  have e : ys.take (k + 1) = ys.take k ++ [r] := by rw [List.take_add_one, hr]; rfl
  have hl : (weave was (ys.take k) []).length = k := by rw [weave_len, List.length_take]; omega
  rw [e, weave_app, List.set_append_right _ _ (by omega), hl, Nat.sub_self, List.replicate_succ, List.set_cons_zero]
  have e2 : weave was [r] (List.drop (cntN was (ys.take k)) []) = [(stayA was r).getD Ac.zero] := by
    rw [List.drop_nil]
    unfold weave
    cases stayA was r <;> simp [weave]
  rw [e2, List.append_assoc]
  rfl
theorem stayT_snoc (was : List Ac) (l : List Rw) (r : Rw) : stayT was (l ++ [r]) = stayT was l ++ (match stayA was r with | some a => [a.slot] | none => []) := by
  unfold stayT staysL
  rw [List.filterMap_append, List.map_append]
  congr 1
  cases h : stayA was r <;> simp [h]
theorem comK_len (was : List Ac) (ys : List Rw) : ∀ k, (comK was k ys).length = cntN was ys := by
  induction ys with
  | nil => intro k; rfl
  | cons r rs ih =>
    intro k
    cases h : newIn was r with
    | true => rw [com_new h, cnt_new h, List.length_cons, ih]
    | false => rw [com_old h, cnt_old h, ih]
theorem comK_app (was : List Ac) (a b : List Rw) : ∀ k, comK was k (a ++ b) = comK was k a ++ comK was (k + a.length) b := by
  induction a with
  | nil => intro k; rfl
  | cons r rs ih =>
    intro k
    rw [List.cons_append, List.length_cons]
    cases h : newIn was r with
    | true => rw [com_new h, com_new h, ih, List.cons_append]; congr 3; omega
    | false => rw [com_old h, com_old h, ih]; congr 2; omega
theorem comK_take {was : List Ac} {ys : List Rw} {k : Nat} {r : Rw} (hr : ys[k]? = some r) : comK was 0 (ys.take (k + 1)) = comK was 0 (ys.take k) ++ (if newIn was r then [(k, r)] else []) := by
  have hk : k < ys.length := (List.getElem?_eq_some_iff.1 hr).1
  have e : ys.take (k + 1) = ys.take k ++ [r] := by rw [List.take_add_one, hr]; rfl
  rw [e, comK_app, Nat.zero_add, List.length_take, Nat.min_eq_left (by omega)]
  congr 1
end Go.Proofs.YtngofpdpangajaaDoor
/-
  Plain words on accounts and rows that may be.
-/
namespace Go.Proofs.YtngofpdpangajaaDoor
set_option linter.unusedVariables false
set_option linter.unusedSimpArgs false
set_option maxRecDepth 10000
open Go.RowKit Go.Sort

/-- May the account be, of so many slots? -/
def okA (A : Int) (a : Ac) : Bool := isId (keyA a) && (decide (a.salt.size ≤ 32) && decide (a.slot < A))
def MayP (A : Int) (l : List Ac) : Prop := (∀ a ∈ l, okA A a = true) ∧ (l.map keyA).Nodup ∧ (l.map Ac.slot).Nodup
instance (A : Int) (l : List Ac) : Decidable (MayP A l) := by unfold MayP; infer_instance
/-- May the accounts be, of that height? -/
def mayA (h : Int) (l : List Ac) : Bool := shOk h && decide (MayP (pw h.toNat) l)
theorem mayP_nil (A : Int) : MayP A [] := ⟨fun a h => by simp at h, by simp, by simp⟩
theorem mayP_snoc {A : Int} {l : List Ac} {a : Ac} : MayP A (l ++ [a]) ↔ MayP A l ∧ okA A a = true ∧ keyA a ∉ l.map keyA ∧ a.slot ∉ l.map Ac.slot := by
  unfold MayP
  rw [List.map_append, List.map_append, List.nodup_append, List.nodup_append]
  simp only [List.map_cons, List.map_nil, List.mem_append, List.mem_singleton]
  constructor
  · rintro ⟨h1, ⟨h2, -, h3⟩, h4, -, h5⟩
    exact ⟨⟨fun x hx => h1 x (.inl hx), h2, h4⟩, h1 a (.inr rfl), fun k => h3 _ k _ rfl rfl, fun k => h5 _ k _ rfl rfl⟩
  · rintro ⟨⟨h1, h2, h4⟩, h6, h3, h5⟩
    refine ⟨fun x hx => ?_, ⟨h2, by simp, ?_⟩, h4, by simp, ?_⟩
    · rcases hx with hx | rfl
      · exact h1 x hx
      · exact h6
    · rintro x hx y rfl rfl
      exact h3 hx
    · rintro x hx y rfl rfl
      exact h5 hx
theorem mayP_pre {A : Int} {l m : List Ac} (h : MayP A (l ++ m)) : MayP A l := by
  unfold MayP at h ⊢
  rw [List.map_append, List.map_append, List.nodup_append, List.nodup_append] at h
  exact ⟨fun a ha => h.1 a (by simp [ha]), h.2.1.1, h.2.2.1⟩
theorem mayP_take {A : Int} {xs : List Ac} (h : MayP A xs) (k : Nat) : MayP A (xs.take k) := by
  rw [← List.take_append_drop k xs] at h
  exact mayP_pre h
theorem mayP_at {A : Int} {xs : List Ac} {k : Nat} {x : Ac} (h : MayP A xs) (hx : xs[k]? = some x) : okA A x = true ∧ keyA x ∉ (xs.take k).map keyA ∧ x.slot ∉ (xs.take k).map Ac.slot := by
  have h1 := mayP_take h (k + 1)
  rw [take_more1 hx] at h1
  exact (mayP_snoc.1 h1).2
theorem mayP_step {A : Int} {xs : List Ac} {k : Nat} {x : Ac} (h : MayP A (xs.take k)) (hx : xs[k]? = some x) (h1 : okA A x = true) (h2 : keyA x ∉ (xs.take k).map keyA) (h3 : x.slot ∉ (xs.take k).map Ac.slot) : MayP A (xs.take (k + 1)) := by
  rw [take_more1 hx]
  exact mayP_snoc.2 ⟨h, h1, h2, h3⟩
theorem lfA_may (x : Ac) : (lfA x).may = (decide (x.salt.size ≤ 32) && isId (keyA x)) := rfl
theorem okA_def (A : Int) (a : Ac) : okA A a = (isId (keyA a) && (decide (a.salt.size ≤ 32) && decide (a.slot < A))) := rfl

/-- Rows of which each has an Id, and no two the same. -/
def RowsP (ys : List Rw) : Prop := (∀ r ∈ ys, isId (keyR r) = true) ∧ (ys.map keyR).Nodup
instance (ys : List Rw) : Decidable (RowsP ys) := by unfold RowsP; infer_instance
theorem rowsP_nil : RowsP [] := ⟨fun r h => by simp at h, by simp⟩
theorem rowsP_snoc {l : List Rw} {r : Rw} : RowsP (l ++ [r]) ↔ RowsP l ∧ isId (keyR r) = true ∧ keyR r ∉ l.map keyR := by
  unfold RowsP
  rw [List.map_append, List.nodup_append]
  simp only [List.map_cons, List.map_nil, List.mem_append, List.mem_singleton]
  constructor
  · rintro ⟨h1, h2, -, h3⟩
    exact ⟨⟨fun x hx => h1 x (.inl hx), h2⟩, h1 r (.inr rfl), fun k => h3 _ k _ rfl rfl⟩
  · rintro ⟨⟨h1, h2⟩, h6, h3⟩
    refine ⟨fun x hx => ?_, h2, by simp, ?_⟩
    · rcases hx with hx | rfl
      · exact h1 x hx
      · exact h6
    · rintro x hx y rfl rfl
      exact h3 hx
theorem rowsP_pre {l m : List Rw} (h : RowsP (l ++ m)) : RowsP l := by
  unfold RowsP at h ⊢
  rw [List.map_append, List.nodup_append] at h
  exact ⟨fun a ha => h.1 a (by simp [ha]), h.2.1⟩
theorem rowsP_at {xs : List Rw} {k : Nat} {x : Rw} (h : RowsP xs) (hx : xs[k]? = some x) : isId (keyR x) = true ∧ keyR x ∉ (xs.take k).map keyR := by
  rw [← List.take_append_drop (k + 1) xs] at h
  have h1 := rowsP_pre h
  rw [take_more1 hx] at h1
  exact (rowsP_snoc.1 h1).2
theorem rowsP_step {xs : List Rw} {k : Nat} {x : Rw} (h : RowsP (xs.take k)) (hx : xs[k]? = some x) (h1 : isId (keyR x) = true) (h2 : keyR x ∉ (xs.take k).map keyR) : RowsP (xs.take (k + 1)) := by
  rw [take_more1 hx]
  exact rowsP_snoc.2 ⟨h, h1, h2⟩
end Go.Proofs.YtngofpdpangajaaDoor
/-
  Plain words: what is placed may be accounts, one for each row, each at a slot of its own, as near as may be.
-/
namespace Go.Proofs.YtngofpdpangajaaDoor
set_option linter.unusedVariables false
set_option linter.unusedSimpArgs false
set_option maxRecDepth 10000
open Go.RowKit Go.Sort

theorem nodup_sub_len {α : Type} [DecidableEq α] : ∀ {l m : List α}, l.Nodup → (∀ x ∈ l, x ∈ m) → l.length ≤ m.length
  | [], m, _, _ => Nat.zero_le _
  | x :: r, m, hd, hs => by
    rw [List.nodup_cons] at hd
    have hx := hs x (by simp)
    have ih := nodup_sub_len (l := r) (m := m.erase x) hd.2 fun y hy => by
      have hne : y ≠ x := fun e => hd.1 (e ▸ hy)
      exact (List.mem_erase_of_ne hne).2 (hs y (by simp [hy]))
    rw [List.length_erase_of_mem hx] at ih
    have hp : 0 < m.length := List.length_pos_of_mem hx
    rw [List.length_cons]
    omega
theorem sq_val {A : Int} (hA : 0 < A) (f : Int) (s : Nat) (hs : (s : Int) < A) : sq A f s = if f % A + s < A then f % A + s else f % A + s - A := by
  have h0 := Int.emod_nonneg f (show A ≠ 0 by omega)
  have h1 := Int.emod_lt_of_pos f hA
  unfold sq
  split
  · rename_i h
    exact Int.emod_eq_of_lt (by omega) h
  · rename_i h
    have e : f % A + (s : Int) = (f % A + s - A) + A * 1 := by omega
    rw [e, Int.add_mul_emod_self_left, Int.emod_eq_of_lt (by omega) (by omega)]
    omega
theorem sq_inj {A : Int} (hA : 0 < A) (f : Int) {s t : Nat} (hs : (s : Int) < A) (ht : (t : Int) < A) (e : sq A f s = sq A f t) : s = t := by
  rw [sq_val hA f s hs, sq_val hA f t ht] at e
  have h0 := Int.emod_nonneg f (show A ≠ 0 by omega)
  have h1 := Int.emod_lt_of_pos f hA
  split at e <;> split at e <;> omega
/-- Where fewer slots are taken than there are, one is free. -/
theorem free_some {A : Int} (hA : 0 < A) {T : List Int} (hT : (T.length : Int) < A) (f : Int) : ∃ s : Nat, (s : Int) < A ∧ (∀ j, j < s → sq A f j ∈ T) ∧ sq A f s ∉ T ∧ freeF A T f = (sq A f s, true) := by
  rcases freeF_spec A T f with h | ⟨h, -⟩
  · exact h
  · exfalso
    have h1 : ((List.range A.toNat).map (sq A f)).Nodup := by
      rw [List.nodup_iff_pairwise_ne, List.pairwise_map]
      refine List.Pairwise.imp_of_mem ?_ (List.nodup_range (n := A.toNat))
      intro a b ha hb hne e
      rw [List.mem_range] at ha hb
      exact hne (sq_inj hA f (by omega) (by omega) e)
    have h2 := nodup_sub_len (l := (List.range A.toNat).map (sq A f)) (m := T) h1 (fun x hx => by
      obtain ⟨j, hj, rfl⟩ := List.mem_map.1 hx
      rw [List.mem_range] at hj
      exact h j (by omega))
    rw [List.length_map, List.length_range] at h2
    omega
theorem inj_of_nodup {α β : Type} {f : α → β} : ∀ {l : List α}, (l.map f).Nodup → ∀ {a b}, a ∈ l → b ∈ l → f a = f b → a = b
  | [], _, a, b, ha, _, _ => by cases ha
  | x :: r, hd, a, b, ha, hb, e => by
    rw [List.map_cons, List.nodup_cons] at hd
    rcases List.mem_cons.1 ha with e1 | ha2
    · rcases List.mem_cons.1 hb with e2 | hb2
      · rw [e1, e2]
      · exact (hd.1 (by rw [← e1, e]; exact List.mem_map_of_mem hb2)).elim
    · rcases List.mem_cons.1 hb with e2 | hb2
      · exact (hd.1 (by rw [← e2, ← e]; exact List.mem_map_of_mem ha2)).elim
      · exact inj_of_nodup hd.2 ha2 hb2 e
theorem findA_in {was : List Ac} {r : Rw} (h : newIn was r = false) : (findA was (keyR r)).1 ∈ was ∧ keyA (findA was (keyR r)).1 = keyR r := by
  unfold newIn at h
  have h2 : (findA was (keyR r)).2 = true := by simpa using h
  have h1 := firstA_yes (p := fun a => decide (keyA a = keyR r)) (l := was) h2
  exact ⟨h1.1, of_decide_eq_true h1.2⟩
section
variable {σ : ByteArray → ByteArray} {φ : ByteArray → Int} {A : Int}
theorem newsL_keys (T : List Int) (rs : List Rw) : (newsL σ φ A T rs).map keyA = rs.map keyR := by
  induction rs generalizing T with
  | nil => rfl
  | cons r rs ih => rw [newsL, List.map_cons, ih]; rfl
theorem newsL_at (rs : List Rw) : ∀ (T : List Int) (j : Nat) (r : Rw), rs[j]? = some r → (newsL σ φ A T rs)[j]? = some (newA σ φ A (T ++ ((newsL σ φ A T rs).take j).map Ac.slot) r) := by
  induction rs with
  | nil => intro T j r h; simp at h
  | cons x rs ih =>
    intro T j r h
    cases j with
    | zero =>
      obtain rfl : x = r := by simpa using h
      simp [newsL]
    | succ j =>
      rw [newsL, List.getElem?_cons_succ, ih _ j r (by simpa using h), List.take_succ_cons, List.map_cons, List.append_assoc]
      rfl
/-- Slots of those who are new: unlike, and none of the taken ones. -/
theorem newsL_slots (hA : 0 < A) (rs : List Rw) : ∀ (T : List Int), T.Nodup → ((T.length + rs.length : Nat) : Int) ≤ A → (T ++ (newsL σ φ A T rs).map Ac.slot).Nodup ∧ ∀ a ∈ newsL σ φ A T rs, 0 ≤ a.slot ∧ a.slot < A := by
  induction rs with
  | nil => intro T hd _; exact ⟨by simpa [newsL] using hd, fun a ha => by simp [newsL] at ha⟩
  | cons r rs ih =>
    intro T hd hl
    rw [List.length_cons] at hl
    obtain ⟨s, h1, h2, h3, h4⟩ := free_some hA (T := T) (by omega) (φ r.id)
    have hslot : (newA σ φ A T r).slot = sq A (φ r.id) s := by
      show (freeF A T (φ r.id)).1 = _
      rw [h4]
    have hd2 : (T ++ [(newA σ φ A T r).slot]).Nodup := by
      rw [hslot, List.nodup_append]
      exact ⟨hd, by simp, fun a ha b hb e => by
        rw [List.mem_singleton.1 hb] at e
        exact h3 (e ▸ ha)⟩
    obtain ⟨k1, k2⟩ := ih (T ++ [(newA σ φ A T r).slot]) hd2 (by rw [List.length_append]; simp; omega)
    rw [newsL, List.map_cons]
    refine ⟨by simpa using k1, fun a ha => ?_⟩
    rcases List.mem_cons.1 ha with rfl | ha
    · rw [hslot]; exact sq_bd hA _ _
    · exact k2 a ha
/-- Who stays, from the slots' side. -/
theorem stays_mem {was : List Ac} {ys : List Rw} {a : Ac} (h : a ∈ staysL was ys) : ∃ r ∈ ys, newIn was r = false ∧ a = ⟨r.id, r.h, r.l, (findA was (keyR r)).1.salt, (findA was (keyR r)).1.slot⟩ := by
  unfold staysL at h
  obtain ⟨r, hr, e⟩ := List.mem_filterMap.1 h
  cases hn : newIn was r with
  | true => rw [stay_new hn] at e; cases e
  | false =>
    rw [stay_old hn] at e
    injection e with e
    exact ⟨r, hr, hn, e.symm⟩
theorem stayT_nodup {was : List Ac} {ys : List Rw} (hw : MayP A was) (hy : (ys.map keyR).Nodup) : (stayT was ys).Nodup := by
  induction ys with
  | nil => simp [stayT, staysL]
  | cons r rs ih =>
    rw [List.map_cons, List.nodup_cons] at hy
    have ih := ih hy.2
    unfold stayT staysL at ih ⊢
    cases hn : newIn was r with
    | true => rw [List.filterMap_cons, stay_new hn]; exact ih
    | false =>
      rw [List.filterMap_cons, stay_old hn, List.map_cons, List.nodup_cons]
      refine ⟨fun hm => ?_, ih⟩
      obtain ⟨a, ha, e⟩ := List.mem_map.1 hm
      obtain ⟨q, hq, hqn, rfl⟩ := stays_mem ha
      obtain ⟨m1, m2⟩ := findA_in hn
      obtain ⟨n1, n2⟩ := findA_in hqn
      have := inj_of_nodup hw.2.2 n1 m1 e
      rw [this, m2] at n2
      exact hy.1 (n2 ▸ List.mem_map_of_mem hq)
theorem weave_perm (was : List Ac) (ys : List Rw) : ∀ ns, ns.length = cntN was ys → (weave was ys ns).Perm (staysL was ys ++ ns) := by
  induction ys with
  | nil => intro ns hl; have : ns = [] := List.eq_nil_of_length_eq_zero hl; subst this; exact List.Perm.refl _
  | cons r rs ih =>
    intro ns hl
    cases hn : newIn was r with
    | true =>
      rw [cnt_new hn] at hl
      cases ns with
      | nil => cases hl
      | cons n ns =>
        rw [weave_new hn, List.headD_cons, List.tail_cons]
        have e : staysL was (r :: rs) = staysL was rs := by unfold staysL; rw [List.filterMap_cons, stay_new hn]
        rw [e]
        exact (List.Perm.cons n (ih ns (by simp at hl; omega))).trans List.perm_middle.symm
    | false =>
      rw [cnt_old hn] at hl
      rw [weave_old hn]
      have e : staysL was (r :: rs) = ⟨r.id, r.h, r.l, (findA was (keyR r)).1.salt, (findA was (keyR r)).1.slot⟩ :: staysL was rs := by unfold staysL; rw [List.filterMap_cons, stay_old hn]
      rw [e, List.cons_append]
      exact List.Perm.cons _ (ih ns hl)
/-- Whose row it is, at a place. -/
theorem weave_at (was : List Ac) (ys : List Rw) : ∀ (ns : List Ac) (i : Nat) (r : Rw), ys[i]? = some r → (weave was ys ns)[i]? = some (match stayA was r with | some a => a | none => (ns.drop (cntN was (ys.take i))).headD Ac.zero) := by
  intro ns i r hr
  have hi := (List.getElem?_eq_some_iff.1 hr).1
  have e : ys = ys.take i ++ r :: ys.drop (i + 1) := by
    have h2 := List.getElem?_eq_some_iff.1 hr
    rw [← h2.2, ← List.drop_eq_getElem_cons hi, List.take_append_drop]
  have hl : (weave was (ys.take i) ns).length = i := by rw [weave_len, List.length_take]; omega
  have h3 : (weave was ys ns)[i]? = (weave was (r :: ys.drop (i + 1)) (ns.drop (cntN was (ys.take i))))[0]? := by
    conv => lhs; rw [e]
    rw [weave_app, List.getElem?_append_right (by omega), hl, Nat.sub_self]
  rw [h3]
  cases hn : newIn was r with
  | true => rw [weave_new hn, stay_new hn]; rfl
  | false => rw [weave_old hn, stay_old hn]; rfl
theorem filter_at (was : List Ac) (ys : List Rw) {i : Nat} {r : Rw} (hr : ys[i]? = some r) (hn : newIn was r = true) : (ys.filter (newIn was))[cntN was (ys.take i)]? = some r := by
  have hi := (List.getElem?_eq_some_iff.1 hr).1
  have e : ys = ys.take i ++ r :: ys.drop (i + 1) := by
    have h2 := List.getElem?_eq_some_iff.1 hr
    rw [← h2.2, ← List.drop_eq_getElem_cons hi, List.take_append_drop]
  conv => lhs; rw [e]
  rw [List.filter_append, List.filter_cons, if_pos hn, List.getElem?_append_right (by show _ ≤ (List.filter _ _).length; rw [← e]; exact Nat.le_refl _)]
  rw [← e]
  show (r :: _)[(List.filter (newIn was) (ys.take i)).length - (List.filter (newIn was) (ys.take i)).length]? = _
  rw [Nat.sub_self]
  rfl
variable {was : List Ac} {ys : List Rw}
/-- The one at a place: whoever stays. -/
theorem place_old {i : Nat} {r : Rw} (hr : ys[i]? = some r) (hn : newIn was r = false) : (placeL σ φ A was ys)[i]? = some ⟨r.id, r.h, r.l, (findA was (keyR r)).1.salt, (findA was (keyR r)).1.slot⟩ := by
  unfold placeL
  rw [weave_at was ys _ i r hr, stay_old hn]
/-- .. whoever is new. -/
theorem place_new {i : Nat} {r : Rw} (hr : ys[i]? = some r) (hn : newIn was r = true) :
    (placeL σ φ A was ys)[i]? = some (newA σ φ A (stayT was ys ++ ((newsL σ φ A (stayT was ys) (ys.filter (newIn was))).take (cntN was (ys.take i))).map Ac.slot) r) := by
  unfold placeL
  rw [weave_at was ys _ i r hr, stay_new hn]
  have h := newsL_at (σ := σ) (φ := φ) (A := A) (ys.filter (newIn was)) (stayT was ys) (cntN was (ys.take i)) r (filter_at was ys hr hn)
  have h2 := List.getElem?_eq_some_iff.1 h
  rw [List.drop_eq_getElem_cons h2.1, List.headD_cons, h2.2]
theorem place_len : (placeL σ φ A was ys).length = ys.length := weave_len _ _ _
theorem place_keys : (placeL σ φ A was ys).map keyA = ys.map keyR := by
  apply List.ext_getElem?
  intro i
  rw [List.getElem?_map, List.getElem?_map]
  cases hr : ys[i]? with
  | none =>
    rw [List.getElem?_eq_none (by rw [place_len]; exact List.getElem?_eq_none_iff.1 hr)]
    rfl
  | some r =>
    cases hn : newIn was r with
    | true => rw [place_new hr hn]; rfl
    | false => rw [place_old hr hn]; rfl
theorem place_perm : (placeL σ φ A was ys).Perm (staysL was ys ++ newsL σ φ A (stayT was ys) (ys.filter (newIn was))) := weave_perm _ _ _ (newsL_len _ _ _ _ _)
theorem place_slots (hA : 0 < A) (hw : MayP A was) (hy : RowsP ys) (hl : (ys.length : Int) ≤ A) : ((placeL σ φ A was ys).map Ac.slot).Nodup ∧ ∀ a ∈ newsL σ φ A (stayT was ys) (ys.filter (newIn was)), 0 ≤ a.slot ∧ a.slot < A := by
  have hsum : (stayT was ys).length + (ys.filter (newIn was)).length = ys.length := by
    have h := (weave_perm was ys (List.replicate (cntN was ys) Ac.zero) (List.length_replicate ..)).length_eq
    rw [weave_len, List.length_append, List.length_replicate] at h
    unfold stayT
    rw [List.length_map]
    unfold cntN at h
    omega
  obtain ⟨h1, h2⟩ := newsL_slots (σ := σ) (φ := φ) hA (ys.filter (newIn was)) (stayT was ys) (stayT_nodup hw hy.2) (by rw [hsum]; exact hl)
  refine ⟨?_, h2⟩
  have hp := (place_perm (σ := σ) (φ := φ) (A := A) (was := was) (ys := ys)).map Ac.slot
  rw [List.map_append] at hp
  exact hp.nodup_iff.2 h1
theorem place_may (hA : 0 < A) (hσ : ∀ i, (σ i).size ≤ 32) (hw : MayP A was) (hy : RowsP ys) (hl : (ys.length : Int) ≤ A) : MayP A (placeL σ φ A was ys) := by
  obtain ⟨h1, h2⟩ := place_slots (σ := σ) (φ := φ) hA hw hy hl
  refine ⟨fun a ha => ?_, by rw [place_keys]; exact hy.2, h1⟩
  have hk : isId (keyA a) = true := by
    have hm : keyA a ∈ ys.map keyR := by rw [← place_keys (σ := σ) (φ := φ) (A := A) (was := was)]; exact List.mem_map_of_mem ha
    obtain ⟨r, hr, e⟩ := List.mem_map.1 hm
    rw [← e]
    exact hy.1 r hr
  rw [okA_def, hk, Bool.true_and]
  rcases List.mem_append.1 (place_perm.mem_iff.1 ha) with ha | ha
  · obtain ⟨r, hr, hn, rfl⟩ := stays_mem ha
    have hok := hw.1 _ (findA_in hn).1
    rw [okA_def, Bool.and_eq_true] at hok
    exact hok.2
  · have hs := h2 a ha
    obtain ⟨j, hj, e⟩ := List.getElem_of_mem ha
    obtain ⟨r, hr⟩ : ∃ r, (ys.filter (newIn was))[j]? = some r := ⟨_, List.getElem?_eq_getElem (by rw [newsL_len] at hj; exact hj)⟩
    have h3 := newsL_at (σ := σ) (φ := φ) (A := A) (ys.filter (newIn was)) (stayT was ys) j r hr
    rw [List.getElem?_eq_getElem hj, e] at h3
    injection h3 with h3
    have hz : a.salt.size ≤ 32 := by rw [h3]; exact hσ _
    rw [decide_eq_true hz, decide_eq_true hs.2]
    rfl
/-- As near as may be: whatever slot comes ahead of a new one's own, some one stands there who stays, or is new and stands ahead of it. -/
theorem place_near (hA : 0 < A) (hw : MayP A was) (hy : RowsP ys) (hl : (ys.length : Int) ≤ A) {i : Nat} {r : Rw} (hr : ys[i]? = some r) (hn : newIn was r = true) :
    ∃ (a : Ac) (s : Nat), (placeL σ φ A was ys)[i]? = some a ∧ a.id = r.id ∧ (s : Int) < A ∧ a.slot = sq A (φ r.id) s ∧
      ∀ j, j < s → ∃ (q : Nat) (b : Ac), (placeL σ φ A was ys)[q]? = some b ∧ b.slot = sq A (φ r.id) j ∧ ((findA was (keyA b)).2 = true ∨ q < i) := by
  have h0 := place_new (σ := σ) (φ := φ) (A := A) hr hn
  obtain ⟨N, hN⟩ : ∃ N, newsL σ φ A (stayT was ys) (ys.filter (newIn was)) = N := ⟨_, rfl⟩
  rw [hN] at h0
  have hsum : (stayT was ys).length + (ys.filter (newIn was)).length = ys.length := by
    have h := (weave_perm was ys (List.replicate (cntN was ys) Ac.zero) (List.length_replicate ..)).length_eq
    rw [weave_len, List.length_append, List.length_replicate] at h
    unfold stayT
    rw [List.length_map]
    unfold cntN at h
    omega
  have hNl : N.length = (ys.filter (newIn was)).length := by rw [← hN, newsL_len]
  have hcl : cntN was (ys.take i) < (ys.filter (newIn was)).length := (List.getElem?_eq_some_iff.1 (filter_at was ys hr hn)).1
  obtain ⟨s, h1, h2, h3, h4⟩ := free_some hA (T := stayT was ys ++ (N.take (cntN was (ys.take i))).map Ac.slot) (by rw [List.length_append, List.length_map, List.length_take]; omega) (φ r.id)
  refine ⟨_, s, h0, rfl, h1, ?_, fun j hj => ?_⟩
  · show (freeF A _ (φ r.id)).1 = _
    rw [h4]
  · rcases List.mem_append.1 (h2 j hj) with hm | hm
    · unfold stayT at hm
      obtain ⟨b, hb, e⟩ := List.mem_map.1 hm
      obtain ⟨x, hx, hxn, rfl⟩ := stays_mem hb
      obtain ⟨q, hq, e2⟩ := List.getElem_of_mem hx
      have hq2 : ys[q]? = some x := by rw [List.getElem?_eq_getElem hq, e2]
      refine ⟨q, _, place_old hq2 hxn, e, .inl ?_⟩
      unfold newIn at hxn
      show (findA was (keyR x)).2 = true
      simpa using hxn
    · obtain ⟨b, hb, e⟩ := List.mem_map.1 hm
      obtain ⟨m, hm2, e2⟩ := List.getElem_of_mem hb
      rw [List.length_take] at hm2
      rw [List.getElem_take] at e2
      -- the m-th new one: its row stands ahead of this one
      have hmf : m < (ys.filter (newIn was)).length := by omega
      have key : ∀ (k : Nat), k ≤ ys.length → m < cntN was (ys.take k) → ∃ q x, q < k ∧ ys[q]? = some x ∧ newIn was x = true ∧ cntN was (ys.take q) = m := by
        intro k
        induction k with
        | zero => intro _ h; simp [cntN] at h
        | succ k ih =>
          intro hk h
          obtain ⟨x, hx⟩ : ∃ x, ys[k]? = some x := ⟨_, List.getElem?_eq_getElem (by omega)⟩
          have ec : cntN was (ys.take (k + 1)) = cntN was (ys.take k) + (if newIn was x then 1 else 0) := by
            rw [take_more1 hx]
            unfold cntN
            rw [List.filter_append, List.length_append]
            cases hxx : newIn was x with
            | true => simp [List.filter_cons, hxx]
            | false => simp [List.filter_cons, hxx]
          by_cases hlt : m < cntN was (ys.take k)
          · obtain ⟨q, x, h1, h2, h3, h4⟩ := ih (by omega) hlt
            exact ⟨q, x, by omega, h2, h3, h4⟩
          · rw [ec] at h
            cases hxn : newIn was x with
            | true => rw [hxn] at h; exact ⟨k, x, by omega, hx, hxn, by simp at h; omega⟩
            | false => rw [hxn] at h; simp at h; omega
      obtain ⟨q, x, q1, q2, q3, q4⟩ := key i (Nat.le_of_lt (List.getElem?_eq_some_iff.1 hr).1) (by omega)
      have h5 := place_new (σ := σ) (φ := φ) (A := A) q2 q3
      rw [hN, q4] at h5
      have h6 := newsL_at (σ := σ) (φ := φ) (A := A) (ys.filter (newIn was)) (stayT was ys) m x (by rw [← q4]; exact filter_at was ys q2 q3)
      rw [hN, List.getElem?_eq_getElem (by omega), e2] at h6
      injection h6 with h6
      rw [← h6] at h5
      exact ⟨q, b, h5, e, .inr q1⟩
end
end Go.Proofs.YtngofpdpangajaaDoor
