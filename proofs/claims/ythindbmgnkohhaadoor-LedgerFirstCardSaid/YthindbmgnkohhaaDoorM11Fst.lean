/- Several of my texts, laid as one. -/
import Derived.Test.YthindbmgnkohhaaDoorM11Pln
import Derived.Test.YthindbmgnkohhaaDoorD10First
import Derived.Test.YthindbmgnkohhaaDoorD10Writ
import Derived.Test.YthindbmgnkohhaaDoorU11Find
import Derived.Test.YthindbmgnkohhaaDoorM11Jdg
import Derived.Test.YthindbmgnkohhaaDoorU1Sum
import Derived.Test.YthindbmgnkohhaaDoorR10Sort
import Derived.Test.YthindbmgnkohhaaDoorM9Lin
/-
  Plain words on ledgers, for the laws: when lines are a ledger; when rows are; in whatever order.
-/
namespace Go.Proofs.YthindbmgnkohhaaDoor
set_option linter.unusedVariables false
set_option linter.unusedSimpArgs false
set_option maxRecDepth 10000
open Go.RowKit Go.Sort

theorem rowsL_cons (x : List UInt8) (r : List (List UInt8)) : rowsL (x :: r) = tellRows x ++ rowsL r := by simp [rowsL, tellRows]
theorem rowsL_ok (l : List (List UInt8)) : ∀ x ∈ rowsL l, x.ok := by
  induction l with
  | nil => intro x hx; simp [rowsL] at hx
  | cons y r ih =>
    intro x hx
    rw [rowsL_cons] at hx
    rcases List.mem_append.1 hx with hx | hx
    · unfold tellRows at hx
      split at hx
      · rw [List.mem_singleton.1 hx]; exact tell_ok y
      · cases hx
    · exact ih x hx
theorem good_prefix {most : Nat} {l m : List Rw} (hl : ∀ x ∈ l ++ m, x.ok) (h : GoodL most (l ++ m)) : GoodL most l := by
  obtain ⟨h1, h2, h3⟩ := h
  refine ⟨by simp at h1; omega, ?_, ?_⟩
  · rw [List.map_append, List.nodup_append] at h2; exact h2.1
  · rw [sumR_app] at h3
    have a := sumR_nonneg (l := l) fun x hx => hl x (by simp [hx])
    have b := sumR_nonneg (l := m) fun x hx => hl x (by simp [hx])
    have c := room_iff.1 h3
    exact room_iff.2 (by omega)
theorem putL_good {most : Nat} {l m : List Rw} {x : Rw} (hl : ∀ y ∈ l ++ x :: m, y.ok) (h : GoodL most (l ++ x :: m)) : putL most l x = 0 := by
  have e : l ++ x :: m = (l ++ [x]) ++ m := by simp
  rw [e] at h hl
  obtain ⟨h1, h2, h3⟩ := good_prefix hl h
  refine putL_ok (by simp at h1; omega) ?_ (by rw [sumR_snoc] at h3; exact h3)
  rw [hasK_keys, decide_eq_false_iff_not]
  rw [List.map_append, List.nodup_append] at h2
  exact fun hm => h2.2.2 _ hm (keyR x) (by simp) rfl
theorem putL_kinds (most : Nat) (l : List Rw) (x : Rw) : putL most l x = 0 ∨ putL most l x = 110 ∨ putL most l x = 111 ∨ putL most l x = 112 := by
  unfold putL
  split
  · simp
  · split
    · simp
    · split <;> simp
theorem tell_120 (x : List UInt8) : (tell x).2.2 ≠ 120 := by
  have hw : wrongL x ≠ 120 := by
    unfold wrongL
    split
    · decide
    · split <;> decide
  unfold tell
  split
  · exact hw
  · have h := parR_cases x
    rcases h.2 with h | ⟨-, h⟩ <;> (show (parR x).2 ≠ 120) <;> omega
/-- What lines are as a ledger, behind rows. -/
theorem impF_spec (most : Nat) : ∀ (ls : List (List UInt8)) (acc : List Rw) (n : Nat), GoodL most acc → (∀ x ∈ acc, x.ok) →
    (impF most acc n ls = (acc ++ rowsL ls, 0, 0) ∧ (∀ x ∈ ls, (tell x).2.2 = 0) ∧ GoodL most (acc ++ rowsL ls)) ∨
    (∃ k E, impF most acc n ls = ([], n + k + 1, E) ∧ E ≠ 0 ∧ E ≠ 120 ∧ k < ls.length ∧ ¬ ((∀ x ∈ ls, (tell x).2.2 = 0) ∧ GoodL most (acc ++ rowsL ls)))
  | [], acc, n, hg, ho => .inl ⟨by simp [impF, rowsL], fun x hx => by simp at hx, by simpa [rowsL] using hg⟩
  | x :: r, acc, n, hg, ho => by
    by_cases he : lineE most acc x = 0
    · have ho2 : ∀ y ∈ lineR acc x, y.ok := fun y hy => by
        rw [lineR_eq] at hy
        rcases List.mem_append.1 hy with hy | hy
        · exact ho y hy
        · unfold tellRows at hy
          split at hy
          · rw [List.mem_singleton.1 hy]; exact tell_ok x
          · cases hy
      have ht : (tell x).2.2 = 0 := by
        unfold lineE at he
        split at he
        · rename_i h1; exact absurd he h1
        · rename_i h1; simpa using h1
      have hr : lineR acc x ++ rowsL r = acc ++ rowsL (x :: r) := by rw [lineR_eq, rowsL_cons, List.append_assoc]
      rw [impF_on he]
      rcases impF_spec most r (lineR acc x) (n + 1) (good_line hg he) ho2 with ⟨h1, h2, h3⟩ | ⟨k, E, h1, h2, h3, h4, h5⟩
      · rw [hr] at h1 h3
        refine .inl ⟨h1, fun y hy => ?_, h3⟩
        rcases List.mem_cons.1 hy with rfl | hy
        · exact ht
        · exact h2 y hy
      · refine .inr ⟨k + 1, E, by rw [h1, show n + 1 + k + 1 = n + (k + 1) + 1 by omega], h2, h3, by rw [List.length_cons]; omega, fun hq => h5 ⟨fun y hy => hq.1 y (by simp [hy]), by rw [hr]; exact hq.2⟩⟩
    · rw [impF_off he]
      refine .inr ⟨0, _, by simp, he, ?_, by simp, fun hq => he ?_⟩
      · unfold lineE
        split
        · exact tell_120 x
        · split
          · have := putL_kinds most acc (tell x).1
            omega
          · decide
      · have ht := hq.1 x (by simp)
        cases hb : (tell x).2.1 with
        | false => exact lineE_none ht hb
        | true =>
          rw [lineE_row hb]
          have e : tellRows x = [(tell x).1] := by unfold tellRows; rw [hb, if_pos rfl]
          have h2 := hq.2
          rw [rowsL_cons, e] at h2
          refine putL_good (m := rowsL r) (fun y hy => ?_) h2
          rcases List.mem_append.1 hy with hy | hy
          · exact ho y hy
          · rcases List.mem_cons.1 hy with rfl | hy
            · exact tell_ok x
            · exact rowsL_ok r y hy
/-- What rows are as a ledger, behind rows. -/
theorem chkF_spec (most : Nat) : ∀ (r acc : List Rw) (n : Nat), GoodL most acc →
    (chkF most acc n r = (0, 0) ∧ GoodL most (acc ++ r) ∧ ∀ x ∈ r, isId (keyR x) = true) ∨ (∃ k E, chkF most acc n r = (n + k + 1, E) ∧ k < r.length ∧ E ≠ 0 ∧ E ≠ 120)
  | [], acc, n, hg => .inl ⟨rfl, by simpa using hg, fun x hx => by simp at hx⟩
  | x :: r, acc, n, hg => by
    cases hi : isId (keyR x) with
    | false => exact .inr ⟨0, 101, by rw [chkF, if_pos hi], by simp, by decide, by decide⟩
    | true =>
      by_cases hp : putL most acc x = 0
      · have e : chkF most acc n (x :: r) = chkF most (acc ++ [x]) (n + 1) r := by rw [chkF, if_neg (by rw [hi]; decide), if_pos hp]
        rw [e]
        rcases chkF_spec most r (acc ++ [x]) (n + 1) (hg.snoc hp) with ⟨h1, h2, h3⟩ | ⟨k, E, h1, h2, h3, h4⟩
        · refine .inl ⟨h1, by simpa using h2, fun y hy => ?_⟩
          rcases List.mem_cons.1 hy with rfl | hy
          · exact hi
          · exact h3 y hy
        · exact .inr ⟨k + 1, E, by rw [h1, show n + 1 + k + 1 = n + (k + 1) + 1 by omega], by rw [List.length_cons]; omega, h3, h4⟩
      · have e : chkF most acc n (x :: r) = (n + 1, putL most acc x) := by rw [chkF, if_neg (by rw [hi]; decide), if_neg hp]
        have := putL_kinds most acc x
        exact .inr ⟨0, _, by rw [e], by simp, hp, by omega⟩
/-- Rows with which nothing is wrong are found to be so. -/
theorem chkF_good (most : Nat) : ∀ (r acc : List Rw) (n : Nat), (∀ x ∈ acc ++ r, x.ok) → GoodL most (acc ++ r) → (∀ x ∈ r, isId (keyR x) = true) → chkF most acc n r = (0, 0)
  | [], acc, n, _, _, _ => rfl
  | x :: r, acc, n, ho, hg, hi => by
    rw [chkF, if_neg (by rw [hi x (by simp)]; decide), if_pos (putL_good ho hg)]
    exact chkF_good most r (acc ++ [x]) (n + 1) (by simpa using ho) (by simpa using hg) (fun y hy => hi y (by simp [hy]))
/-- Rows with the same rows of each Id are the same rows in another order. -/
theorem fil_perm : ∀ (xs ys : List Rw), (∀ k, fil k ys = fil k xs) → xs.Perm ys
  | [], ys, h => by
    cases ys with
    | nil => exact List.Perm.refl _
    | cons y r =>
      have := h (keyR y)
      rw [fil_yes r rfl] at this
      simp [fil] at this
  | x :: r, ys, h => by
    have h0 := h (keyR x)
    rw [fil_yes r rfl] at h0
    have hm : x ∈ ys := (mem_fil ys x).2 (by rw [h0]; simp)
    -- the first row of that Id
    obtain ⟨p, z, q, hy, hp, hz⟩ : ∃ p z q, ys = p ++ z :: q ∧ (∀ a ∈ p, keyR a ≠ keyR x) ∧ keyR z = keyR x := by
      clear h h0
      induction ys with
      | nil => cases hm
      | cons y s ih =>
        by_cases e : keyR y = keyR x
        · exact ⟨[], y, s, rfl, fun a ha => (by cases ha), e⟩
        · have hm2 : x ∈ s := by
            rcases List.mem_cons.1 hm with rfl | hm
            · exact absurd rfl e
            · exact hm
          obtain ⟨p, z, q, h1, h2, h3⟩ := ih hm2
          exact ⟨y :: p, z, q, by rw [h1]; rfl, fun a ha => by
            rcases List.mem_cons.1 ha with rfl | ha
            · exact e
            · exact h2 a ha, h3⟩
    have hp0 : fil (keyR x) p = [] := by
      unfold fil
      exact List.filter_eq_nil_iff.2 fun a ha => by simpa using hp a ha
    subst hy
    rw [fil_app, hp0, List.nil_append, fil_yes q hz] at h0
    injection h0 with e1 e2
    subst e1
    have ih := fil_perm r (p ++ q) (fun k => by
      have hk := h k
      rw [fil_app] at hk ⊢
      by_cases e : keyR z = k
      · rw [fil_yes _ e, fil_yes _ e] at hk
        subst e
        rw [hp0, List.nil_append] at hk ⊢
        injection hk
      · rw [fil_not _ e, fil_not _ e] at hk
        exact hk)
    exact (List.Perm.cons z ih).trans List.perm_middle.symm
theorem Sd.perm {xs ys : List Rw} (h : Sd xs ys) : xs.Perm ys := fil_perm xs ys h.2
theorem sumR_perm {xs ys : List Rw} (h : xs.Perm ys) : sumR xs = sumR ys := by
  induction h with
  | nil => rfl
  | cons x _ ih => simp only [sumR, ih]
  | swap x y l => simp only [sumR]; omega
  | trans _ _ h1 h2 => exact h1.trans h2
theorem GoodL.perm {most : Nat} {xs ys : List Rw} (h : GoodL most xs) (hp : xs.Perm ys) : GoodL most ys :=
  ⟨by rw [← hp.length_eq]; exact h.1, ((hp.map keyR).nodup_iff).1 h.2.1, by rw [← sumR_perm hp]; exact h.2.2⟩
/-- Of unlike Ids, in another order: the same rows of each Id. -/
theorem fil_nodup {xs : List Rw} (h : (xs.map keyR).Nodup) (k : List UInt8) : fil k xs = [] ∨ ∃ x ∈ xs, fil k xs = [x] := by
  induction xs with
  | nil => exact .inl rfl
  | cons x r ih =>
    rw [List.map_cons, List.nodup_cons] at h
    by_cases e : keyR x = k
    · right
      refine ⟨x, by simp, ?_⟩
      rw [fil_yes r e]
      have : fil k r = [] := by
        unfold fil
        exact List.filter_eq_nil_iff.2 fun a ha => by
          simp
          intro e2
          exact h.1 (by rw [e, ← e2]; exact List.mem_map_of_mem ha)
      rw [this]
    · rw [fil_not r e]
      rcases ih h.2 with h1 | ⟨y, hy, h1⟩
      · exact .inl h1
      · exact .inr ⟨y, by simp [hy], h1⟩
theorem fil_turned {xs ys : List Rw} (h : (xs.map keyR).Nodup) (hp : xs.Perm ys) (k : List UInt8) : fil k ys = fil k xs := by
  have hq := hp.filter (fun x => decide (keyR x = k))
  have e1 : fil k xs = xs.filter (fun x => decide (keyR x = k)) := rfl
  have e2 : fil k ys = ys.filter (fun x => decide (keyR x = k)) := rfl
  rw [← e1, ← e2] at hq
  rcases fil_nodup h k with h1 | ⟨x, -, h1⟩
  · rw [h1] at hq ⊢
    exact List.Perm.eq_nil hq.symm
  · rw [h1] at hq ⊢
    exact List.perm_singleton.1 hq.symm
theorem Sd.turned {xs ys zs : List Rw} (h : (xs.map keyR).Nodup) (hp : xs.Perm ys) (hs : Sd ys zs) : Sd xs zs := ⟨hs.1, fun k => (hs.2 k).trans (fil_turned h hp k)⟩
theorem rowsL_text (ys : List Rw) (ho : ∀ y ∈ ys, y.ok) (hi : ∀ y ∈ ys, isId (keyR y) = true) : rowsL (ys.map textR ++ [[]]) = ys := by
  induction ys with
  | nil => simp [rowsL, tell_nil]
  | cons y r ih =>
    rw [List.map_cons, List.cons_append, rowsL_cons, ih (fun z hz => ho z (by simp [hz])) (fun z hz => hi z (by simp [hz]))]
    unfold tellRows
    rw [textR_tell y (ho y (by simp)) (hi y (by simp))]
    rfl
/-- What was exported is imported. -/
theorem imp_rows {most : Nat} {ys : List Rw} (ho : ∀ y ∈ ys, y.ok) (hi : ∀ y ∈ ys, isId (keyR y) = true) (hg : GoodL most ys) : impF most [] 0 (splitL (rowsT ys)) = (ys, 0, 0) := by
  rw [split_rows ys (List.all_eq_true.2 hi)]
  have hr := rowsL_text ys ho hi
  rcases impF_spec most (ys.map textR ++ [[]]) [] 0 (good_nil _) (fun x hx => by cases hx) with ⟨h1, -, -⟩ | ⟨k, E, -, -, -, -, h5⟩
  · rw [h1, List.nil_append, hr]
  · refine absurd ⟨fun x hx => ?_, by rw [List.nil_append, hr]; exact hg⟩ h5
    rcases List.mem_append.1 hx with hx | hx
    · obtain ⟨y, hy, rfl⟩ := List.mem_map.1 hx
      rw [textR_tell y (ho y hy) (hi y hy)]
    · rw [List.mem_singleton.1 hx, tell_nil]
/-- Any rows may be put by their Ids. -/
theorem sd_exists (xs : List Rw) : ∃ ys, Sd xs ys := by
  have key : ∀ (l acc : List Rw), Sd acc acc → ∃ ys, Sd (acc ++ l) ys := by
    intro l
    induction l with
    | nil => intro acc h; exact ⟨acc, by simpa using h⟩
    | cons x r ih =>
      intro acc h
      have hsp : ∀ zs : List Rw, Sl zs → ∃ p q, zs = p ++ q ∧ (∀ a ∈ p, ¬ LR x a) ∧ ∀ a ∈ q, LR x a := by
        intro zs
        induction zs with
        | nil => intro _; exact ⟨[], [], rfl, fun a ha => (by cases ha), fun a ha => (by cases ha)⟩
        | cons z s ihz =>
          intro hz
          by_cases hl : LR x z
          · refine ⟨[], z :: s, rfl, fun a ha => (by cases ha), fun a ha => ?_⟩
            rcases List.mem_cons.1 ha with rfl | ha
            · exact hl
            · exact LR_lt_not hl ((List.pairwise_cons.1 hz).1 a ha)
          · obtain ⟨p, q, h1, h2, h3⟩ := ihz (List.pairwise_cons.1 hz).2
            refine ⟨z :: p, q, by rw [h1]; rfl, fun a ha => ?_, h3⟩
            rcases List.mem_cons.1 ha with rfl | ha
            · exact hl
            · exact h2 a ha
      obtain ⟨p, q, h1, h2, h3⟩ := hsp acc h.1
      have hs := h.1
      rw [h1] at hs
      obtain ⟨s1, s2, s3⟩ := hs.part
      have hnew : Sd (acc ++ [x]) (p ++ [x] ++ q) := by
        refine ⟨Sl.join (Sl.join s1 (Sl_one x) ?_) s2 ?_, fun k => ?_⟩
        · intro a ha b hb
          rw [List.mem_singleton.1 hb]
          exact h2 a ha
        · intro a ha b hb
          rcases List.mem_append.1 ha with ha | ha
          · exact s3 a ha b hb
          · rw [List.mem_singleton.1 ha]
            exact LR_asymm (h3 b hb)
        · rw [h1, List.append_assoc, List.append_assoc, fil_app k p, fil_app k p]
          congr 1
          exact fil_turn k q [x] (fun a ha b hb => by
            rw [List.mem_singleton.1 hb]
            exact h3 a ha)
      obtain ⟨ys, hy⟩ := ih (p ++ [x] ++ q) hnew.self
      refine ⟨ys, hy.1, fun k => ?_⟩
      rw [hy.2, fil_app, hnew.2, ← fil_app]
      simp
  obtain ⟨ys, h⟩ := key xs [] ⟨List.Pairwise.nil, fun _ => rfl⟩
  exact ⟨ys, by simpa using h⟩
theorem fil_in (k : List UInt8) (l o : List Rw) : fil k (inL l o) = if hasK o k = true then fil k l else [] := by
  induction l with
  | nil => simp [inL, fil]
  | cons x r ih =>
    have e : inL (x :: r) o = (if hasK o (keyR x) = true then [x] else []) ++ inL r o := by
      unfold inL
      rw [List.filter_cons]
      split <;> simp_all
    rw [e, fil_app, ih]
    by_cases hx : keyR x = k
    · rw [fil_yes r hx, hx]
      split <;> simp [fil, hx]
    · rw [fil_not r hx]
      have : fil k (if hasK o (keyR x) = true then [x] else []) = [] := by split <;> simp [fil, hx]
      rw [this, List.nil_append]
theorem fil_out (k : List UInt8) (l o : List Rw) : fil k (outL l o) = if hasK o k = true then [] else fil k l := by
  induction l with
  | nil => simp [outL, fil]
  | cons x r ih =>
    have e : outL (x :: r) o = (if hasK o (keyR x) = true then [] else [x]) ++ outL r o := by
      unfold outL
      rw [List.filter_cons]
      split <;> simp_all
    rw [e, fil_app, ih]
    by_cases hx : keyR x = k
    · rw [fil_yes r hx, hx]
      split <;> simp [fil, hx]
    · rw [fil_not r hx]
      have : fil k (if hasK o (keyR x) = true then [] else [x]) = [] := by split <;> simp [fil, hx]
      rw [this, List.nil_append]
/-- Who stays and who comes, together. -/
theorem sd_parts {xs ys l2 l3 zs : List Rw} (h2 : Sd (inL ys xs) l2) (h3 : Sd (outL ys xs) l3) (h : Sd (l2 ++ l3) zs) : Sd ys zs := by
  refine ⟨h.1, fun k => ?_⟩
  rw [h.2, fil_app, h2.2, h3.2, fil_in, fil_out]
  split <;> simp
theorem nodup_len : ∀ (a b : List (List UInt8)), a.Nodup → (∀ x ∈ a, x ∈ b) → a.length ≤ b.length
  | [], b, _, _ => Nat.zero_le _
  | x :: a, b, hn, hs => by
    rw [List.nodup_cons] at hn
    have hx := hs x (by simp)
    have h1 := nodup_len a (b.erase x) hn.2 (fun y hy => (List.mem_erase_of_ne (fun (e : y = x) => hn.1 (by rw [← e]; exact hy))).2 (hs y (by simp [hy])))
    rw [List.length_erase_of_mem hx] at h1
    have h2 : 0 < b.length := List.length_pos_of_mem hx
    rw [List.length_cons]
    omega
theorem in_keys (l o : List Rw) (k : List UInt8) : k ∈ (inL l o).map keyR ↔ hasK l k = true ∧ hasK o k = true := by
  rw [List.mem_map, hasK_iff]
  constructor
  · rintro ⟨x, hx, rfl⟩
    have := inL_mem hx
    exact ⟨⟨x, this.1, rfl⟩, this.2⟩
  · rintro ⟨⟨x, hx, rfl⟩, h2⟩
    exact ⟨x, by simp [inL, hx, h2], rfl⟩
theorem in_nodup {l : List Rw} (h : (l.map keyR).Nodup) (o : List Rw) : ((inL l o).map keyR).Nodup := h.sublist (List.Sublist.map keyR List.filter_sublist)
theorem in_out_len (xs ys : List Rw) : (inL xs ys).length + (outL xs ys).length = xs.length := by
  unfold inL outL
  induction xs with
  | nil => rfl
  | cons x r ih =>
    rw [List.filter_cons, List.filter_cons]
    cases hasK ys (keyR x) <;> simp <;> omega
/-- Who goes and who stays are as many as there were. -/
theorem len_parts {xs ys : List Rw} (hx : (xs.map keyR).Nodup) (hy : (ys.map keyR).Nodup) : (outL xs ys).length + (inL ys xs).length = xs.length := by
  have h1 := nodup_len _ _ (in_nodup hx ys) (fun k hk => (in_keys ys xs k).2 ((in_keys xs ys k).1 hk).symm)
  have h2 := nodup_len _ _ (in_nodup hy xs) (fun k hk => (in_keys xs ys k).2 ((in_keys ys xs k).1 hk).symm)
  rw [List.length_map, List.length_map] at h1 h2
  have h3 := in_out_len xs ys
  omega
theorem find_nodup {xs : List Rw} (h : (xs.map keyR).Nodup) {x : Rw} (hx : x ∈ xs) : findR xs (keyR x) = (x, true) := by
  induction xs with
  | nil => cases hx
  | cons y r ih =>
    rw [List.map_cons, List.nodup_cons] at h
    unfold findR
    rcases List.mem_cons.1 hx with rfl | hx
    · rw [if_pos rfl]
    · rw [if_neg (fun e => h.1 (by rw [e]; exact List.mem_map_of_mem hx))]
      exact ih h.2 hx
theorem has_self {xs : List Rw} {x : Rw} (hx : x ∈ xs) : hasK xs (keyR x) = true := (hasK_iff _ _).2 ⟨x, hx, rfl⟩
theorem out_self (xs : List Rw) : outL xs xs = [] := List.filter_eq_nil_iff.2 fun x hx => by simp [has_self hx]
theorem in_self (xs : List Rw) : inL xs xs = xs := List.filter_eq_self.2 fun x hx => has_self hx
end Go.Proofs.YthindbmgnkohhaaDoor
/-
  ledger.Total, walked: the total of rows whose total there is.
-/
namespace Go.Proofs.YthindbmgnkohhaaDoor
set_option linter.unusedVariables false
set_option linter.unusedSimpArgs false
set_option maxRecDepth 10000
open Go.RowKit Go.Sort

theorem info_num : (Tryd.prog.info? 45).map (fun i => (i.zero, i.size, i.bytes)) = some (some (.agg #[.int .u64 0, .int .u64 0]), 2, 16) := by kernel_rfl
theorem make_nums (n : Nat) (hn : n ≤ 1000000000) (u : World) : ∃ cs : Array Value, cs.size = n * 2 ∧ (Instr.makeSlice 89 (.int .i64 (n : Int)) (.int .i64 (n : Int))).run Tryd.prog u = .ok (.slice (some ⟨u.heap.size, 0, none⟩) n n) (u.alloc (.cells cs 45)) := by
  obtain ⟨i0, hi, hz0, hz1, hz2⟩ := info_parts info_num
  have h := run_make (P := Tryd.prog) u 89 45 i0 _ Tryd.underlying89 hi hz0 .i64 .i64 (n : Int) (n : Int) (by omega) (by omega) (by rw [hz2]; omega) (by omega)
  rw [hz1] at h
  exact ⟨_, made_size _ _, by simpa using h⟩
def amts (xs : List Rw) : List (Int × Int) := xs.map fun x => (x.h, x.l)
theorem sumN_amts (xs : List Rw) : sumN (amts xs) = sumR xs := by
  induction xs with
  | nil => rfl
  | cons x r ih =>
    have e : amts (x :: r) = (x.h, x.l) :: amts r := rfl
    rw [e, sumN, sumR, ih]
theorem amts_ok {xs : List Rw} (h : ∀ x ∈ xs, x.ok) : AllNum (amts xs) := fun y hy => by
  obtain ⟨x, hx, rfl⟩ := List.mem_map.1 hy
  exact h x hx
/-- A block of numbers, filled as far as that with rows' amounts. -/
def NumTo (cur : Array Value) (xs : List Rw) (k : Nat) : Prop := cur.size = xs.length * 2 ∧ ∀ j x, j < k → xs[j]? = some x → cur[j * 2]? = some (.int .u64 x.h) ∧ cur[j * 2 + 1]? = some (.int .u64 x.l)
theorem NumTo.next {cur : Array Value} {xs : List Rw} {k : Nat} {x : Rw} (h : NumTo cur xs k) (hx : xs[k]? = some x) : NumTo ((cur.setIfInBounds (k * 2) (.int .u64 x.h)).setIfInBounds (k * 2 + 1) (.int .u64 x.l)) xs (k + 1) := by
  obtain ⟨h1, h2⟩ := h
  have hk := (List.getElem?_eq_some_iff.1 hx).1
  refine ⟨by simp [h1], fun j y hj hy => ?_⟩
  by_cases e : j = k
  · subst e
    rw [hx] at hy
    injection hy with hy
    subst hy
    constructor
    · rw [Array.getElem?_setIfInBounds_ne (by omega), Array.getElem?_setIfInBounds_self_of_lt (by omega)]
    · rw [Array.getElem?_setIfInBounds_self_of_lt (by simp; omega)]
  · have := h2 j y (by omega) hy
    rw [Array.getElem?_setIfInBounds_ne (by omega), Array.getElem?_setIfInBounds_ne (by omega), Array.getElem?_setIfInBounds_ne (by omega), Array.getElem?_setIfInBounds_ne (by omega)]
    exact this
theorem NumTo.row {cur : Array Value} {xs : List Rw} {W : World} {g : Nat} (h : NumTo cur xs xs.length) (hB : Box W g 45 cur) : NumRow W W.heap.size (some ⟨g, 0, none⟩) (amts xs) := fun i a b hi => by
  unfold amts at hi
  rw [List.getElem?_map] at hi
  cases hx : xs[i]? with
  | none => rw [hx] at hi; cases hi
  | some x =>
    rw [hx] at hi
    injection hi with hi
    injection hi with e1 e2
    subst e1 e2
    obtain ⟨p1, p2⟩ := h.2 i x ((List.getElem?_eq_some_iff.1 hx).1) hx
    have e1 : (⟨g, 0, none⟩ : Addr).add (i * 2) = ⟨g, i * 2, none⟩ := by simp [Addr.add]; exact fun hj => hj.symm
    have e2 : (⟨g, 0, none⟩ : Addr).add (i * 2 + 1) = ⟨g, i * 2 + 1, none⟩ := by simp [Addr.add]
    refine ⟨_, rfl, hB.inside, ?_, ?_⟩
    · rw [e1, hB.read, p1]
    · rw [e2, hB.read, p2]
set_option maxRecDepth 100000 in
set_option maxHeartbeats 4000000 in
theorem total_any (A : Option Addr) (c : Nat) (xs : List Rw) (hx : ∀ x ∈ xs, x.ok) (hm : xs.length ≤ 1000000) (hr : room (sumR xs) = true) (w : World) (hR : RwRow w w.heap.size A xs) :
    Calls Tryd.prog 18 #[.slice A xs.length c] w (Tells (.tuple #[.agg #[.int .u64 (rh (sumR xs)), .int .u64 (rl (sumR xs))], .int .i64 0]) w.heap.size w) := by
  obtain ⟨cs, hcs, hmk⟩ := make_nums xs.length (by omega) (w.alloc (.cells #[.int .u64 0, .int .u64 0] 45))
  have cS := fun u (hu : NumRow u u.heap.size _ _) => sum_any (some ⟨w.heap.size + 1, 0, none⟩) xs.length (amts xs) (amts_ok hx) (by simp [amts]; omega) u hu
  rw [sumN_amts, show (amts xs).length = xs.length by simp [amts]] at cS
  have cS2 : ∀ u, NumRow u u.heap.size (some ⟨w.heap.size + 1, 0, none⟩) (amts xs) → Calls Tryd.prog 43 #[.slice (some ⟨w.heap.size + 1, 0, none⟩) xs.length xs.length] u (Tells (.tuple #[.agg #[.int .u64 (rh (sumR xs)), .int .u64 (rl (sumR xs))], .int .i64 0]) u.heap.size u) := fun u hu =>
    (cS u hu).mono fun e w' h => by
      have h1 := h.1
      rw [re_yes hr] at h1
      exact ⟨h1, h.2⟩
  clear cS hr
  obtain ⟨S, hS⟩ : ∃ S, sumR xs = S := ⟨_, rfl⟩
  rw [hS] at cS2 ⊢
  clear hS
  have H := (Has.start w).add 45 #[.int .u64 0, .int .u64 0]
  have H := H.addAt (g := w.heap.size + 1) 45 cs (by simp)
  go_enter Tryd.func18, Tryd.ntmps18
  go_upto_region 3 with fail
  generalize (w.alloc (.cells #[.int .u64 0, .int .u64 0] 45)).alloc (.cells cs 45) = W at *
  have N0 : NumTo cs xs 0 := ⟨hcs, fun j x hj => absurd hj (Nat.not_lt_zero _)⟩
  go_loopg [14] xs.length (fun gk i wr => ∃ (k : Nat) (cur : Array Value), k ≤ xs.length ∧ xs.length - k ≤ gk ∧ i = .int .i64 k ∧ NumTo cur xs k ∧ Has w [(w.heap.size + 1, 45, cur), (w.heap.size, 45, #[.int .u64 0, .int .u64 0])] wr)
  case atStart => exact ⟨0, cs, Nat.zero_le _, by omega, rfl, N0, H⟩
  case round =>
    obtain ⟨k, cur, hk, hgk, rfl, hN, H⟩ := hrel
    have HG := hideIt hgk
    clear hgk
    have HN := hideIt hN
    by_cases hlt : k < xs.length
    · obtain ⟨x, hx1⟩ : ∃ x, xs[k]? = some x := ⟨_, List.getElem?_eq_getElem hlt⟩
      obtain ⟨ad, rfl, had, p0, p1, p2⟩ := (hR.call H.below) k x hx1
      have hlti : (k : Int) < (xs.length : Int) := by omega
      have p3 : (ad.add (k * 3)).block < wr.heap.size := by rw [o10_block]; exact Nat.lt_of_lt_of_le had H.size
      have HX := hideIt hx1
      clear hx1
      go_upto_region 5 with fail
      have H2 := H.swap.swap
      have H1 := H.add 50 #[.string x.id, .int .u64 x.h, .int .u64 x.l]
      change Code.wp _ _ _ _ (wr.alloc (.cells #[.string x.id, .int .u64 x.h, .int .u64 x.l] 50))
      have hgs : wr.heap.size ≠ w.heap.size + 1 ∧ wr.heap.size ≠ w.heap.size := by
        have a := (H.box 0).inside
        have b := (H.box 1).inside
        omega
      generalize wr.alloc (.cells #[.string x.id, .int .u64 x.h, .int .u64 x.l] 50) = W1 at *
      generalize wr.heap.size = g1 at *
      obtain ⟨f0, f1, f2, -, -, -, hin2⟩ := (H1.box 0).three
      have B1 := H1.box 1
      have hsz : cur.size = xs.length * 2 := hN.1
      have q0 := B1.free (k * 2)
      have q1 := B1.free (k * 2 + 1)
      have q2 : W1.cell? ⟨w.heap.size + 1, k * 2, none⟩ = some cur[k * 2]! := by rw [B1.read, Array.getElem?_eq_getElem (by omega), getElem!_pos cur (k * 2) (by omega)]
      have q3 : W1.cell? ⟨w.heap.size + 1, k * 2 + 1, none⟩ = some cur[k * 2 + 1]! := by rw [B1.read, Array.getElem?_eq_getElem (by omega), getElem!_pos cur (k * 2 + 1) (by omega)]
      have q4 := B1.inside
      clear hN
      go_wp2
      go_roundg (xs.length - (k + 1))
      case measure => have := HG.out; omega
      case rel =>
        exact ⟨k + 1, _, by omega, Nat.le_refl _, by go_num, HN.out.next HX.out, (H1.tail.wrote (by omega) (fun x hx => by rw [List.mem_singleton.1 hx]; simp) _ _).wrote (by omega) (fun x hx => by rw [List.mem_singleton.1 hx]; simp) _ _⟩
    · have e : k = xs.length := by omega
      subst e
      have R := HN.out.row (H.box 0)
      clear HN HG hN N0 hmk hcs hlt hk
      obtain ⟨a, ha⟩ : ∃ a, rh S = a := ⟨_, rfl⟩
      obtain ⟨b, hb⟩ : ∃ b, rl S = b := ⟨_, rfl⟩
      rw [ha, hb] at cS2 ⊢
      go_upto_region 8 with (first
        | (go_at_call 43; refine (cS2 _ R).mono ?_; rintro e w1 ⟨rfl, j1⟩)
        | fail)
      have H1 := (H.call j1).add 45 #[.int .u64 a, .int .u64 b]
      change Code.wp _ _ _ _ (w1.alloc (.cells #[.int .u64 a, .int .u64 b] 45))
      generalize w1.alloc (.cells #[.int .u64 a, .int .u64 b] 45) = W1 at *
      generalize w1.heap.size = g1 at *
      obtain ⟨m0, m1, m2⟩ := (H1.box 0).num
      obtain ⟨n0, n1, n2⟩ := (H1.box 2).num
      have f0 := (H1.box 2).free 0
      have f1 := (H1.box 2).free 1
      have B2 := H1.box 2
      have L1 := H1.below
      go_wp2
      exact bodyPost_ret (v := .tuple #[.agg #[.int .u64 a, .int .u64 b], .int .i64 0]) (by simp [results, Tryd.results18, go_sem, (box2_put B2 (.int .u64 a) (.int .u64 b)).read 0, (box2_put B2 (.int .u64 a) (.int .u64 b)).read 1]) rfl
        ⟨by rw [ha, hb], (L1.setCell (by simp) _).setCell (by simp) _⟩
end Go.Proofs.YthindbmgnkohhaaDoor
/-
  Plain words on ledgers, for the law LedgerFirst: lines behind lines; Ids that rise.
-/
namespace Go.Proofs.YthindbmgnkohhaaDoor
set_option linter.unusedVariables false
set_option linter.unusedSimpArgs false
set_option maxRecDepth 10000
open Go.RowKit Go.Sort

theorem leq_run (x y : Rw) (h : LR x y) (u : World) : (binOp .leq 9 (.string y.id) (.string x.id)).run Tryd.prog u = .ok (.bool false) u := by
  have e : (Op.bytesLess y.id.toList x.id.toList || y.id.toList == x.id.toList) = false := by
    rw [bless_no (LR_asymm h), other_id (x := y) (y := x) fun k => LR_irrefl y ((LR_same k.symm).1 h)]
    rfl
  simp [binOp, Op.stringOp, e]
theorem sl_rise {zs : List Rw} (hs : Sl zs) (hn : (zs.map keyR).Nodup) {j : Nat} {y x : Rw} (hy : zs[j]? = some y) (hx : zs[j + 1]? = some x) : LR y x := by
  obtain ⟨a1, a2⟩ := List.getElem?_eq_some_iff.1 hy
  obtain ⟨b1, b2⟩ := List.getElem?_eq_some_iff.1 hx
  by_cases h : LR y x
  · exact h
  · have h2 : ¬ LR x y := by
      have := (List.pairwise_iff_getElem.1 hs) j (j + 1) a1 b1 (by omega)
      rw [a2, b2] at this
      exact this
    have h3 := (List.pairwise_iff_getElem.1 hn) j (j + 1) (by simpa using a1) (by simpa using b1) (by omega)
    rw [List.getElem_map, List.getElem_map, a2, b2] at h3
    exact absurd (LR_key h h2) h3
theorem impF_bad (most : Nat) (ms : List (List UInt8)) : ∀ (ls : List (List UInt8)) (acc : List Rw) (n : Nat), (impF most acc n ls).2.2 ≠ 0 → impF most acc n (ls ++ ms) = impF most acc n ls
  | [], acc, n, h => absurd rfl h
  | x :: r, acc, n, h => by
    by_cases he : lineE most acc x = 0
    · rw [List.cons_append, impF_on he, impF_on he]
      rw [impF_on he] at h
      exact impF_bad most ms r _ _ h
    · rw [List.cons_append, impF_off he, impF_off he]
theorem impF_good (most : Nat) (ms : List (List UInt8)) : ∀ (ls : List (List UInt8)) (acc : List Rw) (n : Nat), (impF most acc n ls).2.2 = 0 → impF most acc n (ls ++ ms) = impF most (impF most acc n ls).1 (n + ls.length) ms
  | [], acc, n, h => rfl
  | x :: r, acc, n, h => by
    by_cases he : lineE most acc x = 0
    · rw [List.cons_append, impF_on he, impF_on he]
      rw [impF_on he] at h
      rw [impF_good most ms r _ _ h, List.length_cons, show n + 1 + r.length = n + (r.length + 1) by omega]
    · rw [impF_off he] at h
      exact absurd h he
theorem parR_key (l : List UInt8) (h : (parR l).2 = 0) : isId (keyR (parR l).1) = true := by
  cases hc : cutL l with
  | none => rw [parR_none hc] at h; cases h
  | some p =>
    obtain ⟨a, b⟩ := p
    cases hi : isId a with
    | false => rw [parR_id hc hi] at h; cases h
    | true =>
      by_cases hb : parE b = 0
      · rw [parR_ok hc hi hb]
        simpa [keyR, bA] using hi
      · rw [parR_am hc hi hb] at h; cases h
theorem tell_id (x : List UInt8) (h : (tell x).2.1 = true) : isId (keyR (tell x).1) = true := by
  unfold tell at h ⊢
  split at h
  · cases h
  · rename_i hn
    rw [if_neg hn]
    exact parR_key x (of_decide_eq_true h)
theorem rowsL_id (l : List (List UInt8)) : ∀ x ∈ rowsL l, isId (keyR x) = true := by
  induction l with
  | nil => intro x hx; simp [rowsL] at hx
  | cons y r ih =>
    intro x hx
    rw [rowsL_cons] at hx
    rcases List.mem_append.1 hx with hx | hx
    · unfold tellRows at hx
      split at hx
      · rename_i h
        rw [List.mem_singleton.1 hx]; exact tell_id y h
      · cases hx
    · exact ih x hx
theorem errF_numb (ls : List (List UInt8)) (h : ∀ x ∈ ls, (tell x).2.2 = 0) : ∀ n, errF (numb n ls) = (0, 0) := by
  induction ls with
  | nil => intro n; rfl
  | cons x r ih =>
    intro n
    rw [numb, errF, if_pos (h x (by simp))]
    exact ih (fun y hy => h y (by simp [hy])) (n + 1)
theorem rowsF_numb (ls : List (List UInt8)) : ∀ n, rowsF (numb n ls) = rowsL ls := by
  induction ls with
  | nil => intro n; rfl
  | cons x r ih =>
    intro n
    rw [numb, rowsL_cons, ← ih (n + 1)]
    rfl
theorem allRows_lines (l : List UInt8) (h : ∀ x ∈ splitL l, (tell x).2.2 = 0) : errF (linesL l) = (0, 0) ∧ allRows (linesL l) = rowsL (splitL l) := by
  have e := errF_numb (splitL l) h 1
  refine ⟨e, ?_⟩
  unfold allRows linesL
  rw [e, if_pos rfl]
  exact rowsF_numb _ 1
/-- Of what is told of rows, no Id is longer than its line. -/
theorem rowsL_size (l : List (List UInt8)) (n : Nat) (h : ∀ x ∈ l, x.length ≤ n) : ∀ x ∈ rowsL l, x.id.size ≤ n := by
  induction l with
  | nil => intro x hx; simp [rowsL] at hx
  | cons y r ih =>
    intro x hx
    rw [rowsL_cons] at hx
    rcases List.mem_append.1 hx with hx | hx
    · unfold tellRows at hx
      split at hx
      · rw [List.mem_singleton.1 hx]
        exact Nat.le_trans (tell_size y) (h y (by simp))
      · cases hx
    · exact ih (fun z hz => h z (by simp [hz])) x hx
theorem rowsL_len (l : List (List UInt8)) : (rowsL l).length ≤ l.length := by
  induction l with
  | nil => simp [rowsL]
  | cons y r ih =>
    rw [rowsL_cons, List.length_append, List.length_cons]
    unfold tellRows
    split <;> simp <;> omega
end Go.Proofs.YthindbmgnkohhaaDoor
