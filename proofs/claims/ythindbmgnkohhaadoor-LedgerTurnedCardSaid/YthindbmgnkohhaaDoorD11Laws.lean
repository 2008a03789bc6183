/-
  Plain words on ledgers, for the laws: when lines are a ledger; when rows are; in whatever order.
-/
import Derived.Test.YthindbmgnkohhaaDoorM11Pln
import Derived.Test.YthindbmgnkohhaaDoorD10First
import Derived.Test.YthindbmgnkohhaaDoorD10Writ
namespace Go.Proofs.YthindbmgnkohhaaDoor
set_option linter.unusedVariables false
set_option linter.unusedSimpArgs false
set_option maxRecDepth 10000
open Go.RowKit Go.Sort

theorem rowsL_cons (x : List UInt8) (r : List (List UInt8)) : rowsL (x :: r) = tellRows x ++ rowsL r := by simp [rowsL, tellRows]
theorem rowsL_ok (l : List (List UInt8)) : ∀ x ∈ rowsL l, x.ok := by
  induction l with
  | nil => intro x hx; simp [rowsL] at hx
  | cons y r ih =>
    intro x hx
    rw [rowsL_cons] at hx
    rcases List.mem_append.1 hx with hx | hx
    · unfold tellRows at hx
      split at hx
      · rw [List.mem_singleton.1 hx]; exact tell_ok y
      · cases hx
    · exact ih x hx
theorem good_prefix {most : Nat} {l m : List Rw} (hl : ∀ x ∈ l ++ m, x.ok) (h : GoodL most (l ++ m)) : GoodL most l := by
  obtain ⟨h1, h2, h3⟩ := h
  refine ⟨by simp at h1; omega, ?_, ?_⟩
  · rw [List.map_append, List.nodup_append] at h2; exact h2.1
  · rw [sumR_app] at h3
    have a := sumR_nonneg (l := l) fun x hx => hl x (by simp [hx])
    have b := sumR_nonneg (l := m) fun x hx => hl x (by simp [hx])
    have c := room_iff.1 h3
    exact room_iff.2 (by omega)
theorem putL_good {most : Nat} {l m : List Rw} {x : Rw} (hl : ∀ y ∈ l ++ x :: m, y.ok) (h : GoodL most (l ++ x :: m)) : putL most l x = 0 := by
  have e : l ++ x :: m = (l ++ [x]) ++ m := by simp
  rw [e] at h hl
  obtain ⟨h1, h2, h3⟩ := good_prefix hl h
  refine putL_ok (by simp at h1; omega) ?_ (by rw [sumR_snoc] at h3; exact h3)
  rw [hasK_keys, decide_eq_false_iff_not]
  rw [List.map_append, List.nodup_append] at h2
  exact fun hm => h2.2.2 _ hm (keyR x) (by simp) rfl
theorem putL_kinds (most : Nat) (l : List Rw) (x : Rw) : putL most l x = 0 ∨ putL most l x = 110 ∨ putL most l x = 111 ∨ putL most l x = 112 := by
  unfold putL
  split
  · simp
  · split
    · simp
    · split <;> simp
theorem tell_120 (x : List UInt8) : (tell x).2.2 ≠ 120 := by
  have hw : wrongL x ≠ 120 := by
    unfold wrongL
    split
    · decide
    · split <;> decide
  unfold tell
  split
  · exact hw
  · have h := parR_cases x
    rcases h.2 with h | ⟨-, h⟩ <;> (show (parR x).2 ≠ 120) <;> omega
/-- What lines are as a ledger, behind rows. -/
theorem impF_spec (most : Nat) : ∀ (ls : List (List UInt8)) (acc : List Rw) (n : Nat), GoodL most acc → (∀ x ∈ acc, x.ok) →
    (impF most acc n ls = (acc ++ rowsL ls, 0, 0) ∧ (∀ x ∈ ls, (tell x).2.2 = 0) ∧ GoodL most (acc ++ rowsL ls)) ∨
    (∃ k E, impF most acc n ls = ([], n + k + 1, E) ∧ E ≠ 0 ∧ E ≠ 120 ∧ k < ls.length ∧ ¬ ((∀ x ∈ ls, (tell x).2.2 = 0) ∧ GoodL most (acc ++ rowsL ls)))
  | [], acc, n, hg, ho => .inl ⟨by simp [impF, rowsL], fun x hx => by simp at hx, by simpa [rowsL] using hg⟩
  | x :: r, acc, n, hg, ho => by
    by_cases he : lineE most acc x = 0
    · have ho2 : ∀ y ∈ lineR acc x, y.ok := fun y hy => by
        rw [lineR_eq] at hy
        rcases List.mem_append.1 hy with hy | hy
        · exact ho y hy
        · unfold tellRows at hy
          split at hy
          · rw [List.mem_singleton.1 hy]; exact tell_ok x
          · cases hy
      have ht : (tell x).2.2 = 0 := by
        unfold lineE at he
        split at he
        · rename_i h1; exact absurd he h1
        · rename_i h1; simpa using h1
      have hr : lineR acc x ++ rowsL r = acc ++ rowsL (x :: r) := by rw [lineR_eq, rowsL_cons, List.append_assoc]
      rw [impF_on he]
      rcases impF_spec most r (lineR acc x) (n + 1) (good_line hg he) ho2 with ⟨h1, h2, h3⟩ | ⟨k, E, h1, h2, h3, h4, h5⟩
      · rw [hr] at h1 h3
        refine .inl ⟨h1, fun y hy => ?_, h3⟩
        rcases List.mem_cons.1 hy with rfl | hy
        · exact ht
        · exact h2 y hy
      · refine .inr ⟨k + 1, E, by rw [h1, show n + 1 + k + 1 = n + (k + 1) + 1 by omega], h2, h3, by rw [List.length_cons]; omega, fun hq => h5 ⟨fun y hy => hq.1 y (by simp [hy]), by rw [hr]; exact hq.2⟩⟩
    · rw [impF_off he]
      refine .inr ⟨0, _, by simp, he, ?_, by simp, fun hq => he ?_⟩
      · unfold lineE
        split
        · exact tell_120 x
        · split
          · have := putL_kinds most acc (tell x).1
            omega
          · decide
      · have ht := hq.1 x (by simp)
        cases hb : (tell x).2.1 with
        | false => exact lineE_none ht hb
        | true =>
          rw [lineE_row hb]
          have e : tellRows x = [(tell x).1] := by unfold tellRows; rw [hb, if_pos rfl]
          have h2 := hq.2
          rw [rowsL_cons, e] at h2
          refine putL_good (m := rowsL r) (fun y hy => ?_) h2
          rcases List.mem_append.1 hy with hy | hy
          · exact ho y hy
          · rcases List.mem_cons.1 hy with rfl | hy
            · exact tell_ok x
            · exact rowsL_ok r y hy
/-- What rows are as a ledger, behind rows. -/
theorem chkF_spec (most : Nat) : ∀ (r acc : List Rw) (n : Nat), GoodL most acc →
    (chkF most acc n r = (0, 0) ∧ GoodL most (acc ++ r) ∧ ∀ x ∈ r, isId (keyR x) = true) ∨ (∃ k E, chkF most acc n r = (n + k + 1, E) ∧ k < r.length ∧ E ≠ 0 ∧ E ≠ 120)
  | [], acc, n, hg => .inl ⟨rfl, by simpa using hg, fun x hx => by simp at hx⟩
  | x :: r, acc, n, hg => by
    cases hi : isId (keyR x) with
    | false => exact .inr ⟨0, 101, by rw [chkF, if_pos hi], by simp, by decide, by decide⟩
    | true =>
      by_cases hp : putL most acc x = 0
      · have e : chkF most acc n (x :: r) = chkF most (acc ++ [x]) (n + 1) r := by rw [chkF, if_neg (by rw [hi]; decide), if_pos hp]
        rw [e]
        rcases chkF_spec most r (acc ++ [x]) (n + 1) (hg.snoc hp) with ⟨h1, h2, h3⟩ | ⟨k, E, h1, h2, h3, h4⟩
        · refine .inl ⟨h1, by simpa using h2, fun y hy => ?_⟩
          rcases List.mem_cons.1 hy with rfl | hy
          · exact hi
          · exact h3 y hy
        · exact .inr ⟨k + 1, E, by rw [h1, show n + 1 + k + 1 = n + (k + 1) + 1 by omega], by rw [List.length_cons]; omega, h3, h4⟩
      · have e : chkF most acc n (x :: r) = (n + 1, putL most acc x) := by rw [chkF, if_neg (by rw [hi]; decide), if_neg hp]
        have := putL_kinds most acc x
        exact .inr ⟨0, _, by rw [e], by simp, hp, by omega⟩
/-- Rows with which nothing is wrong are found to be so. -/
theorem chkF_good (most : Nat) : ∀ (r acc : List Rw) (n : Nat), (∀ x ∈ acc ++ r, x.ok) → GoodL most (acc ++ r) → (∀ x ∈ r, isId (keyR x) = true) → chkF most acc n r = (0, 0)
  | [], acc, n, _, _, _ => rfl
  | x :: r, acc, n, ho, hg, hi => by
    rw [chkF, if_neg (by rw [hi x (by simp)]; decide), if_pos (putL_good ho hg)]
    exact chkF_good most r (acc ++ [x]) (n + 1) (by simpa using ho) (by simpa using hg) (fun y hy => hi y (by simp [hy]))
/-- Rows with the same rows of each Id are the same rows in another order. -/
theorem fil_perm : ∀ (xs ys : List Rw), (∀ k, fil k ys = fil k xs) → xs.Perm ys
  | [], ys, h => by
    cases ys with
    | nil => exact List.Perm.refl _
    | cons y r =>
      have := h (keyR y)
      rw [fil_yes r rfl] at this
      simp [fil] at this
  | x :: r, ys, h => by
    have h0 := h (keyR x)
    rw [fil_yes r rfl] at h0
    have hm : x ∈ ys := (mem_fil ys x).2 (by rw [h0]; simp)
    -- the first row of that Id
    obtain ⟨p, z, q, hy, hp, hz⟩ : ∃ p z q, ys = p ++ z :: q ∧ (∀ a ∈ p, keyR a ≠ keyR x) ∧ keyR z = keyR x := by
      clear h h0
      induction ys with
      | nil => cases hm
      | cons y s ih =>
        by_cases e : keyR y = keyR x
        · exact ⟨[], y, s, rfl, fun a ha => (by cases ha), e⟩
        · have hm2 : x ∈ s := by
            rcases List.mem_cons.1 hm with rfl | hm
            · exact absurd rfl e
            · exact hm
          obtain ⟨p, z, q, h1, h2, h3⟩ := ih hm2
          exact ⟨y :: p, z, q, by rw [h1]; rfl, fun a ha => by
            rcases List.mem_cons.1 ha with rfl | ha
            · exact e
            · exact h2 a ha, h3⟩
    have hp0 : fil (keyR x) p = [] := by
      unfold fil
      exact List.filter_eq_nil_iff.2 fun a ha => by simpa using hp a ha
    subst hy
    rw [fil_app, hp0, List.nil_append, fil_yes q hz] at h0
    injection h0 with e1 e2
    subst e1
    have ih := fil_perm r (p ++ q) (fun k => by
      have hk := h k
      rw [fil_app] at hk ⊢
      by_cases e : keyR z = k
      · rw [fil_yes _ e, fil_yes _ e] at hk
        subst e
        rw [hp0, List.nil_append] at hk ⊢
        injection hk
      · rw [fil_not _ e, fil_not _ e] at hk
        exact hk)
    exact (List.Perm.cons z ih).trans List.perm_middle.symm
theorem Sd.perm {xs ys : List Rw} (h : Sd xs ys) : xs.Perm ys := fil_perm xs ys h.2
theorem sumR_perm {xs ys : List Rw} (h : xs.Perm ys) : sumR xs = sumR ys := by
  induction h with
  | nil => rfl
  | cons x _ ih => simp only [sumR, ih]
  | swap x y l => simp only [sumR]; omega
  | trans _ _ h1 h2 => exact h1.trans h2
theorem GoodL.perm {most : Nat} {xs ys : List Rw} (h : GoodL most xs) (hp : xs.Perm ys) : GoodL most ys :=
  ⟨by rw [← hp.length_eq]; exact h.1, ((hp.map keyR).nodup_iff).1 h.2.1, by rw [← sumR_perm hp]; exact h.2.2⟩
/-- Of unlike Ids, in another order: the same rows of each Id. -/
theorem fil_nodup {xs : List Rw} (h : (xs.map keyR).Nodup) (k : List UInt8) : fil k xs = [] ∨ ∃ x ∈ xs, fil k xs = [x] := by
  induction xs with
  | nil => exact .inl rfl
  | cons x r ih =>
    rw [List.map_cons, List.nodup_cons] at h
    by_cases e : keyR x = k
    · right
      refine ⟨x, by simp, ?_⟩
      rw [fil_yes r e]
      have : fil k r = [] := by
        unfold fil
        exact List.filter_eq_nil_iff.2 fun a ha => by
          simp
          intro e2
          exact h.1 (by rw [e, ← e2]; exact List.mem_map_of_mem ha)
      rw [this]
    · rw [fil_not r e]
      rcases ih h.2 with h1 | ⟨y, hy, h1⟩
      · exact .inl h1
      · exact .inr ⟨y, by simp [hy], h1⟩
theorem fil_turned {xs ys : List Rw} (h : (xs.map keyR).Nodup) (hp : xs.Perm ys) (k : List UInt8) : fil k ys = fil k xs := by
  have hq := hp.filter (fun x => decide (keyR x = k))
  have e1 : fil k xs = xs.filter (fun x => decide (keyR x = k)) := rfl
  have e2 : fil k ys = ys.filter (fun x => decide (keyR x = k)) := rfl
  rw [← e1, ← e2] at hq
  rcases fil_nodup h k with h1 | ⟨x, -, h1⟩
  · rw [h1] at hq ⊢
    exact List.Perm.eq_nil hq.symm
  · rw [h1] at hq ⊢
    exact List.perm_singleton.1 hq.symm
theorem Sd.turned {xs ys zs : List Rw} (h : (xs.map keyR).Nodup) (hp : xs.Perm ys) (hs : Sd ys zs) : Sd xs zs := ⟨hs.1, fun k => (hs.2 k).trans (fil_turned h hp k)⟩
theorem rowsL_text (ys : List Rw) (ho : ∀ y ∈ ys, y.ok) (hi : ∀ y ∈ ys, isId (keyR y) = true) : rowsL (ys.map textR ++ [[]]) = ys := by
  induction ys with
  | nil => simp [rowsL, tell_nil]
  | cons y r ih =>
    rw [List.map_cons, List.cons_append, rowsL_cons, ih (fun z hz => ho z (by simp [hz])) (fun z hz => hi z (by simp [hz]))]
    unfold tellRows
    rw [textR_tell y (ho y (by simp)) (hi y (by simp))]
    rfl
/-- What was exported is imported. -/
theorem imp_rows {most : Nat} {ys : List Rw} (ho : ∀ y ∈ ys, y.ok) (hi : ∀ y ∈ ys, isId (keyR y) = true) (hg : GoodL most ys) : impF most [] 0 (splitL (rowsT ys)) = (ys, 0, 0) := by
  rw [split_rows ys (List.all_eq_true.2 hi)]
  have hr := rowsL_text ys ho hi
  rcases impF_spec most (ys.map textR ++ [[]]) [] 0 (good_nil _) (fun x hx => by cases hx) with ⟨h1, -, -⟩ | ⟨k, E, -, -, -, -, h5⟩
  · rw [h1, List.nil_append, hr]
  · refine absurd ⟨fun x hx => ?_, by rw [List.nil_append, hr]; exact hg⟩ h5
    rcases List.mem_append.1 hx with hx | hx
    · obtain ⟨y, hy, rfl⟩ := List.mem_map.1 hx
      rw [textR_tell y (ho y hy) (hi y hy)]
    · rw [List.mem_singleton.1 hx, tell_nil]
/-- Any rows may be put by their Ids. -/
theorem sd_exists (xs : List Rw) : ∃ ys, Sd xs ys := by
  have key : ∀ (l acc : List Rw), Sd acc acc → ∃ ys, Sd (acc ++ l) ys := by
    intro l
    induction l with
    | nil => intro acc h; exact ⟨acc, by simpa using h⟩
    | cons x r ih =>
      intro acc h
      have hsp : ∀ zs : List Rw, Sl zs → ∃ p q, zs = p ++ q ∧ (∀ a ∈ p, ¬ LR x a) ∧ ∀ a ∈ q, LR x a := by
        intro zs
        induction zs with
        | nil => intro _; exact ⟨[], [], rfl, fun a ha => (by cases ha), fun a ha => (by cases ha)⟩
        | cons z s ihz =>
          intro hz
          by_cases hl : LR x z
          · refine ⟨[], z :: s, rfl, fun a ha => (by cases ha), fun a ha => ?_⟩
            rcases List.mem_cons.1 ha with rfl | ha
            · exact hl
            · exact LR_lt_not hl ((List.pairwise_cons.1 hz).1 a ha)
          · obtain ⟨p, q, h1, h2, h3⟩ := ihz (List.pairwise_cons.1 hz).2
            refine ⟨z :: p, q, by rw [h1]; rfl, fun a ha => ?_, h3⟩
            rcases List.mem_cons.1 ha with rfl | ha
            · exact hl
            · exact h2 a ha
      obtain ⟨p, q, h1, h2, h3⟩ := hsp acc h.1
      have hs := h.1
      rw [h1] at hs
      obtain ⟨s1, s2, s3⟩ := hs.part
      have hnew : Sd (acc ++ [x]) (p ++ [x] ++ q) := by
        refine ⟨Sl.join (Sl.join s1 (Sl_one x) ?_) s2 ?_, fun k => ?_⟩
        · intro a ha b hb
          rw [List.mem_singleton.1 hb]
          exact h2 a ha
        · intro a ha b hb
          rcases List.mem_append.1 ha with ha | ha
          · exact s3 a ha b hb
          · rw [List.mem_singleton.1 ha]
            exact LR_asymm (h3 b hb)
        · rw [h1, List.append_assoc, List.append_assoc, fil_app k p, fil_app k p]
          congr 1
          exact fil_turn k q [x] (fun a ha b hb => by
            rw [List.mem_singleton.1 hb]
            exact h3 a ha)
      obtain ⟨ys, hy⟩ := ih (p ++ [x] ++ q) hnew.self
      refine ⟨ys, hy.1, fun k => ?_⟩
      rw [hy.2, fil_app, hnew.2, ← fil_app]
      simp
  obtain ⟨ys, h⟩ := key xs [] ⟨List.Pairwise.nil, fun _ => rfl⟩
  exact ⟨ys, by simpa using h⟩
theorem fil_in (k : List UInt8) (l o : List Rw) : fil k (inL l o) = if hasK o k = true then fil k l else [] := by
  induction l with
  | nil => simp [inL, fil]
  | cons x r ih =>
    have e : inL (x :: r) o = (if hasK o (keyR x) = true then [x] else []) ++ inL r o := by
      unfold inL
      rw [List.filter_cons]
      split <;> simp_all
    rw [e, fil_app, ih]
    by_cases hx : keyR x = k
    · rw [fil_yes r hx, hx]
      split <;> simp [fil, hx]
    · rw [fil_not r hx]
      have : fil k (if hasK o (keyR x) = true then [x] else []) = [] := by split <;> simp [fil, hx]
      rw [this, List.nil_append]
theorem fil_out (k : List UInt8) (l o : List Rw) : fil k (outL l o) = if hasK o k = true then [] else fil k l := by
  induction l with
  | nil => simp [outL, fil]
  | cons x r ih =>
    have e : outL (x :: r) o = (if hasK o (keyR x) = true then [] else [x]) ++ outL r o := by
      unfold outL
      rw [List.filter_cons]
      split <;> simp_all
    rw [e, fil_app, ih]
    by_cases hx : keyR x = k
    · rw [fil_yes r hx, hx]
      split <;> simp [fil, hx]
    · rw [fil_not r hx]
      have : fil k (if hasK o (keyR x) = true then [] else [x]) = [] := by split <;> simp [fil, hx]
      rw [this, List.nil_append]
/-- Who stays and who comes, together. -/
theorem sd_parts {xs ys l2 l3 zs : List Rw} (h2 : Sd (inL ys xs) l2) (h3 : Sd (outL ys xs) l3) (h : Sd (l2 ++ l3) zs) : Sd ys zs := by
  refine ⟨h.1, fun k => ?_⟩
  rw [h.2, fil_app, h2.2, h3.2, fil_in, fil_out]
  split <;> simp
theorem nodup_len : ∀ (a b : List (List UInt8)), a.Nodup → (∀ x ∈ a, x ∈ b) → a.length ≤ b.length
  | [], b, _, _ => Nat.zero_le _
  | x :: a, b, hn, hs => by
    rw [List.nodup_cons] at hn
    have hx := hs x (by simp)
    have h1 := nodup_len a (b.erase x) hn.2 (fun y hy => (List.mem_erase_of_ne (fun (e : y = x) => hn.1 (by rw [← e]; exact hy))).2 (hs y (by simp [hy])))
    rw [List.length_erase_of_mem hx] at h1
    have h2 : 0 < b.length := List.length_pos_of_mem hx
    rw [List.length_cons]
    omega
theorem in_keys (l o : List Rw) (k : List UInt8) : k ∈ (inL l o).map keyR ↔ hasK l k = true ∧ hasK o k = true := by
  rw [List.mem_map, hasK_iff]
  constructor
  · rintro ⟨x, hx, rfl⟩
    have := inL_mem hx
    exact ⟨⟨x, this.1, rfl⟩, this.2⟩
  · rintro ⟨⟨x, hx, rfl⟩, h2⟩
    exact ⟨x, by simp [inL, hx, h2], rfl⟩
theorem in_nodup {l : List Rw} (h : (l.map keyR).Nodup) (o : List Rw) : ((inL l o).map keyR).Nodup := h.sublist (List.Sublist.map keyR List.filter_sublist)
theorem in_out_len (xs ys : List Rw) : (inL xs ys).length + (outL xs ys).length = xs.length := by
  unfold inL outL
  induction xs with
  | nil => rfl
  | cons x r ih =>
    rw [List.filter_cons, List.filter_cons]
    cases hasK ys (keyR x) <;> simp <;> omega
/-- Who goes and who stays are as many as there were. -/
theorem len_parts {xs ys : List Rw} (hx : (xs.map keyR).Nodup) (hy : (ys.map keyR).Nodup) : (outL xs ys).length + (inL ys xs).length = xs.length := by
  have h1 := nodup_len _ _ (in_nodup hx ys) (fun k hk => (in_keys ys xs k).2 ((in_keys xs ys k).1 hk).symm)
  have h2 := nodup_len _ _ (in_nodup hy xs) (fun k hk => (in_keys xs ys k).2 ((in_keys ys xs k).1 hk).symm)
  rw [List.length_map, List.length_map] at h1 h2
  have h3 := in_out_len xs ys
  omega
theorem find_nodup {xs : List Rw} (h : (xs.map keyR).Nodup) {x : Rw} (hx : x ∈ xs) : findR xs (keyR x) = (x, true) := by
  induction xs with
  | nil => cases hx
  | cons y r ih =>
    rw [List.map_cons, List.nodup_cons] at h
    unfold findR
    rcases List.mem_cons.1 hx with rfl | hx
    · rw [if_pos rfl]
    · rw [if_neg (fun e => h.1 (by rw [e]; exact List.mem_map_of_mem hx))]
      exact ih h.2 hx
theorem has_self {xs : List Rw} {x : Rw} (hx : x ∈ xs) : hasK xs (keyR x) = true := (hasK_iff _ _).2 ⟨x, hx, rfl⟩
theorem out_self (xs : List Rw) : outL xs xs = [] := List.filter_eq_nil_iff.2 fun x hx => by simp [has_self hx]
theorem in_self (xs : List Rw) : inL xs xs = xs := List.filter_eq_self.2 fun x hx => has_self hx
end Go.Proofs.YthindbmgnkohhaaDoor
