/-
  Plain words: accounts sorted by their Ids; who is placed, sorted, are those that stay and those that are new.
-/
import Derived.Test.YtngofpdpangajaaDoorM12Pln
import Derived.Test.YtngofpdpangajaaDoorR10Sort
namespace Go.Proofs.YtngofpdpangajaaDoor
set_option linter.unusedVariables false
set_option linter.unusedSimpArgs false
set_option maxRecDepth 10000
open Go.RowKit Go.Sort

instance : Inhabited Ac := ⟨Ac.zero⟩
/-- An account's row. -/
def rowA (x : Ac) : Rw := ⟨x.id, x.h, x.l⟩
theorem keyR_rowA (x : Ac) : keyR (rowA x) = keyA x := rfl
/-- The same accounts, rising by their Ids. -/
def SdA (xs ys : List Ac) : Prop := xs.Perm ys ∧ Sl (ys.map rowA)
/-- An account put in. -/
def putA (ys : List Ac) (k : Nat) (x : Ac) : List Ac := ys.take k ++ [x] ++ ys.drop k
theorem putA_len {ys : List Ac} {k : Nat} {x : Ac} (hk : k ≤ ys.length) : (putA ys k x).length = ys.length + 1 := by
  unfold putA
  simp
  omega
theorem bang_map {ys : List Ac} {k : Nat} (h : k < ys.length) : (ys.map rowA)[k]! = rowA ys[k]! := by
  rw [getElem!_pos ys k h, getElem!_pos (ys.map rowA) k (by simpa using h), List.getElem_map]
theorem acc_bang {l : List Ac} {j : Nat} (h : j < l.length) : l[j]? = some l[j]! := by rw [List.getElem?_eq_getElem h, getElem!_pos l j h]
theorem putA_rows (ys : List Ac) (k : Nat) (x : Ac) : (putA ys k x).map rowA = putR (ys.map rowA) k (rowA x) := by
  simp [putA, putR, List.map_take, List.map_drop]
theorem putA_sorted {xs ys : List Ac} {k : Nat} {x : Ac} (h : SdA xs ys) (hk : k ≤ ys.length) (hA : k = 0 ∨ ¬ LR (rowA x) (rowA ys[k - 1]!)) (hB : k = ys.length ∨ LR (rowA x) (rowA ys[k]!)) : SdA (xs ++ [x]) (putA ys k x) := by
  refine ⟨?_, ?_⟩
  · refine (h.1.append_right [x]).trans ?_
    unfold putA
    conv => lhs; rw [← List.take_append_drop k ys]
    rw [List.append_assoc, List.append_assoc]
    exact List.Perm.append_left _ List.perm_append_comm
  · rw [putA_rows]
    have h0 : Sd (ys.map rowA) (ys.map rowA) := ⟨h.2, fun _ => rfl⟩
    refine (putR_sorted h0 (by simpa using hk) ?_ ?_).1
    · by_cases k0 : k = 0
      · exact .inl k0
      · rcases hA with e | e
        · exact .inl e
        · right
          rw [bang_map (by omega)]
          exact e
    · by_cases k0 : k = ys.length
      · exact .inl (by simpa using k0)
      · rcases hB with e | e
        · exact absurd e k0
        · right
          rw [bang_map (by omega)]
          exact e
/-- Of unlike Ids there is one such row. -/
theorem sdA_same {xs ys zs : List Ac} (hd : (xs.map keyA).Nodup) (h1 : SdA xs ys) (h2 : SdA xs zs) : ys = zs := by
  have hr : ((xs.map rowA).map keyR).Nodup := by rw [List.map_map]; exact hd
  have e : ys.map rowA = zs.map rowA := Sd.same (xs := xs.map rowA) ⟨h1.2, fil_turned hr (h1.1.map rowA)⟩ ⟨h2.2, fil_turned hr (h2.1.map rowA)⟩
  apply List.ext_getElem?
  intro i
  have hl : ys.length = zs.length := by simpa using congrArg List.length e
  by_cases hi : i < ys.length
  · have hi2 : i < zs.length := by omega
    rw [List.getElem?_eq_getElem hi, List.getElem?_eq_getElem hi2]
    congr 1
    refine inj_of_nodup hd (h1.1.mem_iff.2 (List.getElem_mem hi)) (h2.1.mem_iff.2 (List.getElem_mem hi2)) ?_
    have e2 : (ys.map rowA)[i]? = (zs.map rowA)[i]? := by rw [e]
    rw [List.getElem?_map, List.getElem?_map, List.getElem?_eq_getElem hi, List.getElem?_eq_getElem hi2] at e2
    injection e2 with e2
    exact congrArg keyR e2
  · rw [List.getElem?_eq_none (by omega), List.getElem?_eq_none (by omega)]
section
variable {σ : ByteArray → ByteArray} {φ : ByteArray → Int} {A : Int}
theorem newsL_snoc (rs : List Rw) (r : Rw) : ∀ T : List Int, newsL σ φ A T (rs ++ [r]) = newsL σ φ A T rs ++ [newA σ φ A (T ++ (newsL σ φ A T rs).map Ac.slot) r] := by
  induction rs with
  | nil => intro T; simp [newsL]
  | cons x rs ih =>
    intro T
    rw [List.cons_append, newsL, newsL, ih, List.cons_append, List.map_cons]
    congr 4
    simp
theorem place_rows (was : List Ac) (ys : List Rw) : (placeL σ φ A was ys).map rowA = ys := by
  apply List.ext_getElem?
  intro i
  rw [List.getElem?_map]
  cases hr : ys[i]? with
  | none =>
    rw [List.getElem?_eq_none (by rw [place_len]; exact List.getElem?_eq_none_iff.1 hr)]
    rfl
  | some r =>
    cases hn : newIn was r with
    | true => rw [place_new hr hn]; rfl
    | false => rw [place_old hr hn]; rfl
/-- Who stays and who is new, sorted: who is placed. -/
theorem place_sorted {was : List Ac} {ys : List Rw} {zs : List Ac} (hs : Sl ys) (hy : (ys.map keyR).Nodup) (h : SdA (staysL was ys ++ newsL σ φ A (stayT was ys) (ys.filter (newIn was))) zs) : zs = placeL σ φ A was ys := by
  have hp := place_perm (σ := σ) (φ := φ) (A := A) (was := was) (ys := ys)
  refine sdA_same ?_ h ⟨hp.symm, by rw [place_rows]; exact hs⟩
  rw [← (hp.map keyA).nodup_iff, place_keys]
  exact hy
end
theorem stays_take {was : List Ac} {ys : List Rw} {k : Nat} {r : Rw} (hr : ys[k]? = some r) : staysL was (ys.take (k + 1)) = staysL was (ys.take k) ++ (match stayA was r with | some a => [a] | none => []) := by
  rw [take_more1 hr]
  unfold staysL
  rw [List.filterMap_append]
  congr 1
  cases h : stayA was r <;> simp [h]
theorem news_take {was : List Ac} {ys : List Rw} {k : Nat} {r : Rw} (hr : ys[k]? = some r) : (ys.take (k + 1)).filter (newIn was) = (ys.take k).filter (newIn was) ++ (if newIn was r then [r] else []) := by
  rw [take_more1 hr, List.filter_append]
  congr 1
  cases h : newIn was r <;> simp [h]
end Go.Proofs.YtngofpdpangajaaDoor
