/-
  What the laws of stage 14 ask: whether nodes are more than are gone through; copies of rows.
-/
import Derived.Test.YtjndabnegmecmaaM15Law
namespace Go.Proofs.Ytjndabnegmecmaa
set_option linter.unusedVariables false
set_option linter.unusedSimpArgs false
set_option maxRecDepth 10000
open Go.RowKit

/-- Are nodes more than are gone through? -/
def greatN (l : List Nd) : Bool := decide (300 < l.length) || l.any fun x => decide (60 < x.hash.size)
theorem greatN_no {l : List Nd} (h : greatN l = false) : l.length ≤ 300 ∧ ∀ x ∈ l, x.hash.size ≤ 60 := by
  rw [greatN, Bool.or_eq_false_iff] at h
  refine ⟨by have := of_decide_eq_false h.1; omega, fun x hx => ?_⟩
  have := List.any_eq_false.1 h.2 x hx
  simp at this
  omega
set_option maxHeartbeats 2000000 in
theorem great_any (A : Option Addr) (c : Nat) (l : List Nd) (hl : l.length ≤ 9223372036854775807) (hf : ∀ x ∈ l, x.hash.size ≤ 9223372036854775807) (w : World) (h : ndS.Row w w.heap.size A l) :
    Calls Try.prog 12 #[.slice A l.length c] w (Tells (.bool (greatN l)) w.heap.size w) := by
  have eV : greatN l = (decide (300 < l.length) || l.any fun x => decide (60 < x.hash.size)) := rfl
  obtain ⟨V, hV⟩ : ∃ V, greatN l = V := ⟨_, rfl⟩
  rw [hV] at eV ⊢
  clear hV
  obtain ⟨N, hN⟩ : ∃ N, l.length = N := ⟨_, rfl⟩
  rw [hN] at eV hl ⊢
  by_cases h3 : 300 < N
  · rw [decide_eq_true h3, Bool.true_or] at eV
    subst eV
    have h3i : (300 : Int) < (N : Int) := by omega
    go_enter Try.func12, Try.ntmps12
    go_wp2
    go_ret
    exact ⟨rfl, Below.refl _ _⟩
  · rw [decide_eq_false h3, Bool.false_or] at eV
    have HV := hideIt eV
    clear eV
    have h3i : ¬ (300 : Int) < (N : Int) := by omega
    go_enter Try.func12, Try.ntmps12
    go_wp2
    go_loopg [3] N (fun gk i wr => ∃ k : Nat, k ≤ N ∧ N - k ≤ gk ∧ i = .int .i64 k ∧ (∀ j x, j < k → l[j]? = some x → x.hash.size ≤ 60) ∧ Below w.heap.size w wr)
    case atStart => exact ⟨0, Nat.zero_le _, by omega, rfl, fun j x hj => absurd hj (Nat.not_lt_zero _), Below.refl _ _⟩
    case round =>
      obtain ⟨k, hk, hgk, rfl, hall, hb3⟩ := hrel
      have HG := hideIt hgk
      have HA := hideIt hall
      clear hgk hall
      by_cases hlt : k < N
      · obtain ⟨x, hx⟩ : ∃ x, l[k]? = some x := ⟨_, List.getElem?_eq_getElem (by omega)⟩
        have hlti : (k : Int) < (N : Int) := by omega
        have hxs := hf x (List.mem_of_getElem? hx)
        obtain ⟨ad, rfl, g1, p0, p1, p2⟩ := nd_get (h.on hb3) hx
        have HX := hideIt hx
        obtain ⟨xs, xh, xl⟩ := x
        simp only at p0 p1 p2 hxs
        clear hx
        by_cases hs : 60 < xs.size
        · have hyes : V = true := by
            rw [HV.out]
            exact List.any_eq_true.2 ⟨_, List.mem_of_getElem? HX.out, decide_eq_true hs⟩
          subst hyes
          have hsi : (60 : Int) < (xs.size : Int) := by omega
          go_wp2
          go_ret
          exact ⟨rfl, hb3⟩
        · have hsi : ¬ (60 : Int) < (xs.size : Int) := by omega
          go_wp2
          go_roundg (N - (k + 1))
          case measure => have := HG.out; omega
          case rel => exact ⟨k + 1, by omega, Nat.le_refl _, by go_num, fun j x hj hx => by
              by_cases e : j = k
              · subst e
                rw [HX.out] at hx
                injection hx with hx
                rw [← hx]
                simp only
                omega
              · exact HA.out j x (by omega) hx, hb3⟩
      · have e : k = N := by omega
        subst e
        have hyes : V = false := by
          rw [HV.out]
          refine List.any_eq_false.2 fun x hx => ?_
          obtain ⟨j, hj⟩ := List.getElem?_of_mem hx
          have := HA.out j x (by have := (List.getElem?_eq_some_iff.1 hj).1; omega) hj
          simp
          omega
        subst hyes
        go_wp2
        go_ret
        exact ⟨rfl, hb3⟩
theorem nd_rowL (w : World) (d : List Nd) : ndS.Row (w.alloc (.cells (ndS.flat d).toArray 52)) (w.alloc (.cells (ndS.flat d).toArray 52)).heap.size (some ⟨w.heap.size, 0, none⟩) d := Sh.row_box (S := ndS) (d := d) (Box.made w 52 (ndS.flat d).toArray)
theorem eql_nd_self (x : Nd) (u : World) : (binOp .eql 52 x.val x.val).run Try.prog u = .ok (.bool true) u := by rw [run_eql_nd, Nd.same_self]
end Go.Proofs.Ytjndabnegmecmaa
