/- Several of my texts, laid as one. -/
import Derived.Test.YtkecekfapiegjaaDoorM15Law
import Derived.Test.YtkecekfapiegjaaDoorM14Cl
import Derived.Test.YtkecekfapiegjaaDoorM7Lad
import Derived.Test.YtkecekfapiegjaaDoorM16Ent
/-
  What the laws of stage 14 ask: whether nodes are more than are gone through; copies of rows.
-/
namespace Go.Proofs.YtkecekfapiegjaaDoor
set_option linter.unusedVariables false
set_option linter.unusedSimpArgs false
set_option maxRecDepth 10000
open Go.RowKit

/-- Are nodes more than are gone through? -/
def greatN (l : List Nd) : Bool := decide (300 < l.length) || l.any fun x => decide (60 < x.hash.size)
theorem greatN_no {l : List Nd} (h : greatN l = false) : l.length ≤ 300 ∧ ∀ x ∈ l, x.hash.size ≤ 60 := by
  rw [greatN, Bool.or_eq_false_iff] at h
  refine ⟨by have := of_decide_eq_false h.1; omega, fun x hx => ?_⟩
  have := List.any_eq_false.1 h.2 x hx
  simp at this
  omega
set_option maxHeartbeats 2000000 in
theorem great_any (A : Option Addr) (c : Nat) (l : List Nd) (hl : l.length ≤ 9223372036854775807) (hf : ∀ x ∈ l, x.hash.size ≤ 9223372036854775807) (w : World) (h : ndS.Row w w.heap.size A l) :
    Calls Tryd.prog 33 #[.slice A l.length c] w (Tells (.bool (greatN l)) w.heap.size w) := by
  have eV : greatN l = (decide (300 < l.length) || l.any fun x => decide (60 < x.hash.size)) := rfl
  obtain ⟨V, hV⟩ : ∃ V, greatN l = V := ⟨_, rfl⟩
  rw [hV] at eV ⊢
  clear hV
  obtain ⟨N, hN⟩ : ∃ N, l.length = N := ⟨_, rfl⟩
  rw [hN] at eV hl ⊢
  by_cases h3 : 300 < N
  · rw [decide_eq_true h3, Bool.true_or] at eV
    subst eV
    have h3i : (300 : Int) < (N : Int) := by omega
    go_enter Tryd.func33, Tryd.ntmps33
    go_wp2
    go_ret
    exact ⟨rfl, Below.refl _ _⟩
  · rw [decide_eq_false h3, Bool.false_or] at eV
    have HV := hideIt eV
    clear eV
    have h3i : ¬ (300 : Int) < (N : Int) := by omega
    go_enter Tryd.func33, Tryd.ntmps33
    go_wp2
    go_loopg [3] N (fun gk i wr => ∃ k : Nat, k ≤ N ∧ N - k ≤ gk ∧ i = .int .i64 k ∧ (∀ j x, j < k → l[j]? = some x → x.hash.size ≤ 60) ∧ Below w.heap.size w wr)
    case atStart => exact ⟨0, Nat.zero_le _, by omega, rfl, fun j x hj => absurd hj (Nat.not_lt_zero _), Below.refl _ _⟩
    case round =>
      obtain ⟨k, hk, hgk, rfl, hall, hb3⟩ := hrel
      have HG := hideIt hgk
      have HA := hideIt hall
      clear hgk hall
      by_cases hlt : k < N
      · obtain ⟨x, hx⟩ : ∃ x, l[k]? = some x := ⟨_, List.getElem?_eq_getElem (by omega)⟩
        have hlti : (k : Int) < (N : Int) := by omega
        have hxs := hf x (List.mem_of_getElem? hx)
        obtain ⟨ad, rfl, g1, p0, p1, p2⟩ := nd_get (h.on hb3) hx
        have HX := hideIt hx
        obtain ⟨xs, xh, xl⟩ := x
        simp only at p0 p1 p2 hxs
        clear hx
        by_cases hs : 60 < xs.size
        · have hyes : V = true := by
            rw [HV.out]
            exact List.any_eq_true.2 ⟨_, List.mem_of_getElem? HX.out, decide_eq_true hs⟩
          subst hyes
          have hsi : (60 : Int) < (xs.size : Int) := by omega
          go_wp2
          go_ret
          exact ⟨rfl, hb3⟩
        · have hsi : ¬ (60 : Int) < (xs.size : Int) := by omega
          go_wp2
          go_roundg (N - (k + 1))
          case measure => have := HG.out; omega
          case rel => exact ⟨k + 1, by omega, Nat.le_refl _, by go_num, fun j x hj hx => by
              by_cases e : j = k
              · subst e
                rw [HX.out] at hx
                injection hx with hx
                rw [← hx]
                simp only
                omega
              · exact HA.out j x (by omega) hx, hb3⟩
      · have e : k = N := by omega
        subst e
        have hyes : V = false := by
          rw [HV.out]
          refine List.any_eq_false.2 fun x hx => ?_
          obtain ⟨j, hj⟩ := List.getElem?_of_mem hx
          have := HA.out j x (by have := (List.getElem?_eq_some_iff.1 hj).1; omega) hj
          simp
          omega
        subst hyes
        go_wp2
        go_ret
        exact ⟨rfl, hb3⟩
theorem nd_rowL (w : World) (d : List Nd) : ndS.Row (w.alloc (.cells (ndS.flat d).toArray 49)) (w.alloc (.cells (ndS.flat d).toArray 49)).heap.size (some ⟨w.heap.size, 0, none⟩) d := Sh.row_box (S := ndS) (d := d) (Box.made w 49 (ndS.flat d).toArray)
theorem eql_nd_self (x : Nd) (u : World) : (binOp .eql 49 x.val x.val).run Tryd.prog u = .ok (.bool true) u := by rw [run_eql_nd, Nd.same_self]
end Go.Proofs.YtkecekfapiegjaaDoor
/-
  What the laws of stage 16 ask of entries: whether one is more than is gone through; an entry opened.
-/
namespace Go.Proofs.YtkecekfapiegjaaDoor
set_option linter.unusedVariables false
set_option linter.unusedSimpArgs false
set_option maxRecDepth 10000
open Go.ChangeShapes Go.WideShapes Go.ChangeAt Go.RowKit

/-- Is an entry more than is gone through? -/
def longE (x : Lf) (l : List Nd) : Bool := decide (100 < l.length) || greatN l || greatLf [x]
theorem longE_no {x : Lf} {l : List Nd} (h : longE x l = false) : l.length ≤ 100 ∧ (∀ y ∈ l, y.hash.size ≤ 60) ∧ x.id.size ≤ 200 ∧ x.salt.size ≤ 200 := by
  rw [longE, Bool.or_eq_false_iff, Bool.or_eq_false_iff] at h
  have h1 := of_decide_eq_false h.1.1
  exact ⟨by omega, (greatN_no h.1.2).2, (greatLf_no h.2).2 x (by simp)⟩
set_option maxRecDepth 100000 in
set_option maxHeartbeats 4000000 in
theorem long16_any (x : Lf) (p : Int) (A : Option Addr) (c : Nat) (l : List Nd) (hl : l.length ≤ 9223372036854775807) (hf : ∀ y ∈ l, y.hash.size ≤ 9223372036854775807) (hx : x.id.size ≤ 9223372036854775807 ∧ x.salt.size ≤ 9223372036854775807) (w : World) (hR : ndS.Row w w.heap.size A l) :
    Calls Tryd.prog 15 #[.agg (enV x p A l.length c)] w (Tells (.bool (longE x l)) w.heap.size w) := by
  have eV : longE x l = (decide (100 < l.length) || greatN l || greatLf [x]) := rfl
  obtain ⟨V, hV⟩ : ∃ V, longE x l = V := ⟨_, rfl⟩
  rw [hV] at eV ⊢
  clear hV
  have cG := fun u hu => great_any A c l hl hf u hu
  have cL := fun u hu => great15_any (some ⟨u, 0, none⟩) 1 [x] (by simp) (fun y hy => by rw [List.mem_singleton.1 hy]; exact hx) hu
  obtain ⟨G, hG⟩ : ∃ G, greatN l = G := ⟨_, rfl⟩
  obtain ⟨L, hL⟩ : ∃ L, greatLf [x] = L := ⟨_, rfl⟩
  rw [hG] at cG eV
  rw [hL] at cL eV
  clear hG hL
  obtain ⟨N, hN⟩ : ∃ N, l.length = N := ⟨_, rfl⟩
  rw [hN] at cG eV hl ⊢
  have J0 := (Has.start w).addAt 39 (enV x p A N c) (g := w.heap.size) rfl
  have hrow := fun u => lf_rowL u [x]
  obtain ⟨xp, xi, xs, xh, xl⟩ := x
  obtain ⟨⟨x0, x1, x2, x3, x4, x5, x6⟩, xin⟩ := (J0.box 0).seven
  simp only at x0 x1 x2 x3 x4
  simp only [List.length_cons, List.length_nil, Nat.reduceAdd] at cL
  by_cases h3 : 100 < N
  · rw [decide_eq_true h3, Bool.true_or, Bool.true_or] at eV
    subst eV
    have h3i : (100 : Int) < (N : Int) := by omega
    clear cG cL
    go_enter Tryd.func15, Tryd.ntmps15
    go_wp2
    go_ret
    exact ⟨rfl, J0.below⟩
  · rw [decide_eq_false h3, Bool.false_or] at eV
    have h3i : ¬ (100 : Int) < (N : Int) := by omega
    cases G with
    | true =>
      rw [Bool.true_or] at eV
      subst eV
      clear cL
      go_enter Tryd.func15, Tryd.ntmps15
      go_wp2_with (first | (go_at_call 33; refine (cG _ (hR.on J0.below)).mono ?_; rintro e w2 ⟨rfl, b2⟩; have J2 := J0.call b2) | fail)
      go_ret
      exact ⟨rfl, J2.below⟩
    | false =>
      rw [Bool.false_or] at eV
      subst eV
      go_enter Tryd.func15, Tryd.ntmps15
      go_wp2_with (first
        | (go_at_call 33; refine (cG _ (hR.on J0.below)).mono ?_; rintro e w2 ⟨rfl, b2⟩; have J2 := J0.call b2; obtain ⟨⟨y0, y1, y2, y3, y4, y5, y6⟩, yin⟩ := (J2.box 0).seven; simp only at y0 y1 y2 y3 y4)
        | (go_at_call 19; refine (cL _ _ (hrow _)).mono ?_; rintro e w3 ⟨rfl, rfl⟩)
        | fail)
      go_ret
      exact ⟨rfl, chainA J2.below _⟩
theorem open_entry16 {H : Type} {enc : TypeId × Value → H} {W : World} {base : Nat} {v : Value} {d : DataW H} {p : List MemPlace} (hval : Value.okWide Tryd.prog W .any base 39 v)
    (h : DataW.Trod enc Tryd.prog W 0 (fun _ => true) true 39 v d p) : ∃ (x : Lf) (q : Int) (A : Option Addr) (c : Nat) (l : List Nd), v = .agg (enV x q A l.length c) ∧ x.fine15 ∧ Word q ∧ l.length ≤ 9223372036854775807 ∧ (∀ y ∈ l, y.fine) ∧ ndS.Row W W.heap.size A l := by
  obtain ⟨cs, rfl, hsz⟩ := okWide_struct Tryd.underlying39 hval
  obtain ⟨fuel, hf⟩ := h
  obtain ⟨y0, y1, n, -, hl, t0, t1⟩ := trod_struct2 Tryd.underlying39 hf
  have h4 : cs.toList.length = 7 := hl.trans (show Tryd.prog.cellsOf 39 = 7 by kernel_rfl)
  obtain ⟨c0, c1, c2, c3, c4, c5, c6, hc⟩ : ∃ c0 c1 c2 c3 c4 c5 c6, cs.toList = [c0, c1, c2, c3, c4, c5, c6] := by
    match cs.toList, h4 with
    | [c0, c1, c2, c3, c4, c5, c6], _ => exact ⟨c0, c1, c2, c3, c4, c5, c6, rfl⟩
  have hcs : cs = #[c0, c1, c2, c3, c4, c5, c6] := Array.ext' hc
  subst hcs
  have o0 : Tryd.prog.cellsOf 22 = 1 := by kernel_rfl
  have o1 : Tryd.prog.cellsOf 34 = 5 := by kernel_rfl
  have o2 : Tryd.prog.cellsOf 37 = 2 := by kernel_rfl
  have o3 : Tryd.prog.cellsOf 35 = 1 := by kernel_rfl
  have t0' : DataW.trod enc Tryd.prog W 0 (fun _ => true) true n 34 [c0, c1, c2, c3, c4] = some y0 := by simpa [Value.cells, o1] using t0
  have t1' : DataW.trod enc Tryd.prog W 0 (fun _ => true) true n 37 [c5, c6] = some y1 := by simpa [Value.cells, o2] using t1
  obtain ⟨z0, z1, k, -, -, s0, s1⟩ := trod_struct2 Tryd.underlying37 t1'
  have s0' : DataW.trod enc Tryd.prog W 0 (fun _ => true) true k 22 [c5] = some z0 := by simpa [o0] using s0
  have s1' : DataW.trod enc Tryd.prog W 0 (fun _ => true) true k 35 [c6] = some z1 := by simpa [o3] using s1
  obtain ⟨x, e0, w0⟩ := lf_cells15 t0'
  obtain ⟨q, e1, w1⟩ := num_cells s0'
  obtain ⟨A, c, xs, rfl, w2, w3, w4, w5⟩ := nds_in s1'
  injection e0 with e0 f0
  injection f0 with f0 f1
  injection f1 with f1 f2
  injection f2 with f2 f3
  injection f3 with f3 f4
  injection e1 with e1
  subst e0 f0 f1 f2 f3 e1
  exact ⟨x, q, A, c, xs, rfl, w0, w1, w2, w4, w5⟩
end Go.Proofs.YtkecekfapiegjaaDoor
