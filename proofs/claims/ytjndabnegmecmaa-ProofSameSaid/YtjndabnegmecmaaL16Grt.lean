/-
  What the laws of stage 16 ask of entries: whether one is more than is gone through; an entry opened.
-/
import Derived.Test.YtjndabnegmecmaaM15Law
import Derived.Test.YtjndabnegmecmaaL14Law
import Derived.Test.YtjndabnegmecmaaM16Ent
namespace Go.Proofs.Ytjndabnegmecmaa
set_option linter.unusedVariables false
set_option linter.unusedSimpArgs false
set_option maxRecDepth 10000
open Go.ChangeShapes Go.WideShapes Go.ChangeAt Go.RowKit

/-- Is an entry more than is gone through? -/
def longE (x : Lf) (l : List Nd) : Bool := decide (100 < l.length) || greatN l || greatLf [x]
theorem longE_no {x : Lf} {l : List Nd} (h : longE x l = false) : l.length ≤ 100 ∧ (∀ y ∈ l, y.hash.size ≤ 60) ∧ x.id.size ≤ 200 ∧ x.salt.size ≤ 200 := by
  rw [longE, Bool.or_eq_false_iff, Bool.or_eq_false_iff] at h
  have h1 := of_decide_eq_false h.1.1
  exact ⟨by omega, (greatN_no h.1.2).2, (greatLf_no h.2).2 x (by simp)⟩
set_option maxRecDepth 100000 in
set_option maxHeartbeats 4000000 in
theorem long16_any (x : Lf) (p : Int) (A : Option Addr) (c : Nat) (l : List Nd) (hl : l.length ≤ 9223372036854775807) (hf : ∀ y ∈ l, y.hash.size ≤ 9223372036854775807) (hx : x.id.size ≤ 9223372036854775807 ∧ x.salt.size ≤ 9223372036854775807) (w : World) (hR : ndS.Row w w.heap.size A l) :
    Calls Try.prog 5 #[.agg (enV x p A l.length c)] w (Tells (.bool (longE x l)) w.heap.size w) := by
  have eV : longE x l = (decide (100 < l.length) || greatN l || greatLf [x]) := rfl
  obtain ⟨V, hV⟩ : ∃ V, longE x l = V := ⟨_, rfl⟩
  rw [hV] at eV ⊢
  clear hV
  have cG := fun u hu => great_any A c l hl hf u hu
  have cL := fun u hu => great15_any (some ⟨u, 0, none⟩) 1 [x] (by simp) (fun y hy => by rw [List.mem_singleton.1 hy]; exact hx) hu
  obtain ⟨G, hG⟩ : ∃ G, greatN l = G := ⟨_, rfl⟩
  obtain ⟨L, hL⟩ : ∃ L, greatLf [x] = L := ⟨_, rfl⟩
  rw [hG] at cG eV
  rw [hL] at cL eV
  clear hG hL
  obtain ⟨N, hN⟩ : ∃ N, l.length = N := ⟨_, rfl⟩
  rw [hN] at cG eV hl ⊢
  have J0 := (Has.start w).addAt 31 (enV x p A N c) (g := w.heap.size) rfl
  have hrow := fun u => lf_rowL u [x]
  obtain ⟨xp, xi, xs, xh, xl⟩ := x
  obtain ⟨⟨x0, x1, x2, x3, x4, x5, x6⟩, xin⟩ := (J0.box 0).seven
  simp only at x0 x1 x2 x3 x4
  simp only [List.length_cons, List.length_nil, Nat.reduceAdd] at cL
  by_cases h3 : 100 < N
  · rw [decide_eq_true h3, Bool.true_or, Bool.true_or] at eV
    subst eV
    have h3i : (100 : Int) < (N : Int) := by omega
    clear cG cL
    go_enter Try.func5, Try.ntmps5
    go_wp2
    go_ret
    exact ⟨rfl, J0.below⟩
  · rw [decide_eq_false h3, Bool.false_or] at eV
    have h3i : ¬ (100 : Int) < (N : Int) := by omega
    cases G with
    | true =>
      rw [Bool.true_or] at eV
      subst eV
      clear cL
      go_enter Try.func5, Try.ntmps5
      go_wp2_with (first | (go_at_call 12; refine (cG _ (hR.on J0.below)).mono ?_; rintro e w2 ⟨rfl, b2⟩; have J2 := J0.call b2) | fail)
      go_ret
      exact ⟨rfl, J2.below⟩
    | false =>
      rw [Bool.false_or] at eV
      subst eV
      go_enter Try.func5, Try.ntmps5
      go_wp2_with (first
        | (go_at_call 12; refine (cG _ (hR.on J0.below)).mono ?_; rintro e w2 ⟨rfl, b2⟩; have J2 := J0.call b2; obtain ⟨⟨y0, y1, y2, y3, y4, y5, y6⟩, yin⟩ := (J2.box 0).seven; simp only at y0 y1 y2 y3 y4)
        | (go_at_call 13; refine (cL _ _ (hrow _)).mono ?_; rintro e w3 ⟨rfl, rfl⟩)
        | fail)
      go_ret
      exact ⟨rfl, chainA J2.below _⟩
theorem open_entry16 {H : Type} {enc : TypeId × Value → H} {W : World} {base : Nat} {v : Value} {d : DataW H} {p : List MemPlace} (hval : Value.okWide Try.prog W .any base 31 v)
    (h : DataW.Trod enc Try.prog W 0 (fun _ => true) true 31 v d p) : ∃ (x : Lf) (q : Int) (A : Option Addr) (c : Nat) (l : List Nd), v = .agg (enV x q A l.length c) ∧ x.fine15 ∧ Word q ∧ l.length ≤ 9223372036854775807 ∧ (∀ y ∈ l, y.fine) ∧ ndS.Row W W.heap.size A l := by
  obtain ⟨cs, rfl, hsz⟩ := okWide_struct Try.underlying31 hval
  obtain ⟨fuel, hf⟩ := h
  obtain ⟨y0, y1, n, -, hl, t0, t1⟩ := trod_struct2 Try.underlying31 hf
  have h4 : cs.toList.length = 7 := hl.trans (show Try.prog.cellsOf 31 = 7 by kernel_rfl)
  obtain ⟨c0, c1, c2, c3, c4, c5, c6, hc⟩ : ∃ c0 c1 c2 c3 c4 c5 c6, cs.toList = [c0, c1, c2, c3, c4, c5, c6] := by
    match cs.toList, h4 with
    | [c0, c1, c2, c3, c4, c5, c6], _ => exact ⟨c0, c1, c2, c3, c4, c5, c6, rfl⟩
  have hcs : cs = #[c0, c1, c2, c3, c4, c5, c6] := Array.ext' hc
  subst hcs
  have o0 : Try.prog.cellsOf 22 = 1 := by kernel_rfl
  have o1 : Try.prog.cellsOf 26 = 5 := by kernel_rfl
  have o2 : Try.prog.cellsOf 29 = 2 := by kernel_rfl
  have o3 : Try.prog.cellsOf 27 = 1 := by kernel_rfl
  have t0' : DataW.trod enc Try.prog W 0 (fun _ => true) true n 26 [c0, c1, c2, c3, c4] = some y0 := by simpa [Value.cells, o1] using t0
  have t1' : DataW.trod enc Try.prog W 0 (fun _ => true) true n 29 [c5, c6] = some y1 := by simpa [Value.cells, o2] using t1
  obtain ⟨z0, z1, k, -, -, s0, s1⟩ := trod_struct2 Try.underlying29 t1'
  have s0' : DataW.trod enc Try.prog W 0 (fun _ => true) true k 22 [c5] = some z0 := by simpa [o0] using s0
  have s1' : DataW.trod enc Try.prog W 0 (fun _ => true) true k 27 [c6] = some z1 := by simpa [o3] using s1
  obtain ⟨x, e0, w0⟩ := lf_cells15 t0'
  obtain ⟨q, e1, w1⟩ := num_cells s0'
  obtain ⟨A, c, xs, rfl, w2, w3, w4, w5⟩ := nds_in s1'
  injection e0 with e0 f0
  injection f0 with f0 f1
  injection f1 with f1 f2
  injection f2 with f2 f3
  injection f3 with f3 f4
  injection e1 with e1
  subst e0 f0 f1 f2 f3 e1
  exact ⟨x, q, A, c, xs, rfl, w0, w1, w2, w4, w5⟩
end Go.Proofs.Ytjndabnegmecmaa
