/-
  Nodes as arguments, opened.
-/
import Derived.Test.YtbhgcmdodjgpmaaDoorM13Nod
import Derived.Test.YtbhgcmdodjgpmaaDoorW0Lift
import Derived.SliceStrings
import Derived.Deep.Grids
namespace Go.Proofs.YtbhgcmdodjgpmaaDoor
set_option linter.unusedVariables false
set_option linter.unusedSimpArgs false
set_option maxRecDepth 10000
open Go.ChangeShapes Go.WideShapes Go.ChangeAt Go.RowKit

section
variable {H : Type} {enc : TypeId × Value → H} {W : World}
/-- A slice, wherever it stands, of things that are opened one by one. -/
theorem Sh.slice_in {α : Type} {S : Sh α} {Q : α → Prop} (ts e : TypeId) (und : (Tryd.prog).underlying ts = some (.slice e)) (hC : (Tryd.prog).cellsOf e = S.k)
    (hone : ∀ (fuel : Nat) (cs : List Value) (y : DataW H × List MemPlace), DataW.trod enc Tryd.prog W 0 (fun _ => true) true fuel e cs = some y → ∃ x : α, cs = S.cells x ∧ Q x)
    {fuel : Nat} {v : Value} {y : DataW H × List MemPlace} (hf : DataW.trod enc Tryd.prog W 0 (fun _ => true) true fuel ts [v] = some y) :
    ∃ (A : Option Addr) (c : Nat) (xs : List α), v = .slice A xs.length c ∧ xs.length ≤ 9223372036854775807 ∧ (A = none → c = 0) ∧ (∀ x ∈ xs, Q x) ∧ S.Row W W.heap.size A xs := by
  rcases Go.Deep.open_slice und hf with ⟨hc, -⟩ | ⟨a, len', cap', m, n, D, Pl, hc, hb, hl, hm, hmm, -, hi⟩
  · injection hc with hc
    subst hc
    exact ⟨none, 0, [], rfl, Nat.zero_le _, fun _ => rfl, fun x hx => by simp at hx, fun i x hx => by simp at hx⟩
  · injection hc with hc
    subst hc
    simp only [if_true] at hmm
    have each : ∀ i, i < len' → ∃ x : α, Q x ∧ S.At W (a.add (i * S.k)) x := fun i hil => by
      obtain ⟨cs', hcs, ht⟩ := hi i (by rw [hmm]; omega)
      rw [hC] at hcs
      obtain ⟨_, hcl, hat⟩ := World.cells?_some hcs
      obtain ⟨x, rfl, hx⟩ := hone _ _ _ ht
      refine ⟨x, hx, fun j u hu => ?_⟩
      have hj : j < S.k := by have := (List.getElem?_eq_some_iff.1 hu).1; rw [S.len] at this; exact this
      exact (hat j hj).trans hu
    obtain ⟨xs, hxl, hxp⟩ := gen_choose len' each
    subst hxl
    unfold maxLen at hm
    refine ⟨some a, cap', xs, rfl, by omega, (fun h => nomatch h), fun x hx => ?_, fun i x hx => ?_⟩
    · obtain ⟨i, hi', rfl⟩ := List.getElem_of_mem hx
      exact (hxp i hi').1
    · obtain ⟨hi', e⟩ := List.getElem?_eq_some_iff.1 hx
      obtain ⟨-, h0⟩ := hxp i hi'
      rw [e] at h0
      obtain ⟨v0, hv0⟩ : ∃ v, (S.cells x)[0]? = some v := ⟨_, List.getElem?_eq_getElem (by rw [S.len]; exact S.pos)⟩
      have := World.block_lt_of_cell? _ _ (h0 0 v0 hv0)
      rw [gen_block, gen_block] at this
      exact ⟨a, rfl, this, h0⟩
def Nd.fine (x : Nd) : Prop := x.hash.size ≤ 9223372036854775807 ∧ x.words
theorem num_cells {fuel : Nat} {cs : List Value} {y : DataW H × List MemPlace} (hh : DataW.trod enc Tryd.prog W 0 (fun _ => true) true fuel 22 cs = some y) : ∃ n : Int, cs = [.int .u64 n] ∧ Word n := by
  obtain ⟨h, eh, -, wh⟩ := DataW.trod_int Tryd.underlying22 hh
  exact ⟨h, eh, word_of wh⟩
theorem wide_cells {fuel : Nat} {cs : List Value} {y : DataW H × List MemPlace} (hh : DataW.trod enc Tryd.prog W 0 (fun _ => true) true fuel 24 cs = some y) : ∃ h l : Int, cs = [.int .u64 h, .int .u64 l] ∧ Word h ∧ Word l := by
  obtain ⟨y0, y1, n, -, hl, t0, t1⟩ := trod_struct2 Tryd.underlying24 hh
  have h3 : cs.length = 2 := hl.trans (show Tryd.prog.cellsOf 24 = 2 by kernel_rfl)
  obtain ⟨c0, c1, rfl⟩ : ∃ c0 c1, cs = [c0, c1] := by
    match cs, h3 with
    | [c0, c1], _ => exact ⟨c0, c1, rfl⟩
  have o0 : Tryd.prog.cellsOf 22 = 1 := by kernel_rfl
  have t0' : DataW.trod enc Tryd.prog W 0 (fun _ => true) true n 22 [c0] = some y0 := by simpa [o0] using t0
  have t1' : DataW.trod enc Tryd.prog W 0 (fun _ => true) true n 22 [c1] = some y1 := by simpa [o0] using t1
  obtain ⟨h, e1, w1⟩ := num_cells t0'
  obtain ⟨l, e2, w2⟩ := num_cells t1'
  injection e1 with e1
  injection e2 with e2
  exact ⟨h, l, by rw [e1, e2], w1, w2⟩
theorem nd_cells {fuel : Nat} {cs : List Value} {y : DataW H × List MemPlace} (hh : DataW.trod enc Tryd.prog W 0 (fun _ => true) true fuel 36 cs = some y) : ∃ x : Nd, cs = ndS.cells x ∧ x.fine := by
  obtain ⟨y0, y1, n, -, hl, t0, t1⟩ := trod_struct2 Tryd.underlying36 hh
  have h3 : cs.length = 3 := hl.trans (show Tryd.prog.cellsOf 36 = 3 by kernel_rfl)
  obtain ⟨c0, c1, c2, rfl⟩ : ∃ c0 c1 c2, cs = [c0, c1, c2] := by
    match cs, h3 with
    | [c0, c1, c2], _ => exact ⟨c0, c1, c2, rfl⟩
  have o1 : Tryd.prog.cellsOf 24 = 2 := by kernel_rfl
  have o3 : Tryd.prog.cellsOf 9 = 1 := by kernel_rfl
  have t0' : DataW.trod enc Tryd.prog W 0 (fun _ => true) true n 9 [c0] = some y0 := by simpa [o3] using t0
  have t1' : DataW.trod enc Tryd.prog W 0 (fun _ => true) true n 24 [c1, c2] = some y1 := by simpa [o1] using t1
  obtain ⟨s, es, -, ws⟩ := DataW.trod_string Tryd.underlying9 t0'
  obtain ⟨h, l, e2, w1, w2⟩ := wide_cells t1'
  injection es with es
  injection e2 with e2 e3
  injection e3 with e3
  exact ⟨⟨s, h, l⟩, by rw [es, e2, e3]; rfl, ws, w1, w2⟩
theorem nds_in {fuel : Nat} {v : Value} {y : DataW H × List MemPlace} (hf : DataW.trod enc Tryd.prog W 0 (fun _ => true) true fuel 54 [v] = some y) :
    ∃ (A : Option Addr) (c : Nat) (xs : List Nd), v = .slice A xs.length c ∧ xs.length ≤ 9223372036854775807 ∧ (A = none → c = 0) ∧ (∀ x ∈ xs, x.fine) ∧ ndS.Row W W.heap.size A xs :=
  Sh.slice_in (S := ndS) 54 36 Tryd.underlying54 (show Tryd.prog.cellsOf 36 = 3 by kernel_rfl) (fun _ _ _ h => nd_cells h) hf
end
/-- A row of nodes, opened. -/
theorem open_nds {H : Type} {enc : TypeId × Value → H} {W : World} {base : Nat} {v : Value} {d : DataW H} {p : List MemPlace} (hval : Value.okWide Tryd.prog W .any base 54 v) (h : DataW.Trod enc Tryd.prog W 0 (fun _ => true) true 54 v d p) :
    ∃ (A : Option Addr) (c : Nat) (xs : List Nd), v = .slice A xs.length c ∧ xs.length ≤ c ∧ c ≤ 9223372036854775807 ∧ (∀ x ∈ xs, x.fine) ∧ ndS.Row W W.heap.size A xs := by
  obtain ⟨a', len, cap, rfl⟩ := okWide_slice Tryd.underlying54 hval
  obtain ⟨fuel, hf⟩ := h
  have hf : DataW.trod enc Tryd.prog W 0 (fun _ => true) true fuel 54 [Value.slice a' len cap] = some (d, p) := hf
  obtain ⟨A, c, xs, e, h1, h2, h3, h4⟩ := nds_in hf
  injection e with e1 e2 e3
  subst e1 e2 e3
  have hb : xs.length ≤ cap ∧ cap ≤ 9223372036854775807 := by
    rcases Go.Deep.open_slice Tryd.underlying54 hf with ⟨hc, -⟩ | ⟨a, len', cap', m, n, D, Pl, hc, hb, hl, hm, -⟩
    · simp only [List.cons.injEq, Value.slice.injEq, and_true] at hc
      omega
    · simp only [List.cons.injEq, Value.slice.injEq, and_true] at hc
      unfold maxLen at hm
      omega
  exact ⟨a', cap, xs, rfl, hb.1, hb.2, h3, h4⟩
/-- A node, opened. -/
theorem open_nd {H : Type} {enc : TypeId × Value → H} {W : World} {base : Nat} {v : Value} {d : DataW H} {p : List MemPlace} (hval : Value.okWide Tryd.prog W .any base 36 v)
    (h : DataW.Trod enc Tryd.prog W 0 (fun _ => true) true 36 v d p) : ∃ x : Nd, v = x.val ∧ x.fine := by
  obtain ⟨cs, rfl, hsz⟩ := okWide_struct Tryd.underlying36 hval
  obtain ⟨fuel, hf⟩ := h
  obtain ⟨x, hx, hf⟩ := nd_cells hf
  refine ⟨x, ?_, hf⟩
  have e : cs.toList = ndS.cells x := hx
  obtain rfl : cs = (ndS.cells x).toArray := Array.ext' e
  rfl
end Go.Proofs.YtbhgcmdodjgpmaaDoor
