/-
  Roots in memory: rows of them, as a law's argument.
-/
import Derived.Test.YtmflhodiibjpnaaDoorM13Nod
import Derived.Test.YtmflhodiibjpnaaDoorW0Lift
import Derived.SliceStrings
import Derived.Deep.Grids
namespace Go.Proofs.YtmflhodiibjpnaaDoor
set_option linter.unusedVariables false
set_option linter.unusedSimpArgs false
set_option maxRecDepth 10000
open Go.ChangeShapes Go.WideShapes Go.ChangeAt Go.RowKit

def rtS : Sh RtP where
  cells x := [.string x.hash, .int .u64 x.h, .int .u64 x.l, .int .i64 x.n]
  k := 4
  len _ := rfl
  pos := by decide
  one x u hu := by
    simp only [List.mem_cons, List.not_mem_nil, or_false] at hu
    rcases hu with rfl | rfl | rfl | rfl <;> rfl
theorem rt_get {w : World} {B : Nat} {A : Option Addr} {xs : List RtP} (h : rtS.Row w B A xs) {i : Nat} {x : RtP} (hx : xs[i]? = some x) : ∃ ad, A = some ad ∧ (ad.add (i * 4)).block < B ∧
    w.cell? (ad.add (i * 4)) = some (.string x.hash) ∧ w.cell? ⟨(ad.add (i * 4)).block, (ad.add (i * 4)).off + 1, none⟩ = some (.int .u64 x.h) ∧ w.cell? ⟨(ad.add (i * 4)).block, (ad.add (i * 4)).off + 2, none⟩ = some (.int .u64 x.l) ∧ w.cell? ⟨(ad.add (i * 4)).block, (ad.add (i * 4)).off + 3, none⟩ = some (.int .i64 x.n) := by
  obtain ⟨ad, e, hl, hc⟩ := h i x hx
  exact ⟨ad, e, by rw [gen_block]; exact hl, hc 0 _ rfl, hc 1 _ rfl, hc 2 _ rfl, hc 3 _ rfl⟩
def RtP.fine (x : RtP) : Prop := x.hash.size ≤ 9223372036854775807 ∧ (Word x.h ∧ Word x.l) ∧ -9223372036854775808 ≤ x.n ∧ x.n < 9223372036854775808
section
variable {H : Type} {enc : TypeId × Value → H} {W : World}
theorem rnum_cells {fuel : Nat} {cs : List Value} {y : DataW H × List MemPlace} (hh : DataW.trod enc Tryd.prog W 0 (fun _ => true) true fuel 28 cs = some y) : ∃ n : Int, cs = [.int .u64 n] ∧ Word n := by
  obtain ⟨h, eh, -, wh⟩ := DataW.trod_int Tryd.underlying28 hh
  exact ⟨h, eh, word_of wh⟩
theorem rwide_cells {fuel : Nat} {cs : List Value} {y : DataW H × List MemPlace} (hh : DataW.trod enc Tryd.prog W 0 (fun _ => true) true fuel 30 cs = some y) : ∃ h l : Int, cs = [.int .u64 h, .int .u64 l] ∧ Word h ∧ Word l := by
  obtain ⟨y0, y1, n, -, hl, t0, t1⟩ := trod_struct2 Tryd.underlying30 hh
  have h3 : cs.length = 2 := hl.trans (show Tryd.prog.cellsOf 30 = 2 by kernel_rfl)
  obtain ⟨c0, c1, rfl⟩ : ∃ c0 c1, cs = [c0, c1] := by
    match cs, h3 with
    | [c0, c1], _ => exact ⟨c0, c1, rfl⟩
  have o0 : Tryd.prog.cellsOf 28 = 1 := by kernel_rfl
  have t0' : DataW.trod enc Tryd.prog W 0 (fun _ => true) true n 28 [c0] = some y0 := by simpa [o0] using t0
  have t1' : DataW.trod enc Tryd.prog W 0 (fun _ => true) true n 28 [c1] = some y1 := by simpa [o0] using t1
  obtain ⟨h, e1, w1⟩ := rnum_cells t0'
  obtain ⟨l, e2, w2⟩ := rnum_cells t1'
  injection e1 with e1
  injection e2 with e2
  exact ⟨h, l, by rw [e1, e2], w1, w2⟩
theorem rt_cells {fuel : Nat} {cs : List Value} {y : DataW H × List MemPlace} (hh : DataW.trod enc Tryd.prog W 0 (fun _ => true) true fuel 32 cs = some y) : ∃ x : RtP, cs = rtS.cells x ∧ x.fine := by
  obtain ⟨y0, y1, y2, n, -, hl, t0, t1, t2⟩ := Go.Deep.trod_struct3 Tryd.underlying32 hh
  have h3 : cs.length = 4 := hl.trans (show Tryd.prog.cellsOf 32 = 4 by kernel_rfl)
  obtain ⟨c0, c1, c2, c3, rfl⟩ : ∃ c0 c1 c2 c3, cs = [c0, c1, c2, c3] := by
    match cs, h3 with
    | [c0, c1, c2, c3], _ => exact ⟨c0, c1, c2, c3, rfl⟩
  have o0 : Tryd.prog.cellsOf 3 = 1 := by kernel_rfl
  have o1 : Tryd.prog.cellsOf 30 = 2 := by kernel_rfl
  have o3 : Tryd.prog.cellsOf 9 = 1 := by kernel_rfl
  have t0' : DataW.trod enc Tryd.prog W 0 (fun _ => true) true n 9 [c0] = some y0 := by simpa [o3] using t0
  have t1' : DataW.trod enc Tryd.prog W 0 (fun _ => true) true n 30 [c1, c2] = some y1 := by simpa [o1] using t1
  have t2' : DataW.trod enc Tryd.prog W 0 (fun _ => true) true n 3 [c3] = some y2 := by simpa [o0] using t2
  obtain ⟨s, es, -, ws⟩ := DataW.trod_string Tryd.underlying9 t0'
  obtain ⟨h, l, e2, w1, w2⟩ := rwide_cells t1'
  obtain ⟨m, em, -, wm⟩ := DataW.trod_int Tryd.underlying3 t2'
  injection es with es
  injection e2 with e2 e3
  injection e3 with e3
  injection em with em
  subst es e2 e3 em
  refine ⟨⟨s, h, l, m⟩, rfl, ws, ⟨w1, w2⟩, ?_⟩
  simp [Lit.wf, IntKind.min, IntKind.max, IntKind.signed, IntKind.bits] at wm
  simp only
  omega
/-- A slice of roots that came in. -/
theorem roots_in {fuel : Nat} {v : Value} {y : DataW H × List MemPlace} (hf : DataW.trod enc Tryd.prog W 0 (fun _ => true) true fuel 22 [v] = some y) :
    ∃ (A : Option Addr) (c : Nat) (xs : List RtP), v = .slice A xs.length c ∧ xs.length ≤ 9223372036854775807 ∧ (∀ x ∈ xs, x.fine) ∧ rtS.Row W W.heap.size A xs := by
  rcases Go.Deep.open_slice Tryd.underlying22 hf with ⟨hc, -⟩ | ⟨a, len', cap', m, n, D, Pl, hc, hb, hl, hm, hmm, -, hi⟩
  · injection hc with hc
    subst hc
    exact ⟨none, 0, [], rfl, Nat.zero_le _, fun x hx => by simp at hx, fun i x hx => by simp at hx⟩
  · injection hc with hc
    subst hc
    simp only [if_true] at hmm
    have each : ∀ i, i < len' → ∃ x : RtP, x.fine ∧ rtS.At W (a.add (i * 4)) x := fun i hil => by
      obtain ⟨cs', hcs, ht⟩ := hi i (by rw [hmm]; omega)
      rw [show Tryd.prog.cellsOf 32 = 4 by kernel_rfl] at hcs
      obtain ⟨_, hcl, hat⟩ := World.cells?_some hcs
      obtain ⟨x, rfl, hx⟩ := rt_cells ht
      refine ⟨x, hx, fun j u hu => ?_⟩
      have hj : j < 4 := by have := (List.getElem?_eq_some_iff.1 hu).1; rw [rtS.len] at this; exact this
      exact (hat j hj).trans hu
    obtain ⟨xs, hxl, hxp⟩ := gen_choose len' each
    subst hxl
    unfold maxLen at hm
    refine ⟨some a, cap', xs, rfl, by omega, fun x hx => ?_, fun i x hx => ?_⟩
    · obtain ⟨i, hi', rfl⟩ := List.getElem_of_mem hx
      exact (hxp i hi').1
    · obtain ⟨hi', e⟩ := List.getElem?_eq_some_iff.1 hx
      obtain ⟨-, h0⟩ := hxp i hi'
      rw [e] at h0
      have := World.block_lt_of_cell? _ _ (h0 0 _ rfl)
      rw [gen_block, gen_block] at this
      exact ⟨a, rfl, this, h0⟩
theorem open_roots {base : Nat} {v : Value} {d : DataW H} {p : List MemPlace} (hval : Value.okWide Tryd.prog W .any base 22 v) (h : DataW.Trod enc Tryd.prog W 0 (fun _ => true) true 22 v d p) :
    ∃ (A : Option Addr) (c : Nat) (xs : List RtP), v = .slice A xs.length c ∧ xs.length ≤ 9223372036854775807 ∧ (∀ x ∈ xs, x.fine) ∧ rtS.Row W W.heap.size A xs := by
  obtain ⟨fuel, hf⟩ := h
  have hv : v.cells.toList = [v] := by
    obtain ⟨a, l, c, rfl, -⟩ := Go.WideShapes.okWide_slice Tryd.underlying22 hval
    rfl
  rw [hv] at hf
  exact roots_in hf
end
end Go.Proofs.YtmflhodiibjpnaaDoor
