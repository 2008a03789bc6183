/-
  Rows in memory: a row of rows; arguments opened.
-/
import Derived.Test.YtngofpdpangajaaDoorD0Row
import Derived.Test.YtngofpdpangajaaDoorW0Lift
import Derived.Test.YtngofpdpangajaaDoorW0Libs
import Derived.SliceStrings
import Derived.Deep.Grids
namespace Go.Proofs.YtngofpdpangajaaDoor
set_option linter.unusedVariables false
set_option linter.unusedSimpArgs false
set_option maxRecDepth 10000
open Go.ChangeShapes Go.WideShapes Go.ChangeAt Go.RowKit

theorem o10_block (a : Addr) (n : Nat) : (a.add n).block = a.block := by unfold Addr.add; split <;> rfl
theorem o10_add (a : Addr) (i j : Nat) : (a.add i).add j = a.add (i + j) := by
  unfold Addr.add
  by_cases hi : i = 0 <;> by_cases hj : j = 0 <;> simp [hi, hj, Nat.add_assoc]
theorem o10_choose {α : Type} {p : Nat → α → Prop} : ∀ (n : Nat), (∀ i, i < n → ∃ a, p i a) → ∃ l : List α, l.length = n ∧ ∀ i (h : i < l.length), p i l[i]
  | 0, _ => ⟨[], rfl, fun i h => by simp at h⟩
  | n + 1, h => by
    obtain ⟨l, hl, hp⟩ := o10_choose n (fun i hi => h i (by omega))
    obtain ⟨a, ha⟩ := h n (by omega)
    refine ⟨l ++ [a], by simp [hl], fun i hi => ?_⟩
    by_cases e : i < l.length
    · rw [List.getElem_append_left e]; exact hp i e
    · have e2 : i = n := by simp at hi; omega
      subst e2
      rw [List.getElem_append_right (by omega)]
      simpa [hl] using ha

/-- A row's cells lie there. -/
def RwAt (w : World) (a : Addr) (x : Rw) : Prop := w.cell? a = some (.string x.id) ∧ w.cell? ⟨a.block, a.off + 1, none⟩ = some (.int .u64 x.h) ∧ w.cell? ⟨a.block, a.off + 2, none⟩ = some (.int .u64 x.l)
theorem RwAt.keep {w w' : World} {a : Addr} {x : Rw} (h : RwAt w a x) (e : w'.heap[a.block]? = w.heap[a.block]?) : RwAt w' a x :=
  ⟨(World.cell?_of_block (w := w) e).trans h.1, (World.cell?_of_block (w := w) (a := ⟨a.block, a.off + 1, none⟩) e).trans h.2.1, (World.cell?_of_block (w := w) (a := ⟨a.block, a.off + 2, none⟩) e).trans h.2.2⟩
/-- Rows of a row, below a height. -/
def RwRow (w : World) (B : Nat) (A : Option Addr) (xs : List Rw) : Prop := ∀ i x, xs[i]? = some x → ∃ ad, A = some ad ∧ ad.block < B ∧ RwAt w (ad.add (i * 3)) x
theorem RwRow.call {w w' : World} {B : Nat} {A : Option Addr} {xs : List Rw} (h : RwRow w B A xs) (hb : Below B w w') : RwRow w' B A xs := fun i x hx => by
  obtain ⟨ad, e, hl, hc⟩ := h i x hx
  exact ⟨ad, e, hl, hc.keep (by rw [o10_block]; exact hb.block _ hl)⟩
theorem RwRow.more {w : World} {B B' : Nat} {A : Option Addr} {xs : List Rw} (h : RwRow w B A xs) (hb : B ≤ B') : RwRow w B' A xs := fun i s hs => by
  obtain ⟨ad, e, hl, hc⟩ := h i s hs
  exact ⟨ad, e, Nat.lt_of_lt_of_le hl hb, hc⟩
theorem RwRow.nil (w : World) (B : Nat) (A : Option Addr) : RwRow w B A [] := fun i x hx => by simp at hx
def AllRw (xs : List Rw) : Prop := ∀ x ∈ xs, x.ok
theorem row_cells {H : Type} {enc : TypeId × Value → H} {W : World} {fuel : Nat} {cs : List Value} {y : DataW H × List MemPlace} (hh : DataW.trod enc Tryd.prog W 0 (fun _ => true) true fuel 59 cs = some y) :
    ∃ x : Rw, cs = x.cells ∧ x.id.size ≤ 9223372036854775807 ∧ x.ok := by
  obtain ⟨y0, y1, n, -, hl, t0, t1⟩ := trod_struct2 Tryd.underlying59 hh
  have h3 : cs.length = 3 := hl.trans (show Tryd.prog.cellsOf 59 = 3 by kernel_rfl)
  obtain ⟨c0, c1, c2, rfl⟩ : ∃ c0 c1 c2, cs = [c0, c1, c2] := by
    match cs, h3 with
    | [c0, c1, c2], _ => exact ⟨c0, c1, c2, rfl⟩
  have o0 : Tryd.prog.cellsOf 34 = 1 := by kernel_rfl
  have o1 : Tryd.prog.cellsOf 36 = 2 := by kernel_rfl
  have o3 : Tryd.prog.cellsOf 9 = 1 := by kernel_rfl
  have t0' : DataW.trod enc Tryd.prog W 0 (fun _ => true) true n 9 [c0] = some y0 := by simpa [Value.cells, o3] using t0
  have t1' : DataW.trod enc Tryd.prog W 0 (fun _ => true) true n 36 [c1, c2] = some y1 := by simpa [Value.cells, o1] using t1
  obtain ⟨z0, z1, k, -, -, s0, s1⟩ := trod_struct2 Tryd.underlying36 t1'
  have s0' : DataW.trod enc Tryd.prog W 0 (fun _ => true) true k 34 [c1] = some z0 := by simpa [o0] using s0
  have s1' : DataW.trod enc Tryd.prog W 0 (fun _ => true) true k 34 [c2] = some z1 := by simpa [o0] using s1
  obtain ⟨s, es, -, ws⟩ := DataW.trod_string Tryd.underlying9 t0'
  obtain ⟨h, eh, -, wh⟩ := DataW.trod_int Tryd.underlying34 s0'
  obtain ⟨l, el, -, wl⟩ := DataW.trod_int Tryd.underlying34 s1'
  simp at es eh el
  subst es eh el
  exact ⟨⟨s, h, l⟩, rfl, ws, word_of wh, word_of wl⟩
/-- A row, opened. -/
theorem open_rw {H : Type} {enc : TypeId × Value → H} {W : World} {base : Nat} {v : Value} {d : DataW H} {p : List MemPlace} (hval : Value.okWide Tryd.prog W .any base 59 v)
    (h : DataW.Trod enc Tryd.prog W 0 (fun _ => true) true 59 v d p) : ∃ x : Rw, v = x.val ∧ x.id.size ≤ 9223372036854775807 ∧ x.ok := by
  obtain ⟨cs, rfl, hsz⟩ := okWide_struct Tryd.underlying59 hval
  obtain ⟨fuel, hf⟩ := h
  obtain ⟨x, hx, h1, h2⟩ := row_cells hf
  refine ⟨x, ?_, h1, h2⟩
  have e : cs.toList = x.cells := hx
  obtain rfl : cs = #[.string x.id, .int .u64 x.h, .int .u64 x.l] := Array.ext' e
  rfl
/-- A row of rows, opened. -/
theorem open_rows {H : Type} {enc : TypeId × Value → H} {W : World} {base : Nat} {v : Value} {d : DataW H} {p : List MemPlace} (hval : Value.okWide Tryd.prog W .any base 23 v)
    (h : DataW.Trod enc Tryd.prog W 0 (fun _ => true) true 23 v d p) :
    ∃ (A : Option Addr) (c : Nat) (xs : List Rw), v = .slice A xs.length c ∧ xs.length ≤ 9223372036854775807 ∧ (A = none → c = 0) ∧ (∀ x ∈ xs, x.id.size ≤ 9223372036854775807) ∧ AllRw xs ∧ RwRow W W.heap.size A xs := by
  obtain ⟨a', len, cap, rfl⟩ := okWide_slice Tryd.underlying23 hval
  obtain ⟨fuel, hf⟩ := h
  rcases Go.Deep.open_slice Tryd.underlying23 hf with ⟨hc, -⟩ | ⟨a, len', cap', m, n, D, Pl, hc, hb, hl, hm, hmm, -, hi⟩
  · have hcell : Value.slice a' len cap = .slice none 0 0 := by simpa [Value.cells] using hc
    injection hcell with e1 e2 e3
    subst e1 e2 e3
    exact ⟨none, 0, [], rfl, Nat.zero_le _, fun _ => rfl, fun x hx => by simp at hx, fun x hx => by simp at hx, fun i x hx => by simp at hx⟩
  · have hcell : Value.slice a' len cap = .slice (some a) len' cap' := by simpa [Value.cells] using hc
    have hC : Tryd.prog.cellsOf 59 = 3 := by kernel_rfl
    simp only [if_true] at hmm
    have each : ∀ i, i < len' → ∃ x : Rw, (x.id.size ≤ 9223372036854775807 ∧ x.ok) ∧ RwAt W (a.add (i * 3)) x := fun i hil => by
      obtain ⟨cs', hcs, ht⟩ := hi i (by rw [hmm]; omega)
      rw [hC] at hcs
      obtain ⟨_, hcl, hat⟩ := World.cells?_some hcs
      obtain ⟨x, rfl, hx1, hx2⟩ := row_cells ht
      have h0 := hat 0 (by show 0 < 3; omega)
      have h1 := hat 1 (by show 1 < 3; omega)
      have h2 := hat 2 (by show 2 < 3; omega)
      rw [show (a.add (i * 3)).add 0 = a.add (i * 3) by rw [o10_add, Nat.add_zero]] at h0
      exact ⟨x, ⟨hx1, hx2⟩, h0, h1, h2⟩
    obtain ⟨xs, hxl, hxp⟩ := o10_choose len' each
    injection hcell with e1 e2 e3
    subst e1 e2 e3
    subst hxl
    unfold maxLen at hm
    refine ⟨some a, cap, xs, rfl, by omega, (fun h => nomatch h), fun x hx => ?_, fun x hx => ?_, fun i x hx => ?_⟩
    · obtain ⟨i, hi', rfl⟩ := List.getElem_of_mem hx
      exact (hxp i hi').1.1
    · obtain ⟨i, hi', rfl⟩ := List.getElem_of_mem hx
      exact (hxp i hi').1.2
    · obtain ⟨hi', e⟩ := List.getElem?_eq_some_iff.1 hx
      obtain ⟨-, h0⟩ := hxp i hi'
      rw [e] at h0
      have := World.block_lt_of_cell? _ _ h0.1
      rw [o10_block] at this
      exact ⟨a, rfl, this, h0⟩
/-- A row of the call's own, read. -/
theorem rows_of_own {b : Nat} {W : World} {v : Value} {l : List Rw} (h : W.ownsRow b 59 3 v l.length (rowCs l)) : ∃ A c, v = .slice A l.length c ∧ (A = none → c = 0) ∧ RwRow W W.heap.size A l := by
  rcases h.2 with ⟨h1, h2⟩ | ⟨g, cap, cur, hv, hg, hh, hc, hm, hsz, hcur⟩
  · have e : l = [] := List.eq_nil_of_length_eq_zero h2
    subst e
    exact ⟨none, 0, h1, fun _ => rfl, RwRow.nil _ _ _⟩
  · refine ⟨some ⟨g, 0, none⟩, cap, hv, (fun h => nomatch h), fun i x hx => ⟨_, rfl, (Array.getElem?_eq_some_iff.1 hh).1, ?_⟩⟩
    have hil : i < l.length := (List.getElem?_eq_some_iff.1 hx).1
    have key : ∀ j, j < 3 → W.cell? ⟨g, i * 3 + j, none⟩ = x.cells[j]? := fun j hj => by
      rw [← rowCs_at l i x hx j hj, ← hcur, List.getElem?_take_of_lt (by omega)]
      rw [cell_of_row W g (i * 3 + j) cur _ _ hh]
      simp
    have e1 : (⟨g, 0, none⟩ : Addr).add (i * 3) = ⟨g, i * 3, none⟩ := by simp [Addr.add]; exact fun hj => hj.symm
    rw [e1]
    have k0 := key 0 (by omega)
    rw [Nat.add_zero] at k0
    exact ⟨k0, key 1 (by omega), key 2 (by omega)⟩
end Go.Proofs.YtngofpdpangajaaDoor
