/-
  Accounts in memory: a row of accounts, a block of them; arguments opened.
-/
import Derived.Test.YtngofpdpangajaaDoorD12Acc
import Derived.Test.YtngofpdpangajaaDoorT10Row
import Derived.Test.YtngofpdpangajaaDoorW1Has
namespace Go.Proofs.YtngofpdpangajaaDoor
set_option linter.unusedVariables false
set_option linter.unusedSimpArgs false
set_option maxRecDepth 10000
open Go.ChangeShapes Go.WideShapes Go.ChangeAt Go.RowKit

/-- An account's cells lie there. -/
def AcAt (w : World) (a : Addr) (x : Ac) : Prop := w.cell? a = some (.string x.id) ∧ w.cell? ⟨a.block, a.off + 1, none⟩ = some (.int .u64 x.h) ∧ w.cell? ⟨a.block, a.off + 2, none⟩ = some (.int .u64 x.l) ∧
  w.cell? ⟨a.block, a.off + 3, none⟩ = some (.string x.salt) ∧ w.cell? ⟨a.block, a.off + 4, none⟩ = some (.int .u64 x.slot)
theorem AcAt.keep {w w' : World} {a : Addr} {x : Ac} (h : AcAt w a x) (e : w'.heap[a.block]? = w.heap[a.block]?) : AcAt w' a x :=
  ⟨(World.cell?_of_block (w := w) e).trans h.1, (World.cell?_of_block (w := w) (a := ⟨a.block, a.off + 1, none⟩) e).trans h.2.1, (World.cell?_of_block (w := w) (a := ⟨a.block, a.off + 2, none⟩) e).trans h.2.2.1,
    (World.cell?_of_block (w := w) (a := ⟨a.block, a.off + 3, none⟩) e).trans h.2.2.2.1, (World.cell?_of_block (w := w) (a := ⟨a.block, a.off + 4, none⟩) e).trans h.2.2.2.2⟩
/-- Accounts of a row, below a height. -/
def AcRow (w : World) (B : Nat) (A : Option Addr) (xs : List Ac) : Prop := ∀ i x, xs[i]? = some x → ∃ ad, A = some ad ∧ ad.block < B ∧ AcAt w (ad.add (i * 5)) x
theorem AcRow.call {w w' : World} {B : Nat} {A : Option Addr} {xs : List Ac} (h : AcRow w B A xs) (hb : Below B w w') : AcRow w' B A xs := fun i x hx => by
  obtain ⟨ad, e, hl, hc⟩ := h i x hx
  exact ⟨ad, e, hl, hc.keep (by rw [o10_block]; exact hb.block _ hl)⟩
theorem AcRow.more {w : World} {B B' : Nat} {A : Option Addr} {xs : List Ac} (h : AcRow w B A xs) (hb : B ≤ B') : AcRow w B' A xs := fun i s hs => by
  obtain ⟨ad, e, hl, hc⟩ := h i s hs
  exact ⟨ad, e, Nat.lt_of_lt_of_le hl hb, hc⟩
theorem AcRow.nil (w : World) (B : Nat) (A : Option Addr) : AcRow w B A [] := fun i x hx => by simp at hx
def AllAc (xs : List Ac) : Prop := ∀ x ∈ xs, x.ok
theorem acc_cells {H : Type} {enc : TypeId × Value → H} {W : World} {fuel : Nat} {cs : List Value} {y : DataW H × List MemPlace} (hh : DataW.trod enc Tryd.prog W 0 (fun _ => true) true fuel 38 cs = some y) :
    ∃ x : Ac, cs = x.cells ∧ (x.id.size ≤ 9223372036854775807 ∧ x.salt.size ≤ 9223372036854775807) ∧ x.ok := by
  obtain ⟨y0, y1, y2, y3, n, -, hl, t0, t1, t2, t3⟩ := Go.Joins.trod_struct4 Tryd.underlying38 hh
  have h5 : cs.length = 5 := hl.trans (show Tryd.prog.cellsOf 38 = 5 by kernel_rfl)
  obtain ⟨c0, c1, c2, c3, c4, rfl⟩ : ∃ c0 c1 c2 c3 c4, cs = [c0, c1, c2, c3, c4] := by
    match cs, h5 with
    | [c0, c1, c2, c3, c4], _ => exact ⟨c0, c1, c2, c3, c4, rfl⟩
  have o0 : Tryd.prog.cellsOf 34 = 1 := by kernel_rfl
  have o1 : Tryd.prog.cellsOf 36 = 2 := by kernel_rfl
  have o3 : Tryd.prog.cellsOf 9 = 1 := by kernel_rfl
  have t0' : DataW.trod enc Tryd.prog W 0 (fun _ => true) true n 9 [c0] = some y0 := by simpa [Value.cells, o3] using t0
  have t1' : DataW.trod enc Tryd.prog W 0 (fun _ => true) true n 36 [c1, c2] = some y1 := by simpa [Value.cells, o1] using t1
  have t2' : DataW.trod enc Tryd.prog W 0 (fun _ => true) true n 9 [c3] = some y2 := by simpa [Value.cells, o3] using t2
  have t3' : DataW.trod enc Tryd.prog W 0 (fun _ => true) true n 34 [c4] = some y3 := by simpa [Value.cells, o0] using t3
  obtain ⟨z0, z1, k, -, -, s0, s1⟩ := trod_struct2 Tryd.underlying36 t1'
  have s0' : DataW.trod enc Tryd.prog W 0 (fun _ => true) true k 34 [c1] = some z0 := by simpa [o0] using s0
  have s1' : DataW.trod enc Tryd.prog W 0 (fun _ => true) true k 34 [c2] = some z1 := by simpa [o0] using s1
  obtain ⟨s, es, -, ws⟩ := DataW.trod_string Tryd.underlying9 t0'
  obtain ⟨h, eh, -, wh⟩ := DataW.trod_int Tryd.underlying34 s0'
  obtain ⟨l, el, -, wl⟩ := DataW.trod_int Tryd.underlying34 s1'
  obtain ⟨sa, ea, -, wa⟩ := DataW.trod_string Tryd.underlying9 t2'
  obtain ⟨sl, eo, -, wo⟩ := DataW.trod_int Tryd.underlying34 t3'
  simp at es eh el ea eo
  subst es eh el ea eo
  exact ⟨⟨s, h, l, sa, sl⟩, rfl, ⟨ws, wa⟩, word_of wh, word_of wl, word_of wo⟩
/-- A row of accounts, opened. -/
theorem open_accs {H : Type} {enc : TypeId × Value → H} {W : World} {base : Nat} {v : Value} {d : DataW H} {p : List MemPlace} (hval : Value.okWide Tryd.prog W .any base 22 v)
    (h : DataW.Trod enc Tryd.prog W 0 (fun _ => true) true 22 v d p) :
    ∃ (A : Option Addr) (c : Nat) (xs : List Ac), v = .slice A xs.length c ∧ xs.length ≤ 9223372036854775807 ∧ (A = none → c = 0) ∧ (∀ x ∈ xs, x.id.size ≤ 9223372036854775807 ∧ x.salt.size ≤ 9223372036854775807) ∧ AllAc xs ∧ AcRow W W.heap.size A xs := by
  obtain ⟨a', len, cap, rfl⟩ := okWide_slice Tryd.underlying22 hval
  obtain ⟨fuel, hf⟩ := h
  rcases Go.Deep.open_slice Tryd.underlying22 hf with ⟨hc, -⟩ | ⟨a, len', cap', m, n, D, Pl, hc, hb, hl, hm, hmm, -, hi⟩
  · have hcell : Value.slice a' len cap = .slice none 0 0 := by simpa [Value.cells] using hc
    injection hcell with e1 e2 e3
    subst e1 e2 e3
    exact ⟨none, 0, [], rfl, Nat.zero_le _, fun _ => rfl, fun x hx => by simp at hx, fun x hx => by simp at hx, fun i x hx => by simp at hx⟩
  · have hcell : Value.slice a' len cap = .slice (some a) len' cap' := by simpa [Value.cells] using hc
    have hC : Tryd.prog.cellsOf 38 = 5 := by kernel_rfl
    simp only [if_true] at hmm
    have each : ∀ i, i < len' → ∃ x : Ac, ((x.id.size ≤ 9223372036854775807 ∧ x.salt.size ≤ 9223372036854775807) ∧ x.ok) ∧ AcAt W (a.add (i * 5)) x := fun i hil => by
      obtain ⟨cs', hcs, ht⟩ := hi i (by rw [hmm]; omega)
      rw [hC] at hcs
      obtain ⟨_, hcl, hat⟩ := World.cells?_some hcs
      obtain ⟨x, rfl, hx1, hx2⟩ := acc_cells ht
      have h0 := hat 0 (by show 0 < 5; omega)
      have h1 := hat 1 (by show 1 < 5; omega)
      have h2 := hat 2 (by show 2 < 5; omega)
      have h3 := hat 3 (by show 3 < 5; omega)
      have h4 := hat 4 (by show 4 < 5; omega)
      rw [show (a.add (i * 5)).add 0 = a.add (i * 5) by rw [o10_add, Nat.add_zero]] at h0
      exact ⟨x, ⟨hx1, hx2⟩, h0, h1, h2, h3, h4⟩
    obtain ⟨xs, hxl, hxp⟩ := o10_choose len' each
    injection hcell with e1 e2 e3
    subst e1 e2 e3
    subst hxl
    unfold maxLen at hm
    refine ⟨some a, cap, xs, rfl, by omega, (fun h => nomatch h), fun x hx => ?_, fun x hx => ?_, fun i x hx => ?_⟩
    · obtain ⟨i, hi', rfl⟩ := List.getElem_of_mem hx
      exact (hxp i hi').1.1
    · obtain ⟨i, hi', rfl⟩ := List.getElem_of_mem hx
      exact (hxp i hi').1.2
    · obtain ⟨hi', e⟩ := List.getElem?_eq_some_iff.1 hx
      obtain ⟨-, h0⟩ := hxp i hi'
      rw [e] at h0
      have := World.block_lt_of_cell? _ _ h0.1
      rw [o10_block] at this
      exact ⟨a, rfl, this, h0⟩
/-- A row of the call's own, read. -/
theorem accs_of_own {b : Nat} {W : World} {v : Value} {l : List Ac} (h : W.ownsRow b 38 5 v l.length (accCs l)) : ∃ A c, v = .slice A l.length c ∧ (A = none → c = 0) ∧ AcRow W W.heap.size A l := by
  rcases h.2 with ⟨h1, h2⟩ | ⟨g, cap, cur, hv, hg, hh, hc, hm, hsz, hcur⟩
  · have e : l = [] := List.eq_nil_of_length_eq_zero h2
    subst e
    exact ⟨none, 0, h1, fun _ => rfl, AcRow.nil _ _ _⟩
  · refine ⟨some ⟨g, 0, none⟩, cap, hv, (fun h => nomatch h), fun i x hx => ⟨_, rfl, (Array.getElem?_eq_some_iff.1 hh).1, ?_⟩⟩
    have hil : i < l.length := (List.getElem?_eq_some_iff.1 hx).1
    have key : ∀ j, j < 5 → W.cell? ⟨g, i * 5 + j, none⟩ = x.cells[j]? := fun j hj => by
      rw [← accCs_at l i x hx j hj, ← hcur, List.getElem?_take_of_lt (by omega)]
      rw [cell_of_row W g (i * 5 + j) cur _ _ hh]
      simp
    have e1 : (⟨g, 0, none⟩ : Addr).add (i * 5) = ⟨g, i * 5, none⟩ := by simp [Addr.add]; exact fun hj => hj.symm
    rw [e1]
    have k0 := key 0 (by omega)
    rw [Nat.add_zero] at k0
    exact ⟨k0, key 1 (by omega), key 2 (by omega), key 3 (by omega), key 4 (by omega)⟩

/-- Block g holds just these accounts. -/
def AcBox (w : World) (g : Nat) (d : List Ac) : Prop := Box w g 38 (accCs d).toArray
section
variable {w w' : World} {g : Nat} {d : List Ac}
theorem AcBox.inside (h : AcBox w g d) : g < w.heap.size := Box.inside h
theorem AcBox.call (h : AcBox w g d) (hb : Below w.heap.size w w') : AcBox w' g d := Box.call h hb
theorem AcBox.past (h : AcBox w g d) (o : Obj) : AcBox (w.alloc o) g d := Box.past h o
theorem AcBox.row (h : AcBox w g d) : AcRow w w.heap.size (some ⟨g, 0, none⟩) d := fun i x hx => by
  have key : ∀ j, j < 5 → w.cell? ⟨g, i * 5 + j, none⟩ = x.cells[j]? := fun j hj => by
    rw [Box.read h]
    simp only [List.getElem?_toArray]
    exact accCs_at d i x hx j hj
  have e1 : (⟨g, 0, none⟩ : Addr).add (i * 5) = ⟨g, i * 5, none⟩ := by simp [Addr.add]; exact fun hj => hj.symm
  refine ⟨_, rfl, h.inside, ?_⟩
  rw [e1]
  have k0 := key 0 (by omega)
  rw [Nat.add_zero] at k0
  exact ⟨k0, key 1 (by omega), key 2 (by omega), key 3 (by omega), key 4 (by omega)⟩
theorem AcBox.free (h : AcBox w g d) (i : Nat) : w.frozen? ⟨g, i, none⟩ = false := Box.free h i
theorem AcBox.at (h : AcBox w g d) (i : Nat) (hi : i < d.length) : ∃ x, d[i]? = some x ∧ w.cell? ⟨g, i * 5, none⟩ = some (.string x.id) ∧ w.cell? ⟨g, i * 5 + 1, none⟩ = some (.int .u64 x.h) ∧ w.cell? ⟨g, i * 5 + 2, none⟩ = some (.int .u64 x.l) ∧
    w.cell? ⟨g, i * 5 + 3, none⟩ = some (.string x.salt) ∧ w.cell? ⟨g, i * 5 + 4, none⟩ = some (.int .u64 x.slot) := by
  obtain ⟨x, hx⟩ : ∃ x, d[i]? = some x := ⟨_, List.getElem?_eq_getElem hi⟩
  obtain ⟨ad, e, -, hc⟩ := h.row i x hx
  injection e with e
  subst e
  have e1 : (⟨g, 0, none⟩ : Addr).add (i * 5) = ⟨g, i * 5, none⟩ := by simp [Addr.add]; exact fun hj => hj.symm
  rw [e1] at hc
  exact ⟨x, hx, hc⟩
theorem AcBox.put (h : AcBox w g d) (i : Nat) (x : Ac) (hi : i < d.length) :
    AcBox (((((w.setCell ⟨g, i * 5, none⟩ (.string x.id)).setCell ⟨g, i * 5 + 1, none⟩ (.int .u64 x.h)).setCell ⟨g, i * 5 + 2, none⟩ (.int .u64 x.l)).setCell ⟨g, i * 5 + 3, none⟩ (.string x.salt)).setCell ⟨g, i * 5 + 4, none⟩ (.int .u64 x.slot)) g (d.set i x) := by
  have h1 := ((((Box.wrote h (i * 5) (.string x.id)).wrote (i * 5 + 1) (.int .u64 x.h)).wrote (i * 5 + 2) (.int .u64 x.l)).wrote (i * 5 + 3) (.string x.salt)).wrote (i * 5 + 4) (.int .u64 x.slot)
  unfold AcBox
  rw [← accCs_set d i x hi]
  have e : ∀ l : List Value, ∀ k v, l.toArray.setIfInBounds k v = (l.set k v).toArray := fun l k v => by simp
  rw [e, e, e, e, e] at h1
  exact h1
end
theorem below5_put {B : Nat} {w W : World} {g : Nat} (h : Below B w W) (hg : B ≤ g) (i j k m n : Nat) (x y z u v : Value) :
    Below B w (((((W.setCell ⟨g, i, none⟩ x).setCell ⟨g, j, none⟩ y).setCell ⟨g, k, none⟩ z).setCell ⟨g, m, none⟩ u).setCell ⟨g, n, none⟩ v) :=
  ((((h.setCell (p := ⟨g, i, none⟩) hg x).setCell (p := ⟨g, j, none⟩) hg y).setCell (p := ⟨g, k, none⟩) hg z).setCell (p := ⟨g, m, none⟩) hg u).setCell (p := ⟨g, n, none⟩) hg v
theorem box5_put {w : World} {g : Nat} {t : TypeId} {x y z u v : Value} (h : Box w g t #[x, y, z, u, v]) (a b c d e : Value) :
    Box (((((w.setCell ⟨g, 0, none⟩ a).setCell ⟨g, 1, none⟩ b).setCell ⟨g, 2, none⟩ c).setCell ⟨g, 3, none⟩ d).setCell ⟨g, 4, none⟩ e) g t #[a, b, c, d, e] := by
  have := ((((h.wrote 0 a).wrote 1 b).wrote 2 c).wrote 3 d).wrote 4 e
  simpa using this
theorem Box.five {w : World} {g : Nat} {t : TypeId} {a b c d e : Value} (h : Box w g t #[a, b, c, d, e]) :
    w.cell? ⟨g, 0, none⟩ = some a ∧ w.cell? ⟨g, 1, none⟩ = some b ∧ w.cell? ⟨g, 2, none⟩ = some c ∧ w.cell? ⟨g, 3, none⟩ = some d ∧ w.cell? ⟨g, 4, none⟩ = some e ∧
    w.frozen? ⟨g, 0, none⟩ = false ∧ w.frozen? ⟨g, 1, none⟩ = false ∧ w.frozen? ⟨g, 2, none⟩ = false ∧ w.frozen? ⟨g, 3, none⟩ = false ∧ w.frozen? ⟨g, 4, none⟩ = false ∧ g < w.heap.size :=
  ⟨h.read 0, h.read 1, h.read 2, h.read 3, h.read 4, h.free 0, h.free 1, h.free 2, h.free 3, h.free 4, h.inside⟩
end Go.Proofs.YtngofpdpangajaaDoor
