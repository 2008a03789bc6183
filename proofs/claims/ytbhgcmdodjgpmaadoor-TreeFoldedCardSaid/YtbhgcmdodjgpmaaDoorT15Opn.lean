/-
  Rows of leaves, and of acts, as arguments, opened.
-/
import Derived.Test.YtbhgcmdodjgpmaaDoorT14Opn
import Derived.Test.YtbhgcmdodjgpmaaDoorT15Leaf
namespace Go.Proofs.YtbhgcmdodjgpmaaDoor
set_option linter.unusedVariables false
set_option linter.unusedSimpArgs false
set_option maxRecDepth 10000
open Go.ChangeShapes Go.WideShapes Go.ChangeAt Go.RowKit

theorem byte_of {x : Int} (h : (Lit.int .u8 x).wf = true) : 0 ≤ x ∧ x < 256 := by
  simp [Lit.wf, IntKind.min, IntKind.max, IntKind.signed, IntKind.bits] at h
  exact ⟨by omega, by omega⟩
theorem half_of {x : Int} (h : (Lit.int .u16 x).wf = true) : 0 ≤ x ∧ x < 65536 := by
  simp [Lit.wf, IntKind.min, IntKind.max, IntKind.signed, IntKind.bits] at h
  exact ⟨by omega, by omega⟩
def Lf.fine15 (x : Lf) : Prop := (x.id.size ≤ 9223372036854775807 ∧ x.salt.size ≤ 9223372036854775807) ∧ Word x.h ∧ Word x.l
section
variable {H : Type} {enc : TypeId × Value → H} {W : World}
theorem lf_cells15 {fuel : Nat} {cs : List Value} {y : DataW H × List MemPlace} (hh : DataW.trod enc Tryd.prog W 0 (fun _ => true) true fuel 26 cs = some y) : ∃ x : Lf, cs = lfS.cells x ∧ x.fine15 := by
  obtain ⟨y0, y1, y2, y3, n, -, hl, t0, t1, t2, t3⟩ := Go.Joins.trod_struct4 Tryd.underlying26 hh
  have h3 : cs.length = 5 := hl.trans (show Tryd.prog.cellsOf 26 = 5 by kernel_rfl)
  obtain ⟨c0, c1, c2, c3, c4, rfl⟩ : ∃ c0 c1 c2 c3 c4, cs = [c0, c1, c2, c3, c4] := by
    match cs, h3 with
    | [c0, c1, c2, c3, c4], _ => exact ⟨c0, c1, c2, c3, c4, rfl⟩
  have o1 : Tryd.prog.cellsOf 24 = 2 := by kernel_rfl
  have o2 : Tryd.prog.cellsOf 4 = 1 := by kernel_rfl
  have o3 : Tryd.prog.cellsOf 9 = 1 := by kernel_rfl
  have t0' : DataW.trod enc Tryd.prog W 0 (fun _ => true) true n 4 [c0] = some y0 := by simpa [o2] using t0
  have t1' : DataW.trod enc Tryd.prog W 0 (fun _ => true) true n 9 [c1] = some y1 := by simpa [o3] using t1
  have t2' : DataW.trod enc Tryd.prog W 0 (fun _ => true) true n 9 [c2] = some y2 := by simpa [o3] using t2
  have t3' : DataW.trod enc Tryd.prog W 0 (fun _ => true) true n 24 [c3, c4] = some y3 := by simpa [o1] using t3
  obtain ⟨b, eb, -⟩ := DataW.trod_bool Tryd.underlying4 t0'
  obtain ⟨i, ei, -, wi⟩ := DataW.trod_string Tryd.underlying9 t1'
  obtain ⟨s, es, -, ws⟩ := DataW.trod_string Tryd.underlying9 t2'
  obtain ⟨h, l, e2, w1, w2⟩ := wide_cells t3'
  injection eb with eb
  injection ei with ei
  injection es with es
  injection e2 with e2 e3
  injection e3 with e3
  exact ⟨⟨b, i, s, h, l⟩, by rw [eb, ei, es, e2, e3]; rfl, ⟨wi, ws⟩, w1, w2⟩
theorem lfs_in15 {fuel : Nat} {v : Value} {y : DataW H × List MemPlace} (hf : DataW.trod enc Tryd.prog W 0 (fun _ => true) true fuel 28 [v] = some y) :
    ∃ (A : Option Addr) (c : Nat) (xs : List Lf), v = .slice A xs.length c ∧ xs.length ≤ 9223372036854775807 ∧ (A = none → c = 0) ∧ (∀ x ∈ xs, x.fine15) ∧ lfS.Row W W.heap.size A xs :=
  Sh.slice_in (S := lfS) 28 26 Tryd.underlying28 (show Tryd.prog.cellsOf 26 = 5 by kernel_rfl) (fun _ _ _ h => lf_cells15 h) hf
end
/-- A row of leaves, opened. -/
theorem open_lfs15 {H : Type} {enc : TypeId × Value → H} {W : World} {base : Nat} {v : Value} {d : DataW H} {p : List MemPlace} (hval : Value.okWide Tryd.prog W .any base 28 v) (h : DataW.Trod enc Tryd.prog W 0 (fun _ => true) true 28 v d p) :
    ∃ (A : Option Addr) (c : Nat) (xs : List Lf), v = .slice A xs.length c ∧ xs.length ≤ c ∧ c ≤ 9223372036854775807 ∧ (∀ x ∈ xs, x.fine15) ∧ lfS.Row W W.heap.size A xs := by
  obtain ⟨a', len, cap, rfl⟩ := okWide_slice Tryd.underlying28 hval
  obtain ⟨fuel, hf⟩ := h
  have hf : DataW.trod enc Tryd.prog W 0 (fun _ => true) true fuel 28 [Value.slice a' len cap] = some (d, p) := hf
  obtain ⟨A, c, xs, e, h1, h2, h3, h4⟩ := lfs_in15 hf
  injection e with e1 e2 e3
  subst e1 e2 e3
  have hb : xs.length ≤ cap ∧ cap ≤ 9223372036854775807 := by
    rcases Go.Deep.open_slice Tryd.underlying28 hf with ⟨hc, -⟩ | ⟨a, len', cap', m, n, D, Pl, hc, hb, hl, hm, -⟩
    · simp only [List.cons.injEq, Value.slice.injEq, and_true] at hc
      omega
    · simp only [List.cons.injEq, Value.slice.injEq, and_true] at hc
      unfold maxLen at hm
      omega
  exact ⟨a', cap, xs, rfl, hb.1, hb.2, h3, h4⟩
/-- A leaf that is set, and whether a copy goes on. -/
structure ActP where
  pos : Int
  l : Lf
  cp : Bool
def actS : Sh ActP where
  cells x := [.int .u64 x.pos, .bool x.l.pad, .string x.l.id, .string x.l.salt, .int .u64 x.l.h, .int .u64 x.l.l, .bool x.cp]
  k := 7
  len _ := rfl
  pos := by decide
  one x u hu := by
    simp only [List.mem_cons, List.not_mem_nil, or_false] at hu
    rcases hu with rfl | rfl | rfl | rfl | rfl | rfl | rfl <;> rfl
theorem act_get {w : World} {B : Nat} {A : Option Addr} {xs : List ActP} (h : actS.Row w B A xs) {i : Nat} {x : ActP} (hx : xs[i]? = some x) : ∃ ad, A = some ad ∧ (ad.add (i * 7)).block < B ∧
    w.cell? (ad.add (i * 7)) = some (.int .u64 x.pos) ∧ w.cell? ⟨(ad.add (i * 7)).block, (ad.add (i * 7)).off + 1, none⟩ = some (.bool x.l.pad) ∧ w.cell? ⟨(ad.add (i * 7)).block, (ad.add (i * 7)).off + 2, none⟩ = some (.string x.l.id) ∧ w.cell? ⟨(ad.add (i * 7)).block, (ad.add (i * 7)).off + 3, none⟩ = some (.string x.l.salt) ∧
    w.cell? ⟨(ad.add (i * 7)).block, (ad.add (i * 7)).off + 4, none⟩ = some (.int .u64 x.l.h) ∧ w.cell? ⟨(ad.add (i * 7)).block, (ad.add (i * 7)).off + 5, none⟩ = some (.int .u64 x.l.l) ∧ w.cell? ⟨(ad.add (i * 7)).block, (ad.add (i * 7)).off + 6, none⟩ = some (.bool x.cp) := by
  obtain ⟨ad, e, hl, hc⟩ := h i x hx
  exact ⟨ad, e, by rw [gen_block]; exact hl, hc 0 _ rfl, hc 1 _ rfl, hc 2 _ rfl, hc 3 _ rfl, hc 4 _ rfl, hc 5 _ rfl, hc 6 _ rfl⟩
end Go.Proofs.YtbhgcmdodjgpmaaDoor
