/-
  Things, where they lie: one in its block; a slice of them that came in or was made; opened.
-/
import Derived.Test.YtakhdhbalmcohaaDoorW8Off
import Derived.Test.YtakhdhbalmcohaaDoorW0Lift
import Derived.Deep.Slices
import Derived.Deep.Fields
import Derived.LoopTactic
import Derived.Deep.LoopGhost
namespace Go.Proofs.YtakhdhbalmcohaaDoor
set_option linter.unusedVariables false
set_option linter.unusedSimpArgs false
set_option maxRecDepth 10000
open Go.ChangeShapes Go.WideShapes Go.ChangeAt Go.RowKit

def thC (x : Th) : Array Value := #[.int .u8 x.k, .int .u64 x.h, .int .u64 x.l, .string x.s, .int .i64 x.m]
def Th.val (x : Th) : Value := .agg #[.int .u8 x.k, .int .u64 x.h, .int .u64 x.l, .string x.s, .int .i64 x.m]
structure Th.Ok (x : Th) : Prop where
  k : x.k < 256
  h : Word x.h
  l : Word x.l
  s : x.s.size ≤ 9223372036854775807
  m : x.m < 9223372036854775808
  m0 : -9223372036854775808 ≤ x.m
/-- A thing's cells at an address. -/
def ThAt (w : World) (a : Addr) (x : Th) : Prop := w.cell? a = some (.int .u8 x.k) ∧ w.cell? ⟨a.block, a.off + 1, none⟩ = some (.int .u64 x.h) ∧ w.cell? ⟨a.block, a.off + 2, none⟩ = some (.int .u64 x.l) ∧
  w.cell? ⟨a.block, a.off + 3, none⟩ = some (.string x.s) ∧ w.cell? ⟨a.block, a.off + 4, none⟩ = some (.int .i64 x.m)
theorem ThAt.keep {w w' : World} {a : Addr} {x : Th} (h : ThAt w a x) (e : w'.heap[a.block]? = w.heap[a.block]?) : ThAt w' a x :=
  ⟨(World.cell?_of_block (w := w) e).trans h.1, (World.cell?_of_block (w := w) (a := ⟨a.block, a.off + 1, none⟩) e).trans h.2.1, (World.cell?_of_block (w := w) (a := ⟨a.block, a.off + 2, none⟩) e).trans h.2.2.1,
    (World.cell?_of_block (w := w) (a := ⟨a.block, a.off + 3, none⟩) e).trans h.2.2.2.1, (World.cell?_of_block (w := w) (a := ⟨a.block, a.off + 4, none⟩) e).trans h.2.2.2.2⟩
theorem Box.thing {w : World} {b : Nat} {t : TypeId} {x : Th} (h : Box w b t (thC x)) : ThAt w ⟨b, 0, none⟩ x := ⟨h.read 0, h.read 1, h.read 2, h.read 3, h.read 4⟩
/-- A slice of things: where each one lies, below a height. -/
def ThRow (w : World) (B : Nat) (A : Option Addr) (xs : List Th) : Prop := ∀ i x, xs[i]? = some x → ∃ ad, A = some ad ∧ ad.block < B ∧ ThAt w (ad.add (i * 5)) x
theorem o8_block (a : Addr) (n : Nat) : (a.add n).block = a.block := by unfold Addr.add; split <;> rfl
theorem o8_add (a : Addr) (i j : Nat) : (a.add i).add j = a.add (i + j) := by
  unfold Addr.add
  by_cases hi : i = 0 <;> by_cases hj : j = 0 <;> simp [hi, hj, Nat.add_assoc]
theorem ThRow.call {w w' : World} {B : Nat} {A : Option Addr} {xs : List Th} (h : ThRow w B A xs) (hb : Below B w w') : ThRow w' B A xs := fun i x hx => by
  obtain ⟨ad, e, hl, h1⟩ := h i x hx
  exact ⟨ad, e, hl, h1.keep (by rw [o8_block]; exact hb.block _ hl)⟩
theorem ThRow.one {w : World} {b : Nat} {t : TypeId} {x : Th} (h : Box w b t (thC x)) : ThRow w w.heap.size (some ⟨b, 0, none⟩) [x] := fun i y hy => by
  have hi : i = 0 := by have := (List.getElem?_eq_some_iff.1 hy).1; simp at this; omega
  subst hi
  injection hy with hy
  subst hy
  exact ⟨_, rfl, h.inside, h.thing⟩
def AllOk (xs : List Th) : Prop := ∀ x ∈ xs, x.Ok
theorem o8_choose {α : Type} {p : Nat → α → Prop} : ∀ (n : Nat), (∀ i, i < n → ∃ a, p i a) → ∃ l : List α, l.length = n ∧ ∀ i (h : i < l.length), p i l[i]
  | 0, _ => ⟨[], rfl, fun i h => by simp at h⟩
  | n + 1, h => by
    obtain ⟨l, hl, hp⟩ := o8_choose n (fun i hi => h i (by omega))
    obtain ⟨a, ha⟩ := h n (by omega)
    refine ⟨l ++ [a], by simp [hl], fun i hi => ?_⟩
    by_cases e : i < l.length
    · rw [List.getElem_append_left e]; exact hp i e
    · have e2 : i = n := by simp at hi; omega
      subst e2
      rw [List.getElem_append_right (by omega)]
      simpa [hl] using ha
theorem thing_cells {H : Type} {enc : TypeId × Value → H} {W : World} {fuel : Nat} {cs : List Value} {y : DataW H × List MemPlace} (hh : DataW.trod enc Tryd.prog W 0 (fun _ => true) true fuel 37 cs = some y) :
    ∃ x : Th, cs = (thC x).toList ∧ x.Ok := by
  obtain ⟨y0, y1, y2, y3, n, -, hl, t0, t1, t2, t3⟩ := Go.Joins.trod_struct4 Tryd.underlying37 hh
  have h5 : cs.length = 5 := hl.trans (show Tryd.prog.cellsOf 37 = 5 by kernel_rfl)
  obtain ⟨c0, c1, c2, c3, c4, rfl⟩ : ∃ c0 c1 c2 c3 c4, cs = [c0, c1, c2, c3, c4] := by
    match cs, h5 with
    | [c0, c1, c2, c3, c4], _ => exact ⟨c0, c1, c2, c3, c4, rfl⟩
  have o0 : Tryd.prog.cellsOf 30 = 1 := by kernel_rfl
  have o1 : Tryd.prog.cellsOf 35 = 2 := by kernel_rfl
  have o2 : Tryd.prog.cellsOf 5 = 1 := by kernel_rfl
  have o3 : Tryd.prog.cellsOf 9 = 1 := by kernel_rfl
  have o4 : Tryd.prog.cellsOf 3 = 1 := by kernel_rfl
  have t0' : DataW.trod enc Tryd.prog W 0 (fun _ => true) true n 5 [c0] = some y0 := by simpa [Value.cells, o2] using t0
  have t1' : DataW.trod enc Tryd.prog W 0 (fun _ => true) true n 35 [c1, c2] = some y1 := by simpa [Value.cells, o1, o2] using t1
  have t2' : DataW.trod enc Tryd.prog W 0 (fun _ => true) true n 9 [c3] = some y2 := by simpa [Value.cells, o3, o1, o2] using t2
  have t3' : DataW.trod enc Tryd.prog W 0 (fun _ => true) true n 3 [c4] = some y3 := by simpa [Value.cells, o4, o3, o1, o2] using t3
  obtain ⟨z0, z1, k, -, -, s0, s1⟩ := trod_struct2 Tryd.underlying35 t1'
  have s0' : DataW.trod enc Tryd.prog W 0 (fun _ => true) true k 30 [c1] = some z0 := by simpa [o0] using s0
  have s1' : DataW.trod enc Tryd.prog W 0 (fun _ => true) true k 30 [c2] = some z1 := by simpa [o0] using s1
  obtain ⟨b, eb, -, wb⟩ := DataW.trod_int Tryd.underlying5 t0'
  obtain ⟨s, es, -, ws⟩ := DataW.trod_string Tryd.underlying9 t2'
  obtain ⟨h, eh, -, wh⟩ := DataW.trod_int Tryd.underlying30 s0'
  obtain ⟨l, el, -, wl⟩ := DataW.trod_int Tryd.underlying30 s1'
  obtain ⟨m, em, -, wm⟩ := DataW.trod_int Tryd.underlying3 t3'
  simp at eb es eh el em
  subst eb es eh el em
  simp [Lit.wf, IntKind.min, IntKind.max, IntKind.signed, IntKind.bits] at wb wm
  refine ⟨⟨b.toNat, h, l, s, m⟩, ?_, by show b.toNat < 256; omega, word_of wh, word_of wl, ws, by show m < _; omega, by show _ ≤ m; omega⟩
  show _ = [Value.int .u8 (b.toNat : Int), _, _, _, _]
  rw [show ((b.toNat : Nat) : Int) = b by omega]
theorem open_thing {H : Type} {enc : TypeId × Value → H} {W : World} {base : Nat} {v : Value} {d : DataW H} {p : List MemPlace} (hval : Value.okWide Tryd.prog W .any base 37 v)
    (h : DataW.Trod enc Tryd.prog W 0 (fun _ => true) true 37 v d p) : ∃ x : Th, v = x.val ∧ x.Ok := by
  obtain ⟨cs, rfl, hsz⟩ := okWide_struct Tryd.underlying37 hval
  obtain ⟨fuel, hf⟩ := h
  obtain ⟨x, hx, h1⟩ := thing_cells hf
  refine ⟨x, ?_, h1⟩
  have e : cs.toList = (thC x).toList := hx
  obtain rfl : cs = thC x := Array.ext' e
  rfl
theorem open_things {H : Type} {enc : TypeId × Value → H} {W : World} {base : Nat} {v : Value} {d : DataW H} {p : List MemPlace} (hval : Value.okWide Tryd.prog W .any base 22 v)
    (h : DataW.Trod enc Tryd.prog W 0 (fun _ => true) true 22 v d p) :
    ∃ (A : Option Addr) (c : Nat) (xs : List Th), v = .slice A xs.length c ∧ xs.length ≤ 9223372036854775807 ∧ AllOk xs ∧ ThRow W W.heap.size A xs := by
  obtain ⟨a', len, cap, rfl⟩ := okWide_slice Tryd.underlying22 hval
  obtain ⟨fuel, hf⟩ := h
  rcases Go.Deep.open_slice Tryd.underlying22 hf with ⟨hc, -⟩ | ⟨a, len', cap', m, n, D, Pl, hc, hb, hl, hm, hmm, -, hi⟩
  · have hcell : Value.slice a' len cap = .slice none 0 0 := by simpa [Value.cells] using hc
    injection hcell with e1 e2 e3
    subst e1 e2 e3
    exact ⟨none, 0, [], rfl, Nat.zero_le _, fun x hx => by simp at hx, fun i x hx => by simp at hx⟩
  · have hcell : Value.slice a' len cap = .slice (some a) len' cap' := by simpa [Value.cells] using hc
    have hC : Tryd.prog.cellsOf 37 = 5 := by kernel_rfl
    simp only [if_true] at hmm
    have each : ∀ i, i < len' → ∃ x : Th, x.Ok ∧ ThAt W (a.add (i * 5)) x := fun i hil => by
      obtain ⟨cs', hcs, ht⟩ := hi i (by rw [hmm]; omega)
      rw [hC] at hcs
      obtain ⟨_, hcl, hat⟩ := World.cells?_some hcs
      obtain ⟨x, rfl, hx⟩ := thing_cells ht
      have h0 := hat 0 (by show 0 < 5; omega)
      have h1 := hat 1 (by show 1 < 5; omega)
      have h2 := hat 2 (by show 2 < 5; omega)
      have h3 := hat 3 (by show 3 < 5; omega)
      have h4 := hat 4 (by show 4 < 5; omega)
      rw [show (a.add (i * 5)).add 0 = a.add (i * 5) by rw [o8_add, Nat.add_zero]] at h0
      exact ⟨x, hx, h0, h1, h2, h3, h4⟩
    obtain ⟨xs, hxl, hxp⟩ := o8_choose len' each
    injection hcell with e1 e2 e3
    subst e1 e2 e3
    subst hxl
    unfold maxLen at hm
    refine ⟨some a, cap, xs, rfl, by omega, fun x hx => ?_, fun i x hx => ?_⟩
    · obtain ⟨i, hi', rfl⟩ := List.getElem_of_mem hx
      exact (hxp i hi').1
    · obtain ⟨hi', e⟩ := List.getElem?_eq_some_iff.1 hx
      obtain ⟨-, h0⟩ := hxp i hi'
      rw [e] at h0
      have := World.block_lt_of_cell? _ _ h0.1
      rw [o8_block] at this
      exact ⟨a, rfl, this, h0⟩

theorem open_int8 {H : Type} {enc : TypeId × Value → H} {W : World} {base : Nat} {v : Value} {d : DataW H} {p : List MemPlace} (hval : Value.okWide Tryd.prog W .any base 3 v)
    (h : DataW.Trod enc Tryd.prog W 0 (fun _ => true) true 3 v d p) : ∃ m : Int, v = .int .i64 m ∧ m < 9223372036854775808 ∧ -9223372036854775808 ≤ m := by
  obtain ⟨m, rfl, -, -, wm⟩ := open_int Tryd.underlying3 hval h
  simp [Lit.wf, IntKind.min, IntKind.max, IntKind.signed, IntKind.bits] at wm
  exact ⟨m, rfl, by omega, by omega⟩
theorem kind_five (k : Nat) (j : Nat) (hk : k % 5 = j) (h256 : k < 256) : (k : Int).tmod 5 = (j : Int) ∧ (k : Int) % 5 = (j : Int) ∧ IntKind.u8.wrap (j : Int) = (j : Int) := by
  refine ⟨?_, by omega, ?_⟩
  · rw [Int.tmod_eq_emod_of_nonneg (by omega)]; omega
  · rw [IntKind.wrap_u8]; omega
/-- Are things more than are gone through? -/
def longT (xs : List Th) : Bool := decide (200 < xs.length) || xs.any (fun x => decide (2000 < x.s.size))
theorem longT_no {xs : List Th} (h : longT xs = false) : xs.length ≤ 200 ∧ ∀ x ∈ xs, x.s.size ≤ 2000 := by
  unfold longT at h
  rw [Bool.or_eq_false_iff] at h
  have h1 := of_decide_eq_false h.1
  refine ⟨by omega, fun x hx => ?_⟩
  have h2 := h.2
  rw [List.any_eq_false] at h2
  have := h2 x hx
  simp at this
  omega

set_option maxHeartbeats 1000000 in
theorem long_things (A : Option Addr) (c : Nat) (xs : List Th) (hm : xs.length ≤ 9223372036854775807) (w : World) (hr : ThRow w w.heap.size A xs) :
    Calls Tryd.prog 8 #[.slice A xs.length c] w (Still (.bool (longT xs)) w) := by
  have HM := hideIt hm
  by_cases h200 : 200 < xs.length
  · have h2 : (200 : Int) < (xs.length : Int) := by omega
    have e : longT xs = true := by unfold longT; rw [decide_eq_true h200]; rfl
    rw [e]
    clear hm
    go_enter Tryd.func8, Tryd.ntmps8
    go_wp2
    go_ret
    exact ⟨rfl, rfl⟩
  · have h2 : ¬ ((200 : Int) < (xs.length : Int)) := by omega
    have e : longT xs = xs.any (fun x => decide (2000 < x.s.size)) := by unfold longT; rw [decide_eq_false h200]; rfl
    rw [e]
    clear e
    go_enter Tryd.func8, Tryd.ntmps8
    go_wp2
    go_loopg [3] xs.length (fun gk i wr => ∃ k : Nat, k ≤ xs.length ∧ gk = xs.length - k ∧ i = .int .i64 k ∧ (∀ j x, j < k → xs[j]? = some x → x.s.size ≤ 2000) ∧ wr = w)
    case atStart => exact ⟨0, Nat.zero_le _, rfl, rfl, fun j x hj => absurd hj (Nat.not_lt_zero _), rfl⟩
    case round =>
      obtain ⟨k, hk, hgk, rfl, hall, rfl⟩ := hrel
      have HG := hideIt hgk
      have HA := hideIt hall
      clear hgk hall
      by_cases hlt : k < xs.length
      · obtain ⟨x, hx⟩ : ∃ x, xs[k]? = some x := ⟨_, List.getElem?_eq_getElem hlt⟩
        obtain ⟨ad, rfl, hb, q0, q1, q2, q3, q4⟩ := hr k x hx
        have hb2 : (ad.add (k * 5)).block < wr.heap.size := by rw [o8_block]; exact hb
        have b1 : (k : Int) < (xs.length : Int) := by omega
        have HX := hideIt hx
        clear hx hr
        by_cases hs : 2000 < x.s.size
        · have hsi : (2000 : Int) < (x.s.size : Int) := by omega
          have ha : xs.any (fun x => decide (2000 < x.s.size)) = true := List.any_eq_true.2 ⟨x, List.mem_of_getElem? HX.out, decide_eq_true hs⟩
          have HH := hideIt ha
          clear ha
          go_wp2
          go_ret
          exact ⟨by rw [HH.out]; rfl, rfl⟩
        · have hsi : ¬ ((2000 : Int) < (x.s.size : Int)) := by omega
          go_wp2
          go_roundg (xs.length - (k + 1))
          case measure => have := HG.out; omega
          case rel => exact ⟨k + 1, by omega, rfl, by go_num, fun j y hj hy => by
            by_cases e : j = k
            · subst e
              rw [HX.out] at hy
              injection hy with hy
              subst hy
              omega
            · exact HA.out j y (by omega) hy, rfl⟩
      · have e : k = xs.length := by omega
        subst e
        have ha : xs.any (fun x => decide (2000 < x.s.size)) = false := List.any_eq_false.2 fun x hx => by
          obtain ⟨i, hi, rfl⟩ := List.getElem_of_mem hx
          have := HA.out i _ hi (List.getElem?_eq_getElem hi)
          simp
          omega
        have HH := hideIt ha
        clear ha
        go_wp2
        go_ret
        exact ⟨by rw [HH.out]; rfl, rfl⟩
end Go.Proofs.YtakhdhbalmcohaaDoor
