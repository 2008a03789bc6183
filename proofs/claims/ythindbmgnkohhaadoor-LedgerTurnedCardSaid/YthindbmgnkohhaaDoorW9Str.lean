/-
  Slices of texts that come in.
-/
import Derived.Test.YthindbmgnkohhaaDoorW0Lift
import Derived.SliceStrings
import Derived.Deep.Grids
namespace Go.Proofs.YthindbmgnkohhaaDoor
set_option linter.unusedVariables false
set_option linter.unusedSimpArgs false
set_option maxRecDepth 10000
open Go.ChangeShapes Go.WideShapes Go.ChangeAt Go.RowKit

/-- A row of texts below a height. -/
def StrRow (w : World) (B : Nat) (A : Option Addr) (ss : List ByteArray) : Prop := ∀ i s, ss[i]? = some s → ∃ ad, A = some ad ∧ ad.block < B ∧ w.cell? (ad.add i) = some (.string s)
theorem addr_block (a : Addr) (n : Nat) : (a.add n).block = a.block := by unfold Addr.add; split <;> rfl
theorem StrRow.call {w w' : World} {B : Nat} {A : Option Addr} {ss : List ByteArray} (h : StrRow w B A ss) (hb : Below B w w') : StrRow w' B A ss := fun i s hs => by
  obtain ⟨ad, e, hl, hc⟩ := h i s hs
  exact ⟨ad, e, hl, (hb.cell (by rw [addr_block]; exact hl)).trans hc⟩
theorem open_texts {H : Type} {enc : TypeId × Value → H} {W : World} {base : Nat} {v : Value} {d : DataW H} {p : List MemPlace} (hval : Value.okWide Tryd.prog W .any base 31 v)
    (h : DataW.Trod enc Tryd.prog W 0 (fun _ => true) true 31 v d p) :
    ∃ (A : Option Addr) (c : Nat) (ss : List ByteArray), v = .slice A ss.length c ∧ ss.length ≤ 9223372036854775807 ∧ (A = none → c = 0) ∧ StrRow W W.heap.size A ss := by
  obtain ⟨a', len, cap, rfl⟩ := okWide_slice Tryd.underlying31 hval
  obtain ⟨fuel, hf⟩ := h
  have hC : Tryd.prog.cellsOf 9 = 1 := by kernel_rfl
  rcases open_strings Tryd.underlying31 Tryd.underlying9 hC hf with ⟨hcs, -⟩ | ⟨a, len', cap', ss, hcs, -, hl, hm, hz, hd, hcell, hsz⟩
  · have hcell : Value.slice a' len cap = .slice none 0 0 := by simpa [Value.cells] using hcs
    injection hcell with e1 e2 e3
    subst e1 e2 e3
    exact ⟨none, 0, [], rfl, Nat.zero_le _, fun _ => rfl, fun i s hs => by simp at hs⟩
  · have hv : Value.slice a' len cap = .slice (some a) len' cap' := by simpa [Value.cells] using hcs
    injection hv with e1 e2 e3
    subst e1 e2 e3
    simp only [if_true] at hz
    unfold maxLen at hm
    have hlt : (ss.take len).length = len := by rw [List.length_take]; omega
    refine ⟨some a, cap, ss.take len, by rw [hlt], by rw [hlt]; omega, (fun h => nomatch h), fun i s hs => ?_⟩
    obtain ⟨hi, e⟩ := List.getElem?_eq_some_iff.1 hs
    rw [hlt] at hi
    have hc := hcell i (by omega)
    have e2 : ss.getD i ByteArray.empty = s := by
      rw [← e, List.getElem_take, List.getD_eq_getElem?_getD, List.getElem?_eq_getElem (by omega)]; rfl
    rw [e2] at hc
    have := World.block_lt_of_cell? _ _ hc
    rw [addr_block] at this
    exact ⟨a, rfl, this, hc⟩
theorem own_texts {W : World} {b : Nat} {v : Value} {ss : List ByteArray} (h : W.ownsRow b 9 1 v ss.length (ss.map Value.string)) : ∃ A c, v = .slice A ss.length c ∧ StrRow W W.heap.size A ss := by
  by_cases h0 : 0 < ss.length
  · obtain ⟨g, cap, rfl, -, hg, -, -, hc, -⟩ := own_row h h0
    refine ⟨some ⟨g, 0, none⟩, cap, rfl, fun i x hx => ⟨_, rfl, hg, ?_⟩⟩
    have e1 : (⟨g, 0, none⟩ : Addr).add i = ⟨g, i, none⟩ := by simp [Addr.add]; exact fun hj => hj.symm
    rw [e1]
    refine hc i _ ?_
    rw [List.getElem?_map, hx]
    rfl
  · have e : ss = [] := List.eq_nil_of_length_eq_zero (by omega)
    subst e
    rcases h.2 with ⟨h1, -⟩ | ⟨g, cap, cur, h1, -⟩
    · exact ⟨none, 0, h1, fun i x hx => by simp at hx⟩
    · exact ⟨_, _, h1, fun i x hx => by simp at hx⟩
theorem StrRow.more {w : World} {B B' : Nat} {A : Option Addr} {ss : List ByteArray} (h : StrRow w B A ss) (hb : B ≤ B') : StrRow w B' A ss := fun i s hs => by
  obtain ⟨ad, e, hl, hc⟩ := h i s hs
  exact ⟨ad, e, Nat.lt_of_lt_of_le hl hb, hc⟩
end Go.Proofs.YthindbmgnkohhaaDoor
