/-
  Nodes and digests, plainly, and in memory.
-/
import Derived.Test.YtjndabnegmecmaaDoorW7Leaf
import Derived.Test.YtjndabnegmecmaaDoorM5Pln
namespace Go.Proofs.YtjndabnegmecmaaDoor
set_option linter.unusedVariables false
set_option linter.unusedSimpArgs false
set_option maxRecDepth 10000
open Go.RowKit

/-- The text of a node with those two below it. -/
def ndText (a b : Nd) : ByteArray := (((⟨#[1]⟩ ++ a.hash) ++ textOf a.h a.l) ++ b.hash) ++ textOf b.h b.l
theorem ndText_size (a b : Nd) : (ndText a b).size = 33 + a.hash.size + b.hash.size := by
  unfold ndText
  rw [ByteArray.size_append, ByteArray.size_append, ByteArray.size_append, ByteArray.size_append, textOf_size, textOf_size]
  show 1 + _ + _ + _ + _ = _
  omega
theorem Box.node {w : World} {g : Nat} {t : TypeId} {s : ByteArray} {h l : Int} (b : Box w g t #[.string s, .int .u64 h, .int .u64 l]) :
    w.cell? ⟨g, 0, none⟩ = some (.string s) ∧ w.cell? ⟨g, 1, none⟩ = some (.int .u64 h) ∧ w.cell? ⟨g, 2, none⟩ = some (.int .u64 l) := ⟨b.read 0, b.read 1, b.read 2⟩

/-- May a digest have as many bytes? -/
def mayW (n : Int) : Bool := decide (1 ≤ n ∧ n ≤ 32)
/-- The digest of a text by a width. -/
def dgB (n : Int) (t : ByteArray) : ByteArray := if mayW n = true then (digB t.data.toList).extract 0 n.toNat else ⟨#[]⟩
theorem Box.put3 {w : World} {g : Nat} {t : TypeId} {a b c : Value} (h : Box w g t #[a, b, c]) (x y z : Value) : Box (((w.setCell ⟨g, 0, none⟩ x).setCell ⟨g, 1, none⟩ y).setCell ⟨g, 2, none⟩ z) g t #[x, y, z] := by
  simpa using ((h.wrote 0 x).wrote 1 y).wrote 2 z
theorem below_put3 {B : Nat} {w W : World} (h : Below B w W) {g : Nat} (hg : B ≤ g) (x y z : Value) : Below B w (((W.setCell ⟨g, 0, none⟩ x).setCell ⟨g, 1, none⟩ y).setCell ⟨g, 2, none⟩ z) :=
  ((h.setCell hg x).setCell hg y).setCell hg z
/-- A leaf's node. -/
def nodeOf (n : Int) (x : Lf) : Nd := if mayW n = true ∧ x.may = true then ⟨dgB n x.text, x.h, x.l⟩ else Nd.zero
theorem text_bound (x : Lf) (h1 : x.id.size ≤ 1000000) (h2 : x.salt.size ≤ 1000000) : x.text.size ≤ 3000000 := by
  rw [← ba_size, Lf.text_list, Lf.list]
  by_cases h : x.may = true
  · rw [if_pos h]
    by_cases hp : x.pad = true
    · rw [if_pos hp, List.length_cons, szL, List.length_cons, ba_size]; omega
    · rw [if_neg hp, List.length_cons, List.length_append, List.length_append, szL, szL, List.length_cons, List.length_cons, ba_size, ba_size, ba_size, textOf_size]; omega
  · rw [if_neg h]; simp
theorem Box.lfat {w : World} {g : Nat} {t : TypeId} {p : Bool} {i s : ByteArray} {h l : Int} (b : Box w g t #[.bool p, .string i, .string s, .int .u64 h, .int .u64 l]) :
    w.cell? ⟨g, 0, none⟩ = some (.bool p) ∧ w.cell? ⟨g, 1, none⟩ = some (.string i) ∧ w.cell? ⟨g, 2, none⟩ = some (.string s) ∧ w.cell? ⟨g, 3, none⟩ = some (.int .u64 h) ∧ w.cell? ⟨g, 4, none⟩ = some (.int .u64 l) :=
  ⟨b.read 0, b.read 1, b.read 2, b.read 3, b.read 4⟩
theorem Box.three0 {w : World} {g : Nat} {t : TypeId} {a b c : Value} (h : Box w g t #[a, b, c]) :
    (w.cell? ⟨g, 0, none⟩ = some a ∧ w.cell? ⟨g, 1, none⟩ = some b ∧ w.cell? ⟨g, 2, none⟩ = some c) ∧ w.frozen? ⟨g, 0, none⟩ = false ∧ w.frozen? ⟨g, 1, none⟩ = false ∧ w.frozen? ⟨g, 2, none⟩ = false ∧ g < w.heap.size :=
  ⟨⟨h.read 0, h.read 1, h.read 2⟩, h.free 0, h.free 1, h.free 2, h.inside⟩
end Go.Proofs.YtjndabnegmecmaaDoor
