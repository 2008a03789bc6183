/-
  Leaves in memory, and plain words on their texts.
-/
import Derived.Test.YtjndabnegmecmaaDoorE7Same
import Derived.Test.YtjndabnegmecmaaDoorU1Bytes
import Derived.Test.YtjndabnegmecmaaDoorW1Has
namespace Go.Proofs.YtjndabnegmecmaaDoor
set_option linter.unusedVariables false
set_option linter.unusedSimpArgs false
set_option maxRecDepth 10000
open Go.RowKit

theorem Box.leaf {w : World} {g : Nat} {t : TypeId} {x : Lf} (h : Box w g t x.cells) :
    w.cell? ⟨g, 0, none⟩ = some (.bool x.pad) ∧ w.cell? ⟨g, 1, none⟩ = some (.string x.id) ∧ w.cell? ⟨g, 2, none⟩ = some (.string x.salt) ∧ w.cell? ⟨g, 3, none⟩ = some (.int .u64 x.h) ∧ w.cell? ⟨g, 4, none⟩ = some (.int .u64 x.l) :=
  ⟨h.read 0, h.read 1, h.read 2, h.read 3, h.read 4⟩
theorem may_def (p : Bool) (i s : ByteArray) (h l : Int) : Lf.may ⟨p, i, s, h, l⟩ = (decide (s.size ≤ 32) && (if p then decide (i.size = 0) && (decide (h = 0) && decide (l = 0)) else isId i.data.toList)) := rfl
theorem empty_str (i : ByteArray) : (i.toList == ByteArray.toList ⟨#[]⟩) = decide (i.size = 0) := by
  rw [same_str7]
  by_cases h : i.size = 0
  · rw [decide_eq_true h]
    apply decide_eq_true
    exact ba_ext (by have := ba_size i; rw [h] at this; rw [List.length_eq_zero_iff.1 this])
  · rw [decide_eq_false h]
    apply decide_eq_false
    rintro rfl
    exact h rfl

/-- A text behind its length. -/
def szB (s : ByteArray) : ByteArray := ⟨(szL s).toArray⟩
theorem szB_list (s : ByteArray) : (szB s).data.toList = szL s := by simp [szB]
theorem szB_size (s : ByteArray) : (szB s).size = 1 + s.size := by rw [← ba_size, szB_list, szL, List.length_cons, ba_size]; omega
theorem one_byte (s : ByteArray) : strOfNums [(s.size : Int) % 256] ++ s = szB s := by
  apply ba_ext
  rw [szB_list, ByteArray.data_append, Array.toList_append, strOfNums_data, szL]
  show [UInt8.ofNat ((s.size : Int) % 256).toNat] ++ s.data.toList = _
  have e : ((s.size : Int) % 256).toNat = s.size % 256 := by omega
  rw [e, show UInt8.ofNat (s.size % 256) = UInt8.ofNat s.size from UInt8.toNat_inj.1 (by simp)]
  rfl

theorem text_not (x : Lf) (h : x.may = false) : x.text = ⟨#[]⟩ := by
  apply ba_ext
  rw [Lf.text_list, Lf.list, h]
  rfl
theorem text_pad (x : Lf) (h : x.may = true) (hp : x.pad = true) : x.text = ⟨#[2]⟩ ++ szB x.salt := by
  apply ba_ext
  rw [Lf.text_list, Lf.list, if_pos h, if_pos hp, ByteArray.data_append, Array.toList_append, szB_list]
  rfl
theorem text_acc (x : Lf) (h : x.may = true) (hp : x.pad = false) : x.text = ((⟨#[0]⟩ ++ szB x.id) ++ szB x.salt) ++ textOf x.h x.l := by
  apply ba_ext
  rw [Lf.text_list, Lf.list, if_pos h, if_neg (by rw [hp]; decide)]
  simp only [ByteArray.data_append, Array.toList_append, szB_list, List.append_assoc]
  rfl
theorem adds_any (a b c : ByteArray) (e : a ++ b = c) (ha : a.size ≤ 100000000) (hb : b.size ≤ 100000000) : ∀ u : World, (Op.stringOp .add a b).run Tryd.prog u = .ok (.string c) u := fun u => by
  rw [← e]; exact run_string_add_sum u _ _ (by omega)

theorem ba_nil {i : ByteArray} (h : i.size = 0) : i = ⟨#[]⟩ := ba_ext (by have := ba_size i; rw [h] at this; rw [List.length_eq_zero_iff.1 this])
theorem ba_first {s : ByteArray} (h : 0 < s.size) : s[0] = s.data.toList.getD 0 0 := by
  have hl : 0 < s.data.toList.length := by rw [ba_size]; exact h
  rw [List.getD_eq_getElem?_getD, List.getElem?_eq_getElem hl]
  rfl
theorem ne_nil {i : ByteArray} (h : ¬ i.size = 0) : (i.toList == []) = false ∧ i.toList.isEmpty = false := by
  have hE := empty_str i
  rw [decide_eq_false h] at hE
  exact ⟨by simpa using hE, by simpa using hE⟩
theorem Box.five0 {w : World} {g : Nat} {t : TypeId} {a b c d e : Value} (h : Box w g t #[a, b, c, d, e]) :
    (w.cell? ⟨g, 0, none⟩ = some a ∧ w.cell? ⟨g, 1, none⟩ = some b ∧ w.cell? ⟨g, 2, none⟩ = some c ∧ w.cell? ⟨g, 3, none⟩ = some d ∧ w.cell? ⟨g, 4, none⟩ = some e) ∧
    (w.frozen? ⟨g, 0, none⟩ = false ∧ w.frozen? ⟨g, 1, none⟩ = false ∧ w.frozen? ⟨g, 2, none⟩ = false ∧ w.frozen? ⟨g, 3, none⟩ = false ∧ w.frozen? ⟨g, 4, none⟩ = false) ∧ g < w.heap.size :=
  ⟨⟨h.read 0, h.read 1, h.read 2, h.read 3, h.read 4⟩, ⟨h.free 0, h.free 1, h.free 2, h.free 3, h.free 4⟩, h.inside⟩
theorem Box.put5 {w : World} {g : Nat} {t : TypeId} {a b c d e : Value} (h : Box w g t #[a, b, c, d, e]) (x y z u v : Value) :
    Box (((((w.setCell ⟨g, 0, none⟩ x).setCell ⟨g, 1, none⟩ y).setCell ⟨g, 2, none⟩ z).setCell ⟨g, 3, none⟩ u).setCell ⟨g, 4, none⟩ v) g t #[x, y, z, u, v] := by
  simpa using ((((h.wrote 0 x).wrote 1 y).wrote 2 z).wrote 3 u).wrote 4 v
theorem below_put5 {B : Nat} {w W : World} (h : Below B w W) {g : Nat} (hg : B ≤ g) (x y z u v : Value) :
    Below B w (((((W.setCell ⟨g, 0, none⟩ x).setCell ⟨g, 1, none⟩ y).setCell ⟨g, 2, none⟩ z).setCell ⟨g, 3, none⟩ u).setCell ⟨g, 4, none⟩ v) :=
  ((((h.setCell hg x).setCell hg y).setCell hg z).setCell hg u).setCell hg v
theorem ubytes_any (h l : Int) (hh : Word h) (hl : Word l) (w : World) : Calls Tryd.prog 58 #[.agg #[.int .u64 h, .int .u64 l]] w (Tells (.string (textOf h l)) w.heap.size w) := bytes_any h l hh hl w
/-- The two blocks of a reading: the leaf at hand, and the one that is told. -/
abbrev lfB (p : Bool) (i s : ByteArray) (h l : Int) : Array Value := #[.bool p, .string i, .string s, .int .u64 h, .int .u64 l]
def In2 (w W : World) (p : Bool) (i s : ByteArray) (h l : Int) : Prop :=
  Has w [(w.heap.size + 1, 36, lfB p i s h l), (w.heap.size, 36, lfB false ⟨#[]⟩ ⟨#[]⟩ 0 0)] W
theorem In2.call {w W w' : World} {p : Bool} {i s : ByteArray} {h l : Int} (H : In2 w W p i s h l) (hb : Below W.heap.size W w') : In2 w w' p i s h l := Has.call H hb
theorem In2.id {w W : World} {p : Bool} {i s : ByteArray} {h l : Int} (H : In2 w W p i s h l) (x : ByteArray) : In2 w (W.setCell ⟨w.heap.size + 1, 1, none⟩ (.string x)) p x s h l :=
  Has.wrote H (by omega) (by simp) 1 (.string x)
theorem In2.salt {w W : World} {p : Bool} {i s : ByteArray} {h l : Int} (H : In2 w W p i s h l) (x : ByteArray) : In2 w (W.setCell ⟨w.heap.size + 1, 2, none⟩ (.string x)) p i x h l :=
  Has.wrote H (by omega) (by simp) 2 (.string x)
theorem In2.bal {w W : World} {p : Bool} {i s : ByteArray} {h l : Int} (H : In2 w W p i s h l) (x y : Int) : In2 w ((W.setCell ⟨w.heap.size + 1, 3, none⟩ (.int .u64 x)).setCell ⟨w.heap.size + 1, 4, none⟩ (.int .u64 y)) p i s x y :=
  Has.wrote (Has.wrote H (by omega) (by simp) 3 (.int .u64 x)) (by omega) (by simp) 4 (.int .u64 y)

theorem In2.put {w W : World} {p : Bool} {i s : ByteArray} {h l : Int} (H : In2 w W p i s h l) (p' : Bool) (i' s' : ByteArray) (h' l' : Int) :
    In2 w (((((W.setCell ⟨w.heap.size + 1, 0, none⟩ (.bool p')).setCell ⟨w.heap.size + 1, 1, none⟩ (.string i')).setCell ⟨w.heap.size + 1, 2, none⟩ (.string s')).setCell ⟨w.heap.size + 1, 3, none⟩ (.int .u64 h')).setCell ⟨w.heap.size + 1, 4, none⟩ (.int .u64 l')) p' i' s' h' l' :=
  Has.wrote (Has.wrote (Has.wrote (Has.wrote (Has.wrote H (by omega) (by simp) 0 (.bool p')) (by omega) (by simp) 1 (.string i')) (by omega) (by simp) 2 (.string s')) (by omega) (by simp) 3 (.int .u64 h')) (by omega) (by simp) 4 (.int .u64 l')
theorem In2.told {w W : World} {p : Bool} {i s : ByteArray} {h l : Int} (H : In2 w W p i s h l) (x : Lf) :
    Box (((((W.setCell ⟨w.heap.size, 0, none⟩ (.bool x.pad)).setCell ⟨w.heap.size, 1, none⟩ (.string x.id)).setCell ⟨w.heap.size, 2, none⟩ (.string x.salt)).setCell ⟨w.heap.size, 3, none⟩ (.int .u64 x.h)).setCell ⟨w.heap.size, 4, none⟩ (.int .u64 x.l)) w.heap.size 36 (lfB x.pad x.id x.salt x.h x.l) ∧
    Below w.heap.size w (((((W.setCell ⟨w.heap.size, 0, none⟩ (.bool x.pad)).setCell ⟨w.heap.size, 1, none⟩ (.string x.id)).setCell ⟨w.heap.size, 2, none⟩ (.string x.salt)).setCell ⟨w.heap.size, 3, none⟩ (.int .u64 x.h)).setCell ⟨w.heap.size, 4, none⟩ (.int .u64 x.l)) :=
  ⟨(Has.box H 1).put5 _ _ _ _ _, below_put5 (Has.below H) (Nat.le_refl _) _ _ _ _ _⟩
end Go.Proofs.YtjndabnegmecmaaDoor
