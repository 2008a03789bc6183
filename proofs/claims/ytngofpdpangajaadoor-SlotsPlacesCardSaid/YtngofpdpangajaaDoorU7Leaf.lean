/-
  Package tag's leaves, walked: what may be, a text behind its length, a leaf's text.
-/
import Derived.Test.YtngofpdpangajaaDoorU7Id
import Derived.Test.YtngofpdpangajaaDoorE7Same
import Derived.Test.YtngofpdpangajaaDoorU1Bytes
import Derived.Test.YtngofpdpangajaaDoorW1Has
namespace Go.Proofs.YtngofpdpangajaaDoor
set_option linter.unusedVariables false
set_option linter.unusedSimpArgs false
set_option maxRecDepth 10000
open Go.RowKit

theorem Box.leaf {w : World} {g : Nat} {t : TypeId} {x : Lf} (h : Box w g t x.cells) :
    w.cell? ⟨g, 0, none⟩ = some (.bool x.pad) ∧ w.cell? ⟨g, 1, none⟩ = some (.string x.id) ∧ w.cell? ⟨g, 2, none⟩ = some (.string x.salt) ∧ w.cell? ⟨g, 3, none⟩ = some (.int .u64 x.h) ∧ w.cell? ⟨g, 4, none⟩ = some (.int .u64 x.l) :=
  ⟨h.read 0, h.read 1, h.read 2, h.read 3, h.read 4⟩
theorem may_def (p : Bool) (i s : ByteArray) (h l : Int) : Lf.may ⟨p, i, s, h, l⟩ = (decide (s.size ≤ 32) && (if p then decide (i.size = 0) && (decide (h = 0) && decide (l = 0)) else isId i.data.toList)) := rfl
theorem empty_str (i : ByteArray) : (i.toList == ByteArray.toList ⟨#[]⟩) = decide (i.size = 0) := by
  rw [same_str7]
  by_cases h : i.size = 0
  · rw [decide_eq_true h]
    apply decide_eq_true
    exact ba_ext (by have := ba_size i; rw [h] at this; rw [List.length_eq_zero_iff.1 this])
  · rw [decide_eq_false h]
    apply decide_eq_false
    rintro rfl
    exact h rfl

set_option maxHeartbeats 4000000 in
theorem mayLeaf_any (x : Lf) (h1 : x.id.size ≤ 9223372036854775807) (h2 : x.salt.size ≤ 9223372036854775807) (w : World) (hT : TabU w) : Calls Tryd.prog 32 #[x.val] w (Tells (.bool x.may) w.heap.size w) := by
  obtain ⟨p, i, s, h, l⟩ := x
  simp only at h1 h2
  have B0 : Box (w.alloc (.cells #[.bool p, .string i, .string s, .int .u64 h, .int .u64 l] 46)) w.heap.size 46 (Lf.cells ⟨p, i, s, h, l⟩) := Box.made w _ _
  have L0 : Below w.heap.size w (w.alloc (.cells #[.bool p, .string i, .string s, .int .u64 h, .int .u64 l] 46)) := by repeat (first | exact Below.refl _ _ | apply Below.drew | apply below_drewN | refine Below.alloc ?_ (by simp; try omega) _ | refine Below.setCell ?_ (by simp; try omega) _)
  have T0 := hT.past (.cells #[.bool p, .string i, .string s, .int .u64 h, .int .u64 l] 46)
  obtain ⟨A, hA⟩ : ∃ A, Lf.may ⟨p, i, s, h, l⟩ = A := ⟨_, rfl⟩
  rw [hA]
  rw [may_def] at hA
  have HA := hideIt hA
  clear hA
  show Calls _ _ #[.agg #[.bool p, .string i, .string s, .int .u64 h, .int .u64 l]] _ _
  go_enter Tryd.func32, Tryd.ntmps32
  go_upto_region 1 with fail
  change Code.wp _ _ _ _ (w.alloc (.cells #[.bool p, .string i, .string s, .int .u64 h, .int .u64 l] 46))
  generalize w.alloc (.cells #[.bool p, .string i, .string s, .int .u64 h, .int .u64 l] 46) = W at *
  obtain ⟨r0, r1, r2, r3, r4⟩ := B0.leaf
  simp only at r0 r1 r2 r3 r4
  have hin := B0.inside
  by_cases hs : (32 : Int) < (s.size : Int)
  · have e := HA.out
    rw [decide_eq_false (show ¬ s.size ≤ 32 by omega), Bool.false_and] at e
    subst e
    go_wp2
    go_ret
    exact ⟨rfl, L0⟩
  · have hA := HA.out
    rw [decide_eq_true (show s.size ≤ 32 by omega), Bool.true_and] at hA
    clear HA
    cases p with
    | false =>
      rw [if_neg (by decide)] at hA
      have cI := fun u hu => mayId_any i h1 u hu
      rw [hA] at cI
      clear hA
      go_wp2_with (first | (go_at_call 62; refine (cI _ T0).mono ?_; rintro e w1 ⟨rfl, b1⟩))
      go_ret
      exact ⟨rfl, chain L0 b1⟩
    | true =>
      rw [if_pos rfl] at hA
      by_cases hi : i.size = 0
      · rw [decide_eq_true hi, Bool.true_and] at hA
        obtain rfl : i = ⟨#[]⟩ := ba_ext (by have := ba_size i; rw [hi] at this; rw [List.length_eq_zero_iff.1 this])
        have hq := fun u : World => run_eql_n7 h l 0 0 u
        have he : (h == 0 && l == 0) = (decide (h = 0) && decide (l = 0)) := by
          by_cases e1 : h = 0 <;> by_cases e2 : l = 0 <;> simp [e1, e2]
        rw [he, hA] at hq
        clear he hA hi
        have cO := fun u => of_any 0 u
        go_upto_region 4 with fail
        go_region_held3 (fun w' => Below W.heap.size W w' ∧ w'.cell? ⟨w.heap.size, 1, none⟩ = some (.string ⟨#[]⟩) ∧ w'.cell? ⟨w.heap.size, 3, none⟩ = some (.int .u64 h) ∧ w'.cell? ⟨w.heap.size, 4, none⟩ = some (.int .u64 l))
          (first
            | exact keep_first (by assumption) (by assumption) (fun hb => ⟨hb, (B0.call hb).read 1, (B0.call hb).read 3, (B0.call hb).read 4⟩)
            | exact ⟨(Below.refl _ _).drew, r1, r3, r4⟩)
          (first
            | (go_at_call 59; refine (cO _).mono ?_; rintro e v3 ⟨rfl, hv3⟩))
        go_wp2
        go_ret
        exact ⟨rfl, chain L0.drew hv3⟩
      · rw [decide_eq_false hi, Bool.false_and] at hA
        subst hA
        have hE := empty_str i
        rw [decide_eq_false hi] at hE
        have hE1 : (i.toList == []) = false := by simpa using hE
        have hE2 : i.toList.isEmpty = false := by simpa using hE
        go_upto_region 4 with fail
        go_quiet (fail)
        go_wp2
        go_ret
        exact ⟨rfl, below_drewN L0 _⟩
/-- A text behind its length. -/
def szB (s : ByteArray) : ByteArray := ⟨(szL s).toArray⟩
theorem szB_list (s : ByteArray) : (szB s).data.toList = szL s := by simp [szB]
theorem szB_size (s : ByteArray) : (szB s).size = 1 + s.size := by rw [← ba_size, szB_list, szL, List.length_cons, ba_size]; omega
theorem one_byte (s : ByteArray) : strOfNums [(s.size : Int) % 256] ++ s = szB s := by
  apply ba_ext
  rw [szB_list, ByteArray.data_append, Array.toList_append, strOfNums_data, szL]
  show [UInt8.ofNat ((s.size : Int) % 256).toNat] ++ s.data.toList = _
  have e : ((s.size : Int) % 256).toNat = s.size % 256 := by omega
  rw [e, show UInt8.ofNat (s.size % 256) = UInt8.ofNat s.size from UInt8.toNat_inj.1 (by simp)]
  rfl

theorem text_not (x : Lf) (h : x.may = false) : x.text = ⟨#[]⟩ := by
  apply ba_ext
  rw [Lf.text_list, Lf.list, h]
  rfl
theorem text_pad (x : Lf) (h : x.may = true) (hp : x.pad = true) : x.text = ⟨#[2]⟩ ++ szB x.salt := by
  apply ba_ext
  rw [Lf.text_list, Lf.list, if_pos h, if_pos hp, ByteArray.data_append, Array.toList_append, szB_list]
  rfl
theorem text_acc (x : Lf) (h : x.may = true) (hp : x.pad = false) : x.text = ((⟨#[0]⟩ ++ szB x.id) ++ szB x.salt) ++ textOf x.h x.l := by
  apply ba_ext
  rw [Lf.text_list, Lf.list, if_pos h, if_neg (by rw [hp]; decide)]
  simp only [ByteArray.data_append, Array.toList_append, szB_list, List.append_assoc]
  rfl
theorem ubytes_any (h l : Int) (hh : Word h) (hl : Word l) (w : World) : Calls Tryd.prog 79 #[.agg #[.int .u64 h, .int .u64 l]] w (Tells (.string (textOf h l)) w.heap.size w) := bytes_any h l hh hl w
theorem adds_any (a b c : ByteArray) (e : a ++ b = c) (ha : a.size ≤ 100000000) (hb : b.size ≤ 100000000) : ∀ u : World, (Op.stringOp .add a b).run Tryd.prog u = .ok (.string c) u := fun u => by
  rw [← e]; exact run_string_add_sum u _ _ (by omega)

theorem ba_nil {i : ByteArray} (h : i.size = 0) : i = ⟨#[]⟩ := ba_ext (by have := ba_size i; rw [h] at this; rw [List.length_eq_zero_iff.1 this])
theorem ba_first {s : ByteArray} (h : 0 < s.size) : s[0] = s.data.toList.getD 0 0 := by
  have hl : 0 < s.data.toList.length := by rw [ba_size]; exact h
  rw [List.getD_eq_getElem?_getD, List.getElem?_eq_getElem hl]
  rfl
theorem ne_nil {i : ByteArray} (h : ¬ i.size = 0) : (i.toList == []) = false ∧ i.toList.isEmpty = false := by
  have hE := empty_str i
  rw [decide_eq_false h] at hE
  exact ⟨by simpa using hE, by simpa using hE⟩
theorem Box.five0 {w : World} {g : Nat} {t : TypeId} {a b c d e : Value} (h : Box w g t #[a, b, c, d, e]) :
    (w.cell? ⟨g, 0, none⟩ = some a ∧ w.cell? ⟨g, 1, none⟩ = some b ∧ w.cell? ⟨g, 2, none⟩ = some c ∧ w.cell? ⟨g, 3, none⟩ = some d ∧ w.cell? ⟨g, 4, none⟩ = some e) ∧
    (w.frozen? ⟨g, 0, none⟩ = false ∧ w.frozen? ⟨g, 1, none⟩ = false ∧ w.frozen? ⟨g, 2, none⟩ = false ∧ w.frozen? ⟨g, 3, none⟩ = false ∧ w.frozen? ⟨g, 4, none⟩ = false) ∧ g < w.heap.size :=
  ⟨⟨h.read 0, h.read 1, h.read 2, h.read 3, h.read 4⟩, ⟨h.free 0, h.free 1, h.free 2, h.free 3, h.free 4⟩, h.inside⟩
theorem Box.put5 {w : World} {g : Nat} {t : TypeId} {a b c d e : Value} (h : Box w g t #[a, b, c, d, e]) (x y z u v : Value) :
    Box (((((w.setCell ⟨g, 0, none⟩ x).setCell ⟨g, 1, none⟩ y).setCell ⟨g, 2, none⟩ z).setCell ⟨g, 3, none⟩ u).setCell ⟨g, 4, none⟩ v) g t #[x, y, z, u, v] := by
  simpa using ((((h.wrote 0 x).wrote 1 y).wrote 2 z).wrote 3 u).wrote 4 v
theorem below_put5 {B : Nat} {w W : World} (h : Below B w W) {g : Nat} (hg : B ≤ g) (x y z u v : Value) :
    Below B w (((((W.setCell ⟨g, 0, none⟩ x).setCell ⟨g, 1, none⟩ y).setCell ⟨g, 2, none⟩ z).setCell ⟨g, 3, none⟩ u).setCell ⟨g, 4, none⟩ v) :=
  ((((h.setCell hg x).setCell hg y).setCell hg z).setCell hg u).setCell hg v
/-- The two blocks of a reading: the leaf at hand, and the one that is told. -/
abbrev lfB (p : Bool) (i s : ByteArray) (h l : Int) : Array Value := #[.bool p, .string i, .string s, .int .u64 h, .int .u64 l]
def In2 (w W : World) (p : Bool) (i s : ByteArray) (h l : Int) : Prop :=
  Has w [(w.heap.size + 1, 46, lfB p i s h l), (w.heap.size, 46, lfB false ⟨#[]⟩ ⟨#[]⟩ 0 0)] W
theorem In2.call {w W w' : World} {p : Bool} {i s : ByteArray} {h l : Int} (H : In2 w W p i s h l) (hb : Below W.heap.size W w') : In2 w w' p i s h l := Has.call H hb
theorem In2.id {w W : World} {p : Bool} {i s : ByteArray} {h l : Int} (H : In2 w W p i s h l) (x : ByteArray) : In2 w (W.setCell ⟨w.heap.size + 1, 1, none⟩ (.string x)) p x s h l :=
  Has.wrote H (by omega) (by simp) 1 (.string x)
theorem In2.salt {w W : World} {p : Bool} {i s : ByteArray} {h l : Int} (H : In2 w W p i s h l) (x : ByteArray) : In2 w (W.setCell ⟨w.heap.size + 1, 2, none⟩ (.string x)) p i x h l :=
  Has.wrote H (by omega) (by simp) 2 (.string x)
theorem In2.bal {w W : World} {p : Bool} {i s : ByteArray} {h l : Int} (H : In2 w W p i s h l) (x y : Int) : In2 w ((W.setCell ⟨w.heap.size + 1, 3, none⟩ (.int .u64 x)).setCell ⟨w.heap.size + 1, 4, none⟩ (.int .u64 y)) p i s x y :=
  Has.wrote (Has.wrote H (by omega) (by simp) 3 (.int .u64 x)) (by omega) (by simp) 4 (.int .u64 y)

theorem In2.put {w W : World} {p : Bool} {i s : ByteArray} {h l : Int} (H : In2 w W p i s h l) (p' : Bool) (i' s' : ByteArray) (h' l' : Int) :
    In2 w (((((W.setCell ⟨w.heap.size + 1, 0, none⟩ (.bool p')).setCell ⟨w.heap.size + 1, 1, none⟩ (.string i')).setCell ⟨w.heap.size + 1, 2, none⟩ (.string s')).setCell ⟨w.heap.size + 1, 3, none⟩ (.int .u64 h')).setCell ⟨w.heap.size + 1, 4, none⟩ (.int .u64 l')) p' i' s' h' l' :=
  Has.wrote (Has.wrote (Has.wrote (Has.wrote (Has.wrote H (by omega) (by simp) 0 (.bool p')) (by omega) (by simp) 1 (.string i')) (by omega) (by simp) 2 (.string s')) (by omega) (by simp) 3 (.int .u64 h')) (by omega) (by simp) 4 (.int .u64 l')
theorem In2.told {w W : World} {p : Bool} {i s : ByteArray} {h l : Int} (H : In2 w W p i s h l) (x : Lf) :
    Box (((((W.setCell ⟨w.heap.size, 0, none⟩ (.bool x.pad)).setCell ⟨w.heap.size, 1, none⟩ (.string x.id)).setCell ⟨w.heap.size, 2, none⟩ (.string x.salt)).setCell ⟨w.heap.size, 3, none⟩ (.int .u64 x.h)).setCell ⟨w.heap.size, 4, none⟩ (.int .u64 x.l)) w.heap.size 46 (lfB x.pad x.id x.salt x.h x.l) ∧
    Below w.heap.size w (((((W.setCell ⟨w.heap.size, 0, none⟩ (.bool x.pad)).setCell ⟨w.heap.size, 1, none⟩ (.string x.id)).setCell ⟨w.heap.size, 2, none⟩ (.string x.salt)).setCell ⟨w.heap.size, 3, none⟩ (.int .u64 x.h)).setCell ⟨w.heap.size, 4, none⟩ (.int .u64 x.l)) :=
  ⟨(Has.box H 1).put5 _ _ _ _ _, below_put5 (Has.below H) (Nat.le_refl _) _ _ _ _ _⟩
end Go.Proofs.YtngofpdpangajaaDoor
