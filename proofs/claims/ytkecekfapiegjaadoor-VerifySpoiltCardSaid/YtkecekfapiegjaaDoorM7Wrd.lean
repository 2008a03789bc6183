/- Several of my texts, laid as one. -/
import Derived.Test.YtkecekfapiegjaaDoorM1Lex
import Derived.Test.YtkecekfapiegjaaDoorM7Pln
import Derived.BigQuiet
import Derived.Deep.QuietTactic
import Derived.Test.YtkecekfapiegjaaDoorU1Bytes
import Derived.Test.YtkecekfapiegjaaDoorM0Wrd
import Derived.Test.YtkecekfapiegjaaDoorM5Pln
/-
  Plain words on leaves, their texts, and the leaf that a text is read as.
-/
namespace Go.Proofs.YtkecekfapiegjaaDoor
set_option linter.unusedVariables false
set_option linter.unusedSimpArgs false
set_option maxRecDepth 10000
open Go.RowKit Go.Lib

/-- A leaf, plainly. -/
structure Lf where
  pad : Bool
  id : ByteArray
  salt : ByteArray
  h : Int
  l : Int
def Lf.val (x : Lf) : Value := .agg #[.bool x.pad, .string x.id, .string x.salt, .int .u64 x.h, .int .u64 x.l]
def Lf.cells (x : Lf) : Array Value := #[.bool x.pad, .string x.id, .string x.salt, .int .u64 x.h, .int .u64 x.l]
def Lf.zero : Lf := ⟨false, ⟨#[]⟩, ⟨#[]⟩, 0, 0⟩
/-- May it be? -/
def Lf.may (x : Lf) : Bool := decide (x.salt.size ≤ 32) && (if x.pad then decide (x.id.size = 0) && (decide (x.h = 0) && decide (x.l = 0)) else isId x.id.data.toList)
/-- A text behind its length. -/
def szL (s : ByteArray) : List UInt8 := UInt8.ofNat s.size :: s.data.toList
/-- Its text. -/
def Lf.list (x : Lf) : List UInt8 :=
  if x.may then (if x.pad then 2 :: szL x.salt else 0 :: (szL x.id ++ szL x.salt ++ (textOf x.h x.l).data.toList)) else []
def Lf.text (x : Lf) : ByteArray := ⟨x.list.toArray⟩
theorem Lf.text_list (x : Lf) : x.text.data.toList = x.list := by simp [Lf.text]

theorem Lf.may_id (x : Lf) (h : x.may = true) (hp : x.pad = false) : 1 ≤ x.id.size ∧ x.id.size ≤ 96 ∧ x.salt.size ≤ 32 := by
  unfold Lf.may at h
  rw [Bool.and_eq_true, decide_eq_true_eq, hp] at h
  have h2 := isId_len _ (show isId x.id.data.toList = true by simpa using h.2)
  rw [ba_size] at h2
  exact ⟨h2.1, h2.2, h.1⟩
theorem Lf.may_pad (x : Lf) (h : x.may = true) (hp : x.pad = true) : x.id = ⟨#[]⟩ ∧ x.h = 0 ∧ x.l = 0 ∧ x.salt.size ≤ 32 := by
  unfold Lf.may at h
  rw [Bool.and_eq_true, decide_eq_true_eq, hp] at h
  obtain ⟨h1, h2⟩ := h
  simp only [if_true, Bool.and_eq_true, decide_eq_true_eq] at h2
  refine ⟨ba_ext ?_, h2.2.1, h2.2.2, h1⟩
  have := ba_size x.id
  rw [h2.1] at this
  rw [List.length_eq_zero_iff.1 this]
theorem Lf.list_pos (x : Lf) (h : x.may = true) : x.list ≠ [] := by
  unfold Lf.list
  rw [if_pos h]
  split <;> simp

/-- What is cut off behind its length, and what is left. -/
def cutA (s : ByteArray) : ByteArray := if s.size = 0 ∨ s.size ≤ (s.data.toList.getD 0 0).toNat then ⟨#[]⟩ else s.extract 1 (1 + (s.data.toList.getD 0 0).toNat)
def cutB (s : ByteArray) : ByteArray := if s.size = 0 ∨ s.size ≤ (s.data.toList.getD 0 0).toNat then ⟨#[]⟩ else s.extract (1 + (s.data.toList.getD 0 0).toNat) s.size
theorem cut_sized (a b s : ByteArray) (ha : a.size < 256) (hs : s.data.toList = szL a ++ b.data.toList) : cutA s = a ∧ cutB s = b := by
  have e0 : (s.data.toList.getD 0 0).toNat = a.size := by
    rw [hs]
    show (UInt8.ofNat a.size).toNat = a.size
    rw [UInt8.toNat_ofNat_of_lt' (by show _ < 256; omega)]
  have es : s.size = 1 + a.size + b.size := by
    rw [← ba_size s, hs, szL, List.length_append, List.length_cons, ba_size, ba_size]; omega
  have hn : ¬ (s.size = 0 ∨ s.size ≤ a.size) := by omega
  unfold cutA cutB
  rw [e0, if_neg hn, if_neg hn]
  refine ⟨ba_ext ?_, ba_ext ?_⟩
  · rw [ext_toList, hs, szL, List.cons_append, Nat.add_comm 1, List.take_succ_cons, List.drop_succ_cons, List.drop_zero, List.take_append_of_le_length (by rw [ba_size]; omega)]
    rw [List.take_of_length_le (by rw [ba_size]; omega)]
  · rw [ext_toList, List.take_of_length_le (by rw [ba_size]; omega), hs, szL, List.cons_append, Nat.add_comm 1, List.drop_succ_cons, List.drop_append_of_le_length (by rw [ba_size]; omega)]
    rw [List.drop_of_length_le (by rw [ba_size]; omega), List.nil_append]

/-- What the parts of a text would be. -/
def cand (t : ByteArray) : Lf :=
  if t.data.toList.getD 0 0 = 0 then ⟨false, cutA (t.extract 1 t.size), cutA (cutB (t.extract 1 t.size)), fromH (cutB (cutB (t.extract 1 t.size))), fromL (cutB (cutB (t.extract 1 t.size)))⟩
  else if t.data.toList.getD 0 0 = 2 then ⟨true, ⟨#[]⟩, cutA (t.extract 1 t.size), 0, 0⟩
  else ⟨false, ⟨#[]⟩, ⟨#[]⟩, fromH (t.extract 1 t.size), fromL (t.extract 1 t.size)⟩
/-- The leaf whose text it is. -/
def rd (t : ByteArray) : Option Lf := if t.size = 0 then none else if (cand t).text = t then some (cand t) else none
theorem fromH_word (s : ByteArray) : Word (fromH s) := by
  unfold fromH
  split
  · have h := beN_lt (s.data.toList.take 8)
    have hl : (s.data.toList.take 8).length ≤ 8 := by simp; omega
    have h2 : 256 ^ (s.data.toList.take 8).length ≤ 256 ^ 8 := Nat.pow_le_pow_right (by decide) hl
    exact ⟨by omega, by omega⟩
  · exact ⟨by decide, by decide⟩
theorem fromL_word (s : ByteArray) : Word (fromL s) := by
  unfold fromL
  split
  · rename_i h16
    have h := beN_lt (s.data.toList.drop 8)
    have hl : (s.data.toList.drop 8).length ≤ 8 := by simp; omega
    have h2 : 256 ^ (s.data.toList.drop 8).length ≤ 256 ^ 8 := Nat.pow_le_pow_right (by decide) hl
    exact ⟨by omega, by omega⟩
  · exact ⟨by decide, by decide⟩
theorem tail1 (t : ByteArray) : (t.extract 1 t.size).data.toList = t.data.toList.drop 1 := by
  rw [ext_toList, List.take_of_length_le (by rw [ba_size]; omega)]
theorem cand_text (x : Lf) (hm : x.may = true) (hh : Word x.h) (hl : Word x.l) : cand x.text = x := by
  obtain ⟨p, i, s, h, l⟩ := x
  have ht := Lf.text_list ⟨p, i, s, h, l⟩
  unfold Lf.list at ht
  rw [if_pos hm] at ht
  generalize Lf.text ⟨p, i, s, h, l⟩ = t at *
  cases p with
  | false =>
    obtain ⟨-, i96, s32⟩ := Lf.may_id _ hm rfl
    simp only at i96 s32 hh hl
    rw [if_neg (by simp)] at ht
    have h0 : t.data.toList.getD 0 0 = 0 := by rw [ht]; rfl
    have h1 := cut_sized i ⟨(szL s ++ (textOf h l).data.toList).toArray⟩ (t.extract 1 t.size) (by omega) (by rw [tail1, ht]; simp)
    have h2 := cut_sized s (textOf h l) ⟨(szL s ++ (textOf h l).data.toList).toArray⟩ (by omega) (by simp)
    unfold cand
    rw [if_pos h0, h1.1, h1.2, h2.1, h2.2, textOf_fromH hh, textOf_fromL hl]
  | true =>
    obtain ⟨rfl, rfl, rfl, s32⟩ := Lf.may_pad _ hm rfl
    simp only at s32
    rw [if_pos rfl] at ht
    have h0 : t.data.toList.getD 0 0 = 2 := by rw [ht]; rfl
    have h1 := cut_sized s ⟨#[]⟩ (t.extract 1 t.size) (by omega) (by rw [tail1, ht]; simp)
    unfold cand
    rw [if_neg (by rw [h0]; decide), if_pos h0, h1.1]
theorem Lf.text_size (x : Lf) (hm : x.may = true) : x.text.size ≠ 0 := by
  rw [← ba_size, Lf.text_list]
  exact fun e => x.list_pos hm (List.length_eq_zero_iff.1 e)
theorem rd_text (x : Lf) (hm : x.may = true) (hh : Word x.h) (hl : Word x.l) : rd x.text = some x := by
  unfold rd
  rw [if_neg (x.text_size hm), cand_text x hm hh hl, if_pos rfl]
theorem word_zero : Word 0 := ⟨by decide, by decide⟩
theorem cand_words (t : ByteArray) : Word (cand t).h ∧ Word (cand t).l := by
  obtain ⟨r, hr⟩ : ∃ r, t.extract 1 t.size = r := ⟨_, rfl⟩
  obtain ⟨q, hq⟩ : ∃ q, cutB (cutB r) = q := ⟨_, rfl⟩
  have a := fromH_word q
  have b := fromL_word q
  have c := fromH_word r
  have d := fromL_word r
  unfold cand
  rw [hr, hq]
  generalize fromH q = a1 at *
  generalize fromL q = b1 at *
  generalize fromH r = c1 at *
  generalize fromL r = d1 at *
  by_cases h0 : t.data.toList.getD 0 0 = 0
  · rw [if_pos h0]; exact ⟨a, b⟩
  · rw [if_neg h0]
    by_cases h2 : t.data.toList.getD 0 0 = 2
    · rw [if_pos h2]; exact ⟨word_zero, word_zero⟩
    · rw [if_neg h2]; exact ⟨c, d⟩
theorem Lf.may_of_text (x : Lf) (h : x.text.size ≠ 0) : x.may = true := by
  cases hm : x.may with
  | true => rfl
  | false =>
    exfalso
    rw [← ba_size, Lf.text_list, Lf.list, hm] at h
    exact h rfl
theorem rd_some {t : ByteArray} {x : Lf} (h : rd t = some x) : x.may = true ∧ x.text = t ∧ Word x.h ∧ Word x.l := by
  unfold rd at h
  split at h
  · cases h
  · rename_i h0
    split at h
    · rename_i he
      injection h with h
      subst h
      exact ⟨Lf.may_of_text _ (by rw [he]; exact h0), he, cand_words t⟩
    · cases h
/-- Unlike leaves that may be have unlike texts. -/
theorem text_inj (x y : Lf) (hx : x.may = true) (hy : y.may = true) (x1 : Word x.h) (x0 : Word x.l) (y1 : Word y.h) (y0 : Word y.l) (h : x.text = y.text) : x = y := by
  rw [← cand_text x hx x1 x0, h, cand_text y hy y1 y0]
end Go.Proofs.YtkecekfapiegjaaDoor
/-
  '==' on numbers, leaves and nodes.
-/
namespace Go.Proofs.YtkecekfapiegjaaDoor
set_option linter.unusedVariables false
set_option linter.unusedSimpArgs false
set_option maxRecDepth 10000
open Go.RowKit

theorem equal_n7 (d : Nat) (x y a b : Int) (w : World) : (Op.equalIn (d + 2) 24 (.agg #[.int .u64 x, .int .u64 y]) (.agg #[.int .u64 a, .int .u64 b])).run Tryd.prog w = .ok (x == a && y == b) w := by
  rw [run_equalIn_agg w (d + 1) 24 _ _ (by kernel_rfl) (by kernel_rfl)]
  simp only [Program.fieldsOf, Tryd.underlying24, Op.eqFields]
  cases h : x == a <;> cases h2 : y == b <;> simp [go_sem, run_equalIn_int, Tryd.underlying22, h, h2]
theorem run_eql_n7 (x y a b : Int) (w : World) : (binOp .eql 24 (.agg #[.int .u64 x, .int .u64 y]) (.agg #[.int .u64 a, .int .u64 b])).run Tryd.prog w = .ok (.bool (x == a && y == b)) w := by
  rw [run_eql_struct, equal_n7 9998]
  rfl

/-- The same leaf? -/
def Lf.same (x y : Lf) : Bool := x.pad == y.pad && (x.id.toList == y.id.toList && (x.salt.toList == y.salt.toList && (x.h == y.h && x.l == y.l)))
theorem Lf.same_iff (x y : Lf) : x.same y = true ↔ x = y := by
  obtain ⟨p, i, s, h, l⟩ := x
  obtain ⟨p', i', s', h', l'⟩ := y
  unfold Lf.same
  simp only [same_str7, Bool.and_eq_true, beq_iff_eq, decide_eq_true_eq, Lf.mk.injEq]
theorem Lf.same_self (x : Lf) : x.same x = true := (Lf.same_iff x x).2 rfl
theorem equal_lf (d : Nat) (x y : Lf) (w : World) : (Op.equalIn (d + 3) 34 x.val y.val).run Tryd.prog w = .ok (x.same y) w := by
  obtain ⟨p, i, s, h, l⟩ := x
  obtain ⟨p', i', s', h', l'⟩ := y
  unfold Lf.val Lf.same
  rw [run_equalIn_agg w (d + 2) 34 _ _ (by kernel_rfl) (by kernel_rfl)]
  simp only [Program.fieldsOf, Tryd.underlying34, Op.eqFields]
  have e := fun (u : World) => equal_n7 d h l h' l' u
  cases h1 : p == p' <;> cases h2 : i.toList == i'.toList <;> cases h3 : s.toList == s'.toList <;> cases h4 : (h == h' && l == l') <;>
    (rw [h4] at e; simp [go_sem, Tryd.underlying4, Tryd.underlying9, h1, h2, h3, e])
theorem run_eql_lf (x y : Lf) (w : World) : (binOp .eql 34 x.val y.val).run Tryd.prog w = .ok (.bool (x.same y)) w := by
  have e := equal_lf 9997 x y w
  unfold Lf.val at *
  rw [run_eql_struct, e]
  rfl
theorem run_neq_lf (x y : Lf) (w : World) : (binOp .neq 34 x.val y.val).run Tryd.prog w = .ok (.bool (!x.same y)) w := by
  have e := equal_lf 9997 x y w
  unfold Lf.val at *
  rw [run_neq_struct, e]
  rfl

/-- A node, plainly. -/
structure Nd where
  hash : ByteArray
  h : Int
  l : Int
def Nd.val (x : Nd) : Value := .agg #[.string x.hash, .int .u64 x.h, .int .u64 x.l]
def Nd.zero : Nd := ⟨⟨#[]⟩, 0, 0⟩
def Nd.same (x y : Nd) : Bool := x.hash.toList == y.hash.toList && (x.h == y.h && x.l == y.l)
theorem Nd.same_iff (x y : Nd) : x.same y = true ↔ x = y := by
  obtain ⟨s, h, l⟩ := x
  obtain ⟨s', h', l'⟩ := y
  unfold Nd.same
  simp only [same_str7, Bool.and_eq_true, beq_iff_eq, decide_eq_true_eq, Nd.mk.injEq]
theorem Nd.same_self (x : Nd) : x.same x = true := (Nd.same_iff x x).2 rfl
theorem equal_nd (d : Nat) (x y : Nd) (w : World) : (Op.equalIn (d + 3) 49 x.val y.val).run Tryd.prog w = .ok (x.same y) w := by
  obtain ⟨s, h, l⟩ := x
  obtain ⟨s', h', l'⟩ := y
  unfold Nd.val Nd.same
  rw [run_equalIn_agg w (d + 2) 49 _ _ (by kernel_rfl) (by kernel_rfl)]
  simp only [Program.fieldsOf, Tryd.underlying49, Op.eqFields]
  have e := fun (u : World) => equal_n7 d h l h' l' u
  cases h3 : s.toList == s'.toList <;> cases h4 : (h == h' && l == l') <;>
    (rw [h4] at e; simp [go_sem, Tryd.underlying9, h3, e])
theorem run_eql_nd (x y : Nd) (w : World) : (binOp .eql 49 x.val y.val).run Tryd.prog w = .ok (.bool (x.same y)) w := by
  have e := equal_nd 9997 x y w
  unfold Nd.val at *
  rw [run_eql_struct, e]
  rfl
end Go.Proofs.YtkecekfapiegjaaDoor
/-
  Leaves in memory, and plain words on their texts.
-/
namespace Go.Proofs.YtkecekfapiegjaaDoor
set_option linter.unusedVariables false
set_option linter.unusedSimpArgs false
set_option maxRecDepth 10000
open Go.RowKit

theorem Box.leaf {w : World} {g : Nat} {t : TypeId} {x : Lf} (h : Box w g t x.cells) :
    w.cell? ⟨g, 0, none⟩ = some (.bool x.pad) ∧ w.cell? ⟨g, 1, none⟩ = some (.string x.id) ∧ w.cell? ⟨g, 2, none⟩ = some (.string x.salt) ∧ w.cell? ⟨g, 3, none⟩ = some (.int .u64 x.h) ∧ w.cell? ⟨g, 4, none⟩ = some (.int .u64 x.l) :=
  ⟨h.read 0, h.read 1, h.read 2, h.read 3, h.read 4⟩
theorem may_def (p : Bool) (i s : ByteArray) (h l : Int) : Lf.may ⟨p, i, s, h, l⟩ = (decide (s.size ≤ 32) && (if p then decide (i.size = 0) && (decide (h = 0) && decide (l = 0)) else isId i.data.toList)) := rfl
theorem empty_str (i : ByteArray) : (i.toList == ByteArray.toList ⟨#[]⟩) = decide (i.size = 0) := by
  rw [same_str7]
  by_cases h : i.size = 0
  · rw [decide_eq_true h]
    apply decide_eq_true
    exact ba_ext (by have := ba_size i; rw [h] at this; rw [List.length_eq_zero_iff.1 this])
  · rw [decide_eq_false h]
    apply decide_eq_false
    rintro rfl
    exact h rfl

/-- A text behind its length. -/
def szB (s : ByteArray) : ByteArray := ⟨(szL s).toArray⟩
theorem szB_list (s : ByteArray) : (szB s).data.toList = szL s := by simp [szB]
theorem szB_size (s : ByteArray) : (szB s).size = 1 + s.size := by rw [← ba_size, szB_list, szL, List.length_cons, ba_size]; omega
theorem one_byte (s : ByteArray) : strOfNums [(s.size : Int) % 256] ++ s = szB s := by
  apply ba_ext
  rw [szB_list, ByteArray.data_append, Array.toList_append, strOfNums_data, szL]
  show [UInt8.ofNat ((s.size : Int) % 256).toNat] ++ s.data.toList = _
  have e : ((s.size : Int) % 256).toNat = s.size % 256 := by omega
  rw [e, show UInt8.ofNat (s.size % 256) = UInt8.ofNat s.size from UInt8.toNat_inj.1 (by simp)]
  rfl

theorem text_not (x : Lf) (h : x.may = false) : x.text = ⟨#[]⟩ := by
  apply ba_ext
  rw [Lf.text_list, Lf.list, h]
  rfl
theorem text_pad (x : Lf) (h : x.may = true) (hp : x.pad = true) : x.text = ⟨#[2]⟩ ++ szB x.salt := by
  apply ba_ext
  rw [Lf.text_list, Lf.list, if_pos h, if_pos hp, ByteArray.data_append, Array.toList_append, szB_list]
  rfl
theorem text_acc (x : Lf) (h : x.may = true) (hp : x.pad = false) : x.text = ((⟨#[0]⟩ ++ szB x.id) ++ szB x.salt) ++ textOf x.h x.l := by
  apply ba_ext
  rw [Lf.text_list, Lf.list, if_pos h, if_neg (by rw [hp]; decide)]
  simp only [ByteArray.data_append, Array.toList_append, szB_list, List.append_assoc]
  rfl
theorem adds_any (a b c : ByteArray) (e : a ++ b = c) (ha : a.size ≤ 100000000) (hb : b.size ≤ 100000000) : ∀ u : World, (Op.stringOp .add a b).run Tryd.prog u = .ok (.string c) u := fun u => by
  rw [← e]; exact run_string_add_sum u _ _ (by omega)

theorem ba_nil {i : ByteArray} (h : i.size = 0) : i = ⟨#[]⟩ := ba_ext (by have := ba_size i; rw [h] at this; rw [List.length_eq_zero_iff.1 this])
theorem ba_first {s : ByteArray} (h : 0 < s.size) : s[0] = s.data.toList.getD 0 0 := by
  have hl : 0 < s.data.toList.length := by rw [ba_size]; exact h
  rw [List.getD_eq_getElem?_getD, List.getElem?_eq_getElem hl]
  rfl
theorem ne_nil {i : ByteArray} (h : ¬ i.size = 0) : (i.toList == []) = false ∧ i.toList.isEmpty = false := by
  have hE := empty_str i
  rw [decide_eq_false h] at hE
  exact ⟨by simpa using hE, by simpa using hE⟩
theorem Box.five0 {w : World} {g : Nat} {t : TypeId} {a b c d e : Value} (h : Box w g t #[a, b, c, d, e]) :
    (w.cell? ⟨g, 0, none⟩ = some a ∧ w.cell? ⟨g, 1, none⟩ = some b ∧ w.cell? ⟨g, 2, none⟩ = some c ∧ w.cell? ⟨g, 3, none⟩ = some d ∧ w.cell? ⟨g, 4, none⟩ = some e) ∧
    (w.frozen? ⟨g, 0, none⟩ = false ∧ w.frozen? ⟨g, 1, none⟩ = false ∧ w.frozen? ⟨g, 2, none⟩ = false ∧ w.frozen? ⟨g, 3, none⟩ = false ∧ w.frozen? ⟨g, 4, none⟩ = false) ∧ g < w.heap.size :=
  ⟨⟨h.read 0, h.read 1, h.read 2, h.read 3, h.read 4⟩, ⟨h.free 0, h.free 1, h.free 2, h.free 3, h.free 4⟩, h.inside⟩
theorem Box.put5 {w : World} {g : Nat} {t : TypeId} {a b c d e : Value} (h : Box w g t #[a, b, c, d, e]) (x y z u v : Value) :
    Box (((((w.setCell ⟨g, 0, none⟩ x).setCell ⟨g, 1, none⟩ y).setCell ⟨g, 2, none⟩ z).setCell ⟨g, 3, none⟩ u).setCell ⟨g, 4, none⟩ v) g t #[x, y, z, u, v] := by
  simpa using ((((h.wrote 0 x).wrote 1 y).wrote 2 z).wrote 3 u).wrote 4 v
theorem below_put5 {B : Nat} {w W : World} (h : Below B w W) {g : Nat} (hg : B ≤ g) (x y z u v : Value) :
    Below B w (((((W.setCell ⟨g, 0, none⟩ x).setCell ⟨g, 1, none⟩ y).setCell ⟨g, 2, none⟩ z).setCell ⟨g, 3, none⟩ u).setCell ⟨g, 4, none⟩ v) :=
  ((((h.setCell hg x).setCell hg y).setCell hg z).setCell hg u).setCell hg v
theorem ubytes_any (h l : Int) (hh : Word h) (hl : Word l) (w : World) : Calls Tryd.prog 77 #[.agg #[.int .u64 h, .int .u64 l]] w (Tells (.string (textOf h l)) w.heap.size w) := bytes_any h l hh hl w
/-- The two blocks of a reading: the leaf at hand, and the one that is told. -/
abbrev lfB (p : Bool) (i s : ByteArray) (h l : Int) : Array Value := #[.bool p, .string i, .string s, .int .u64 h, .int .u64 l]
def In2 (w W : World) (p : Bool) (i s : ByteArray) (h l : Int) : Prop :=
  Has w [(w.heap.size + 1, 34, lfB p i s h l), (w.heap.size, 34, lfB false ⟨#[]⟩ ⟨#[]⟩ 0 0)] W
theorem In2.call {w W w' : World} {p : Bool} {i s : ByteArray} {h l : Int} (H : In2 w W p i s h l) (hb : Below W.heap.size W w') : In2 w w' p i s h l := Has.call H hb
theorem In2.id {w W : World} {p : Bool} {i s : ByteArray} {h l : Int} (H : In2 w W p i s h l) (x : ByteArray) : In2 w (W.setCell ⟨w.heap.size + 1, 1, none⟩ (.string x)) p x s h l :=
  Has.wrote H (by omega) (by simp) 1 (.string x)
theorem In2.salt {w W : World} {p : Bool} {i s : ByteArray} {h l : Int} (H : In2 w W p i s h l) (x : ByteArray) : In2 w (W.setCell ⟨w.heap.size + 1, 2, none⟩ (.string x)) p i x h l :=
  Has.wrote H (by omega) (by simp) 2 (.string x)
theorem In2.bal {w W : World} {p : Bool} {i s : ByteArray} {h l : Int} (H : In2 w W p i s h l) (x y : Int) : In2 w ((W.setCell ⟨w.heap.size + 1, 3, none⟩ (.int .u64 x)).setCell ⟨w.heap.size + 1, 4, none⟩ (.int .u64 y)) p i s x y :=
  Has.wrote (Has.wrote H (by omega) (by simp) 3 (.int .u64 x)) (by omega) (by simp) 4 (.int .u64 y)

theorem In2.put {w W : World} {p : Bool} {i s : ByteArray} {h l : Int} (H : In2 w W p i s h l) (p' : Bool) (i' s' : ByteArray) (h' l' : Int) :
    In2 w (((((W.setCell ⟨w.heap.size + 1, 0, none⟩ (.bool p')).setCell ⟨w.heap.size + 1, 1, none⟩ (.string i')).setCell ⟨w.heap.size + 1, 2, none⟩ (.string s')).setCell ⟨w.heap.size + 1, 3, none⟩ (.int .u64 h')).setCell ⟨w.heap.size + 1, 4, none⟩ (.int .u64 l')) p' i' s' h' l' :=
  Has.wrote (Has.wrote (Has.wrote (Has.wrote (Has.wrote H (by omega) (by simp) 0 (.bool p')) (by omega) (by simp) 1 (.string i')) (by omega) (by simp) 2 (.string s')) (by omega) (by simp) 3 (.int .u64 h')) (by omega) (by simp) 4 (.int .u64 l')
theorem In2.told {w W : World} {p : Bool} {i s : ByteArray} {h l : Int} (H : In2 w W p i s h l) (x : Lf) :
    Box (((((W.setCell ⟨w.heap.size, 0, none⟩ (.bool x.pad)).setCell ⟨w.heap.size, 1, none⟩ (.string x.id)).setCell ⟨w.heap.size, 2, none⟩ (.string x.salt)).setCell ⟨w.heap.size, 3, none⟩ (.int .u64 x.h)).setCell ⟨w.heap.size, 4, none⟩ (.int .u64 x.l)) w.heap.size 34 (lfB x.pad x.id x.salt x.h x.l) ∧
    Below w.heap.size w (((((W.setCell ⟨w.heap.size, 0, none⟩ (.bool x.pad)).setCell ⟨w.heap.size, 1, none⟩ (.string x.id)).setCell ⟨w.heap.size, 2, none⟩ (.string x.salt)).setCell ⟨w.heap.size, 3, none⟩ (.int .u64 x.h)).setCell ⟨w.heap.size, 4, none⟩ (.int .u64 x.l)) :=
  ⟨(Has.box H 1).put5 _ _ _ _ _, below_put5 (Has.below H) (Nat.le_refl _) _ _ _ _ _⟩
end Go.Proofs.YtkecekfapiegjaaDoor
/-
  Nodes and digests, plainly, and in memory.
-/
namespace Go.Proofs.YtkecekfapiegjaaDoor
set_option linter.unusedVariables false
set_option linter.unusedSimpArgs false
set_option maxRecDepth 10000
open Go.RowKit

/-- The text of a node with those two below it. -/
def ndText (a b : Nd) : ByteArray := (((⟨#[1]⟩ ++ a.hash) ++ textOf a.h a.l) ++ b.hash) ++ textOf b.h b.l
theorem ndText_size (a b : Nd) : (ndText a b).size = 33 + a.hash.size + b.hash.size := by
  unfold ndText
  rw [ByteArray.size_append, ByteArray.size_append, ByteArray.size_append, ByteArray.size_append, textOf_size, textOf_size]
  show 1 + _ + _ + _ + _ = _
  omega
theorem Box.node {w : World} {g : Nat} {t : TypeId} {s : ByteArray} {h l : Int} (b : Box w g t #[.string s, .int .u64 h, .int .u64 l]) :
    w.cell? ⟨g, 0, none⟩ = some (.string s) ∧ w.cell? ⟨g, 1, none⟩ = some (.int .u64 h) ∧ w.cell? ⟨g, 2, none⟩ = some (.int .u64 l) := ⟨b.read 0, b.read 1, b.read 2⟩

/-- May a digest have as many bytes? -/
def mayW (n : Int) : Bool := decide (1 ≤ n ∧ n ≤ 32)
/-- The digest of a text by a width. -/
def dgB (n : Int) (t : ByteArray) : ByteArray := if mayW n = true then (digB t.data.toList).extract 0 n.toNat else ⟨#[]⟩
theorem Box.put3 {w : World} {g : Nat} {t : TypeId} {a b c : Value} (h : Box w g t #[a, b, c]) (x y z : Value) : Box (((w.setCell ⟨g, 0, none⟩ x).setCell ⟨g, 1, none⟩ y).setCell ⟨g, 2, none⟩ z) g t #[x, y, z] := by
  simpa using ((h.wrote 0 x).wrote 1 y).wrote 2 z
theorem below_put3 {B : Nat} {w W : World} (h : Below B w W) {g : Nat} (hg : B ≤ g) (x y z : Value) : Below B w (((W.setCell ⟨g, 0, none⟩ x).setCell ⟨g, 1, none⟩ y).setCell ⟨g, 2, none⟩ z) :=
  ((h.setCell hg x).setCell hg y).setCell hg z
/-- A leaf's node. -/
def nodeOf (n : Int) (x : Lf) : Nd := if mayW n = true ∧ x.may = true then ⟨dgB n x.text, x.h, x.l⟩ else Nd.zero
theorem text_bound (x : Lf) (h1 : x.id.size ≤ 1000000) (h2 : x.salt.size ≤ 1000000) : x.text.size ≤ 3000000 := by
  rw [← ba_size, Lf.text_list, Lf.list]
  by_cases h : x.may = true
  · rw [if_pos h]
    by_cases hp : x.pad = true
    · rw [if_pos hp, List.length_cons, szL, List.length_cons, ba_size]; omega
    · rw [if_neg hp, List.length_cons, List.length_append, List.length_append, szL, szL, List.length_cons, List.length_cons, ba_size, ba_size, ba_size, textOf_size]; omega
  · rw [if_neg h]; simp
theorem Box.lfat {w : World} {g : Nat} {t : TypeId} {p : Bool} {i s : ByteArray} {h l : Int} (b : Box w g t #[.bool p, .string i, .string s, .int .u64 h, .int .u64 l]) :
    w.cell? ⟨g, 0, none⟩ = some (.bool p) ∧ w.cell? ⟨g, 1, none⟩ = some (.string i) ∧ w.cell? ⟨g, 2, none⟩ = some (.string s) ∧ w.cell? ⟨g, 3, none⟩ = some (.int .u64 h) ∧ w.cell? ⟨g, 4, none⟩ = some (.int .u64 l) :=
  ⟨b.read 0, b.read 1, b.read 2, b.read 3, b.read 4⟩
theorem Box.three0 {w : World} {g : Nat} {t : TypeId} {a b c : Value} (h : Box w g t #[a, b, c]) :
    (w.cell? ⟨g, 0, none⟩ = some a ∧ w.cell? ⟨g, 1, none⟩ = some b ∧ w.cell? ⟨g, 2, none⟩ = some c) ∧ w.frozen? ⟨g, 0, none⟩ = false ∧ w.frozen? ⟨g, 1, none⟩ = false ∧ w.frozen? ⟨g, 2, none⟩ = false ∧ g < w.heap.size :=
  ⟨⟨h.read 0, h.read 1, h.read 2⟩, h.free 0, h.free 1, h.free 2, h.inside⟩
end Go.Proofs.YtkecekfapiegjaaDoor
