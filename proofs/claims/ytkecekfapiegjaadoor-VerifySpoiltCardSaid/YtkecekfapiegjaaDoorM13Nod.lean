/- Several of my texts, laid as one. -/
import Derived.Test.YtkecekfapiegjaaDoorM0Gen
import Derived.Test.YtkecekfapiegjaaDoorM13Dec
import Derived.Test.YtkecekfapiegjaaDoorM7Wrd
/-
  Nodes and changes in memory.
-/
namespace Go.Proofs.YtkecekfapiegjaaDoor
set_option linter.unusedVariables false
set_option linter.unusedSimpArgs false
set_option maxRecDepth 10000
open Go.RowKit

instance : DecidableEq Nd := fun x y => if h : x.same y = true then isTrue ((Nd.same_iff x y).1 h) else isFalse (fun e => h ((Nd.same_iff x y).2 e))
theorem Nd.same_dec (x y : Nd) : x.same y = decide (x = y) := by
  by_cases h : x = y
  · rw [decide_eq_true h]; exact (Nd.same_iff x y).2 h
  · rw [decide_eq_false h]
    cases hs : x.same y with
    | false => rfl
    | true => exact absurd ((Nd.same_iff x y).1 hs) h
theorem run_neq_nd (x y : Nd) (w : World) : (binOp .neq 49 x.val y.val).run Tryd.prog w = .ok (.bool (!x.same y)) w := by
  have e := equal_nd 9997 x y w
  unfold Nd.val at *
  rw [run_neq_struct, e]
  rfl
theorem list_same {α : Type} {a b : List α} (hl : a.length = b.length) (h : ∀ (j : Nat) (x y : α), a[j]? = some x → b[j]? = some y → x = y) : a = b := by
  apply List.ext_getElem?
  intro i
  by_cases hi : i < a.length
  · have hi2 : i < b.length := by omega
    rw [List.getElem?_eq_getElem hi, List.getElem?_eq_getElem hi2]
    congr 1
    exact h i _ _ (List.getElem?_eq_getElem hi) (List.getElem?_eq_getElem hi2)
  · rw [List.getElem?_eq_none (by omega), List.getElem?_eq_none (by omega)]
theorem list_other {α : Type} {a b : List α} {j : Nat} {x y : α} (hx : a[j]? = some x) (hy : b[j]? = some y) (hne : x ≠ y) : a ≠ b := fun e => by
  rw [e, hy] at hx
  injection hx with hx
  exact hne hx.symm
abbrev ndB (s : ByteArray) (h l : Int) : Array Value := #[.string s, .int .u64 h, .int .u64 l]
/-- Nodes' cells. -/
def ndS : Sh Nd where
  cells x := [.string x.hash, .int .u64 x.h, .int .u64 x.l]
  k := 3
  len _ := rfl
  pos := by decide
  one x u hu := by
    simp only [List.mem_cons, List.not_mem_nil, or_false] at hu
    rcases hu with rfl | rfl | rfl <;> rfl
theorem ndS_at {w : World} {a : Addr} {x : Nd} (h : ndS.At w a x) : w.cell? a = some (.string x.hash) ∧ w.cell? ⟨a.block, a.off + 1, none⟩ = some (.int .u64 x.h) ∧ w.cell? ⟨a.block, a.off + 2, none⟩ = some (.int .u64 x.l) :=
  ⟨h 0 _ rfl, h 1 _ rfl, h 2 _ rfl⟩
/-- The i-th node of a row. -/
theorem nd_get {w : World} {B : Nat} {A : Option Addr} {xs : List Nd} (h : ndS.Row w B A xs) {i : Nat} {x : Nd} (hx : xs[i]? = some x) : ∃ ad, A = some ad ∧ (ad.add (i * 3)).block < B ∧
    w.cell? (ad.add (i * 3)) = some (.string x.hash) ∧ w.cell? ⟨(ad.add (i * 3)).block, (ad.add (i * 3)).off + 1, none⟩ = some (.int .u64 x.h) ∧ w.cell? ⟨(ad.add (i * 3)).block, (ad.add (i * 3)).off + 2, none⟩ = some (.int .u64 x.l) := by
  obtain ⟨ad, e, hl, hc⟩ := h i x hx
  exact ⟨ad, e, by rw [gen_block]; exact hl, ndS_at hc⟩
/-- Changes' cells. -/
def chS : Sh ChP where
  cells x := [.int .u64 x.pos, .bool x.old.pad, .string x.old.id, .string x.old.salt, .int .u64 x.old.h, .int .u64 x.old.l, .bool x.new.pad, .string x.new.id, .string x.new.salt, .int .u64 x.new.h, .int .u64 x.new.l]
  k := 11
  len _ := rfl
  pos := by decide
  one x u hu := by
    simp only [List.mem_cons, List.not_mem_nil, or_false] at hu
    rcases hu with rfl | rfl | rfl | rfl | rfl | rfl | rfl | rfl | rfl | rfl | rfl <;> rfl
theorem ch_get {w : World} {B : Nat} {A : Option Addr} {xs : List ChP} (h : chS.Row w B A xs) {i : Nat} {x : ChP} (hx : xs[i]? = some x) : ∃ ad, A = some ad ∧ (ad.add (i * 11)).block < B ∧
    w.cell? (ad.add (i * 11)) = some (.int .u64 x.pos) ∧
    (w.cell? ⟨(ad.add (i * 11)).block, (ad.add (i * 11)).off + 1, none⟩ = some (.bool x.old.pad) ∧ w.cell? ⟨(ad.add (i * 11)).block, (ad.add (i * 11)).off + 2, none⟩ = some (.string x.old.id) ∧ w.cell? ⟨(ad.add (i * 11)).block, (ad.add (i * 11)).off + 3, none⟩ = some (.string x.old.salt) ∧
      w.cell? ⟨(ad.add (i * 11)).block, (ad.add (i * 11)).off + 4, none⟩ = some (.int .u64 x.old.h) ∧ w.cell? ⟨(ad.add (i * 11)).block, (ad.add (i * 11)).off + 5, none⟩ = some (.int .u64 x.old.l)) ∧
    (w.cell? ⟨(ad.add (i * 11)).block, (ad.add (i * 11)).off + 6, none⟩ = some (.bool x.new.pad) ∧ w.cell? ⟨(ad.add (i * 11)).block, (ad.add (i * 11)).off + 7, none⟩ = some (.string x.new.id) ∧ w.cell? ⟨(ad.add (i * 11)).block, (ad.add (i * 11)).off + 8, none⟩ = some (.string x.new.salt) ∧
      w.cell? ⟨(ad.add (i * 11)).block, (ad.add (i * 11)).off + 9, none⟩ = some (.int .u64 x.new.h) ∧ w.cell? ⟨(ad.add (i * 11)).block, (ad.add (i * 11)).off + 10, none⟩ = some (.int .u64 x.new.l)) := by
  obtain ⟨ad, e, hl, hc⟩ := h i x hx
  exact ⟨ad, e, by rw [gen_block]; exact hl, hc 0 _ rfl, ⟨hc 1 _ rfl, hc 2 _ rfl, hc 3 _ rfl, hc 4 _ rfl, hc 5 _ rfl⟩, hc 6 _ rfl, hc 7 _ rfl, hc 8 _ rfl, hc 9 _ rfl, hc 10 _ rfl⟩
def ndE : El ndS := ⟨35, 49, .agg #[.string ⟨#[]⟩, .int .u64 0, .int .u64 0], 32, Tryd.underlying35, by kernel_rfl, rfl, by decide⟩
theorem nd_app1 (w : World) (base : Nat) (v : Value) (n : Nat) (ys : List Nd) (hown : w.ownsRow base 49 3 v n (ndS.flat ys)) (x : Nd) (hm : n ≤ 100000000) (hb : base ≤ w.heap.size) :
    ∃ v' w', (∀ ty, (Builtin.append_ #[35, 35] ty #[v, .slice (some ⟨w.heap.size, 0, none⟩) 1 1]).run Tryd.prog (w.alloc (.cells (ndB x.hash x.h x.l) 49)) = .ok v' w') ∧
      w'.ownsRow base 49 3 v' (n + 1) (ndS.flat (ys ++ [x])) ∧ Below base w w' := by
  obtain ⟨v', w', k1, k2, -, k4⟩ := ndE.app1 w base v n ys hown x _ rfl hm hb
  exact ⟨v', w', k1, k2, k4⟩
/- Records as values. -/
abbrev rtB (s : ByteArray) (h l n : Int) : Array Value := #[.string s, .int .u64 h, .int .u64 l, .int .i64 n]
def RtP.val (x : RtP) : Value := .agg (rtB x.hash x.h x.l x.n)
abbrev enB (p : Bool) (i s : ByteArray) (h l pos : Int) (A : Option Addr) (n c : Nat) : Array Value := #[.bool p, .string i, .string s, .int .u64 h, .int .u64 l, .int .u64 pos, .slice A n c]
abbrev rgB (a b : Int) (A : Option Addr) (n c : Nat) (B : Option Addr) (m d : Nat) : Array Value := #[.int .u64 a, .int .u64 b, .slice A n c, .slice B m d]
abbrev dfB (A : Option Addr) (n c : Nat) (B : Option Addr) (m d : Nat) : Array Value := #[.slice A n c, .slice B m d]
abbrev chA (q : Int) (p : Bool) (i s : ByteArray) (h l : Int) (p' : Bool) (i' s' : ByteArray) (h' l' : Int) : Array Value := #[.int .u64 q, .bool p, .string i, .string s, .int .u64 h, .int .u64 l, .bool p', .string i', .string s', .int .u64 h', .int .u64 l']
theorem Box.eleven {w : World} {g : Nat} {t : TypeId} {a b c d e f h i j k m : Value} (H : Box w g t #[a, b, c, d, e, f, h, i, j, k, m]) :
    w.cell? ⟨g, 0, none⟩ = some a ∧ (w.cell? ⟨g, 1, none⟩ = some b ∧ w.cell? ⟨g, 2, none⟩ = some c ∧ w.cell? ⟨g, 3, none⟩ = some d ∧ w.cell? ⟨g, 4, none⟩ = some e ∧ w.cell? ⟨g, 5, none⟩ = some f) ∧ (w.cell? ⟨g, 6, none⟩ = some h ∧ w.cell? ⟨g, 7, none⟩ = some i ∧ w.cell? ⟨g, 8, none⟩ = some j ∧ w.cell? ⟨g, 9, none⟩ = some k ∧ w.cell? ⟨g, 10, none⟩ = some m) :=
  ⟨H.read 0, ⟨H.read 1, H.read 2, H.read 3, H.read 4, H.read 5⟩, H.read 6, H.read 7, H.read 8, H.read 9, H.read 10⟩
/-- Lengths of bytes. -/
theorem textL_len (s : ByteArray) : (textL s).length ≤ 17 + s.size := by
  unfold textL
  rw [List.length_append, osize]
  have := wideL_len 0 (s.size : Int)
  omega
theorem ndY_len (x : Nd) : (ndY x).length ≤ 34 + x.hash.size := by
  unfold ndY
  rw [List.length_append]
  have := textL_len x.hash
  have := wideL_len x.h x.l
  omega
theorem lfY_len (x : Lf) : (lfY x).length ≤ 60 + (x.id.size + x.salt.size) := by
  unfold lfY
  rw [List.length_append, List.length_append, List.length_append]
  have := textL_len x.id
  have := textL_len x.salt
  have := wideL_len x.h x.l
  simp only [List.length_cons, List.length_nil]
  omega
theorem flat_few {α : Type} {e : α → List UInt8} {B : Nat} : ∀ l : List α, (∀ x ∈ l, (e x).length ≤ B) → (l.flatMap e).length ≤ l.length * B
  | [], _ => by simp
  | x :: r, h => by
    rw [List.flatMap_cons, List.length_append, List.length_cons, Nat.add_mul]
    have h1 := flat_few r fun y hy => h y (by simp [hy])
    have h2 := h x (by simp)
    omega
theorem row_len {l : List Nd} (hl : l.length ≤ 10000) (hs : ∀ x ∈ l, x.hash.size ≤ 1000) : (rowY ndY l).length ≤ 11000000 := by
  unfold rowY
  rw [List.length_append]
  have h1 := wideL_len 0 (l.length : Int)
  have h2 := flat_few (e := ndY) (B := 1034) l fun x hx => by have := ndY_len x; have := hs x hx; omega
  have h3 : l.length * 1034 ≤ 10000 * 1034 := Nat.mul_le_mul_right _ hl
  omega
theorem take_flat {α : Type} {e : α → List UInt8} {l : List α} {k : Nat} {x : α} (h : l[k]? = some x) : (l.take (k + 1)).flatMap e = (l.take k).flatMap e ++ e x := by
  rw [List.take_add_one, h, List.flatMap_append]
  simp
/-- Texts put together. -/
theorem adds_l (a b : List UInt8) (ha : a.length ≤ 100000000) (hb : b.length ≤ 100000000) : ∀ u : World, (Op.stringOp .add (ofL a) (ofL b)).run Tryd.prog u = .ok (.string (ofL (a ++ b))) u :=
  adds_any _ _ _ (ofL_app a b).symm (by rw [ofL_size]; exact ha) (by rw [ofL_size]; exact hb)
end Go.Proofs.YtkecekfapiegjaaDoor
/-
  Roots compared by '==' and '!='.
-/
namespace Go.Proofs.YtkecekfapiegjaaDoor
set_option linter.unusedVariables false
set_option linter.unusedSimpArgs false
set_option maxRecDepth 10000
open Go.RowKit

def RtP.same (x y : RtP) : Bool := x.hash.toList == y.hash.toList && ((x.h == y.h && x.l == y.l) && x.n == y.n)
theorem RtP.same_iff (x y : RtP) : x.same y = true ↔ x = y := by
  obtain ⟨s, h, l, n⟩ := x
  obtain ⟨s', h', l', n'⟩ := y
  unfold RtP.same
  simp only [same_str7, Bool.and_eq_true, beq_iff_eq, decide_eq_true_eq, RtP.mk.injEq, and_assoc]
theorem RtP.same_self (x : RtP) : x.same x = true := (RtP.same_iff x x).2 rfl
theorem equal_rt (d : Nat) (x y : RtP) (w : World) : (Op.equalIn (d + 3) 26 x.val y.val).run Tryd.prog w = .ok (x.same y) w := by
  obtain ⟨s, h, l, n⟩ := x
  obtain ⟨s', h', l', n'⟩ := y
  unfold RtP.val RtP.same
  rw [run_equalIn_agg w (d + 2) 26 _ _ (by kernel_rfl) (by kernel_rfl)]
  simp only [Program.fieldsOf, Tryd.underlying26, Op.eqFields]
  have e := fun (u : World) => equal_n7 d h l h' l' u
  cases h3 : s.toList == s'.toList <;> cases h4 : (h == h' && l == l') <;> cases h5 : (n == n') <;>
    (rw [h4] at e; simp [go_sem, run_equalIn_int, Tryd.underlying9, Tryd.underlying3, h3, h5, e])
theorem run_eql_rt (x y : RtP) (w : World) : (binOp .eql 26 x.val y.val).run Tryd.prog w = .ok (.bool (x.same y)) w := by
  have e := equal_rt 9997 x y w
  unfold RtP.val at *
  rw [run_eql_struct, e]
  rfl
theorem run_neq_rt (x y : RtP) (w : World) : (binOp .neq 26 x.val y.val).run Tryd.prog w = .ok (.bool (!x.same y)) w := by
  have e := equal_rt 9997 x y w
  unfold RtP.val at *
  rw [run_neq_struct, e]
  rfl
end Go.Proofs.YtkecekfapiegjaaDoor
