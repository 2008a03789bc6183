/- Several of my texts, laid as one. -/
import Derived.Test.YtkecekfapiegjaaDoorM13Nod
import Derived.Test.YtkecekfapiegjaaDoorM7Wrd
import Derived.Test.YtkecekfapiegjaaDoorM15Pln
import Derived.Test.YtkecekfapiegjaaDoorM0Wrd
/-
  Leaves in memory, by the generic words on rows.
-/
namespace Go.Proofs.YtkecekfapiegjaaDoor
set_option linter.unusedVariables false
set_option linter.unusedSimpArgs false
set_option maxRecDepth 10000
open Go.RowKit

/-- Leaves' cells. -/
def lfS : Sh Lf where
  cells x := [.bool x.pad, .string x.id, .string x.salt, .int .u64 x.h, .int .u64 x.l]
  k := 5
  len _ := rfl
  pos := by decide
  one x u hu := by
    simp only [List.mem_cons, List.not_mem_nil, or_false] at hu
    rcases hu with rfl | rfl | rfl | rfl | rfl <;> rfl
/-- The i-th leaf of a row. -/
theorem lf_get {w : World} {B : Nat} {A : Option Addr} {xs : List Lf} (h : lfS.Row w B A xs) {i : Nat} {x : Lf} (hx : xs[i]? = some x) : ∃ ad, A = some ad ∧ (ad.add (i * 5)).block < B ∧
    w.cell? (ad.add (i * 5)) = some (.bool x.pad) ∧ w.cell? ⟨(ad.add (i * 5)).block, (ad.add (i * 5)).off + 1, none⟩ = some (.string x.id) ∧ w.cell? ⟨(ad.add (i * 5)).block, (ad.add (i * 5)).off + 2, none⟩ = some (.string x.salt) ∧
    w.cell? ⟨(ad.add (i * 5)).block, (ad.add (i * 5)).off + 3, none⟩ = some (.int .u64 x.h) ∧ w.cell? ⟨(ad.add (i * 5)).block, (ad.add (i * 5)).off + 4, none⟩ = some (.int .u64 x.l) := by
  obtain ⟨ad, e, hl, hc⟩ := h i x hx
  exact ⟨ad, e, by rw [gen_block]; exact hl, hc 0 _ rfl, hc 1 _ rfl, hc 2 _ rfl, hc 3 _ rfl, hc 4 _ rfl⟩
def lfE : El lfS := ⟨52, 34, .agg #[.bool false, .string ⟨#[]⟩, .string ⟨#[]⟩, .int .u64 0, .int .u64 0], 56, Tryd.underlying52, by kernel_rfl, rfl, by decide⟩
end Go.Proofs.YtkecekfapiegjaaDoor
/-
  Trees in memory: blocks that begin with leaves, nodes, levels; the tree itself; what a leaf that is set turns.
-/
namespace Go.Proofs.YtkecekfapiegjaaDoor
set_option linter.unusedVariables false
set_option linter.unusedSimpArgs false
set_option maxRecDepth 10000
open Go.RowKit

section
variable {α : Type} {S : Sh α}
/-- Block g begins with these. -/
def Sh.Blk (S : Sh α) (W : World) (T : TypeId) (g : Nat) (l : List α) : Prop := ∃ (cur : Array Value) (rest : List Value), Box W g T cur ∧ cur.toList = S.flat l ++ rest
theorem Sh.Blk.inside {W : World} {T : TypeId} {g : Nat} {l : List α} (h : S.Blk W T g l) : g < W.heap.size := by
  obtain ⟨cur, rest, hb, -⟩ := h
  exact hb.inside
theorem Sh.Blk.of {W : World} {T : TypeId} {g : Nat} {l : List α} (h : Box W g T (S.flat l).toArray) : S.Blk W T g l := ⟨_, [], h, by simp⟩
theorem Sh.Blk.keep {W W' : World} {T : TypeId} {g : Nat} {l : List α} (h : S.Blk W T g l) (e : W'.heap[g]? = W.heap[g]?) : S.Blk W' T g l := by
  obtain ⟨cur, rest, hb, he⟩ := h
  exact ⟨cur, rest, e.trans hb, he⟩
theorem Sh.Blk.call {W W' : World} {T : TypeId} {g : Nat} {l : List α} (h : S.Blk W T g l) (hb : Below W.heap.size W W') : S.Blk W' T g l := h.keep (hb.block _ h.inside)
theorem Sh.Blk.off {W W' : World} {F : Nat → Prop} {T : TypeId} {g : Nat} {l : List α} (h : S.Blk W T g l) (hb : Off F W W') (hn : ¬ F g) : S.Blk W' T g l := h.keep (hb.block _ h.inside hn)
theorem Sh.Blk.free {W : World} {T : TypeId} {g : Nat} {l : List α} (h : S.Blk W T g l) (i : Nat) : W.frozen? ⟨g, i, none⟩ = false := by
  obtain ⟨cur, rest, hb, -⟩ := h
  exact hb.free i
theorem Sh.Blk.cell {W : World} {T : TypeId} {g : Nat} {l : List α} (h : S.Blk W T g l) {i : Nat} {x : α} (hx : l[i]? = some x) {j : Nat} (hj : j < S.k) : W.cell? ⟨g, i * S.k + j, none⟩ = (S.cells x)[j]? := by
  obtain ⟨cur, rest, hb, he⟩ := h
  have hi := (List.getElem?_eq_some_iff.1 hx).1
  have hlt : i * S.k + j < (S.flat l).length := by
    rw [S.flat_len]
    have h1 : (i + 1) * S.k ≤ l.length * S.k := Nat.mul_le_mul_right _ hi
    rw [Nat.add_mul] at h1
    omega
  rw [hb.read, ← Array.getElem?_toList, he, List.getElem?_append_left hlt, S.flat_at l i x hx j hj]
theorem Sh.Blk.row {W : World} {T : TypeId} {g : Nat} {l : List α} (h : S.Blk W T g l) : S.Row W W.heap.size (some ⟨g, 0, none⟩) l := fun i x hx => by
  refine ⟨_, rfl, h.inside, fun j v hv => ?_⟩
  have hj : j < S.k := by have := (List.getElem?_eq_some_iff.1 hv).1; rw [S.len] at this; exact this
  rw [gen_zero]
  have e : (⟨g, i * S.k, none⟩ : Addr).add j = ⟨g, i * S.k + j, none⟩ := by unfold Addr.add; split <;> simp_all
  rw [e, h.cell hx hj, hv]
/-- A row of the call's own that isn't empty. -/
theorem Sh.Blk.of_own {b : Nat} {W : World} {T : TypeId} {v : Value} {l : List α} (h : W.ownsRow b T S.k v l.length (S.flat l)) (hl : l ≠ []) :
    ∃ g c, v = .slice (some ⟨g, 0, none⟩) l.length c ∧ b ≤ g ∧ l.length ≤ c ∧ S.Blk W T g l := by
  rcases h.2 with ⟨h1, h2⟩ | ⟨g, cap, cur, hv, hg, hh, hc, hm, hsz, hcur⟩
  · exact absurd (List.eq_nil_of_length_eq_zero h2) hl
  · exact ⟨g, cap, hv, hg, hc, cur, cur.toList.drop (l.length * S.k), hh, by rw [← hcur, List.take_append_drop]⟩
end
/-- A node is written. -/
def putN (W : World) (g i : Nat) (x : Nd) : World := ((W.setCell ⟨g, i * 3, none⟩ (.string x.hash)).setCell ⟨g, i * 3 + 1, none⟩ (.int .u64 x.h)).setCell ⟨g, i * 3 + 2, none⟩ (.int .u64 x.l)
/-- A leaf is written. -/
def putLf (W : World) (g i : Nat) (x : Lf) : World :=
  ((((W.setCell ⟨g, i * 5, none⟩ (.bool x.pad)).setCell ⟨g, i * 5 + 1, none⟩ (.string x.id)).setCell ⟨g, i * 5 + 2, none⟩ (.string x.salt)).setCell ⟨g, i * 5 + 3, none⟩ (.int .u64 x.h)).setCell ⟨g, i * 5 + 4, none⟩ (.int .u64 x.l)
theorem putN_off (W : World) (g i : Nat) (x : Nd) : Off (One g) W (putN W g i x) := (((Off.refl (One g) W).set_ (p := ⟨g, i * 3, none⟩) (Or.inl (rfl : _ = g)) _).set_ (p := ⟨g, i * 3 + 1, none⟩) (Or.inl (rfl : _ = g)) _).set_ (p := ⟨g, i * 3 + 2, none⟩) (Or.inl (rfl : _ = g)) _
theorem putLf_off (W : World) (g i : Nat) (x : Lf) : Off (One g) W (putLf W g i x) :=
  (((((Off.refl (One g) W).set_ (p := ⟨g, i * 5, none⟩) (Or.inl (rfl : _ = g)) _).set_ (p := ⟨g, i * 5 + 1, none⟩) (Or.inl (rfl : _ = g)) _).set_ (p := ⟨g, i * 5 + 2, none⟩) (Or.inl (rfl : _ = g)) _).set_ (p := ⟨g, i * 5 + 3, none⟩) (Or.inl (rfl : _ = g)) _).set_ (p := ⟨g, i * 5 + 4, none⟩) (Or.inl (rfl : _ = g)) _
theorem nd_sets (l : List Nd) (i : Nat) (x : Nd) (hi : i < l.length) :
    (((ndS.flat l).set (i * 3) (.string x.hash)).set (i * 3 + 1) (.int .u64 x.h)).set (i * 3 + 2) (.int .u64 x.l) = ndS.flat (l.set i x) := by
  induction l generalizing i with
  | nil => simp at hi
  | cons y r ih =>
    have e : ∀ (z : Nd) (r : List Nd), ndS.flat (z :: r) = ndS.cells z ++ ndS.flat r := fun z r => by simp [Sh.flat]
    cases i with
    | zero => rw [List.set_cons_zero, e, e]; rfl
    | succ i =>
      have hl : (ndS.cells y).length = 3 := rfl
      rw [List.set_cons_succ, e, e, ← ih i (by simpa using hi)]
      rw [List.set_append_right _ _ (by rw [hl]; omega), List.set_append_right _ _ (by rw [hl]; omega), List.set_append_right _ _ (by rw [hl]; omega), hl]
      rw [show (i + 1) * 3 - 3 = i * 3 by omega, show (i + 1) * 3 + 1 - 3 = i * 3 + 1 by omega, show (i + 1) * 3 + 2 - 3 = i * 3 + 2 by omega]
theorem lf_sets (l : List Lf) (i : Nat) (x : Lf) (hi : i < l.length) :
    (((((lfS.flat l).set (i * 5) (.bool x.pad)).set (i * 5 + 1) (.string x.id)).set (i * 5 + 2) (.string x.salt)).set (i * 5 + 3) (.int .u64 x.h)).set (i * 5 + 4) (.int .u64 x.l) = lfS.flat (l.set i x) := by
  induction l generalizing i with
  | nil => simp at hi
  | cons y r ih =>
    have e : ∀ (z : Lf) (r : List Lf), lfS.flat (z :: r) = lfS.cells z ++ lfS.flat r := fun z r => by simp [Sh.flat]
    cases i with
    | zero => rw [List.set_cons_zero, e, e]; rfl
    | succ i =>
      have hl : (lfS.cells y).length = 5 := rfl
      rw [List.set_cons_succ, e, e, ← ih i (by simpa using hi)]
      rw [List.set_append_right _ _ (by rw [hl]; omega), List.set_append_right _ _ (by rw [hl]; omega), List.set_append_right _ _ (by rw [hl]; omega), List.set_append_right _ _ (by rw [hl]; omega), List.set_append_right _ _ (by rw [hl]; omega), hl]
      rw [show (i + 1) * 5 - 5 = i * 5 by omega, show (i + 1) * 5 + 1 - 5 = i * 5 + 1 by omega, show (i + 1) * 5 + 2 - 5 = i * 5 + 2 by omega, show (i + 1) * 5 + 3 - 5 = i * 5 + 3 by omega, show (i + 1) * 5 + 4 - 5 = i * 5 + 4 by omega]
theorem set_if_list (a : Array Value) (i : Nat) (v : Value) : (a.setIfInBounds i v).toList = a.toList.set i v := by simp
theorem nd_put {W : World} {T : TypeId} {g : Nat} {l : List Nd} (h : ndS.Blk W T g l) (i : Nat) (x : Nd) (hi : i < l.length) : ndS.Blk (putN W g i x) T g (l.set i x) := by
  obtain ⟨cur, rest, hb, he⟩ := h
  have hl : (ndS.flat l).length = l.length * 3 := ndS.flat_len l
  refine ⟨_, rest, ((hb.wrote (i * 3) _).wrote (i * 3 + 1) _).wrote (i * 3 + 2) _, ?_⟩
  rw [set_if_list, set_if_list, set_if_list, he, List.set_append_left _ _ (by omega), List.set_append_left _ _ (by rw [List.length_set]; omega), List.set_append_left _ _ (by rw [List.length_set, List.length_set]; omega), nd_sets l i x hi]
theorem lf_put {W : World} {T : TypeId} {g : Nat} {l : List Lf} (h : lfS.Blk W T g l) (i : Nat) (x : Lf) (hi : i < l.length) : lfS.Blk (putLf W g i x) T g (l.set i x) := by
  obtain ⟨cur, rest, hb, he⟩ := h
  have hl : (lfS.flat l).length = l.length * 5 := lfS.flat_len l
  refine ⟨_, rest, ((((hb.wrote (i * 5) _).wrote (i * 5 + 1) _).wrote (i * 5 + 2) _).wrote (i * 5 + 3) _).wrote (i * 5 + 4) _, ?_⟩
  rw [set_if_list, set_if_list, set_if_list, set_if_list, set_if_list, he, List.set_append_left _ _ (by omega), List.set_append_left _ _ (by rw [List.length_set]; omega), List.set_append_left _ _ (by rw [List.length_set, List.length_set]; omega),
    List.set_append_left _ _ (by rw [List.length_set, List.length_set, List.length_set]; omega), List.set_append_left _ _ (by rw [List.length_set, List.length_set, List.length_set, List.length_set]; omega), lf_sets l i x hi]
theorem nd_there {W : World} {T : TypeId} {g : Nat} {l : List Nd} (h : ndS.Blk W T g l) (i : Nat) (hi : i < l.length) :
    ∃ x, l[i]? = some x ∧ W.cell? ⟨g, i * 3, none⟩ = some (.string x.hash) ∧ W.cell? ⟨g, i * 3 + 1, none⟩ = some (.int .u64 x.h) ∧ W.cell? ⟨g, i * 3 + 2, none⟩ = some (.int .u64 x.l) := by
  obtain ⟨x, hx⟩ : ∃ x, l[i]? = some x := ⟨_, List.getElem?_eq_getElem hi⟩
  exact ⟨x, hx, h.cell hx (j := 0) (by decide), h.cell hx (j := 1) (by decide), h.cell hx (j := 2) (by decide)⟩
theorem lf_there {W : World} {T : TypeId} {g : Nat} {l : List Lf} (h : lfS.Blk W T g l) (i : Nat) (hi : i < l.length) :
    ∃ x, l[i]? = some x ∧ W.cell? ⟨g, i * 5, none⟩ = some (.bool x.pad) ∧ W.cell? ⟨g, i * 5 + 1, none⟩ = some (.string x.id) ∧ W.cell? ⟨g, i * 5 + 2, none⟩ = some (.string x.salt) ∧ W.cell? ⟨g, i * 5 + 3, none⟩ = some (.int .u64 x.h) ∧ W.cell? ⟨g, i * 5 + 4, none⟩ = some (.int .u64 x.l) := by
  obtain ⟨x, hx⟩ : ∃ x, l[i]? = some x := ⟨_, List.getElem?_eq_getElem hi⟩
  exact ⟨x, hx, h.cell hx (j := 0) (by decide), h.cell hx (j := 1) (by decide), h.cell hx (j := 2) (by decide), h.cell hx (j := 3) (by decide), h.cell hx (j := 4) (by decide)⟩

/-- A level in memory: its row's block, how many, with how much room, its width. -/
structure LvP where
  b : Nat
  n : Nat
  c : Nat
  w : Int
def lvS : Sh LvP where
  cells x := [.slice (some ⟨x.b, 0, none⟩) x.n x.c, .int .i64 x.w]
  k := 2
  len _ := rfl
  pos := by decide
  one x u hu := by
    simp only [List.mem_cons, List.not_mem_nil, or_false] at hu
    rcases hu with rfl | rfl <;> rfl
theorem lv_get {w : World} {B : Nat} {A : Option Addr} {xs : List LvP} (h : lvS.Row w B A xs) {i : Nat} {x : LvP} (hx : xs[i]? = some x) : ∃ ad, A = some ad ∧ (ad.add (i * 2)).block < B ∧
    w.cell? (ad.add (i * 2)) = some (.slice (some ⟨x.b, 0, none⟩) x.n x.c) ∧ w.cell? ⟨(ad.add (i * 2)).block, (ad.add (i * 2)).off + 1, none⟩ = some (.int .i64 x.w) := by
  obtain ⟨ad, e, hl, hc⟩ := h i x hx
  exact ⟨ad, e, by rw [gen_block]; exact hl, hc 0 _ rfl, hc 1 _ rfl⟩
theorem lv_at {W : World} {T : TypeId} {g : Nat} {l : List LvP} (h : lvS.Blk W T g l) {i : Nat} {x : LvP} (hx : l[i]? = some x) :
    W.cell? ⟨g, i * 2, none⟩ = some (.slice (some ⟨x.b, 0, none⟩) x.n x.c) ∧ W.cell? ⟨g, i * 2 + 1, none⟩ = some (.int .i64 x.w) :=
  ⟨h.cell hx (j := 0) (by decide), h.cell hx (j := 1) (by decide)⟩

/-- What stands at a place of a row of nodes, and whether there is such a place. -/
def ndAt (l : List Nd) (p : Nat) : Nd := l.getD p Nd.zero
def lfAt (l : List Lf) (p : Nat) : Lf := l.getD p Lf.zero
/-- What stands highest. -/
def topN (w : Int) (l : List Lf) (k : Nat) : Nd := ndAt (upN w k (l.map (nodeOf w))) 0
/-- A width and leaves of which there is a tree. -/
structure FairT (w : Int) (l : List Lf) (k : Nat) : Prop where
  may : mayW w = true
  len : l.length = 2 ^ k
  few : k ≤ 10
  all : ∀ x ∈ l, x.may = true ∧ Word x.h ∧ Word x.l
  room : room (sumN (l.map (nodeOf w))) = true
theorem mayT_sizes {x : Lf} (h : x.may = true) : x.id.size ≤ 96 ∧ x.salt.size ≤ 32 := by
  cases hp : x.pad with
  | true => obtain ⟨h1, -, -, h2⟩ := x.may_pad h hp; rw [h1]; exact ⟨by decide, h2⟩
  | false => obtain ⟨-, h1, h2⟩ := x.may_id h hp; exact ⟨h1, h2⟩
theorem nodeOf_fine {w : Int} {x : Lf} (hw : mayW w = true) (hx : x.may = true) (h1 : Word x.h) (h2 : Word x.l) : (nodeOf w x).of w = true ∧ (nodeOf w x).halved ∧ (nodeOf w x).sum = nv x.h x.l := by
  rw [nodeOf, if_pos ⟨hw, hx⟩]
  refine ⟨?_, ⟨h1, h2⟩, rfl⟩
  simp only [Nd.of, hw, Bool.true_and, decide_eq_true_eq]
  exact dgB_size hw _
theorem nodes_fine {w : Int} (hw : mayW w = true) {l : List Lf} (h : ∀ x ∈ l, x.may = true ∧ Word x.h ∧ Word x.l) : (∀ z ∈ l.map (nodeOf w), z.halved) ∧ (∀ z ∈ l.map (nodeOf w), z.of w = true) :=
  ⟨fun z hz => by
    obtain ⟨x, hx, rfl⟩ := List.mem_map.1 hz
    obtain ⟨h1, h2, h3⟩ := h x hx
    exact (nodeOf_fine hw h1 h2 h3).2.1, fun z hz => by
    obtain ⟨x, hx, rfl⟩ := List.mem_map.1 hz
    obtain ⟨h1, h2, h3⟩ := h x hx
    exact (nodeOf_fine hw h1 h2 h3).1⟩
section
variable {w : Int} {l : List Lf} {k : Nat}
theorem FairT.halved (h : FairT w l k) : ∀ z ∈ l.map (nodeOf w), z.halved := (nodes_fine h.may h.all).1
theorem FairT.of (h : FairT w l k) : ∀ z ∈ l.map (nodeOf w), z.of w = true := (nodes_fine h.may h.all).2
theorem FairT.nlen (h : FairT w l k) : (l.map (nodeOf w)).length = 2 ^ k := by rw [List.length_map]; exact h.len
theorem FairT.ulen (h : FairT w l k) {j : Nat} (hj : j ≤ k) : (upN w j (l.map (nodeOf w))).length = 2 ^ (k - j) := upN_len w h.nlen j hj
theorem FairT.up (h : FairT w l k) {j : Nat} (hj : j ≤ k) : (∀ x ∈ upN w j (l.map (nodeOf w)), x.halved) ∧ (∀ x ∈ upN w j (l.map (nodeOf w)), x.of w = true) ∧ sumN (upN w j (l.map (nodeOf w))) = sumN (l.map (nodeOf w)) :=
  upN_fine h.may h.nlen h.halved h.of h.room j hj
theorem FairT.pos (h : FairT w l k) : 1 ≤ l.length := by rw [h.len]; exact Nat.two_pow_pos k
theorem FairT.most (h : FairT w l k) : l.length ≤ 1024 := by rw [h.len]; exact Nat.pow_le_pow_right (by decide) h.few
end
/-- Where a tree lies. -/
structure TrG where
  g : Nat
  gl : Nat
  cl : Nat
  gv : Nat
  cv : Nat
  ls : List LvP
/-- A tree of a width and leaves lies there. -/
structure TrAt (W : World) (q : TrG) (w : Int) (l : List Lf) (k : Nat) : Prop where
  top : Box W q.g 98 #[.slice (some ⟨q.gl, 0, none⟩) l.length q.cl, .slice (some ⟨q.gv, 0, none⟩) (k + 1) q.cv]
  lvs : lfS.Blk W 34 q.gl l
  row : lvS.Blk W 89 q.gv q.ls
  many : q.ls.length = k + 1
  roomy : k + 1 ≤ q.cv
  each : ∀ (j : Nat) v, q.ls[j]? = some v → v.w = w ∧ v.n = 2 ^ (k - j) ∧ v.n ≤ v.c ∧ ndS.Blk W 49 v.b (upN w j (l.map (nodeOf w)))
  apart : ∀ (i j : Nat) u v, q.ls[i]? = some u → q.ls[j]? = some v → u.b = v.b → i = j
/-- The tree's blocks lie from lo on, below hi. -/
def TrG.within (q : TrG) (lo hi : Nat) : Prop := (lo ≤ q.g ∧ q.g < hi) ∧ (lo ≤ q.gl ∧ q.gl < hi) ∧ (lo ≤ q.gv ∧ q.gv < hi) ∧ ∀ (j : Nat) v, q.ls[j]? = some v → lo ≤ v.b ∧ v.b < hi
/-- The blocks that a leaf that is set turns. -/
def TrG.turns (q : TrG) : Nat → Prop := fun b => b = q.gl ∨ ∃ (j : Nat) (v : LvP), q.ls[j]? = some v ∧ b = v.b
theorem Box.type_ne {W : World} {g g' : Nat} {t t' : TypeId} {cs cs' : Array Value} (h : Box W g t cs) (h' : Box W g' t' cs') (ht : t ≠ t') : g ≠ g' := by
  rintro rfl
  unfold Box at h h'
  rw [h] at h'
  injection h' with h'
  injection h' with h1 h2 h3
  exact ht h2
section
variable {W W' : World} {q : TrG} {w : Int} {l : List Lf} {k lo hi : Nat}
theorem TrG.within.more {lo' hi' : Nat} (h : q.within lo hi) (h1 : lo' ≤ lo) (h2 : hi ≤ hi') : q.within lo' hi' :=
  ⟨⟨by have := h.1; omega, by have := h.1; omega⟩, ⟨by have := h.2.1; omega, by have := h.2.1; omega⟩, ⟨by have := h.2.2.1; omega, by have := h.2.2.1; omega⟩, fun j v hv => ⟨by have := h.2.2.2 j v hv; omega, by have := h.2.2.2 j v hv; omega⟩⟩
theorem TrG.within.turns (h : q.within lo hi) {b : Nat} (hb : q.turns b) : lo ≤ b ∧ b < hi := by
  rcases hb with rfl | ⟨j, v, hv, rfl⟩
  · exact h.2.1
  · exact h.2.2.2 j v hv
/-- A tree stays where its blocks do. -/
theorem TrAt.keep (h : TrAt W q w l k) (hw : q.within lo hi) (e : ∀ b, lo ≤ b → b < hi → W'.heap[b]? = W.heap[b]?) : TrAt W' q w l k :=
  ⟨(e _ hw.1.1 hw.1.2).trans h.top, h.lvs.keep (e _ hw.2.1.1 hw.2.1.2), h.row.keep (e _ hw.2.2.1.1 hw.2.2.1.2), h.many, h.roomy,
    fun j v hv => ⟨(h.each j v hv).1, (h.each j v hv).2.1, (h.each j v hv).2.2.1, (h.each j v hv).2.2.2.keep (e _ (hw.2.2.2 j v hv).1 (hw.2.2.2 j v hv).2)⟩, h.apart⟩
theorem TrAt.inside (h : TrAt W q w l k) : q.within 0 W.heap.size :=
  ⟨⟨Nat.zero_le _, h.top.inside⟩, ⟨Nat.zero_le _, h.lvs.inside⟩, ⟨Nat.zero_le _, h.row.inside⟩, fun j v hv => ⟨Nat.zero_le _, (h.each j v hv).2.2.2.inside⟩⟩
theorem TrAt.call (h : TrAt W q w l k) (hb : Below W.heap.size W W') : TrAt W' q w l k := h.keep h.inside fun b _ hlt => hb.block b hlt
theorem TrAt.drew (h : TrAt W q w l k) : TrAt W.drew q w l k := h.keep h.inside fun _ _ _ => rfl
theorem TrAt.past (h : TrAt W q w l k) (o : Obj) : TrAt (W.alloc o) q w l k := h.call (chainA (Below.refl _ _) o)
/-- Another tree is turned. -/
theorem TrAt.off {F : Nat → Prop} (h : TrAt W q w l k) (hw : q.within lo hi) (ho : Off F W W') (hF : ∀ b, F b → b < lo ∨ hi ≤ b) : TrAt W' q w l k := by
  have hin := h.inside
  refine ⟨?_, ?_, ?_, h.many, h.roomy, fun j v hv => ?_, h.apart⟩
  · exact ho.box h.top (fun hf => by have := hF _ hf; have := hw.1; omega)
  · exact h.lvs.off ho (fun hf => by have := hF _ hf; have := hw.2.1; omega)
  · exact h.row.off ho (fun hf => by have := hF _ hf; have := hw.2.2.1; omega)
  · obtain ⟨h1, h2, h3, h4⟩ := h.each j v hv
    exact ⟨h1, h2, h3, h4.off ho (fun hf => by have := hF _ hf; have := hw.2.2.2 j v hv; omega)⟩
theorem TrAt.within_top (h : TrAt W q w l k) (hw : q.within lo hi) : q.within lo W.heap.size := by
  have hi' := h.inside
  exact ⟨⟨hw.1.1, hi'.1.2⟩, ⟨hw.2.1.1, hi'.2.1.2⟩, ⟨hw.2.2.1.1, hi'.2.2.1.2⟩, fun j v hv => ⟨(hw.2.2.2 j v hv).1, (hi'.2.2.2 j v hv).2⟩⟩
/-- A level of it. -/
theorem TrAt.level (h : TrAt W q w l k) {j : Nat} (hj : j ≤ k) : ∃ b c, W.cell? ⟨q.gv, j * 2, none⟩ = some (.slice (some ⟨b, 0, none⟩) (2 ^ (k - j)) c) ∧ W.cell? ⟨q.gv, j * 2 + 1, none⟩ = some (.int .i64 w) ∧
    2 ^ (k - j) ≤ c ∧ ndS.Blk W 49 b (upN w j (l.map (nodeOf w))) ∧ ∃ v, q.ls[j]? = some v ∧ v.b = b := by
  obtain ⟨v, hv⟩ : ∃ v, q.ls[j]? = some v := ⟨_, List.getElem?_eq_getElem (by rw [h.many]; omega)⟩
  obtain ⟨h1, h2, h3, h4⟩ := h.each j v hv
  obtain ⟨c0, c1⟩ := lv_at h.row hv
  rw [h1] at c1
  rw [h2] at c0 h3
  exact ⟨v.b, v.c, c0, c1, h3, h4, v, hv, rfl⟩
theorem TrAt.topcells (h : TrAt W q w l k) : W.cell? ⟨q.g, 0, none⟩ = some (.slice (some ⟨q.gl, 0, none⟩) l.length q.cl) ∧ W.cell? ⟨q.g, 1, none⟩ = some (.slice (some ⟨q.gv, 0, none⟩) (k + 1) q.cv) ∧ q.g < W.heap.size :=
  ⟨h.top.read 0, h.top.read 1, h.top.inside⟩
end
end Go.Proofs.YtkecekfapiegjaaDoor
