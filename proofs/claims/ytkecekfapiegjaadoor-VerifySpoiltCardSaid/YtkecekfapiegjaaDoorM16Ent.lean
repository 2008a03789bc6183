/- Several of my texts, laid as one. -/
import Derived.Test.YtkecekfapiegjaaDoorM15Tre
/-
  Proofs of a tree's leaves: plain words. What stands beside a way; which sides two ways have in common; which side a leaf that is set turns.
-/
namespace Go.Proofs.YtkecekfapiegjaaDoor
set_option linter.unusedVariables false
set_option linter.unusedSimpArgs false
set_option maxRecDepth 10000
open Go.RowKit

theorem sib_half (q : Nat) : sib q / 2 = q / 2 := by unfold sib; split <;> omega
theorem sib_div (p : Nat) {j : Nat} (h : 1 ≤ j) : sib p / 2 ^ j = p / 2 ^ j := by
  obtain ⟨i, rfl⟩ : ∃ i, j = i + 1 := ⟨j - 1, by omega⟩
  rw [Nat.pow_succ, Nat.mul_comm, ← Nat.div_div_eq_div_mul, ← Nat.div_div_eq_div_mul, sib_half]
theorem sib_sib (q : Nat) : sib (sib q) = q := by unfold sib; split <;> split <;> omega
theorem div_meet {a b i j : Nat} (h : i ≤ j) (e : a / 2 ^ i = b / 2 ^ i) : a / 2 ^ j = b / 2 ^ j := by
  rw [show j = i + (j - i) by omega, Nat.pow_add, ← Nat.div_div_eq_div_mul, ← Nat.div_div_eq_div_mul, e]
/-- Two ways that meet have the same sides from there on. -/
theorem sibs_meet (w : Int) (ns : List Nd) (k : Nat) {a b j : Nat} (e : a / 2 ^ j = b / 2 ^ j) : (sibsN w ns a k).drop j = (sibsN w ns b k).drop j := by
  apply List.ext_getElem?
  intro i
  rw [List.getElem?_drop, List.getElem?_drop]
  by_cases hi : j + i < k
  · rw [sibs_at w ns a hi, sibs_at w ns b hi, div_meet (by omega : j ≤ j + i) e]
  · rw [List.getElem?_eq_none (by rw [sibs_len]; omega), List.getElem?_eq_none (by rw [sibs_len]; omega)]
theorem sibs_first (w : Int) (ns : List Nd) (p : Nat) {k : Nat} (h : 0 < k) : (sibsN w ns p k)[0]? = some (sibN ns p) := by
  rw [sibs_at w ns p h, Nat.pow_zero, Nat.div_one]; rfl
section
variable {w : Int} {l : List Lf} {k : Nat}
/-- From a leaf's node, by what stands beside its way, one climbs to the top. -/
theorem FairT.climbs (h : FairT w l k) {p : Nat} (hp : p < 2 ^ k) {x : Lf} (hx : l[p]? = some x) : climbN w (nodeOf w x) p (sibsN w (l.map (nodeOf w)) p k) = (topN w l k, 0) := by
  have hn : (l.map (nodeOf w))[p]? = some (nodeOf w x) := by rw [List.getElem?_map, hx]; rfl
  obtain ⟨y, e, hy⟩ := own_way h.may h.nlen h.halved h.of h.room hp hn k (Nat.le_refl _)
  rw [List.take_of_length_le (by rw [sibs_len]; exact Nat.le_refl _)] at e
  rw [Nat.div_eq_of_lt hp] at hy
  have hs := sibs_halved h.may h.nlen h.halved h.of h.room hp
  have ha : allW w (sibsN w (l.map (nodeOf w)) p k) = true := by
    rw [allW, h.may, Bool.true_and]
    exact List.all_eq_true.2 fun s hs' => (hs s hs').2
  rw [climbN, h.of _ (List.mem_of_getElem? hn), ha, Bool.and_self, if_pos rfl, if_pos (by rw [sibs_len]; have := h.few; omega), e, topN, ndAt, List.getD_eq_getElem?_getD, hy]
  rfl
theorem FairT.sides (h : FairT w l k) {p : Nat} (hp : p < 2 ^ k) : allW w (sibsN w (l.map (nodeOf w)) p k) = true := by
  rw [allW, h.may, Bool.true_and]
  exact List.all_eq_true.2 fun s hs' => (sibs_halved h.may h.nlen h.halved h.of h.room hp s hs').2
theorem FairT.sidesHalved (h : FairT w l k) {p : Nat} (hp : p < 2 ^ k) : ∀ s ∈ sibsN w (l.map (nodeOf w)) p k, s.halved := fun s hs => (sibs_halved h.may h.nlen h.halved h.of h.room hp s hs).1
/-- What doesn't stand above a leaf that is set stays. -/
theorem FairT.stays (h : FairT w l k) {p : Nat} {x : Lf} (h2 : FairT w (l.set p x) k) {j q : Nat} (hj : j ≤ k) (hq : q ≠ p / 2 ^ j) : (upN w j ((l.set p x).map (nodeOf w)))[q]? = (upN w j (l.map (nodeOf w)))[q]? := by
  obtain ⟨a1, a2⟩ := upN_at h.may h.nlen h.halved h.of h.room j hj
  obtain ⟨b1, b2⟩ := upN_at h2.may h2.nlen h2.halved h2.of h2.room j hj
  by_cases hi : q < 2 ^ (k - j)
  · rw [a2 q hi, b2 q hi, List.map_set, blk_set _ hq]
  · rw [List.getElem?_eq_none (by omega), List.getElem?_eq_none (by omega)]
/-- The side of a way at a level is another one only where it stands above the leaf that was set. -/
theorem FairT.side_stays (h : FairT w l k) {p : Nat} {x : Lf} (h2 : FairT w (l.set p x) k) (i : Nat) {j : Nat} (hj : j < k) (hq : sib (i / 2 ^ j) ≠ p / 2 ^ j) :
    (sibsN w ((l.set p x).map (nodeOf w)) i k)[j]? = (sibsN w (l.map (nodeOf w)) i k)[j]? := by
  rw [sibs_at w _ i hj, sibs_at w _ i hj, sibN, sibN, List.getD_eq_getElem?_getD, List.getD_eq_getElem?_getD, h.stays h2 (by omega) hq]
theorem FairT.own_stays (h : FairT w l k) {p : Nat} {x : Lf} (h2 : FairT w (l.set p x) k) : sibsN w ((l.set p x).map (nodeOf w)) p k = sibsN w (l.map (nodeOf w)) p k := by
  apply List.ext_getElem?
  intro j
  by_cases hj : j < k
  · exact h.side_stays h2 p hj fun e => sib_ne _ e.symm
  · rw [List.getElem?_eq_none (by rw [sibs_len]; omega), List.getElem?_eq_none (by rw [sibs_len]; omega)]
end
/-- Only at one level it stands there. -/
theorem side_once {i p a b : Nat} (h : sib (i / 2 ^ a) = p / 2 ^ a) (hab : a < b) : sib (i / 2 ^ b) ≠ p / 2 ^ b := fun e => by
  have h1 : i / 2 ^ (a + 1) = p / 2 ^ (a + 1) := by
    rw [Nat.pow_succ, ← Nat.div_div_eq_div_mul, ← Nat.div_div_eq_div_mul, ← h, sib_half]
  rw [div_meet (by omega : a + 1 ≤ b) h1] at e
  exact sib_ne _ e.symm
/-- What Shape tells of a width, a height, a position and sides. -/
def shapeN (w h : Int) (p : Nat) (l : List Nd) : Int :=
  if h < 0 ∨ 63 < h then 120 else if allW w l = true then (if (l.length : Int) = h ∧ p < 2 ^ l.length then 0 else 160) else 70
section
variable {w : Int} {l : List Lf} {k : Nat}
theorem FairT.shape (h : FairT w l k) {p : Nat} (hp : p < 2 ^ k) : shapeN w k p (sibsN w (l.map (nodeOf w)) p k) = 0 := by
  rw [shapeN, if_neg (by have := h.few; omega), if_pos (h.sides hp), sibs_len, if_pos ⟨rfl, hp⟩]
theorem FairT.misshape (h : FairT w l k) {p : Nat} (hp : p < 2 ^ k) : shapeN w ((k : Int) + 1) p (sibsN w (l.map (nodeOf w)) p k) = 160 := by
  rw [shapeN, if_neg (by have := h.few; omega), if_pos (h.sides hp), sibs_len, if_neg (by omega)]
end
end Go.Proofs.YtkecekfapiegjaaDoor
/-
  Entries in memory: rows of them, and where what stands beside a way lies.
-/
namespace Go.Proofs.YtkecekfapiegjaaDoor
set_option linter.unusedVariables false
set_option linter.unusedSimpArgs false
set_option maxRecDepth 10000
open Go.RowKit

/-- An entry's cells. -/
abbrev enV (x : Lf) (p : Int) (A : Option Addr) (n c : Nat) : Array Value := #[.bool x.pad, .string x.id, .string x.salt, .int .u64 x.h, .int .u64 x.l, .int .u64 p, .slice A n c]
theorem Box.seven {w : World} {g : Nat} {t : TypeId} {a b c d e f i : Value} (h : Box w g t #[a, b, c, d, e, f, i]) :
    (w.cell? ⟨g, 0, none⟩ = some a ∧ w.cell? ⟨g, 1, none⟩ = some b ∧ w.cell? ⟨g, 2, none⟩ = some c ∧ w.cell? ⟨g, 3, none⟩ = some d ∧ w.cell? ⟨g, 4, none⟩ = some e ∧ w.cell? ⟨g, 5, none⟩ = some f ∧ w.cell? ⟨g, 6, none⟩ = some i) ∧ g < w.heap.size :=
  ⟨⟨h.read 0, h.read 1, h.read 2, h.read 3, h.read 4, h.read 5, h.read 6⟩, h.inside⟩
/-- An entry as it lies: its leaf, its position, the row of its sides. -/
structure EnM where
  lf : Lf
  pos : Int
  A : Option Addr
  n : Nat
  c : Nat
def enS : Sh EnM where
  cells x := [.bool x.lf.pad, .string x.lf.id, .string x.lf.salt, .int .u64 x.lf.h, .int .u64 x.lf.l, .int .u64 x.pos, .slice x.A x.n x.c]
  k := 7
  len _ := rfl
  pos := by decide
  one x u hu := by
    simp only [List.mem_cons, List.not_mem_nil, or_false] at hu
    rcases hu with rfl | rfl | rfl | rfl | rfl | rfl | rfl <;> rfl
theorem en_get {w : World} {B : Nat} {A : Option Addr} {xs : List EnM} (h : enS.Row w B A xs) {i : Nat} {x : EnM} (hx : xs[i]? = some x) : ∃ ad, A = some ad ∧ (ad.add (i * 7)).block < B ∧
    w.cell? (ad.add (i * 7)) = some (.bool x.lf.pad) ∧ w.cell? ⟨(ad.add (i * 7)).block, (ad.add (i * 7)).off + 1, none⟩ = some (.string x.lf.id) ∧ w.cell? ⟨(ad.add (i * 7)).block, (ad.add (i * 7)).off + 2, none⟩ = some (.string x.lf.salt) ∧
    w.cell? ⟨(ad.add (i * 7)).block, (ad.add (i * 7)).off + 3, none⟩ = some (.int .u64 x.lf.h) ∧ w.cell? ⟨(ad.add (i * 7)).block, (ad.add (i * 7)).off + 4, none⟩ = some (.int .u64 x.lf.l) ∧
    w.cell? ⟨(ad.add (i * 7)).block, (ad.add (i * 7)).off + 5, none⟩ = some (.int .u64 x.pos) ∧ w.cell? ⟨(ad.add (i * 7)).block, (ad.add (i * 7)).off + 6, none⟩ = some (.slice x.A x.n x.c) := by
  obtain ⟨ad, e, hl, hc⟩ := h i x hx
  exact ⟨ad, e, by rw [gen_block]; exact hl, hc 0 _ rfl, hc 1 _ rfl, hc 2 _ rfl, hc 3 _ rfl, hc 4 _ rfl, hc 5 _ rfl, hc 6 _ rfl⟩
/-- Sides lie there: in a block of their own from a height on, or there are none. -/
def SdAt (W : World) (lo : Nat) (A : Option Addr) (l : List Nd) : Prop := l = [] ∨ ∃ g, A = some ⟨g, 0, none⟩ ∧ lo ≤ g ∧ l ≠ [] ∧ ndS.Blk W 49 g l
section
variable {W W' : World} {lo : Nat} {A : Option Addr} {l : List Nd}
theorem SdAt.row (h : SdAt W lo A l) : ndS.Row W W.heap.size A l := by
  rcases h with rfl | ⟨g, rfl, -, -, hB⟩
  · exact Sh.Row.nil _ _ _ _
  · exact hB.row
theorem SdAt.keep (h : SdAt W lo A l) (e : ∀ b, lo ≤ b → b < W.heap.size → (∃ cs fr, W.heap[b]? = some (.cells cs 49 fr)) → W'.heap[b]? = W.heap[b]?) : SdAt W' lo A l := by
  rcases h with h | ⟨g, h1, h2, h3, hB⟩
  · exact Or.inl h
  · refine Or.inr ⟨g, h1, h2, h3, hB.keep (e g h2 hB.inside ?_)⟩
    obtain ⟨cur, rest, hb, -⟩ := hB
    exact ⟨_, _, hb⟩
theorem SdAt.call (h : SdAt W lo A l) (hb : Below W.heap.size W W') : SdAt W' lo A l := h.keep fun b _ hlt _ => hb.block b hlt
theorem SdAt.more {lo' : Nat} (h : SdAt W lo A l) (hl : lo' ≤ lo) : SdAt W lo' A l := by
  rcases h with h | ⟨g, h1, h2, h3, hB⟩
  · exact Or.inl h
  · exact Or.inr ⟨g, h1, Nat.le_trans hl h2, h3, hB⟩
theorem SdAt.off {F : Nat → Prop} (h : SdAt W lo A l) (ho : Off F W W') (hF : ∀ b, F b → b < lo) : SdAt W' lo A l := h.keep fun b hb hlt _ => ho.block b hlt fun hf => by have := hF b hf; omega
theorem SdAt.of_own {b : Nat} {v : Value} (h : W.ownsRow b 49 3 v l.length (ndS.flat l)) : ∃ A c, v = .slice A l.length c ∧ SdAt W b A l ∧ l.length ≤ c := by
  by_cases hl : l = []
  · subst hl
    obtain ⟨A, c, rfl, -, -⟩ := Sh.own_row (S := ndS) (l := []) h
    exact ⟨A, c, rfl, Or.inl rfl, Nat.zero_le _⟩
  · obtain ⟨g, c, rfl, hg, hc, hB⟩ := Sh.Blk.of_own (S := ndS) h hl
    exact ⟨_, c, rfl, Or.inr ⟨g, rfl, hg, hl, hB⟩, hc⟩
end
theorem own_ty {W : World} {b k n g : Nat} {T t : TypeId} {v : Value} {xs : List Value} (h : W.ownsRow b T k v n xs) {cs : Array Value} {fr : Nat × Nat} (hc : W.heap[g]? = some (.cells cs t fr)) (ht : t ≠ T) : some g ≠ v.ownBlock := fun e => by
  rcases h.2 with ⟨rfl, -⟩ | ⟨g', cap, cur, rfl, -, hg, -⟩
  · cases e
  · injection e with e
    subst e
    rw [hc] at hg
    injection hg with hg
    injection hg with _ h2 _
    exact ht h2
set_option maxHeartbeats 4000000 in
theorem Has.wrote7 {w W : World} {g : Nat} {T : TypeId} {l : List Blk} {a0 b0 c0 d0 e0 f0 i0 : Value} (K : Has w ((g, T, #[a0, b0, c0, d0, e0, f0, i0]) :: l) W) (hg : w.heap.size ≤ g) (hl : ∀ x ∈ l, x.1 < g) (x y z u v s t : Value) :
    Has w ((g, T, #[x, y, z, u, v, s, t]) :: l) (((((((W.setCell ⟨g, 0, none⟩ x).setCell ⟨g, 1, none⟩ y).setCell ⟨g, 2, none⟩ z).setCell ⟨g, 3, none⟩ u).setCell ⟨g, 4, none⟩ v).setCell ⟨g, 5, none⟩ s).setCell ⟨g, 6, none⟩ t) := by
  have hn : ∀ x ∈ l, x.1 ≠ g := fun x hx => Nat.ne_of_lt (hl x hx)
  exact ((((((K.wrote hg hn 0 x).wrote hg hn 1 y).wrote hg hn 2 z).wrote hg hn 3 u).wrote hg hn 4 v).wrote hg hn 5 s).wrote hg hn 6 t
theorem put7_off (W : World) (g : Nat) (x y z u v s t : Value) : Off (One g) W (((((((W.setCell ⟨g, 0, none⟩ x).setCell ⟨g, 1, none⟩ y).setCell ⟨g, 2, none⟩ z).setCell ⟨g, 3, none⟩ u).setCell ⟨g, 4, none⟩ v).setCell ⟨g, 5, none⟩ s).setCell ⟨g, 6, none⟩ t) :=
  (((((((Off.refl (One g) W).set_ (p := ⟨g, 0, none⟩) (Or.inl (rfl : _ = g)) x).set_ (p := ⟨g, 1, none⟩) (Or.inl (rfl : _ = g)) y).set_ (p := ⟨g, 2, none⟩) (Or.inl (rfl : _ = g)) z).set_ (p := ⟨g, 3, none⟩) (Or.inl (rfl : _ = g)) u).set_ (p := ⟨g, 4, none⟩) (Or.inl (rfl : _ = g)) v).set_ (p := ⟨g, 5, none⟩) (Or.inl (rfl : _ = g)) s).set_ (p := ⟨g, 6, none⟩) (Or.inl (rfl : _ = g)) t
theorem SdAt.offOne {W W' : World} {lo g : Nat} {A : Option Addr} {l : List Nd} {t : TypeId} {cs : Array Value} (h : SdAt W lo A l) (ho : Off (One g) W W') (hB : Box W g t cs) (ht : 49 ≠ t) : SdAt W' lo A l :=
  h.keep fun b _ hlt ⟨cs', fr, hc⟩ => ho.block b hlt fun (e : b = g) => by
    rw [e, show W.heap[g]? = _ from hB] at hc
    injection hc with hc
    injection hc with _ h2 _
    exact ht h2.symm
theorem Box.seven_free {w : World} {g : Nat} {t : TypeId} {cs : Array Value} (h : Box w g t cs) :
    w.frozen? ⟨g, 0, none⟩ = false ∧ w.frozen? ⟨g, 1, none⟩ = false ∧ w.frozen? ⟨g, 2, none⟩ = false ∧ w.frozen? ⟨g, 3, none⟩ = false ∧ w.frozen? ⟨g, 4, none⟩ = false ∧ w.frozen? ⟨g, 5, none⟩ = false ∧ w.frozen? ⟨g, 6, none⟩ = false :=
  ⟨h.free 0, h.free 1, h.free 2, h.free 3, h.free 4, h.free 5, h.free 6⟩
/-- Leaves, each with its position. -/
def posL (l : List Lf) : List (Nat × Lf) := (List.range l.length).map fun i => (i, lfAt l i)
theorem posL_len (l : List Lf) : (posL l).length = l.length := by simp [posL]
theorem lfAt_some {l : List Lf} {i : Nat} {x : Lf} (h : l[i]? = some x) : lfAt l i = x := by rw [lfAt, List.getD_eq_getElem?_getD, h]; rfl
theorem posL_at {l : List Lf} {i : Nat} {x : Lf} (h : l[i]? = some x) : (posL l)[i]? = some (i, x) := by
  rw [posL, List.getElem?_map, List.getElem?_range (List.getElem?_eq_some_iff.1 h).1, Option.map_some, lfAt_some h]
/-- Entries as they lie are those of these positions: each leaf with its position and its sides. -/
def EnOk (W : World) (lo : Nat) (S : Nat → List Nd) (pre : List (Nat × Lf)) (ms : List EnM) : Prop := ∀ (i : Nat) m, ms[i]? = some m → ∃ q, pre[i]? = some q ∧ m.lf = q.2 ∧ m.pos = (q.1 : Int) ∧ m.n = (S q.1).length ∧ SdAt W lo m.A (S q.1)
section
variable {W W' : World} {lo : Nat} {S : Nat → List Nd} {pre : List (Nat × Lf)} {ms : List EnM}
theorem EnOk.keep (h : EnOk W lo S pre ms) (e : ∀ b, lo ≤ b → b < W.heap.size → (∃ cs fr, W.heap[b]? = some (.cells cs 49 fr)) → W'.heap[b]? = W.heap[b]?) : EnOk W' lo S pre ms := fun i m hm => by
  obtain ⟨q, h1, h2, h3, h4, h5⟩ := h i m hm
  exact ⟨q, h1, h2, h3, h4, h5.keep e⟩
theorem EnOk.call (h : EnOk W lo S pre ms) (hb : Below W.heap.size W W') : EnOk W' lo S pre ms := h.keep fun b _ hlt _ => hb.block b hlt
theorem EnOk.off {F : Nat → Prop} (h : EnOk W lo S pre ms) (ho : Off F W W') (hF : ∀ b, F b → b < lo) : EnOk W' lo S pre ms := h.keep fun b hb hlt _ => ho.block b hlt fun hf => by have := hF b hf; omega
theorem EnOk.more {lo' : Nat} (h : EnOk W lo S pre ms) (hl : lo' ≤ lo) : EnOk W lo' S pre ms := fun i m hm => by
  obtain ⟨q, h1, h2, h3, h4, h5⟩ := h i m hm
  exact ⟨q, h1, h2, h3, h4, h5.more hl⟩
theorem EnOk.grown (h : EnOk W lo S pre ms) {b k n : Nat} {T : TypeId} {v : Value} {xs : List Value} (ho : W.ownsRow b T k v n xs) (hT : 49 ≠ T) (hg : W.grownBy W' v.ownBlock) : EnOk W' lo S pre ms :=
  h.keep fun i _ hlt ⟨cs, fr, hc⟩ => hg.block i hlt (own_ty ho hc hT)
/-- A block of another sort is written. -/
theorem EnOk.set_ (h : EnOk W lo S pre ms) {g : Nat} {t : TypeId} {cs : Array Value} (hB : Box W g t cs) (ht : 49 ≠ t) (i : Nat) (u : Value) : EnOk (W.setCell ⟨g, i, none⟩ u) lo S pre ms := h.keep fun b _ _ hc => by
  refine Below.heap_setCell W _ u b fun e => ?_
  obtain ⟨cs', fr, hc⟩ := hc
  rw [show b = g from e, show W.heap[g]? = _ from hB] at hc
  injection hc with hc
  injection hc with _ h2 _
  exact ht h2.symm
theorem EnOk.snoc (h : EnOk W lo S pre ms) (hl : ms.length = pre.length) {q : Nat × Lf} {m : EnM} (h1 : m.lf = q.2) (h2 : m.pos = (q.1 : Int)) (h3 : m.n = (S q.1).length) (h4 : SdAt W lo m.A (S q.1)) : EnOk W lo S (pre ++ [q]) (ms ++ [m]) := fun i x hx => by
  by_cases hi : i < ms.length
  · rw [List.getElem?_append_left hi] at hx
    obtain ⟨r, g1, g2⟩ := h i x hx
    exact ⟨r, by rw [List.getElem?_append_left (by omega)]; exact g1, g2⟩
  · rw [List.getElem?_append_right (by omega)] at hx
    have e : i = ms.length := by
      have := (List.getElem?_eq_some_iff.1 hx).1
      simp at this
      omega
    subst e
    rw [Nat.sub_self] at hx
    obtain rfl : m = x := by simpa using hx
    exact ⟨q, by rw [List.getElem?_append_right (by omega), hl, Nat.sub_self]; rfl, h1, h2, h3, h4⟩
/-- The entry of a position. -/
theorem EnOk.at_ {l : List Lf} (h : EnOk W lo S (posL l) ms) (hl : ms.length = l.length) {i : Nat} {x : Lf} (hx : l[i]? = some x) : ∃ A c, ms[i]? = some ⟨x, i, A, (S i).length, c⟩ ∧ SdAt W lo A (S i) := by
  have hi := (List.getElem?_eq_some_iff.1 hx).1
  obtain ⟨m, hm⟩ : ∃ m, ms[i]? = some m := ⟨_, List.getElem?_eq_getElem (by omega)⟩
  obtain ⟨q, h1, h2, h3, h4, h5⟩ := h i m hm
  rw [posL_at hx] at h1
  injection h1 with h1
  subst h1
  obtain ⟨lf, pos, A, n, c⟩ := m
  simp only at h2 h3 h4 h5
  subst h2 h3 h4
  exact ⟨A, c, hm, h5⟩
end
end Go.Proofs.YtkecekfapiegjaaDoor
