/- Several of my texts, laid as one. -/
import Derived.Test.YtmflhodiibjpnaaDoorM8In
import Derived.Test.YtmflhodiibjpnaaDoorM8Out
import Derived.Test.YtmflhodiibjpnaaDoorW8Low
import Derived.Test.YtmflhodiibjpnaaDoorM13Nod
import Derived.Deep.RegionHeld3
import Derived.Laws.EntriesVeiled
/-
  What octet's In reads, and Out writes, beside blocks of the call's own; what is held in regions that draw.
-/
namespace Go.Proofs.YtmflhodiibjpnaaDoor
set_option linter.unusedVariables false
set_option linter.unusedSimpArgs false
set_option maxRecDepth 10000
open Go.RowKit

/-- The In lies at g with what is left; these blocks are the call's own; all else is as it was. -/
def Rp (w : World) (g : Nat) (st : StR) (l : List Blk) (W : World) : Prop := InS W g st ∧ (∀ x ∈ l, Box W x.1 x.2.1 x.2.2 ∧ w.heap.size ≤ x.1 ∧ x.1 ≠ g) ∧ Off (One g) w W
section
variable {w W w' : World} {g b : Nat} {st st' : StR} {l : List Blk} {t : TypeId} {cs : Array Value}
theorem Rp.start (h : InS w g st) : Rp w g st [] w := ⟨h, fun x hx => by simp at hx, Off.refl _ _⟩
theorem Rp.inS (h : Rp w g st l W) : InS W g st := h.1
theorem Rp.off (h : Rp w g st l W) : Off (One g) w W := h.2.2
theorem Rp.size (h : Rp w g st l W) : w.heap.size ≤ W.heap.size := h.2.2.size
theorem Rp.add (h : Rp w g st l W) (t : TypeId) (cs : Array Value) : Rp w g st ((W.heap.size, t, cs) :: l) (W.alloc (.cells cs t)) :=
  ⟨h.1.call (chainA (Below.refl _ _) _), fun x hx => by
    rcases List.mem_cons.1 hx with rfl | hx
    · exact ⟨Box.made W t cs, h.size, Nat.ne_of_gt h.1.inside⟩
    · exact ⟨(h.2.1 x hx).1.past _, (h.2.1 x hx).2⟩, h.2.2.past _⟩
theorem Rp.past (h : Rp w g st l W) (o : Obj) : Rp w g st l (W.alloc o) := ⟨h.1.call (chainA (Below.refl _ _) _), fun x hx => ⟨(h.2.1 x hx).1.past o, (h.2.1 x hx).2⟩, h.2.2.past _⟩
theorem Rp.drew (h : Rp w g st l W) : Rp w g st l W.drew := ⟨h.1.call (Below.refl _ _).drew, fun x hx => ⟨(h.2.1 x hx).1, (h.2.1 x hx).2⟩, h.2.2.drew⟩
theorem Rp.read (h : Rp w g st l W) (hs : InS w' g st') (k : Off (One g) W w') : Rp w g st' l w' :=
  ⟨hs, fun x hx => ⟨k.box (h.2.1 x hx).1 (fun e => (h.2.1 x hx).2.2 e), (h.2.1 x hx).2⟩, h.2.2.trans k⟩
theorem Rp.call (h : Rp w g st l W) (hb : Below W.heap.size W w') : Rp w g st l w' := ⟨h.1.call hb, fun x hx => ⟨(h.2.1 x hx).1.call hb, (h.2.1 x hx).2⟩, h.2.2.call hb⟩
theorem Rp.swap {x y : Blk} (h : Rp w g st (x :: y :: l) W) : Rp w g st (y :: x :: l) W :=
  ⟨h.1, fun z hz => h.2.1 z (by simp only [List.mem_cons] at hz ⊢; rcases hz with h | h | h <;> simp [h]), h.2.2⟩
theorem Rp.tail {x : Blk} (h : Rp w g st (x :: l) W) : Rp w g st l W := ⟨h.1, fun y hy => h.2.1 y (by simp [hy]), h.2.2⟩
theorem Rp.box (h : Rp w g st l W) (n : Nat) (e : l[n]? = some (b, t, cs) := by rfl) : Box W b t cs := (h.2.1 (b, t, cs) (List.mem_of_getElem? e)).1
theorem Rp.wrote (h : Rp w g st ((b, t, cs) :: l) W) (ht : 5 ≠ t) (hl : ∀ x ∈ l, x.1 ≠ b) (i : Nat) (u : Value) : Rp w g st ((b, t, cs.setIfInBounds i u) :: l) (W.setCell ⟨b, i, none⟩ u) := by
  have hb := h.2.1 (b, t, cs) (by simp)
  have hk : Off (One b) W (W.setCell ⟨b, i, none⟩ u) := (Off.refl (One b) W).set_ (p := ⟨b, i, none⟩) (Or.inl rfl) u
  refine ⟨h.1.off hk hb.1 (fun e => hb.2.2 e.symm) ht, fun x hx => ?_, h.2.2.set_ (p := ⟨b, i, none⟩) (Or.inr hb.2.1) u⟩
  rcases List.mem_cons.1 hx with rfl | hx
  · exact ⟨hb.1.wrote i u, hb.2⟩
  · exact ⟨hk.box (h.2.1 x (by simp [hx])).1 (fun e => hl x hx e), (h.2.1 x (by simp [hx])).2⟩
end
/-- The Out lies at g with what is written; these blocks are the call's own; all else is as it was. -/
def Wp (w : World) (g : Nat) (o : Option ByteArray) (l : List Blk) (W : World) : Prop := OutS W g o ∧ (∀ x ∈ l, Box W x.1 x.2.1 x.2.2 ∧ x.1 ≠ g) ∧ Off (One g) w W
section
variable {w W w' : World} {g b : Nat} {o o' : Option ByteArray} {l : List Blk} {t : TypeId} {cs : Array Value}
theorem Wp.start (h : OutS w g o) : Wp w g o [] w := ⟨h, fun x hx => by simp at hx, Off.refl _ _⟩
theorem Wp.outS (h : Wp w g o l W) : OutS W g o := h.1
theorem Wp.off (h : Wp w g o l W) : Off (One g) w W := h.2.2
theorem Wp.add (h : Wp w g o l W) (t : TypeId) (cs : Array Value) : Wp w g o ((W.heap.size, t, cs) :: l) (W.alloc (.cells cs t)) :=
  ⟨h.1.call (chainA (Below.refl _ _) _), fun x hx => by
    rcases List.mem_cons.1 hx with rfl | hx
    · exact ⟨Box.made W t cs, Nat.ne_of_gt h.1.inside⟩
    · exact ⟨(h.2.1 x hx).1.past _, (h.2.1 x hx).2⟩, h.2.2.past _⟩
theorem Wp.with (h : Wp w g o l W) (hb : Box W b t cs) (hne : b ≠ g) : Wp w g o ((b, t, cs) :: l) W := ⟨h.1, fun x hx => by
  rcases List.mem_cons.1 hx with rfl | hx
  · exact ⟨hb, hne⟩
  · exact h.2.1 x hx, h.2.2⟩
theorem Wp.put (h : Wp w g o l W) (hs : OutS w' g o') (k : Off (One g) W w') : Wp w g o' l w' :=
  ⟨hs, fun x hx => ⟨k.box (h.2.1 x hx).1 (fun e => (h.2.1 x hx).2 e), (h.2.1 x hx).2⟩, h.2.2.trans k⟩
theorem Wp.drew (h : Wp w g o l W) : Wp w g o l W.drew := ⟨h.1.call (Below.refl _ _).drew, fun x hx => ⟨(h.2.1 x hx).1, (h.2.1 x hx).2⟩, h.2.2.drew⟩
theorem Wp.call (h : Wp w g o l W) (hb : Below W.heap.size W w') : Wp w g o l w' := ⟨h.1.call hb, fun x hx => ⟨(h.2.1 x hx).1.call hb, (h.2.1 x hx).2⟩, h.2.2.call hb⟩
theorem Wp.box (h : Wp w g o l W) (n : Nat) (e : l[n]? = some (b, t, cs) := by rfl) : Box W b t cs := (h.2.1 (b, t, cs) (List.mem_of_getElem? e)).1
end
/-- An Out isn't a block of another type. -/
theorem OutS.ne {w : World} {g b : Nat} {o : Option ByteArray} {t : TypeId} {cs : Array Value} (h : OutS w g o) (hb : Box w b t cs) (ht : 27 ≠ t) : b ≠ g := by
  have hg : TyAt w g 27 := by
    cases o with
    | none => exact ⟨_, _, h⟩
    | some s => obtain ⟨p, l, h, -⟩ := h; exact ⟨_, _, h⟩
  exact (hg.ne hb ht).symm
theorem InS.ne {w : World} {g b : Nat} {st : StR} {t : TypeId} {cs : Array Value} (h : InS w g st) (hb : Box w b t cs) (ht : 59 ≠ t) : b ≠ g := by
  have hg : TyAt w g 59 := by
    obtain ⟨cs, h⟩ := h.box
    exact ⟨_, _, h⟩
  exact (hg.ne hb ht).symm
/- What holds of every world in which only g has turned, held in a region that draws. -/
section
variable {S : Nat → Prop} {W U U' : World} {C : World → Prop}
theorem off_start (fact : ∀ u, Off S W u → C u) {V : World} (h : Off S W V) : Off S W V.drew ∧ C V.drew := ⟨h.drew, fact _ h.drew⟩
theorem off_call (fact : ∀ u, Off S W u → C u) (h : Off S W U ∧ C U) (k : Off S U U') : Off S W U' ∧ C U' := ⟨h.1.trans k, fact _ (h.1.trans k)⟩
theorem off_same (fact : ∀ u, Off S W u → C u) (h : Off S W U ∧ C U) (k : Below U.heap.size U U') : Off S W U' ∧ C U' := ⟨h.1.call k, fact _ (h.1.call k)⟩
theorem off_past (fact : ∀ u, Off S W u → C u) (h : Off S W U ∧ C U) (o : Obj) : Off S W (U.alloc o) ∧ C (U.alloc o) := ⟨h.1.past o, fact _ (h.1.past o)⟩
theorem off_set (fact : ∀ u, Off S W u → C u) (h : Off S W U ∧ C U) {p : Addr} (hp : W.heap.size ≤ p.block) (v : Value) : Off S W (U.setCell p v) ∧ C (U.setCell p v) := ⟨h.1.set_ (Or.inr hp) v, fact _ (h.1.set_ (Or.inr hp) v)⟩
end
/-- A row of such, where one other block has turned. -/
theorem Sh.Row.off {α : Type} {S : Sh α} {w w' : World} {g B : Nat} {A : Option Addr} {xs : List α} (h : S.Row w B A xs) (k : Off (One g) w w') (hB : B ≤ w.heap.size) (hg : ∀ ad, A = some ad → xs ≠ [] → ad.block ≠ g) : S.Row w' B A xs := fun i x hx => by
  obtain ⟨ad, e, hl, hc⟩ := h i x hx
  have hne : xs ≠ [] := fun e => by rw [e] at hx; simp at hx
  refine ⟨ad, e, hl, hc.keep ?_⟩
  rw [gen_block]
  exact k.block _ (Nat.lt_of_lt_of_le hl hB) (fun e2 => hg ad e hne e2)
end Go.Proofs.YtmflhodiibjpnaaDoor
/-
  pack's sorts: their functions, and where what these have captured lies.
-/
namespace Go.Proofs.YtmflhodiibjpnaaDoor
set_option linter.unusedVariables false
set_option linter.unusedSimpArgs false
set_option maxRecDepth 10000
open Go.RowKit

theorem Box.cellOf {w : World} {g : Nat} {t : TypeId} {cs : Array Value} (h : Box w g t cs) {a : Addr} (ha : a.block = g) {v : Value} (hv : w.cell? a = some v) : ∃ i : Nat, cs[i]? = some v := by
  unfold Box at h
  unfold World.cell? at hv
  rw [ha, h] at hv
  simp only at hv
  split at hv
  · cases hv
  · exact ⟨_, hv⟩
/-- An In or an Out lies there. -/
def Port (w : World) (g : Nat) : Prop := TyAt w g 59 ∨ TyAt w g 27
theorem InS.port {w : World} {g : Nat} {st : StR} (h : InS w g st) : Port w g := by
  obtain ⟨cs, h⟩ := h.box
  exact Or.inl ⟨_, _, h⟩
theorem OutS.port {w : World} {g : Nat} {o : Option ByteArray} (h : OutS w g o) : Port w g := by
  cases o with
  | none => exact .inr ⟨_, _, h⟩
  | some s => obtain ⟨p, l, h, -⟩ := h; exact .inr ⟨_, _, h⟩
theorem Port.ne {w : World} {g b : Nat} {t : TypeId} {cs : Array Value} (h : Port w g) (hb : Box w b t cs) (h1 : 59 ≠ t) (h2 : 27 ≠ t) : b ≠ g := by
  rcases h with h | h
  · exact (h.ne hb h1).symm
  · exact (h.ne hb h2).symm
/-- A row whose things begin with what is no cell of an Out isn't in it. -/
theorem OutS.row {α : Type} {S : Sh α} {w : World} {g B : Nat} {o : Option ByteArray} {A : Option Addr} {xs : List α} (h : OutS w g o) (hR : S.Row w B A xs)
    (hS : ∀ x, ∃ v, (S.cells x)[0]? = some v ∧ (∀ p, v ≠ .pointer p) ∧ (∀ n, v ≠ .int .i64 n) ∧ ∀ b, v ≠ .bool b) : ∀ ad, A = some ad → xs ≠ [] → ad.block ≠ g := by
  intro ad hA hne e
  subst hA
  cases xs with
  | nil => exact hne rfl
  | cons x r =>
    obtain ⟨ad2, e2, -, hc⟩ := hR 0 x rfl
    injection e2 with e2
    subst e2
    obtain ⟨v, hv, n1, n2, n3⟩ := hS x
    have hcell := hc 0 v hv
    have hb : ((ad.add (0 * S.k)).add 0).block = g := by rw [gen_block, gen_block]; exact e
    have fin : ∀ (p : Option Addr) (n : Int) (b : Bool), Box w g 27 #[.pointer p, .int .i64 n, .bool b] → False := fun p n b hb2 => by
      obtain ⟨i, hi⟩ := Box.cellOf hb2 hb hcell
      match i with
      | 0 => exact n1 p (by simpa using hi.symm)
      | 1 => exact n2 n (by simpa using hi.symm)
      | 2 => exact n3 b (by simpa using hi.symm)
      | i + 3 => simp at hi
    cases o with
    | none => exact fin _ _ _ h
    | some s => obtain ⟨p, l, h, -⟩ := h; exact fin _ _ _ h
theorem nd_notOut (x : Nd) : ∃ v, (ndS.cells x)[0]? = some v ∧ (∀ p, v ≠ .pointer p) ∧ (∀ n, v ≠ .int .i64 n) ∧ ∀ b, v ≠ .bool b := ⟨_, rfl, by simp, by simp, by simp⟩
theorem ch_notOut (x : ChP) : ∃ v, (chS.cells x)[0]? = some v ∧ (∀ p, v ≠ .pointer p) ∧ (∀ n, v ≠ .int .i64 n) ∧ ∀ b, v ≠ .bool b := ⟨_, rfl, by simp, by simp, by simp⟩
/- The sorts' cells. -/
abbrev fn0 (k : FuncId) : Value := .func (.func k) #[] #[]
abbrev fn1 (k : FuncId) (c : Nat) : Value := .func (.func k) #[] #[.pointer (some ⟨c, 0, none⟩)]
abbrev fn2 (k : FuncId) (c d : Nat) : Value := .func (.func k) #[] #[.pointer (some ⟨c, 0, none⟩), .pointer (some ⟨d, 0, none⟩)]
abbrev rtF : Array Value := #[.int .u8 82, fn0 23, fn0 27, fn0 31]
abbrev lfF : Array Value := #[.int .u8 76, fn0 35, fn0 37, fn0 39]
theorem Box.four {w : World} {g : Nat} {t : TypeId} {x y z u : Value} (h : Box w g t #[x, y, z, u]) :
    (w.cell? ⟨g, 0, none⟩ = some x ∧ w.cell? ⟨g, 1, none⟩ = some y ∧ w.cell? ⟨g, 2, none⟩ = some z ∧ w.cell? ⟨g, 3, none⟩ = some u) ∧ (w.frozen? ⟨g, 0, none⟩ = false ∧ w.frozen? ⟨g, 1, none⟩ = false ∧ w.frozen? ⟨g, 2, none⟩ = false ∧ w.frozen? ⟨g, 3, none⟩ = false) ∧ g < w.heap.size :=
  ⟨⟨h.read 0, h.read 1, h.read 2, h.read 3⟩, ⟨h.free 0, h.free 1, h.free 2, h.free 3⟩, h.inside⟩
theorem Box.distinct {w : World} {g g' : Nat} {t t' : TypeId} {cs cs' : Array Value} (h : Box w g t cs) (h' : Box w g' t' cs') (ht : t ≠ t') : g ≠ g' := by
  rintro rfl
  unfold Box at h h'
  rw [h] at h'
  injection h' with h'
  injection h' with h1 h2 h3
  exact ht h2
theorem Has.sub {w W : World} {l l' : List Blk} (h : Has w l W) (hs : ∀ x ∈ l', x ∈ l) : Has w l' W := ⟨fun x hx => h.1 x (hs x hx), h.2⟩
theorem Has.filled4 {w W : World} {l : List Blk} {g : Nat} {t : TypeId} {a b c d : Value} (h : Has w ((g, t, #[a, b, c, d]) :: l) W) (hg : w.heap.size ≤ g) (hl : ∀ x ∈ l, x.1 ≠ g) (x y z u : Value) :
    Has w ((g, t, #[x, y, z, u]) :: l) ((((W.setCell ⟨g, 0, none⟩ x).setCell ⟨g, 1, none⟩ y).setCell ⟨g, 2, none⟩ z).setCell ⟨g, 3, none⟩ u) :=
  (((h.wrote hg hl 0 x).wrote hg hl 1 y).wrote hg hl 2 z).wrote hg hl 3 u
theorem Has.fill3 {w W : World} {l : List Blk} {g : Nat} {t : TypeId} {a b c d : Value} (h : Has w ((g, t, #[a, b, c, d]) :: l) W) (hg : w.heap.size ≤ g) (hl : ∀ x ∈ l, x.1 ≠ g) (y z u : Value) :
    Has w ((g, t, #[a, y, z, u]) :: l) (((W.setCell ⟨g, 1, none⟩ y).setCell ⟨g, 2, none⟩ z).setCell ⟨g, 3, none⟩ u) :=
  ((h.wrote hg hl 1 y).wrote hg hl 2 z).wrote hg hl 3 u
abbrev zF : Array Value := #[.int .u8 0, .nilFunc, .nilFunc, .nilFunc]
theorem leaves_any (w : World) : Calls Tryd.prog 19 #[] w (Tells (.agg lfF) w.heap.size w) := by
  have H0 := (Has.start w).add 64 lfF
  go_enter Tryd.func19, Tryd.ntmps19
  go_wp2
  obtain ⟨⟨y0, y1, y2, y3⟩, -, -⟩ := (H0.box 0).four
  exact bodyPost_ret (v := .agg lfF) (by simp [results, Tryd.results19, go_sem, y0, y1, y2, y3]) rfl ⟨rfl, H0.below⟩
theorem roots_any (w : World) : Calls Tryd.prog 16 #[] w (Tells (.agg rtF) w.heap.size w) := by
  have H0 := (Has.start w).add 53 rtF
  go_enter Tryd.func16, Tryd.ntmps16
  go_wp2
  obtain ⟨⟨y0, y1, y2, y3⟩, -, -⟩ := (H0.box 0).four
  exact bodyPost_ret (v := .agg rtF) (by simp [results, Tryd.results16, go_sem, y0, y1, y2, y3]) rfl ⟨rfl, H0.below⟩
end Go.Proofs.YtmflhodiibjpnaaDoor
