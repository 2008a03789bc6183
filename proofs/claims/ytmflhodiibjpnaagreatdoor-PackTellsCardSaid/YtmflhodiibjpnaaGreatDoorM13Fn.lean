/- Several of my texts, laid as one. -/
import Derived.Test.YtmflhodiibjpnaaGreatDoorM8In
import Derived.Test.YtmflhodiibjpnaaGreatDoorM8Out
import Derived.Test.YtmflhodiibjpnaaGreatDoorW8Low
import Derived.Test.YtmflhodiibjpnaaGreatDoorM13Nod
import Derived.Deep.RegionHeld3
import Derived.Laws.EntriesVeiled
/-
  What octet's In reads, and Out writes, beside blocks of the call's own; what is held in regions that draw.
-/
namespace Go.Proofs.YtmflhodiibjpnaaGreatDoor
set_option linter.unusedVariables false
set_option linter.unusedSimpArgs false
set_option maxRecDepth 10000
open Go.RowKit

/-- The In lies at g with what is left; these blocks are the call's own; all else is as it was. -/
def Rp (w : World) (g : Nat) (st : StR) (l : List Blk) (W : World) : Prop := InS W g st ∧ (∀ x ∈ l, Box W x.1 x.2.1 x.2.2 ∧ w.heap.size ≤ x.1 ∧ x.1 ≠ g) ∧ Off (One g) w W
section
variable {w W w' : World} {g b : Nat} {st st' : StR} {l : List Blk} {t : TypeId} {cs : Array Value}
theorem Rp.start (h : InS w g st) : Rp w g st [] w := ⟨h, fun x hx => by simp at hx, Off.refl _ _⟩
theorem Rp.inS (h : Rp w g st l W) : InS W g st := h.1
theorem Rp.off (h : Rp w g st l W) : Off (One g) w W := h.2.2
theorem Rp.size (h : Rp w g st l W) : w.heap.size ≤ W.heap.size := h.2.2.size
theorem Rp.add (h : Rp w g st l W) (t : TypeId) (cs : Array Value) : Rp w g st ((W.heap.size, t, cs) :: l) (W.alloc (.cells cs t)) :=
  ⟨h.1.call (chainA (Below.refl _ _) _), fun x hx => by
    rcases List.mem_cons.1 hx with rfl | hx
    · exact ⟨Box.made W t cs, h.size, Nat.ne_of_gt h.1.inside⟩
    · exact ⟨(h.2.1 x hx).1.past _, (h.2.1 x hx).2⟩, h.2.2.past _⟩
theorem Rp.past (h : Rp w g st l W) (o : Obj) : Rp w g st l (W.alloc o) := ⟨h.1.call (chainA (Below.refl _ _) _), fun x hx => ⟨(h.2.1 x hx).1.past o, (h.2.1 x hx).2⟩, h.2.2.past _⟩
theorem Rp.drew (h : Rp w g st l W) : Rp w g st l W.drew := ⟨h.1.call (Below.refl _ _).drew, fun x hx => ⟨(h.2.1 x hx).1, (h.2.1 x hx).2⟩, h.2.2.drew⟩
theorem Rp.read (h : Rp w g st l W) (hs : InS w' g st') (k : Off (One g) W w') : Rp w g st' l w' :=
  ⟨hs, fun x hx => ⟨k.box (h.2.1 x hx).1 (fun e => (h.2.1 x hx).2.2 e), (h.2.1 x hx).2⟩, h.2.2.trans k⟩
theorem Rp.call (h : Rp w g st l W) (hb : Below W.heap.size W w') : Rp w g st l w' := ⟨h.1.call hb, fun x hx => ⟨(h.2.1 x hx).1.call hb, (h.2.1 x hx).2⟩, h.2.2.call hb⟩
theorem Rp.swap {x y : Blk} (h : Rp w g st (x :: y :: l) W) : Rp w g st (y :: x :: l) W :=
  ⟨h.1, fun z hz => h.2.1 z (by simp only [List.mem_cons] at hz ⊢; rcases hz with h | h | h <;> simp [h]), h.2.2⟩
theorem Rp.tail {x : Blk} (h : Rp w g st (x :: l) W) : Rp w g st l W := ⟨h.1, fun y hy => h.2.1 y (by simp [hy]), h.2.2⟩
theorem Rp.box (h : Rp w g st l W) (n : Nat) (e : l[n]? = some (b, t, cs) := by rfl) : Box W b t cs := (h.2.1 (b, t, cs) (List.mem_of_getElem? e)).1
theorem Rp.wrote (h : Rp w g st ((b, t, cs) :: l) W) (ht : 5 ≠ t) (hl : ∀ x ∈ l, x.1 ≠ b) (i : Nat) (u : Value) : Rp w g st ((b, t, cs.setIfInBounds i u) :: l) (W.setCell ⟨b, i, none⟩ u) := by
  have hb := h.2.1 (b, t, cs) (by simp)
  have hk : Off (One b) W (W.setCell ⟨b, i, none⟩ u) := (Off.refl (One b) W).set_ (p := ⟨b, i, none⟩) (Or.inl rfl) u
  refine ⟨h.1.off hk hb.1 (fun e => hb.2.2 e.symm) ht, fun x hx => ?_, h.2.2.set_ (p := ⟨b, i, none⟩) (Or.inr hb.2.1) u⟩
  rcases List.mem_cons.1 hx with rfl | hx
  · exact ⟨hb.1.wrote i u, hb.2⟩
  · exact ⟨hk.box (h.2.1 x (by simp [hx])).1 (fun e => hl x hx e), (h.2.1 x (by simp [hx])).2⟩
end
/-- The Out lies at g with what is written; these blocks are the call's own; all else is as it was. -/
def Wp (w : World) (g : Nat) (o : Option ByteArray) (l : List Blk) (W : World) : Prop := OutS W g o ∧ (∀ x ∈ l, Box W x.1 x.2.1 x.2.2 ∧ x.1 ≠ g) ∧ Off (One g) w W
section
variable {w W w' : World} {g b : Nat} {o o' : Option ByteArray} {l : List Blk} {t : TypeId} {cs : Array Value}
theorem Wp.start (h : OutS w g o) : Wp w g o [] w := ⟨h, fun x hx => by simp at hx, Off.refl _ _⟩
theorem Wp.outS (h : Wp w g o l W) : OutS W g o := h.1
theorem Wp.off (h : Wp w g o l W) : Off (One g) w W := h.2.2
theorem Wp.add (h : Wp w g o l W) (t : TypeId) (cs : Array Value) : Wp w g o ((W.heap.size, t, cs) :: l) (W.alloc (.cells cs t)) :=
  ⟨h.1.call (chainA (Below.refl _ _) _), fun x hx => by
    rcases List.mem_cons.1 hx with rfl | hx
    · exact ⟨Box.made W t cs, Nat.ne_of_gt h.1.inside⟩
    · exact ⟨(h.2.1 x hx).1.past _, (h.2.1 x hx).2⟩, h.2.2.past _⟩
theorem Wp.with (h : Wp w g o l W) (hb : Box W b t cs) (hne : b ≠ g) : Wp w g o ((b, t, cs) :: l) W := ⟨h.1, fun x hx => by
  rcases List.mem_cons.1 hx with rfl | hx
  · exact ⟨hb, hne⟩
  · exact h.2.1 x hx, h.2.2⟩
theorem Wp.put (h : Wp w g o l W) (hs : OutS w' g o') (k : Off (One g) W w') : Wp w g o' l w' :=
  ⟨hs, fun x hx => ⟨k.box (h.2.1 x hx).1 (fun e => (h.2.1 x hx).2 e), (h.2.1 x hx).2⟩, h.2.2.trans k⟩
theorem Wp.drew (h : Wp w g o l W) : Wp w g o l W.drew := ⟨h.1.call (Below.refl _ _).drew, fun x hx => ⟨(h.2.1 x hx).1, (h.2.1 x hx).2⟩, h.2.2.drew⟩
theorem Wp.call (h : Wp w g o l W) (hb : Below W.heap.size W w') : Wp w g o l w' := ⟨h.1.call hb, fun x hx => ⟨(h.2.1 x hx).1.call hb, (h.2.1 x hx).2⟩, h.2.2.call hb⟩
theorem Wp.box (h : Wp w g o l W) (n : Nat) (e : l[n]? = some (b, t, cs) := by rfl) : Box W b t cs := (h.2.1 (b, t, cs) (List.mem_of_getElem? e)).1
end
/-- An Out isn't a block of another type. -/
theorem OutS.ne {w : World} {g b : Nat} {o : Option ByteArray} {t : TypeId} {cs : Array Value} (h : OutS w g o) (hb : Box w b t cs) (ht : 45 ≠ t) : b ≠ g := by
  have hg : TyAt w g 45 := by
    cases o with
    | none => exact ⟨_, _, h⟩
    | some s => obtain ⟨p, l, h, -⟩ := h; exact ⟨_, _, h⟩
  exact (hg.ne hb ht).symm
theorem InS.ne {w : World} {g b : Nat} {st : StR} {t : TypeId} {cs : Array Value} (h : InS w g st) (hb : Box w b t cs) (ht : 146 ≠ t) : b ≠ g := by
  have hg : TyAt w g 146 := by
    obtain ⟨cs, h⟩ := h.box
    exact ⟨_, _, h⟩
  exact (hg.ne hb ht).symm
/- What holds of every world in which only g has turned, held in a region that draws. -/
section
variable {S : Nat → Prop} {W U U' : World} {C : World → Prop}
theorem off_start (fact : ∀ u, Off S W u → C u) {V : World} (h : Off S W V) : Off S W V.drew ∧ C V.drew := ⟨h.drew, fact _ h.drew⟩
theorem off_call (fact : ∀ u, Off S W u → C u) (h : Off S W U ∧ C U) (k : Off S U U') : Off S W U' ∧ C U' := ⟨h.1.trans k, fact _ (h.1.trans k)⟩
theorem off_same (fact : ∀ u, Off S W u → C u) (h : Off S W U ∧ C U) (k : Below U.heap.size U U') : Off S W U' ∧ C U' := ⟨h.1.call k, fact _ (h.1.call k)⟩
theorem off_past (fact : ∀ u, Off S W u → C u) (h : Off S W U ∧ C U) (o : Obj) : Off S W (U.alloc o) ∧ C (U.alloc o) := ⟨h.1.past o, fact _ (h.1.past o)⟩
theorem off_set (fact : ∀ u, Off S W u → C u) (h : Off S W U ∧ C U) {p : Addr} (hp : W.heap.size ≤ p.block) (v : Value) : Off S W (U.setCell p v) ∧ C (U.setCell p v) := ⟨h.1.set_ (Or.inr hp) v, fact _ (h.1.set_ (Or.inr hp) v)⟩
end
/-- A row of such, where one other block has turned. -/
theorem Sh.Row.off {α : Type} {S : Sh α} {w w' : World} {g B : Nat} {A : Option Addr} {xs : List α} (h : S.Row w B A xs) (k : Off (One g) w w') (hB : B ≤ w.heap.size) (hg : ∀ ad, A = some ad → xs ≠ [] → ad.block ≠ g) : S.Row w' B A xs := fun i x hx => by
  obtain ⟨ad, e, hl, hc⟩ := h i x hx
  have hne : xs ≠ [] := fun e => by rw [e] at hx; simp at hx
  refine ⟨ad, e, hl, hc.keep ?_⟩
  rw [gen_block]
  exact k.block _ (Nat.lt_of_lt_of_le hl hB) (fun e2 => hg ad e hne e2)
end Go.Proofs.YtmflhodiibjpnaaGreatDoor
/-
  pack's sorts: their functions, and where what these have captured lies.
-/
namespace Go.Proofs.YtmflhodiibjpnaaGreatDoor
set_option linter.unusedVariables false
set_option linter.unusedSimpArgs false
set_option maxRecDepth 10000
open Go.RowKit

theorem Box.cellOf {w : World} {g : Nat} {t : TypeId} {cs : Array Value} (h : Box w g t cs) {a : Addr} (ha : a.block = g) {v : Value} (hv : w.cell? a = some v) : ∃ i : Nat, cs[i]? = some v := by
  unfold Box at h
  unfold World.cell? at hv
  rw [ha, h] at hv
  simp only at hv
  split at hv
  · cases hv
  · exact ⟨_, hv⟩
/-- An In or an Out lies there. -/
def Port (w : World) (g : Nat) : Prop := TyAt w g 146 ∨ TyAt w g 45
theorem InS.port {w : World} {g : Nat} {st : StR} (h : InS w g st) : Port w g := by
  obtain ⟨cs, h⟩ := h.box
  exact Or.inl ⟨_, _, h⟩
theorem OutS.port {w : World} {g : Nat} {o : Option ByteArray} (h : OutS w g o) : Port w g := by
  cases o with
  | none => exact .inr ⟨_, _, h⟩
  | some s => obtain ⟨p, l, h, -⟩ := h; exact .inr ⟨_, _, h⟩
theorem Port.ne {w : World} {g b : Nat} {t : TypeId} {cs : Array Value} (h : Port w g) (hb : Box w b t cs) (h1 : 146 ≠ t) (h2 : 45 ≠ t) : b ≠ g := by
  rcases h with h | h
  · exact (h.ne hb h1).symm
  · exact (h.ne hb h2).symm
/-- A row whose things begin with what is no cell of an Out isn't in it. -/
theorem OutS.row {α : Type} {S : Sh α} {w : World} {g B : Nat} {o : Option ByteArray} {A : Option Addr} {xs : List α} (h : OutS w g o) (hR : S.Row w B A xs)
    (hS : ∀ x, ∃ v, (S.cells x)[0]? = some v ∧ (∀ p, v ≠ .pointer p) ∧ (∀ n, v ≠ .int .i64 n) ∧ ∀ b, v ≠ .bool b) : ∀ ad, A = some ad → xs ≠ [] → ad.block ≠ g := by
  intro ad hA hne e
  subst hA
  cases xs with
  | nil => exact hne rfl
  | cons x r =>
    obtain ⟨ad2, e2, -, hc⟩ := hR 0 x rfl
    injection e2 with e2
    subst e2
    obtain ⟨v, hv, n1, n2, n3⟩ := hS x
    have hcell := hc 0 v hv
    have hb : ((ad.add (0 * S.k)).add 0).block = g := by rw [gen_block, gen_block]; exact e
    have fin : ∀ (p : Option Addr) (n : Int) (b : Bool), Box w g 45 #[.pointer p, .int .i64 n, .bool b] → False := fun p n b hb2 => by
      obtain ⟨i, hi⟩ := Box.cellOf hb2 hb hcell
      match i with
      | 0 => exact n1 p (by simpa using hi.symm)
      | 1 => exact n2 n (by simpa using hi.symm)
      | 2 => exact n3 b (by simpa using hi.symm)
      | i + 3 => simp at hi
    cases o with
    | none => exact fin _ _ _ h
    | some s => obtain ⟨p, l, h, -⟩ := h; exact fin _ _ _ h
theorem nd_notOut (x : Nd) : ∃ v, (ndS.cells x)[0]? = some v ∧ (∀ p, v ≠ .pointer p) ∧ (∀ n, v ≠ .int .i64 n) ∧ ∀ b, v ≠ .bool b := ⟨_, rfl, by simp, by simp, by simp⟩
theorem ch_notOut (x : ChP) : ∃ v, (chS.cells x)[0]? = some v ∧ (∀ p, v ≠ .pointer p) ∧ (∀ n, v ≠ .int .i64 n) ∧ ∀ b, v ≠ .bool b := ⟨_, rfl, by simp, by simp, by simp⟩
/- The sorts' cells. -/
abbrev fn0 (k : FuncId) : Value := .func (.func k) #[] #[]
abbrev fn1 (k : FuncId) (c : Nat) : Value := .func (.func k) #[] #[.pointer (some ⟨c, 0, none⟩)]
abbrev fn2 (k : FuncId) (c d : Nat) : Value := .func (.func k) #[] #[.pointer (some ⟨c, 0, none⟩), .pointer (some ⟨d, 0, none⟩)]
abbrev rtF : Array Value := #[.int .u8 82, fn0 86, fn0 90, fn0 94]
abbrev lfF : Array Value := #[.int .u8 76, fn0 97, fn0 99, fn0 101]
abbrev ndF : Array Value := #[.int .u8 0, fn0 151, fn0 152, fn0 153]
abbrev nrF (k : Nat) : Array Value := #[.int .u8 0, fn1 148 k, fn1 149 k, fn1 150 k]
abbrev prF (k : Nat) : Array Value := #[.int .u8 0, fn1 145 k, fn1 146 k, fn1 147 k]
abbrev enF (a p : Nat) : Array Value := #[.int .u8 69, fn2 107 a p, fn2 108 a p, fn2 109 a p]
abbrev rgF (k : Nat) : Array Value := #[.int .u8 71, fn1 113 k, fn1 114 k, fn1 115 k]
abbrev chF (k : Nat) : Array Value := #[.int .u8 0, fn1 157 k, fn1 158 k, fn1 159 k]
abbrev crF (k : Nat) : Array Value := #[.int .u8 0, fn1 154 k, fn1 155 k, fn1 156 k]
abbrev dfF (c n : Nat) : Array Value := #[.int .u8 68, fn2 118 c n, fn2 119 c n, fn2 120 c n]
/- Where they lie, once they are captured. -/
def IsNd (w : World) (c : Nat) : Prop := Box w c 181 ndF
def IsLf (w : World) (c : Nat) : Prop := Box w c 118 lfF
def IsNr (w : World) (c k : Nat) : Prop := Box w c 175 (nrF k) ∧ IsNd w k
def IsPr (w : World) (c s k : Nat) : Prop := Box w c 168 (prF s) ∧ IsNr w s k
def IsCh (w : World) (c a : Nat) : Prop := Box w c 193 (chF a) ∧ IsLf w a
def IsCr (w : World) (c k a : Nat) : Prop := Box w c 187 (crF k) ∧ IsCh w k a
section
variable {w w' : World} {c k s a g : Nat}
theorem IsNd.call (h : IsNd w c) (b : Below w.heap.size w w') : IsNd w' c := Box.call h b
theorem IsNd.off (h : IsNd w c) (p : Port w g) (q : Off (One g) w w') : IsNd w' c := q.box h (p.ne h (by decide) (by decide))
theorem IsLf.call (h : IsLf w c) (b : Below w.heap.size w w') : IsLf w' c := Box.call h b
theorem IsLf.off (h : IsLf w c) (p : Port w g) (q : Off (One g) w w') : IsLf w' c := q.box h (p.ne h (by decide) (by decide))
theorem IsNr.call (h : IsNr w c k) (b : Below w.heap.size w w') : IsNr w' c k := ⟨h.1.call b, h.2.call b⟩
theorem IsNr.off (h : IsNr w c k) (p : Port w g) (q : Off (One g) w w') : IsNr w' c k := ⟨q.box h.1 (p.ne h.1 (by decide) (by decide)), h.2.off p q⟩
theorem IsPr.call (h : IsPr w c s k) (b : Below w.heap.size w w') : IsPr w' c s k := ⟨h.1.call b, h.2.call b⟩
theorem IsPr.off (h : IsPr w c s k) (p : Port w g) (q : Off (One g) w w') : IsPr w' c s k := ⟨q.box h.1 (p.ne h.1 (by decide) (by decide)), h.2.off p q⟩
theorem IsCh.call (h : IsCh w c a) (b : Below w.heap.size w w') : IsCh w' c a := ⟨h.1.call b, h.2.call b⟩
theorem IsCh.off (h : IsCh w c a) (p : Port w g) (q : Off (One g) w w') : IsCh w' c a := ⟨q.box h.1 (p.ne h.1 (by decide) (by decide)), h.2.off p q⟩
theorem IsCr.call (h : IsCr w c k a) (b : Below w.heap.size w w') : IsCr w' c k a := ⟨h.1.call b, h.2.call b⟩
theorem IsCr.off (h : IsCr w c k a) (p : Port w g) (q : Off (One g) w w') : IsCr w' c k a := ⟨q.box h.1 (p.ne h.1 (by decide) (by decide)), h.2.off p q⟩
end
theorem Box.four {w : World} {g : Nat} {t : TypeId} {x y z u : Value} (h : Box w g t #[x, y, z, u]) :
    (w.cell? ⟨g, 0, none⟩ = some x ∧ w.cell? ⟨g, 1, none⟩ = some y ∧ w.cell? ⟨g, 2, none⟩ = some z ∧ w.cell? ⟨g, 3, none⟩ = some u) ∧ (w.frozen? ⟨g, 0, none⟩ = false ∧ w.frozen? ⟨g, 1, none⟩ = false ∧ w.frozen? ⟨g, 2, none⟩ = false ∧ w.frozen? ⟨g, 3, none⟩ = false) ∧ g < w.heap.size :=
  ⟨⟨h.read 0, h.read 1, h.read 2, h.read 3⟩, ⟨h.free 0, h.free 1, h.free 2, h.free 3⟩, h.inside⟩
theorem Box.distinct {w : World} {g g' : Nat} {t t' : TypeId} {cs cs' : Array Value} (h : Box w g t cs) (h' : Box w g' t' cs') (ht : t ≠ t') : g ≠ g' := by
  rintro rfl
  unfold Box at h h'
  rw [h] at h'
  injection h' with h'
  injection h' with h1 h2 h3
  exact ht h2
theorem Has.sub {w W : World} {l l' : List Blk} (h : Has w l W) (hs : ∀ x ∈ l', x ∈ l) : Has w l' W := ⟨fun x hx => h.1 x (hs x hx), h.2⟩
theorem Has.filled4 {w W : World} {l : List Blk} {g : Nat} {t : TypeId} {a b c d : Value} (h : Has w ((g, t, #[a, b, c, d]) :: l) W) (hg : w.heap.size ≤ g) (hl : ∀ x ∈ l, x.1 ≠ g) (x y z u : Value) :
    Has w ((g, t, #[x, y, z, u]) :: l) ((((W.setCell ⟨g, 0, none⟩ x).setCell ⟨g, 1, none⟩ y).setCell ⟨g, 2, none⟩ z).setCell ⟨g, 3, none⟩ u) :=
  (((h.wrote hg hl 0 x).wrote hg hl 1 y).wrote hg hl 2 z).wrote hg hl 3 u
theorem Has.fill3 {w W : World} {l : List Blk} {g : Nat} {t : TypeId} {a b c d : Value} (h : Has w ((g, t, #[a, b, c, d]) :: l) W) (hg : w.heap.size ≤ g) (hl : ∀ x ∈ l, x.1 ≠ g) (y z u : Value) :
    Has w ((g, t, #[a, y, z, u]) :: l) (((W.setCell ⟨g, 1, none⟩ y).setCell ⟨g, 2, none⟩ z).setCell ⟨g, 3, none⟩ u) :=
  ((h.wrote hg hl 1 y).wrote hg hl 2 z).wrote hg hl 3 u
abbrev zF : Array Value := #[.int .u8 0, .nilFunc, .nilFunc, .nilFunc]
theorem leaves_any (w : World) : Calls Tryz.prog 55 #[] w (Tells (.agg lfF) w.heap.size w) := by
  have H0 := (Has.start w).add 118 lfF
  go_enter Tryz.func55, Tryz.ntmps55
  go_wp2
  obtain ⟨⟨y0, y1, y2, y3⟩, -, -⟩ := (H0.box 0).four
  exact bodyPost_ret (v := .agg lfF) (by simp [results, Tryz.results55, go_sem, y0, y1, y2, y3]) rfl ⟨rfl, H0.below⟩
theorem roots_any (w : World) : Calls Tryz.prog 52 #[] w (Tells (.agg rtF) w.heap.size w) := by
  have H0 := (Has.start w).add 109 rtF
  go_enter Tryz.func52, Tryz.ntmps52
  go_wp2
  obtain ⟨⟨y0, y1, y2, y3⟩, -, -⟩ := (H0.box 0).four
  exact bodyPost_ret (v := .agg rtF) (by simp [results, Tryz.results52, go_sem, y0, y1, y2, y3]) rfl ⟨rfl, H0.below⟩
theorem nodes_any (w : World) : Calls Tryz.prog 112 #[] w (Tells (.agg ndF) w.heap.size w) := by
  have H0 := (Has.start w).add 181 ndF
  go_enter Tryz.func112, Tryz.ntmps112
  go_wp2
  obtain ⟨⟨y0, y1, y2, y3⟩, -, -⟩ := (H0.box 0).four
  exact bodyPost_ret (v := .agg ndF) (by simp [results, Tryz.results112, go_sem, y0, y1, y2, y3]) rfl ⟨rfl, H0.below⟩
theorem rowsN_any (w : World) : Calls Tryz.prog 111 #[.agg ndF] w fun e w' => ∃ k, e = .returned (.agg (nrF k)) ∧ w.heap.size ≤ k ∧ IsNd w' k ∧ Below w.heap.size w w' := by
  have H0 := ((Has.start w).add 181 ndF).addAt 175 (nrF w.heap.size) (g := w.heap.size + 1) (by simp)
  go_enter Tryz.func111, Tryz.ntmps111
  go_wp2
  obtain ⟨⟨y0, y1, y2, y3⟩, -, -⟩ := (H0.box 0).four
  exact bodyPost_ret (v := .agg (nrF w.heap.size)) (by simp [results, Tryz.results111, go_sem, y0, y1, y2, y3]) rfl ⟨_, rfl, Nat.le_refl _, H0.box 1, H0.below⟩
set_option maxHeartbeats 1000000 in
theorem proofs_any (w : World) : Calls Tryz.prog 106 #[] w fun e w' => ∃ s k, e = .returned (.agg (prF s)) ∧ w.heap.size ≤ s ∧ IsNr w' s k ∧ Below w.heap.size w w' := by
  have H0 := (Has.start w).add 168 zF
  have c1 := fun u => nodes_any u
  have c2 := fun u => rowsN_any u
  go_enter Tryz.func106, Tryz.ntmps106
  go_upto_region 2 with (first
    | (go_at_call 112; refine (c1 _).mono ?_; rintro e w1 ⟨rfl, b1⟩)
    | (go_at_call 111; refine (c2 _).mono ?_; rintro e w2 ⟨k, rfl, hk, N2, b2⟩)
    | fail)
  change Code.wp _ _ _ _ (w2.alloc (.cells (nrF k) 175))
  have hr : w.heap.size < w1.heap.size := Nat.lt_of_lt_of_le ((H0.box 0).inside) b1.size
  have hk2 := Box.inside N2
  have H2 := (((H0.call b1).call b2).with N2).add 175 (nrF k)
  generalize w2.heap.size = s at *
  generalize w2.alloc (.cells (nrF k) 175) = W2 at *
  have H3 : Has w [(w.heap.size, 168, zF), (s, 175, nrF k), (k, 181, ndF)] W2 := H2.sub (fun x hx => by simp only [List.mem_cons, List.not_mem_nil, or_false] at hx ⊢; rcases hx with h | h | h <;> simp [h])
  obtain ⟨⟨y0, y1, y2, y3⟩, ⟨f0, f1, f2, f3⟩, hin⟩ := (H3.box 0).four
  go_wp2
  have H4 := H3.filled4 (Nat.le_refl _) (fun x hx => by simp only [List.mem_cons, List.not_mem_nil, or_false] at hx; rcases hx with h | h <;> subst h <;> simp only <;> omega) (.int .u8 0) (fn1 145 s) (fn1 146 s) (fn1 147 s)
  generalize World.setCell (World.setCell (World.setCell (World.setCell _ _ _) _ _) _ _) _ _ = Z at *
  obtain ⟨⟨z0, z1, z2, z3⟩, -, -⟩ := (H4.box 0).four
  exact bodyPost_ret (v := .agg (prF s)) (by simp [results, Tryz.results106, go_sem, z0, z1, z2, z3]) rfl ⟨s, k, rfl, by omega, ⟨H4.box 1, H4.box 2⟩, H4.below⟩
set_option maxHeartbeats 1000000 in
theorem ranges_any (w : World) : Calls Tryz.prog 64 #[] w fun e w' => ∃ s k, e = .returned (.agg (rgF s)) ∧ w.heap.size ≤ s ∧ IsNr w' s k ∧ Below w.heap.size w w' := by
  have H0 := (Has.start w).add 133 zF
  have c1 := fun u => nodes_any u
  have c2 := fun u => rowsN_any u
  go_enter Tryz.func64, Tryz.ntmps64
  go_upto_region 2 with (first
    | (go_at_call 112; refine (c1 _).mono ?_; rintro e w1 ⟨rfl, b1⟩)
    | (go_at_call 111; refine (c2 _).mono ?_; rintro e w2 ⟨k, rfl, hk, N2, b2⟩)
    | fail)
  change Code.wp _ _ _ _ (w2.alloc (.cells (nrF k) 175))
  have hr : w.heap.size < w1.heap.size := Nat.lt_of_lt_of_le ((H0.box 0).inside) b1.size
  have hk2 := Box.inside N2
  have H2 := (((H0.call b1).call b2).with N2).add 175 (nrF k)
  generalize w2.heap.size = s at *
  generalize w2.alloc (.cells (nrF k) 175) = W2 at *
  have H3 : Has w [(w.heap.size, 133, zF), (s, 175, nrF k), (k, 181, ndF)] W2 := H2.sub (fun x hx => by simp only [List.mem_cons, List.not_mem_nil, or_false] at hx ⊢; rcases hx with h | h | h <;> simp [h])
  obtain ⟨⟨y0, y1, y2, y3⟩, ⟨f0, f1, f2, f3⟩, hin⟩ := (H3.box 0).four
  go_wp2
  have H4 := H3.filled4 (Nat.le_refl _) (fun x hx => by simp only [List.mem_cons, List.not_mem_nil, or_false] at hx; rcases hx with h | h <;> subst h <;> simp only <;> omega) (.int .u8 71) (fn1 113 s) (fn1 114 s) (fn1 115 s)
  generalize World.setCell (World.setCell (World.setCell (World.setCell _ _ _) _ _) _ _) _ _ = Z at *
  obtain ⟨⟨z0, z1, z2, z3⟩, -, -⟩ := (H4.box 0).four
  exact bodyPost_ret (v := .agg (rgF s)) (by simp [results, Tryz.results64, go_sem, z0, z1, z2, z3]) rfl ⟨s, k, rfl, by omega, ⟨H4.box 1, H4.box 2⟩, H4.below⟩
set_option maxHeartbeats 1000000 in
theorem entries_any (w : World) : Calls Tryz.prog 59 #[] w fun e w' => ∃ a p s k, e = .returned (.agg (enF a p)) ∧ IsLf w' a ∧ IsPr w' p s k ∧ w.heap.size ≤ a ∧ w.heap.size ≤ p ∧ Below w.heap.size w w' := by
  have H0 := (Has.start w).add 125 zF
  have c1 := fun u => leaves_any u
  have c2 := fun u => proofs_any u
  go_enter Tryz.func59, Tryz.ntmps59
  go_upto_region 2 with (first
    | (go_at_call 55; refine (c1 _).mono ?_; rintro e w1 ⟨rfl, b1⟩)
    | (go_at_call 106; refine (c2 _).mono ?_; rintro e w2 ⟨s, k, rfl, hk, N2, b2⟩)
    | fail)
  change Code.wp _ _ _ _ ((w2.alloc (.cells lfF 118)).alloc (.cells (prF s) 168))
  have hr : w.heap.size < w1.heap.size := Nat.lt_of_lt_of_le ((H0.box 0).inside) b1.size
  have hs2 := Box.inside N2.1
  have hk2 := Box.inside N2.2
  have hk3 : k ≠ w.heap.size := Box.distinct N2.2 (((H0.call b1).call b2).box 0) (by decide)
  have H2 := (((((H0.call b1).call b2).with N2.1).with N2.2).add 118 lfF).addAt 168 (prF s) (g := w2.heap.size + 1) (by simp)
  generalize w2.heap.size = a at *
  generalize (w2.alloc (.cells lfF 118)).alloc (.cells (prF s) 168) = W2 at *
  have H3 : Has w [(w.heap.size, 125, zF), (a, 118, lfF), (a + 1, 168, prF s), (s, 175, nrF k), (k, 181, ndF)] W2 := H2.sub (fun x hx => by simp only [List.mem_cons, List.not_mem_nil, or_false] at hx ⊢; rcases hx with h | h | h | h | h <;> simp [h])
  obtain ⟨⟨y0, y1, y2, y3⟩, ⟨f0, f1, f2, f3⟩, hin⟩ := (H3.box 0).four
  go_wp2
  have H4 := H3.filled4 (Nat.le_refl _) (fun x hx => by simp only [List.mem_cons, List.not_mem_nil, or_false] at hx; rcases hx with h | h | h | h <;> subst h <;> simp only <;> omega) (.int .u8 69) (fn2 107 a (a + 1)) (fn2 108 a (a + 1)) (fn2 109 a (a + 1))
  generalize World.setCell (World.setCell (World.setCell (World.setCell _ _ _) _ _) _ _) _ _ = Z at *
  obtain ⟨⟨z0, z1, z2, z3⟩, -, -⟩ := (H4.box 0).four
  exact bodyPost_ret (v := .agg (enF a (a + 1))) (by simp [results, Tryz.results59, go_sem, z0, z1, z2, z3]) rfl ⟨a, a + 1, s, k, rfl, H4.box 1, ⟨H4.box 2, H4.box 3, H4.box 4⟩, by omega, by omega, H4.below⟩
theorem rowsC_any (a : Nat) (w : World) (h : IsLf w a) : Calls Tryz.prog 116 #[.agg (chF a)] w fun e w' => ∃ k, e = .returned (.agg (crF k)) ∧ w.heap.size ≤ k ∧ IsCh w' k a ∧ Below w.heap.size w w' := by
  have H0 := ((Has.start w).add 193 (chF a)).addAt 187 (crF w.heap.size) (g := w.heap.size + 1) (by simp)
  go_enter Tryz.func116, Tryz.ntmps116
  go_wp2
  obtain ⟨⟨y0, y1, y2, y3⟩, -, -⟩ := (H0.box 0).four
  exact bodyPost_ret (v := .agg (crF w.heap.size)) (by simp [results, Tryz.results116, go_sem, y0, y1, y2, y3]) rfl ⟨_, rfl, Nat.le_refl _, ⟨H0.box 1, h.call H0.below⟩, H0.below⟩
set_option maxHeartbeats 1000000 in
theorem changes_any (w : World) : Calls Tryz.prog 117 #[] w fun e w' => ∃ a, e = .returned (.agg (chF a)) ∧ w.heap.size ≤ a ∧ IsLf w' a ∧ Below w.heap.size w w' := by
  have H0 := (Has.start w).add 193 zF
  have c1 := fun u => leaves_any u
  go_enter Tryz.func117, Tryz.ntmps117
  go_upto_region 2 with (first
    | (go_at_call 55; refine (c1 _).mono ?_; rintro e w1 ⟨rfl, b1⟩)
    | fail)
  change Code.wp _ _ _ _ (w1.alloc (.cells lfF 118))
  have hr : w.heap.size < w1.heap.size := Nat.lt_of_lt_of_le ((H0.box 0).inside) b1.size
  have H2 := ((H0.call b1).add 118 lfF).swap
  generalize w1.heap.size = a at *
  generalize w1.alloc (.cells lfF 118) = W2 at *
  obtain ⟨⟨y0, y1, y2, y3⟩, ⟨f0, f1, f2, f3⟩, hin⟩ := (H2.box 0).four
  go_wp2
  have H4 := H2.filled4 (Nat.le_refl _) (fun x hx => by simp only [List.mem_cons, List.not_mem_nil, or_false] at hx; subst hx; simp only; omega) (.int .u8 0) (fn1 157 a) (fn1 158 a) (fn1 159 a)
  generalize World.setCell (World.setCell (World.setCell (World.setCell _ _ _) _ _) _ _) _ _ = Z at *
  obtain ⟨⟨z0, z1, z2, z3⟩, -, -⟩ := (H4.box 0).four
  exact bodyPost_ret (v := .agg (chF a)) (by simp [results, Tryz.results117, go_sem, z0, z1, z2, z3]) rfl ⟨a, rfl, by omega, H4.box 1, H4.below⟩
set_option maxHeartbeats 2000000 in
theorem diffs_any (w : World) : Calls Tryz.prog 66 #[] w fun e w' => ∃ c n i a k, e = .returned (.agg (dfF c n)) ∧ IsCr w' c i a ∧ IsNr w' n k ∧ w.heap.size ≤ c ∧ w.heap.size ≤ n ∧ Below w.heap.size w w' := by
  have H0 := (Has.start w).add 139 zF
  have c1 := fun u => changes_any u
  have c2 := fun a u hu => rowsC_any a u hu
  have c3 := fun u => nodes_any u
  have c4 := fun u => rowsN_any u
  go_enter Tryz.func66, Tryz.ntmps66
  go_upto_region 2 with (first
    | (go_at_call 117; refine (c1 _).mono ?_; rintro e w1 ⟨a, rfl, ha, L1, b1⟩)
    | (go_at_call 116; refine (c2 _ _ L1).mono ?_; rintro e w2 ⟨i, rfl, hi, L2, b2⟩)
    | (go_at_call 112; refine (c3 _).mono ?_; rintro e w3 ⟨rfl, b3⟩)
    | (go_at_call 111; refine (c4 _).mono ?_; rintro e w4 ⟨k, rfl, hk, N4, b4⟩)
    | fail)
  change Code.wp _ _ _ _ ((w4.alloc (.cells (crF i) 187)).alloc (.cells (nrF k) 175))
  have hr : w.heap.size < w1.heap.size := Nat.lt_of_lt_of_le ((H0.box 0).inside) b1.size
  have hr2 := b2.size
  have hr3 := b3.size
  have hr4 := b4.size
  have L4 := (L2.call b3).call b4
  have hi2 := Box.inside L4.1
  have ha2 := Box.inside L4.2
  have hk2 := Box.inside N4
  have HX := (((H0.call b1).call b2).call b3).call b4
  have ha3 : a ≠ w.heap.size := Box.distinct L4.2 (HX.box 0) (by decide)
  have H2 := ((((HX.with L4.1).with L4.2).with N4).add 187 (crF i)).addAt 175 (nrF k) (g := w4.heap.size + 1) (by simp)
  generalize w4.heap.size = c at *
  generalize (w4.alloc (.cells (crF i) 187)).alloc (.cells (nrF k) 175) = W2 at *
  have H3 : Has w [(w.heap.size, 139, zF), (c, 187, crF i), (i, 193, chF a), (a, 118, lfF), (c + 1, 175, nrF k), (k, 181, ndF)] W2 := H2.sub (fun x hx => by simp only [List.mem_cons, List.not_mem_nil, or_false] at hx ⊢; rcases hx with h | h | h | h | h | h <;> simp [h])
  obtain ⟨⟨y0, y1, y2, y3⟩, ⟨f0, f1, f2, f3⟩, hin⟩ := (H3.box 0).four
  go_wp2
  have H4 := H3.filled4 (Nat.le_refl _) (fun x hx => by simp only [List.mem_cons, List.not_mem_nil, or_false] at hx; rcases hx with h | h | h | h | h <;> subst h <;> simp only <;> omega) (.int .u8 68) (fn2 118 c (c + 1)) (fn2 119 c (c + 1)) (fn2 120 c (c + 1))
  generalize World.setCell (World.setCell (World.setCell (World.setCell _ _ _) _ _) _ _) _ _ = Z at *
  obtain ⟨⟨z0, z1, z2, z3⟩, -, -⟩ := (H4.box 0).four
  exact bodyPost_ret (v := .agg (dfF c (c + 1))) (by simp [results, Tryz.results66, go_sem, z0, z1, z2, z3]) rfl ⟨c, c + 1, i, a, k, rfl, ⟨H4.box 1, H4.box 2, H4.box 3⟩, ⟨H4.box 4, H4.box 5⟩, by omega, by omega, H4.below⟩
end Go.Proofs.YtmflhodiibjpnaaGreatDoor
