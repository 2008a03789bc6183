/- Several of my texts, laid as one. -/
import Derived.Test.YtkecekfapiegjaaDoorM7Wrd
import Derived.Test.YtkecekfapiegjaaDoorM16Ent
import Derived.Test.YtkecekfapiegjaaDoorM13Dec
/-
  Plain words on nodes' texts: unlike nodes of one width have unlike ones. (As in L7Unlike.)
-/
namespace Go.Proofs.YtkecekfapiegjaaDoor
set_option linter.unusedVariables false
set_option linter.unusedSimpArgs false
set_option maxRecDepth 10000

theorem textOf_inj {h l h' l' : Int} (a : Word h) (b : Word l) (c : Word h') (d : Word l') (e : textOf h l = textOf h' l') : h = h' ∧ l = l' := by
  have e1 := textOf_fromH (l := l) a
  have e2 := textOf_fromL (h := h) b
  rw [e] at e1 e2
  exact ⟨e1.symm.trans (textOf_fromH c), e2.symm.trans (textOf_fromL d)⟩
theorem ndText_list (a b : Nd) : (ndText a b).data.toList = 1 :: (a.hash.data.toList ++ ((textOf a.h a.l).data.toList ++ (b.hash.data.toList ++ (textOf b.h b.l).data.toList))) := by
  unfold ndText
  simp only [ByteArray.data_append, Array.toList_append, List.append_assoc]
  rfl
/-- Nodes with digests of one width below them have unlike texts, unless they have the same below them. -/
theorem ndText_inj (a b c d : Nd) (V : Nat) (ha : a.hash.size = V) (hb : b.hash.size = V) (hc : c.hash.size = V) (hd : d.hash.size = V) (a1 : Word a.h ∧ Word a.l) (b1 : Word b.h ∧ Word b.l) (c1 : Word c.h ∧ Word c.l) (d1 : Word d.h ∧ Word d.l)
    (e : ndText a b = ndText c d) : a = c ∧ b = d := by
  have e1 := congrArg (fun x => x.data.toList) e
  simp only [ndText_list] at e1
  have e2 := (List.cons.inj e1).2
  obtain ⟨p1, e3⟩ := List.append_inj e2 (by rw [ba_size, ba_size, ha, hc])
  obtain ⟨p2, e4⟩ := List.append_inj e3 (by rw [ba_size, ba_size, textOf_size, textOf_size])
  obtain ⟨p3, p4⟩ := List.append_inj e4 (by rw [ba_size, ba_size, hb, hd])
  obtain ⟨q1, q2⟩ := textOf_inj a1.1 a1.2 c1.1 c1.2 (ba_ext p2)
  obtain ⟨q3, q4⟩ := textOf_inj b1.1 b1.2 d1.1 d1.2 (ba_ext p4)
  obtain ⟨s, h, l⟩ := a
  obtain ⟨s', h', l'⟩ := b
  obtain ⟨s2, h2, l2⟩ := c
  obtain ⟨s3, h3, l3⟩ := d
  simp only at p1 p3 q1 q2 q3 q4
  rw [ba_ext p1, ba_ext p3, q1, q2, q3, q4]
  exact ⟨rfl, rfl⟩
end Go.Proofs.YtkecekfapiegjaaDoor
/-
  Whether an entry holds: plain words. Whether a root may be; what comes of an entry; what Check tells. Of a tree's entries; of two entries of which the same comes.
-/
namespace Go.Proofs.YtkecekfapiegjaaDoor
set_option linter.unusedVariables false
set_option linter.unusedSimpArgs false
set_option maxRecDepth 10000
open Go.RowKit

/-- May a root be? -/
def mayR (r : RtP) : Int := if r.n < 0 ∨ 63 < r.n then 120 else if mayW r.hash.size = true then 0 else 70
/-- What one climbs to, as a root. -/
def topE (w : Int) (x : Lf) (p : Nat) (l : List Nd) : RtP × Int :=
  if (climbN w (nodeOf w x) p l).2 = 0 then (⟨(climbN w (nodeOf w x) p l).1.hash, (climbN w (nodeOf w x) p l).1.h, (climbN w (nodeOf w x) p l).1.l, l.length⟩, 0) else (RtP.zero, (climbN w (nodeOf w x) p l).2)
/-- What Up tells. -/
def upE (w : Int) (x : Lf) (p : Nat) (l : List Nd) : RtP × Int :=
  if x.may = true then (if shapeN w l.length p l = 0 then topE w x p l else (RtP.zero, shapeN w l.length p l)) else (RtP.zero, 130)
def rtSame (x y : RtP) : Bool := x.hash.toList == y.hash.toList && ((x.h == y.h && x.l == y.l) && x.n == y.n)
theorem rtSame_iff (x y : RtP) : rtSame x y = true ↔ x = y := by
  obtain ⟨s, h, l, n⟩ := x
  obtain ⟨s', h', l', n'⟩ := y
  unfold rtSame
  simp only [same_str7, Bool.and_eq_true, beq_iff_eq, decide_eq_true_eq, RtP.mk.injEq, and_assoc]
/-- What Check tells. -/
def checkE (r : RtP) (x : Lf) (p : Nat) (l : List Nd) : Int :=
  if mayR r = 0 then (if x.may = true then (if shapeN r.hash.size r.n p l = 0 then (if (topE r.hash.size x p l).2 = 0 then (if rtSame (topE r.hash.size x p l).1 r = true then 0 else 160) else (topE r.hash.size x p l).2) else shapeN r.hash.size r.n p l) else 130) else mayR r
theorem mayR_zero {r : RtP} (h : mayR r = 0) : 0 ≤ r.n ∧ r.n ≤ 63 ∧ mayW r.hash.size = true := by
  rw [mayR] at h
  split at h
  · exact absurd h (by decide)
  · split at h
    · rename_i h1 h2; exact ⟨by omega, by omega, h2⟩
    · exact absurd h (by decide)
theorem mayR_yes {r : RtP} (h1 : 0 ≤ r.n) (h2 : r.n ≤ 63) (h3 : mayW r.hash.size = true) : mayR r = 0 := by rw [mayR, if_neg (by omega), if_pos h3]
theorem shape_zero {w h : Int} {p : Nat} {l : List Nd} (e : shapeN w h p l = 0) : 0 ≤ h ∧ h ≤ 63 ∧ allW w l = true ∧ (l.length : Int) = h ∧ p < 2 ^ l.length := by
  rw [shapeN] at e
  split at e
  · exact absurd e (by decide)
  · split at e
    · split at e
      · rename_i h1 h2 h3; exact ⟨by omega, by omega, h2, h3.1, h3.2⟩
      · exact absurd e (by decide)
    · exact absurd e (by decide)
theorem shape_yes {w h : Int} {p : Nat} {l : List Nd} (h1 : 0 ≤ h) (h2 : h ≤ 63) (h3 : allW w l = true) (h4 : (l.length : Int) = h) (h5 : p < 2 ^ l.length) : shapeN w h p l = 0 := by
  rw [shapeN, if_neg (by omega), if_pos h3, if_pos ⟨h4, h5⟩]
theorem nodeOf_of {w : Int} {x : Lf} (hw : mayW w = true) (hx : x.may = true) : (nodeOf w x).of w = true := by
  rw [nodeOf, if_pos ⟨hw, hx⟩]
  simp only [Nd.of, hw, Bool.true_and, decide_eq_true_eq]
  exact dgB_size hw _
theorem climb_code (w : Int) : ∀ (l : List Nd) (n : Nd) (p : Nat), (climbS w n p l).2 = 0 ∨ climbS w n p l = (Nd.zero, 10)
  | [], _, _ => Or.inl rfl
  | s :: r, n, p => by
    rw [climbS]
    generalize joinS w _ _ = J
    by_cases h : J.2 = 0
    · rw [if_pos h]; exact climb_code w r _ _
    · rw [if_neg h]; exact Or.inr rfl
/-- What has the shape is climbed. -/
theorem climb_shape {w h : Int} {x : Lf} {p : Nat} {l : List Nd} (hx : x.may = true) (e : shapeN w h p l = 0) : climbN w (nodeOf w x) p l = climbS w (nodeOf w x) p l := by
  obtain ⟨h1, h2, h3, h4, h5⟩ := shape_zero e
  rw [climbN, nodeOf_of (allW_mem h3).1 hx, h3, Bool.and_self, if_pos rfl, if_pos (by omega)]
theorem shape_same {w h : Int} {p : Nat} {l : List Nd} (e : shapeN w h p l = 0) : shapeN w l.length p l = 0 := by
  obtain ⟨h1, h2, h3, h4, h5⟩ := shape_zero e
  rw [h4]; exact e
theorem up_ok {w : Int} {x : Lf} {p : Nat} {l : List Nd} {r : RtP} : upE w x p l = (r, 0) ↔ x.may = true ∧ shapeN w l.length p l = 0 ∧ topE w x p l = (r, 0) := by
  rw [upE]
  constructor
  · intro h
    split at h
    · split at h
      · rename_i h1 h2; exact ⟨h1, h2, h⟩
      · rename_i h1 h2; exact absurd (Prod.mk.inj h).2 h2
    · exact absurd (Prod.mk.inj h).2 (by decide)
  · rintro ⟨h1, h2, h3⟩
    rw [if_pos h1, if_pos h2, h3]
theorem check_ok {x : Lf} {p : Nat} {l : List Nd} {r : RtP} : checkE r x p l = 0 ↔ mayR r = 0 ∧ x.may = true ∧ shapeN r.hash.size r.n p l = 0 ∧ topE r.hash.size x p l = (r, 0) := by
  rw [checkE]
  constructor
  · intro h
    split at h
    · split at h
      · split at h
        · split at h
          · split at h
            · rename_i h1 h2 h3 h4 h5
              exact ⟨h1, h2, h3, Prod.ext ((rtSame_iff _ _).1 h5) h4⟩
            · exact absurd h (by decide)
          · rename_i h4; exact absurd h h4
        · rename_i h3; exact absurd h h3
      · exact absurd h (by decide)
    · rename_i h1; exact absurd h h1
  · rintro ⟨h1, h2, h3, h4⟩
    rw [if_pos h1, if_pos h2, if_pos h3, h4, if_pos rfl, if_pos ((rtSame_iff _ _).2 rfl)]
theorem up_err {w : Int} {x : Lf} {p : Nat} {l : List Nd} (h : (upE w x p l).2 ≠ 0) : (upE w x p l).1 = RtP.zero := by
  rw [upE] at h ⊢
  split
  · split
    · rename_i h1 h2
      rw [if_pos h1, if_pos h2] at h
      rw [topE] at h ⊢
      split
      · rename_i h3; rw [if_pos h3] at h; exact absurd rfl h
      · rfl
    · rfl
  · rfl
/-- What comes of an entry is a root that may be, of the width and as high as there are sides. -/
theorem top_fine {w : Int} {x : Lf} {p : Nat} {l : List Nd} {r : RtP} (hx : x.may = true) (hw : Word x.h ∧ Word x.l) (hl : ∀ y ∈ l, y.halved) (e : shapeN w l.length p l = 0) (h : topE w x p l = (r, 0)) :
    (r.hash.size : Int) = w ∧ r.n = l.length ∧ (Word r.h ∧ Word r.l) ∧ mayR r = 0 := by
  obtain ⟨h1, h2, h3, h4, h5⟩ := shape_zero e
  have hm := (allW_mem h3).1
  rw [topE, climb_shape hx e] at h
  split at h
  · rename_i h0
    obtain ⟨c1, c2⟩ := climb_sums hm l (nodeOf w x) p (nodeOf_fine hm hx hw.1 hw.2).2.1 (nodeOf_of hm hx) hl
    obtain ⟨h, -⟩ := Prod.mk.inj h
    subst h
    cases hr : room ((nodeOf w x).sum + sumN l) with
    | false => rw [c2 hr] at h0; exact absurd h0 (by decide)
    | true =>
      obtain ⟨-, d1, d2, -⟩ := c1 hr
      rw [Nd.of, hm, Bool.true_and] at d1
      have d3 := of_decide_eq_true d1
      exact ⟨d3, rfl, d2, mayR_yes h1 h2 (by simp only; rw [d3]; exact hm)⟩
  · rename_i h0; exact absurd (Prod.mk.inj h).2 h0
/-- P17.5: what Up tells holds under that root. -/
theorem up_holds {w : Int} {x : Lf} {p : Nat} {l : List Nd} {r : RtP} (hw : Word x.h ∧ Word x.l) (hl : ∀ y ∈ l, y.halved) (h : upE w x p l = (r, 0)) : checkE r x p l = 0 ∧ (r.hash.size : Int) = w ∧ r.n = l.length ∧ mayR r = 0 := by
  obtain ⟨h1, h2, h3⟩ := up_ok.1 h
  obtain ⟨e1, e2, -, e4⟩ := top_fine h1 hw hl h2 h3
  exact ⟨check_ok.2 ⟨e4, h1, by rw [e1, e2]; exact h2, by rw [e1]; exact h3⟩, e1, e2, e4⟩
/-- .. and what holds is told so by Up. -/
theorem holds_up {x : Lf} {p : Nat} {l : List Nd} {r : RtP} (hw : Word x.h ∧ Word x.l) (hl : ∀ y ∈ l, y.halved) : checkE r x p l = 0 ↔ upE r.hash.size x p l = (r, 0) ∧ r.n = l.length := by
  constructor
  · intro h
    obtain ⟨h1, h2, h3, h4⟩ := check_ok.1 h
    obtain ⟨-, -, -, g4, -⟩ := shape_zero h3
    exact ⟨up_ok.2 ⟨h2, shape_same h3, h4⟩, g4.symm⟩
  · rintro ⟨h1, h2⟩
    exact (up_holds hw hl h1).1
/-- Under no two roots of one width. -/
theorem holds_once {x : Lf} {p : Nat} {l : List Nd} {r s : RtP} (h : checkE r x p l = 0) (h' : checkE s x p l = 0) (e : (r.hash.size : Int) = s.hash.size) : r = s := by
  obtain ⟨-, -, -, h4⟩ := check_ok.1 h
  obtain ⟨-, -, -, g4⟩ := check_ok.1 h'
  rw [e, g4] at h4
  exact ((Prod.mk.inj h4).1).symm
/-- Another total: ErrProof. -/
theorem holds_sum {x : Lf} {p : Nat} {l : List Nd} {r : RtP} (h : checkE r x p l = 0) {a b : Int} (hne : ¬ (r.h = a ∧ r.l = b)) : checkE ⟨r.hash, a, b, r.n⟩ x p l = 160 := by
  obtain ⟨h1, h2, h3, h4⟩ := check_ok.1 h
  rw [checkE, show mayR ⟨r.hash, a, b, r.n⟩ = 0 from h1, if_pos rfl, if_pos h2, if_pos h3]
  simp only
  rw [h4, if_pos rfl, if_neg]
  intro e
  have e : r = ⟨r.hash, a, b, r.n⟩ := (rtSame_iff _ _).1 e
  exact hne ⟨congrArg RtP.h e, congrArg RtP.l e⟩
theorem check_high {x : Lf} {p : Nat} {l : List Nd} {r : RtP} (h : r.n < 0 ∨ 63 < r.n) : checkE r x p l = 120 := by
  have : mayR r = 120 := by rw [mayR, if_pos h]
  rw [checkE, this, if_neg (by decide)]
theorem check_wide {x : Lf} {p : Nat} {l : List Nd} {r : RtP} (h : ¬ (r.n < 0 ∨ 63 < r.n)) (hw : mayW r.hash.size = false) : checkE r x p l = 70 := by
  have : mayR r = 70 := by rw [mayR, if_neg h, if_neg (by rw [hw]; decide)]
  rw [checkE, this, if_neg (by decide)]
section
variable {w : Int} {l : List Lf} {k : Nat}
/-- A tree's root. -/
def rootT (w : Int) (l : List Lf) (k : Nat) : RtP := ⟨(topN w l k).hash, (topN w l k).h, (topN w l k).l, k⟩
/-- Each leaf of a tree holds, by its proof, under the root. -/
theorem FairT.holds (h : FairT w l k) {p : Nat} (hp : p < 2 ^ k) {x : Lf} (hx : l[p]? = some x) : checkE (rootT w l k) x p (sibsN w (l.map (nodeOf w)) p k) = 0 ∧ ((rootT w l k).hash.size : Int) = w := by
  obtain ⟨hm, hw⟩ := h.all x (List.mem_of_getElem? hx)
  have h1 : upE w x p (sibsN w (l.map (nodeOf w)) p k) = (rootT w l k, 0) := by
    refine up_ok.2 ⟨hm, by rw [sibs_len]; exact h.shape hp, ?_⟩
    rw [topE, h.climbs hp hx, if_pos rfl, sibs_len]
    rfl
  have := up_holds hw (h.sidesHalved hp) h1
  exact ⟨this.1, this.2.1⟩
end
/-- The two that are put together at a step. -/
def lftN (p i : Nat) (n s : Nd) : Nd := if p / 2 ^ i % 2 = 1 then s else n
def rgtN (p i : Nat) (n s : Nd) : Nd := if p / 2 ^ i % 2 = 1 then n else s
/-- The node at a level of a way, and the texts from the leaf's on. -/
def wayN (w : Int) (x : Lf) (p : Nat) (l : List Nd) (i : Nat) : Nd := (climbS w (nodeOf w x) p (l.take i)).1
def txtN (w : Int) (x : Lf) (p : Nat) (l : List Nd) : Nat → ByteArray
  | 0 => x.text
  | i + 1 => ndText (lftN p i (wayN w x p l i) (ndAt l i)) (rgtN p i (wayN w x p l i) (ndAt l i))
theorem ndAt_some {L : List Nd} {q : Nat} {y : Nd} (h : L[q]? = some y) : ndAt L q = y := by
  rw [ndAt, List.getD_eq_getElem?_getD, h]; rfl
/-- A step of a way that is climbed. -/
theorem way_next {w : Int} {x : Lf} {p : Nat} {l : List Nd} (h : (climbS w (nodeOf w x) p l).2 = 0) {i : Nat} (hi : i < l.length) :
    room ((lftN p i (wayN w x p l i) (ndAt l i)).sum + (rgtN p i (wayN w x p l i) (ndAt l i)).sum) = true ∧
    wayN w x p l (i + 1) = (joinS w (lftN p i (wayN w x p l i) (ndAt l i)) (rgtN p i (wayN w x p l i) (ndAt l i))).1 := by
  obtain ⟨s, hs⟩ : ∃ s, l[i]? = some s := ⟨_, List.getElem?_eq_getElem hi⟩
  have e0 := ndAt_some hs
  have ht : l.take (i + 1) = l.take i ++ [s] := by rw [List.take_add_one, hs]; rfl
  have hz : ∀ j, (climbS w (nodeOf w x) p (l.take j)).2 = 0 := fun j => by
    by_cases e : (climbS w (nodeOf w x) p (l.take j)).2 = 0
    · exact e
    · have := climb_stop w (l.take j) (nodeOf w x) p (l.drop j) e
      rw [List.take_append_drop] at this
      rw [this] at h
      exact absurd h (by decide)
  have h1 := climb_more w (l.take i) (nodeOf w x) p [s] (hz i)
  rw [← ht, List.length_take, Nat.min_eq_left (by omega), climb_one] at h1
  have h2 := hz (i + 1)
  rw [h1] at h2
  unfold wayN lftN rgtN
  rw [e0]
  generalize (climbS w (nodeOf w x) p (l.take i)).1 = y at *
  generalize (if p / 2 ^ i % 2 = 1 then s else y) = a at *
  generalize (if p / 2 ^ i % 2 = 1 then y else s) = b at *
  by_cases h3 : (joinS w a b).2 = 0
  · exact ⟨join_zero h3, by rw [h1, if_pos h3]⟩
  · rw [if_neg h3] at h2; exact absurd h2 (by decide)
theorem way_fine {w : Int} {x : Lf} {p : Nat} {l : List Nd} (hw : mayW w = true) (hx : x.may = true) (hxw : Word x.h ∧ Word x.l) (hl : ∀ y ∈ l, y.halved) (h : (climbS w (nodeOf w x) p l).2 = 0) :
    ∀ i, i ≤ l.length → (wayN w x p l i).of w = true ∧ (wayN w x p l i).halved
  | 0, _ => by
    have e : wayN w x p l 0 = nodeOf w x := by rw [wayN, List.take_zero]; rfl
    rw [e]
    exact ⟨nodeOf_of hw hx, (nodeOf_fine hw hx hxw.1 hxw.2).2.1⟩
  | i + 1, hi => by
    obtain ⟨h1, h2⟩ := way_next h (i := i) (by omega)
    obtain ⟨-, j2, j3, -⟩ := join_yes hw h1
    rw [h2]
    exact ⟨j2, j3⟩
/-- A level's digest is that of the text. -/
theorem way_hash {w : Int} {x : Lf} {p : Nat} {l : List Nd} (hw : mayW w = true) (hx : x.may = true) (h : (climbS w (nodeOf w x) p l).2 = 0) : ∀ i, i ≤ l.length → (wayN w x p l i).hash = dgB w (txtN w x p l i)
  | 0, _ => by
    have e : wayN w x p l 0 = nodeOf w x := by rw [wayN, List.take_zero]; rfl
    rw [e, nodeOf, if_pos ⟨hw, hx⟩]
    rfl
  | i + 1, hi => by
    obtain ⟨h1, h2⟩ := way_next h (i := i) (by omega)
    rw [h2, joinS, if_pos h1]
    rfl
/-- P17.6: two entries at one position of which the same comes are the same, or two unlike texts on their ways have one digest. -/
theorem spoilt_found {w : Int} {x y : Lf} {p : Nat} {l m : List Nd} (hw : mayW w = true) (hx : x.may = true) (hy : y.may = true) (hxw : Word x.h ∧ Word x.l) (hyw : Word y.h ∧ Word y.l) (hl : ∀ z ∈ l, z.halved) (hm : ∀ z ∈ m, z.halved)
    (hlo : ∀ z ∈ l, z.of w = true) (hmo : ∀ z ∈ m, z.of w = true) (hlm : l.length = m.length) (h1 : (climbS w (nodeOf w x) p l).2 = 0) (h2 : (climbS w (nodeOf w y) p m).2 = 0) (he : (climbS w (nodeOf w x) p l).1 = (climbS w (nodeOf w y) p m).1)
    (hn : ∀ i, i ≤ l.length → txtN w x p l i ≠ txtN w y p m i → dgB w (txtN w x p l i) ≠ dgB w (txtN w y p m i)) : x = y ∧ l = m := by
  have sz : ∀ z : Nd, z.of w = true → z.hash.size = w.toNat := fun z hz => by
    have := of_decide_eq_true ((Bool.and_eq_true _ _).mp hz).2
    omega
  -- what is below is the same, from the top down
  have key : ∀ d, d ≤ l.length → wayN w x p l (l.length - d) = wayN w y p m (l.length - d) ∧ ∀ i, l.length - d ≤ i → i < l.length → ndAt l i = ndAt m i := by
    intro d
    induction d with
    | zero =>
      intro _
      refine ⟨?_, fun i h3 h4 => by omega⟩
      rw [Nat.sub_zero, wayN, wayN, List.take_length, hlm, List.take_length]
      exact he
    | succ d ih =>
      intro hd
      obtain ⟨g1, g2⟩ := ih (by omega)
      obtain ⟨i, hi⟩ : ∃ i, l.length - (d + 1) = i := ⟨_, rfl⟩
      have hi1 : l.length - d = i + 1 := by omega
      rw [hi1] at g1 g2
      rw [hi]
      have hil : i < l.length := by omega
      have him : i < m.length := by omega
      have e1 := way_hash hw hx h1 (i + 1) (by omega)
      have e2 := way_hash hw hy h2 (i + 1) (by omega)
      have et : txtN w x p l (i + 1) = txtN w y p m (i + 1) := by
        by_cases e : txtN w x p l (i + 1) = txtN w y p m (i + 1)
        · exact e
        · exact absurd (e1.symm.trans ((congrArg Nd.hash g1).trans e2)) (hn (i + 1) (by omega) e)
      obtain ⟨a1, a2⟩ := way_fine hw hx hxw hl h1 i (by omega)
      obtain ⟨b1, b2⟩ := way_fine hw hy hyw hm h2 i (by omega)
      obtain ⟨s, hs⟩ : ∃ s, l[i]? = some s := ⟨_, List.getElem?_eq_getElem hil⟩
      obtain ⟨t, ht⟩ : ∃ t, m[i]? = some t := ⟨_, List.getElem?_eq_getElem him⟩
      have es := ndAt_some hs
      have es2 := ndAt_some ht
      have s1 := hl s (List.mem_of_getElem? hs)
      have s2 := hlo s (List.mem_of_getElem? hs)
      have t1 := hm t (List.mem_of_getElem? ht)
      have t2 := hmo t (List.mem_of_getElem? ht)
      rw [txtN, txtN, es, es2] at et
      have both : wayN w x p l i = wayN w y p m i ∧ s = t := by
        unfold lftN rgtN at et
        by_cases hp : p / 2 ^ i % 2 = 1
        · rw [if_pos hp, if_pos hp, if_pos hp, if_pos hp] at et
          obtain ⟨u, v⟩ := ndText_inj _ _ _ _ w.toNat (sz _ s2) (sz _ a1) (sz _ t2) (sz _ b1) s1 a2 t1 b2 et
          exact ⟨v, u⟩
        · rw [if_neg hp, if_neg hp, if_neg hp, if_neg hp] at et
          exact ndText_inj _ _ _ _ w.toNat (sz _ a1) (sz _ s2) (sz _ b1) (sz _ t2) a2 s1 b2 t1 et
      refine ⟨both.1, fun j h3 h4 => ?_⟩
      by_cases hj : j = i
      · rw [hj, es, es2, both.2]
      · exact g2 j (by omega) h4
  obtain ⟨g1, g2⟩ := key l.length (Nat.le_refl _)
  rw [Nat.sub_self] at g1 g2
  refine ⟨?_, ?_⟩
  · have e1 := way_hash hw hx h1 0 (by omega)
    have e2 := way_hash hw hy h2 0 (by omega)
    have et : x.text = y.text := by
      by_cases e : x.text = y.text
      · exact e
      · exact absurd (e1.symm.trans ((congrArg Nd.hash g1).trans e2)) (hn 0 (by omega) e)
    exact text_inj x y hx hy hxw.1 hxw.2 hyw.1 hyw.2 et
  · apply List.ext_getElem?
    intro i
    by_cases hi : i < l.length
    · have h3 := g2 i (by omega) hi
      rw [ndAt, ndAt, List.getD_eq_getElem?_getD, List.getD_eq_getElem?_getD, List.getElem?_eq_getElem hi, List.getElem?_eq_getElem (by omega)] at h3
      rw [List.getElem?_eq_getElem hi, List.getElem?_eq_getElem (by omega)]
      exact congrArg some h3
    · rw [List.getElem?_eq_none (by omega), List.getElem?_eq_none (by omega)]
end Go.Proofs.YtkecekfapiegjaaDoor
