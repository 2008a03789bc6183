/-
  Plain words for TreeOther: two leaves' ways up; where nodes differ below a node, their texts do. (textOf_inj .. ndText_inj as in L7Unlike.)
-/
import Derived.Test.YtbhgcmdodjgpmaaDoorM15Tr
namespace Go.Proofs.YtbhgcmdodjgpmaaDoor
set_option linter.unusedVariables false
set_option linter.unusedSimpArgs false
set_option maxRecDepth 10000

theorem textOf_inj {h l h' l' : Int} (a : Word h) (b : Word l) (c : Word h') (d : Word l') (e : textOf h l = textOf h' l') : h = h' ∧ l = l' := by
  have e1 := textOf_fromH (l := l) a
  have e2 := textOf_fromL (h := h) b
  rw [e] at e1 e2
  exact ⟨e1.symm.trans (textOf_fromH c), e2.symm.trans (textOf_fromL d)⟩
theorem ndText_list (a b : Nd) : (ndText a b).data.toList = 1 :: (a.hash.data.toList ++ ((textOf a.h a.l).data.toList ++ (b.hash.data.toList ++ (textOf b.h b.l).data.toList))) := by
  unfold ndText
  simp only [ByteArray.data_append, Array.toList_append, List.append_assoc]
  rfl
/-- Nodes with digests of one width below them have unlike texts, unless they have the same below them. -/
theorem ndText_inj (a b c d : Nd) (V : Nat) (ha : a.hash.size = V) (hb : b.hash.size = V) (hc : c.hash.size = V) (hd : d.hash.size = V) (a1 : Word a.h ∧ Word a.l) (b1 : Word b.h ∧ Word b.l) (c1 : Word c.h ∧ Word c.l) (d1 : Word d.h ∧ Word d.l)
    (e : ndText a b = ndText c d) : a = c ∧ b = d := by
  have e1 := congrArg (fun x => x.data.toList) e
  simp only [ndText_list] at e1
  have e2 := (List.cons.inj e1).2
  obtain ⟨p1, e3⟩ := List.append_inj e2 (by rw [ba_size, ba_size, ha, hc])
  obtain ⟨p2, e4⟩ := List.append_inj e3 (by rw [ba_size, ba_size, textOf_size, textOf_size])
  obtain ⟨p3, p4⟩ := List.append_inj e4 (by rw [ba_size, ba_size, hb, hd])
  obtain ⟨q1, q2⟩ := textOf_inj a1.1 a1.2 c1.1 c1.2 (ba_ext p2)
  obtain ⟨q3, q4⟩ := textOf_inj b1.1 b1.2 d1.1 d1.2 (ba_ext p4)
  obtain ⟨s, h, l⟩ := a
  obtain ⟨s', h', l'⟩ := b
  obtain ⟨s2, h2, l2⟩ := c
  obtain ⟨s3, h3, l3⟩ := d
  simp only at p1 p3 q1 q2 q3 q4
  rw [ba_ext p1, ba_ext p3, q1, q2, q3, q4]
  exact ⟨rfl, rfl⟩
section
variable {w : Int} {l l2 : List Lf} {k : Nat}
theorem ndAt_get {L : List Nd} {q : Nat} (h : q < L.length) : L[q]? = some (ndAt L q) := by
  rw [ndAt, List.getD_eq_getElem?_getD, List.getElem?_eq_getElem h]; rfl
/-- A node's digest is that of the text of the two below it. -/
theorem up_hash (hF : FairT w l k) {j : Nat} (hj : j < k) {q : Nat} (hq : q < 2 ^ (k - j)) :
    (ndAt (upN w (j + 1) (l.map (nodeOf w))) (q / 2)).hash = dgB w (ndText (ndAt (upN w j (l.map (nodeOf w))) (q / 2 * 2)) (ndAt (upN w j (l.map (nodeOf w))) (q / 2 * 2 + 1))) := by
  have hn := hF.ulen (by omega : j ≤ k)
  have hp : 2 ^ (k - j) = 2 ^ (k - (j + 1)) + 2 ^ (k - (j + 1)) := by rw [show k - j = k - (j + 1) + 1 by omega, pow_two]
  obtain ⟨hh, -, hs⟩ := hF.up (by omega : j ≤ k)
  have hx := ndAt_get (L := upN w j (l.map (nodeOf w))) (q := q / 2 * 2) (by omega)
  have hy := ndAt_get (L := upN w j (l.map (nodeOf w))) (q := q / 2 * 2 + 1) (by omega)
  have hsum := sum_two hh hx hy (by omega)
  have hr := of_decide_eq_true hF.room
  have h0 := (Nd.sum_fine (hh _ (List.mem_of_getElem? hx))).1
  have h1 := (Nd.sum_fine (hh _ (List.mem_of_getElem? hy))).1
  have hroom : room ((ndAt (upN w j (l.map (nodeOf w))) (q / 2 * 2)).sum + (ndAt (upN w j (l.map (nodeOf w))) (q / 2 * 2 + 1)).sum) = true := decide_eq_true (by omega)
  have hz := pairL_at w (q / 2) _ _ _ (by rw [← Nat.mul_two]; exact hx) (by rw [← Nat.mul_two]; exact hy)
  have e : ndAt (upN w (j + 1) (l.map (nodeOf w))) (q / 2) = (joinS w (ndAt (upN w j (l.map (nodeOf w))) (q / 2 * 2)) (ndAt (upN w j (l.map (nodeOf w))) (q / 2 * 2 + 1))).1 := by
    rw [ndAt, List.getD_eq_getElem?_getD, upN, hz]; rfl
  rw [e, joinS, if_pos hroom]
/-- Where nodes differ, the texts of their nodes above do. -/
theorem texts_differ (hF : FairT w l k) (hF2 : FairT w l2 k) {j : Nat} (hj : j < k) {q : Nat} (hq : q < 2 ^ (k - j)) (hne : ndAt (upN w j (l.map (nodeOf w))) q ≠ ndAt (upN w j (l2.map (nodeOf w))) q) :
    ndText (ndAt (upN w j (l.map (nodeOf w))) (q / 2 * 2)) (ndAt (upN w j (l.map (nodeOf w))) (q / 2 * 2 + 1)) ≠ ndText (ndAt (upN w j (l2.map (nodeOf w))) (q / 2 * 2)) (ndAt (upN w j (l2.map (nodeOf w))) (q / 2 * 2 + 1)) := by
  intro e
  have hn := hF.ulen (by omega : j ≤ k)
  have hn2 := hF2.ulen (by omega : j ≤ k)
  have hp : 2 ^ (k - j) = 2 ^ (k - (j + 1)) + 2 ^ (k - (j + 1)) := by rw [show k - j = k - (j + 1) + 1 by omega, pow_two]
  obtain ⟨hh, ho, -⟩ := hF.up (by omega : j ≤ k)
  obtain ⟨hh2, ho2, -⟩ := hF2.up (by omega : j ≤ k)
  have hw := of_decide_eq_true hF.may
  have m1 := List.mem_of_getElem? (ndAt_get (L := upN w j (l.map (nodeOf w))) (q := q / 2 * 2) (by omega))
  have m2 := List.mem_of_getElem? (ndAt_get (L := upN w j (l.map (nodeOf w))) (q := q / 2 * 2 + 1) (by omega))
  have m3 := List.mem_of_getElem? (ndAt_get (L := upN w j (l2.map (nodeOf w))) (q := q / 2 * 2) (by omega))
  have m4 := List.mem_of_getElem? (ndAt_get (L := upN w j (l2.map (nodeOf w))) (q := q / 2 * 2 + 1) (by omega))
  have sz : ∀ x : Nd, x.of w = true → x.hash.size = w.toNat := fun x hx => by
    have := of_decide_eq_true ((Bool.and_eq_true _ _).mp hx).2
    omega
  obtain ⟨e1, e2⟩ := ndText_inj _ _ _ _ w.toNat (sz _ (ho _ m1)) (sz _ (ho _ m2)) (sz _ (ho2 _ m3)) (sz _ (ho2 _ m4)) (hh _ m1) (hh _ m2) (hh2 _ m3) (hh2 _ m4) e
  by_cases hb : q % 2 = 0
  · have eq : q / 2 * 2 = q := by omega
    rw [eq] at e1
    exact hne e1
  · have eq : q / 2 * 2 + 1 = q := by omega
    rw [eq] at e2
    exact hne e2
end
end Go.Proofs.YtbhgcmdodjgpmaaDoor
