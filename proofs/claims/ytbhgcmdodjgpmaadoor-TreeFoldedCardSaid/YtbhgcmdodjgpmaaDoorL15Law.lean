/-
  What the laws of stage 15 ask: whether leaves are more than are gone through; of which leaves there is a tree.
-/
import Derived.Test.YtbhgcmdodjgpmaaDoorM15Tr
import Derived.Test.YtbhgcmdodjgpmaaDoorW7Laid
import Derived.Test.YtbhgcmdodjgpmaaDoorT14Opn
namespace Go.Proofs.YtbhgcmdodjgpmaaDoor
set_option linter.unusedVariables false
set_option linter.unusedSimpArgs false
set_option maxRecDepth 10000
open Go.ChangeShapes Go.WideShapes Go.ChangeAt Go.RowKit

/-- Are leaves more than are gone through? -/
def greatLf (l : List Lf) : Bool := decide (70 < l.length) || l.any fun x => decide (200 < x.id.size) || decide (200 < x.salt.size)
theorem greatLf_no {l : List Lf} (h : greatLf l = false) : l.length ≤ 70 ∧ ∀ x ∈ l, x.id.size ≤ 200 ∧ x.salt.size ≤ 200 := by
  rw [greatLf, Bool.or_eq_false_iff] at h
  refine ⟨by have := of_decide_eq_false h.1; omega, fun x hx => ?_⟩
  have := List.any_eq_false.1 h.2 x hx
  simp at this
  omega
set_option maxRecDepth 100000 in
set_option maxHeartbeats 4000000 in
theorem great15_any (A : Option Addr) (c : Nat) (l : List Lf) (hl : l.length ≤ 9223372036854775807) (hf : ∀ x ∈ l, x.id.size ≤ 9223372036854775807 ∧ x.salt.size ≤ 9223372036854775807) (w : World) (h : lfS.Row w w.heap.size A l) :
    Calls Tryd.prog 7 #[.slice A l.length c] w (Plain (.bool (greatLf l)) w) := by
  have eV : greatLf l = (decide (70 < l.length) || l.any fun x => decide (200 < x.id.size) || decide (200 < x.salt.size)) := rfl
  obtain ⟨V, hV⟩ : ∃ V, greatLf l = V := ⟨_, rfl⟩
  rw [hV] at eV ⊢
  clear hV
  obtain ⟨N, hN⟩ : ∃ N, l.length = N := ⟨_, rfl⟩
  rw [hN] at eV hl ⊢
  by_cases h3 : 70 < N
  · rw [decide_eq_true h3, Bool.true_or] at eV
    subst eV
    have h3i : (70 : Int) < (N : Int) := by omega
    go_enter Tryd.func7, Tryd.ntmps7
    go_wp2
    go_ret
    exact ⟨rfl, rfl⟩
  · rw [decide_eq_false h3, Bool.false_or] at eV
    have HV := hideIt eV
    clear eV
    have h3i : ¬ (70 : Int) < (N : Int) := by omega
    go_enter Tryd.func7, Tryd.ntmps7
    go_wp2
    go_loopg [3] N (fun gk i wr => ∃ k : Nat, k ≤ N ∧ N - k ≤ gk ∧ i = .int .i64 k ∧ (∀ j x, j < k → l[j]? = some x → (decide (200 < x.id.size) || decide (200 < x.salt.size)) = false) ∧ wr = w)
    case atStart => exact ⟨0, Nat.zero_le _, by omega, rfl, fun j x hj => absurd hj (Nat.not_lt_zero _), rfl⟩
    case round =>
      obtain ⟨k, hk, hgk, rfl, hall, rfl⟩ := hrel
      have HG := hideIt hgk
      have HA := hideIt hall
      clear hgk hall
      by_cases hlt : k < N
      · obtain ⟨x, hx⟩ : ∃ x, l[k]? = some x := ⟨_, List.getElem?_eq_getElem (by omega)⟩
        have hlti : (k : Int) < (N : Int) := by omega
        obtain ⟨hx1, hx2⟩ := hf x (List.mem_of_getElem? hx)
        obtain ⟨ad, rfl, g1, p0, p1, p2, p3, p4⟩ := lf_get h hx
        have HX := hideIt hx
        obtain ⟨xp, xi, xs, xh, xl⟩ := x
        simp only at p0 p1 p2 p3 p4 hx1 hx2
        clear hx
        cases hb : (decide (200 < xi.size) || decide (200 < xs.size)) with
        | true =>
          have hyes : V = true := by
            rw [HV.out]
            exact List.any_eq_true.2 ⟨_, List.mem_of_getElem? HX.out, hb⟩
          subst hyes
          by_cases h1 : 200 < xi.size
          · have h1i : (200 : Int) < (xi.size : Int) := by omega
            clear hb
            go_wp2
            go_ret
            exact ⟨rfl, rfl⟩
          · have h2 : 200 < xs.size := by
              rw [decide_eq_false h1, Bool.false_or] at hb
              exact of_decide_eq_true hb
            have h1i : ¬ (200 : Int) < (xi.size : Int) := by omega
            have h2i : (200 : Int) < (xs.size : Int) := by omega
            clear hb
            go_wp2
            go_ret
            exact ⟨rfl, rfl⟩
        | false =>
          have HB := hideIt hb
          rw [Bool.or_eq_false_iff] at hb
          have h1 := of_decide_eq_false hb.1
          have h2 := of_decide_eq_false hb.2
          have h1i : ¬ (200 : Int) < (xi.size : Int) := by omega
          have h2i : ¬ (200 : Int) < (xs.size : Int) := by omega
          clear hb
          go_wp2
          go_roundg (N - (k + 1))
          case measure => have := HG.out; omega
          case rel => exact ⟨k + 1, by omega, Nat.le_refl _, by go_num, fun j x hj hx => by
              by_cases e : j = k
              · subst e
                rw [HX.out] at hx
                injection hx with hx
                rw [← hx]
                exact HB.out
              · exact HA.out j x (by omega) hx, rfl⟩
      · have e : k = N := by omega
        subst e
        have hno : V = false := by
          rw [HV.out]
          exact List.any_eq_false.2 fun x hx => by
            obtain ⟨j, hj⟩ := List.getElem?_of_mem hx
            rw [HA.out j x (by have := (List.getElem?_eq_some_iff.1 hj).1; omega) hj]
            decide
        subst hno
        go_wp2
        go_ret
        exact ⟨rfl, rfl⟩
theorem lf_rowL (w : World) (d : List Lf) : lfS.Row (w.alloc (.cells (lfS.flat d).toArray 26)) (w.alloc (.cells (lfS.flat d).toArray 26)).heap.size (some ⟨w.heap.size, 0, none⟩) d := Sh.row_box (S := lfS) (d := d) (Box.made w 26 (lfS.flat d).toArray)
/-- What New tells of a width and leaves. -/
def newE (n : Int) (l : List Lf) : Int := if wrongT n l = 0 then (if room (sumN (l.map (nodeOf n))) = true then 0 else 10) else wrongT n l
theorem wrongT_zero {n : Int} {l : List Lf} (h : wrongT n l = 0) : mayW n = true ∧ mayN l.length = true ∧ ∀ x ∈ l, x.may = true := by
  rw [wrongT] at h
  by_cases h1 : mayW n = true
  · rw [if_pos h1] at h
    by_cases h2 : mayN l.length = true
    · rw [if_pos h2] at h
      by_cases h3 : l.all Lf.may = true
      · exact ⟨h1, h2, List.all_eq_true.1 h3⟩
      · rw [if_neg h3] at h; cases h
    · rw [if_neg h2] at h; cases h
  · rw [if_neg h1] at h; cases h
theorem mayN_log {m : Nat} (h : mayN m = true) : m = 2 ^ Nat.log2 m ∧ Nat.log2 m ≤ 10 := by
  have := of_decide_eq_true h
  refine ⟨this.2.1, ?_⟩
  have h2 := this.2.2
  rw [this.2.1] at h2
  by_cases hh : Nat.log2 m ≤ 10
  · exact hh
  · have : 2 ^ 11 ≤ 2 ^ Nat.log2 m := Nat.pow_le_pow_right (by decide) (by omega)
    omega
theorem newE_fair {n : Int} {l : List Lf} (h : newE n l = 0) (hw : ∀ x ∈ l, Word x.h ∧ Word x.l) : FairT n l (Nat.log2 l.length) := by
  rw [newE] at h
  by_cases h0 : wrongT n l = 0
  · rw [if_pos h0] at h
    obtain ⟨h1, h2, h3⟩ := wrongT_zero h0
    obtain ⟨h4, h5⟩ := mayN_log h2
    refine ⟨h1, h4, h5, fun x hx => ⟨h3 x hx, hw x hx⟩, ?_⟩
    cases hr : room (sumN (l.map (nodeOf n))) with
    | true => rfl
    | false => rw [hr, if_neg (by decide)] at h; cases h
  · rw [if_neg h0] at h; exact absurd h h0
theorem FairT.wrong {n : Int} {l : List Lf} {k : Nat} (h : FairT n l k) : wrongT n l = 0 := by
  rw [wrongT, if_pos h.may, h.len, mayN_pow k (by have := h.few; omega), if_pos rfl, if_pos (List.all_eq_true.2 fun x hx => (h.all x hx).1)]
theorem FairT.newE {n : Int} {l : List Lf} {k : Nat} (h : FairT n l k) : newE n l = 0 := by
  rw [Go.Proofs.YtbhgcmdodjgpmaaDoor.newE, if_pos h.wrong, if_pos h.room]
section
variable (n : Int) (A : Option Addr) (c : Nat) (l : List Lf) (w : World)
theorem new15_fair {k : Nat} (hF : FairT n l k) (hR : lfS.Row w w.heap.size A l) (hK : Tab w) (hU : TabU w) :
    Calls Tryd.prog 17 #[.int .i64 n, .slice A l.length c] w (fun e w' => Below w.heap.size w w' ∧ ∃ q : TrG, e = .returned (.tuple #[.pointer (some ⟨q.g, 0, none⟩), .int .i64 0]) ∧ TrAt w' q n l k ∧ q.within w.heap.size w'.heap.size) :=
  (new15_any n A c l k hF.may hF.len hF.few hF.all w hR hK hU).mono fun e w' h => by
    obtain ⟨hb, ⟨-, h⟩ | ⟨h, -⟩⟩ := h
    · exact ⟨hb, h⟩
    · rw [hF.room] at h; cases h
theorem new15_err (hl : l.length ≤ 9223372036854775807) (hs : ∀ x ∈ l, x.id.size ≤ 9223372036854775807 ∧ x.salt.size ≤ 9223372036854775807) (hw : ∀ x ∈ l, Word x.h ∧ Word x.l) (hE : newE n l ≠ 0) (hR : lfS.Row w w.heap.size A l) (hK : Tab w) (hU : TabU w) :
    Calls Tryd.prog 17 #[.int .i64 n, .slice A l.length c] w (Tells (.tuple #[.pointer none, .int .i64 (newE n l)]) w.heap.size w) := by
  by_cases h0 : wrongT n l = 0
  · have e : newE n l = if room (sumN (l.map (nodeOf n))) = true then 0 else 10 := by rw [newE, if_pos h0]
    obtain ⟨h1, h2, h3⟩ := wrongT_zero h0
    obtain ⟨h4, h5⟩ := mayN_log h2
    refine (new15_any n A c l (Nat.log2 l.length) h1 h4 h5 (fun x hx => ⟨h3 x hx, hw x hx⟩) w hR hK hU).mono fun e w' h => ?_
    obtain ⟨hb, ⟨hr, -⟩ | ⟨hr, h⟩⟩ := h
    · rw [newE, if_pos h0, if_pos hr] at hE; exact absurd rfl hE
    · rw [newE, if_pos h0, if_neg (by rw [hr]; decide)]; exact ⟨h, hb⟩
  · have e : newE n l = wrongT n l := by rw [newE, if_neg h0]
    rw [e]
    exact new15_bad n A c l hl hs _ rfl h0 w hR hU
end
section
variable {W : World} {q : TrG} {w : Int} {l : List Lf} {k : Nat}
theorem set15_yes (h : TrAt W q w l k) (hF : FairT w l k) (p : Nat) (hp : p < 2 ^ k) (x : Lf) (hF2 : FairT w (l.set p x) k) (hT : Tab W) (hU : TabU W) :
    Calls Tryd.prog 11 #[.pointer (some ⟨q.g, 0, none⟩), .int .u64 p, x.val] W (fun e w' => e = .returned (.int .i64 0) ∧ TrAt w' q w (l.set p x) k ∧ Off q.turns W w') := by
  have hx := hF2.all x (List.mem_of_getElem? (i := p) (by rw [List.getElem?_set_self (by rw [hF.len]; exact hp)]))
  refine (set15_any h hF p hp x hx hT hU).mono fun e w' h => ?_
  rcases h with ⟨-, h⟩ | ⟨h, -⟩
  · exact h
  · rw [hF2.room] at h; cases h
theorem set15_full (h : TrAt W q w l k) (hF : FairT w l k) (p : Nat) (hp : p < 2 ^ k) (x : Lf) (hx : x.may = true ∧ Word x.h ∧ Word x.l) (hr : room (sumN ((l.set p x).map (nodeOf w))) = false) (hT : Tab W) (hU : TabU W) :
    Calls Tryd.prog 11 #[.pointer (some ⟨q.g, 0, none⟩), .int .u64 p, x.val] W (Tells (.int .i64 10) W.heap.size W) := by
  refine (set15_any h hF p hp x hx hT hU).mono fun e w' h => ?_
  rcases h with ⟨h, -⟩ | ⟨-, h⟩
  · rw [hr] at h; cases h
  · exact h
theorem TrG.within.off {q : TrG} {lo hi : Nat} {W W' : World} (h : q.within lo hi) (ho : Off q.turns W W') (hl : lo ≤ W.heap.size) : Below lo W W' := ho.below (fun i hi => (h.turns hi).1) hl
/-- Of leaves one of which is set: what is told is what New tells of them. -/
theorem newE_set (hF : FairT w l k) (p : Nat) (hp : p < 2 ^ k) (x : Lf) (hw : Word x.h ∧ Word x.l) :
    (newE w (l.set p x) = 0 ∧ FairT w (l.set p x) k) ∨ (newE w (l.set p x) = 130 ∧ x.may = false) ∨ (newE w (l.set p x) = 10 ∧ x.may = true ∧ room (sumN ((l.set p x).map (nodeOf w))) = false) := by
  have hlen : (l.set p x).length = 2 ^ k := by rw [List.length_set]; exact hF.len
  have hx : (l.set p x)[p]? = some x := by rw [List.getElem?_set_self (by rw [hF.len]; exact hp)]
  cases hm : x.may with
  | false =>
    refine Or.inr (Or.inl ⟨?_, rfl⟩)
    have : wrongT w (l.set p x) = 130 := by
      rw [wrongT, if_pos hF.may, hlen, mayN_pow k (by have := hF.few; omega), if_pos rfl, if_neg]
      intro h
      have := List.all_eq_true.1 h x (List.mem_of_getElem? hx)
      rw [hm] at this; cases this
    rw [newE, if_neg (by rw [this]; decide), this]
  | true =>
    have hall : ∀ y ∈ l.set p x, y.may = true ∧ Word y.h ∧ Word y.l := fun y hy => by
      rcases List.mem_or_eq_of_mem_set hy with hy | rfl
      · exact hF.all y hy
      · exact ⟨hm, hw⟩
    have h0 : wrongT w (l.set p x) = 0 := by
      rw [wrongT, if_pos hF.may, hlen, mayN_pow k (by have := hF.few; omega), if_pos rfl, if_pos (List.all_eq_true.2 fun y hy => (hall y hy).1)]
    cases hr : room (sumN ((l.set p x).map (nodeOf w))) with
    | true => exact Or.inl ⟨by rw [newE, if_pos h0, if_pos hr], hF.may, hlen, hF.few, hall, hr⟩
    | false => exact Or.inr (Or.inr ⟨by rw [newE, if_pos h0, if_neg (by rw [hr]; decide)], rfl, rfl⟩)
end
end Go.Proofs.YtbhgcmdodjgpmaaDoor
