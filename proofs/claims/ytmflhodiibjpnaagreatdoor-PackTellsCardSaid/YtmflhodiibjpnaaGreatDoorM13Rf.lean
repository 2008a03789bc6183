/- Several of my texts, laid as one. -/
import Derived.Test.YtmflhodiibjpnaaGreatDoorM13Nod
import Derived.Test.YtmflhodiibjpnaaGreatDoorR8Put
import Derived.Deep.RegionHeld3
import Derived.Test.YtmflhodiibjpnaaGreatDoorR7Leaf
/-
  paymasterref13's node, nodes, leaf, PutRoot, long, whole, walked.
-/
namespace Go.Proofs.YtmflhodiibjpnaaGreatDoor
set_option linter.unusedVariables false
set_option linter.unusedSimpArgs false
set_option maxRecDepth 10000
open Go.RowKit

set_option maxHeartbeats 1000000 in
theorem rnode_any (x : Nd) (hs : x.hash.size ≤ 1000000) (hw : x.words) (w : World) : Calls Tryz.prog 68 #[x.val] w (Tells (.string (ofL (ndY x))) w.heap.size w) := by
  obtain ⟨s, h, l⟩ := x
  simp only at hs
  have c1 := fun u => rtext_any s (by omega) u
  have c2 := fun u => rwide_any h l hw.1 hw.2 u
  have z1 := textL_len s
  have z2 := wideL_len h l
  have hadd := adds_l (textL s) (wideL h l) (by omega) (by omega)
  rw [show textL s ++ wideL h l = ndY ⟨s, h, l⟩ from rfl] at hadd
  generalize ofL (ndY ⟨s, h, l⟩) = R at *
  generalize ofL (textL s) = A at *
  generalize ofL (wideL h l) = B at *
  have H0 := (Has.start w).add 143 (ndB s h l)
  show Calls _ _ #[.agg (ndB s h l)] _ _
  go_enter Tryz.func68, Tryz.ntmps68
  go_upto_region 1 with fail
  change Code.wp _ _ _ _ (w.alloc (.cells (ndB s h l) 143))
  generalize w.alloc (.cells (ndB s h l) 143) = W at *
  have fact : ∀ u, Below W.heap.size W u → u.cell? ⟨w.heap.size, 0, none⟩ = some (.string s) ∧ u.cell? ⟨w.heap.size, 1, none⟩ = some (.int .u64 h) ∧ u.cell? ⟨w.heap.size, 2, none⟩ = some (.int .u64 l) := fun u hu => by
    obtain ⟨q0, q1, q2, -⟩ := ((H0.call hu).box 0).three
    exact ⟨q0, q1, q2⟩
  go_region_held3 (fun u => Below W.heap.size W u ∧ (u.cell? ⟨w.heap.size, 0, none⟩ = some (.string s) ∧ u.cell? ⟨w.heap.size, 1, none⟩ = some (.int .u64 h) ∧ u.cell? ⟨w.heap.size, 2, none⟩ = some (.int .u64 l)))
    (first | exact on_start fact | exact on_call fact (by assumption) (by assumption) | exact on_past fact (by assumption) _ | fail)
    (first
      | (go_at_call 104; refine (c1 _).mono ?_; rintro e v1 ⟨rfl, j1⟩)
      | (go_at_call 105; refine (c2 _).mono ?_; rintro e v2 ⟨rfl, j2⟩)
      | fail)
  all_goals go_wp2
  all_goals go_ret
  all_goals exact ⟨rfl, (H0.call (on_low (by assumption))).below⟩
set_option maxHeartbeats 2000000 in
theorem rnodes_any (A : Option Addr) (c : Nat) (l : List Nd) (hl : l.length ≤ 10000) (hs : ∀ x ∈ l, x.hash.size ≤ 1000) (hw : ∀ x ∈ l, x.words) (w : World) (hR : ndS.Row w w.heap.size A l) :
    Calls Tryz.prog 63 #[.slice A l.length c] w (Tells (.string (ofL (rowY ndY l))) w.heap.size w) := by
  have cN := fun u => rnum_any (l.length : Int) ⟨by omega, by omega⟩ u
  obtain ⟨N, hN⟩ : ∃ N, l.length = N := ⟨_, rfl⟩
  have hw64 : IntKind.u64.wrap (N : Int) = (N : Int) := by rw [IntKind.wrap_u64]; omega
  have e0 : rowY ndY l = wideL 0 (N : Int) ++ l.flatMap ndY := by unfold rowY; rw [hN]
  rw [e0]
  rw [hN] at cN ⊢
  have zn := wideL_len 0 (N : Int)
  obtain ⟨Y, hY⟩ : ∃ Y, wideL 0 (N : Int) = Y := ⟨_, rfl⟩
  rw [hY] at cN zn ⊢
  go_enter Tryz.func63, Tryz.ntmps63
  go_upto_region 3 with (first | (go_at_call 62; refine (cN _).mono ?_; rintro e v1 ⟨rfl, j1⟩) | fail)
  clear cN hY e0
  go_loopg [3, 4] N (fun gk v i wr => ∃ k : Nat, k ≤ N ∧ N - k ≤ gk ∧ i = .int .i64 k ∧ v = .string (ofL (Y ++ (l.take k).flatMap ndY)) ∧ Below w.heap.size w wr)
  case atStart => exact ⟨0, Nat.zero_le _, by omega, rfl, by simp, j1⟩
  case round =>
    obtain ⟨k, hk, hgk, rfl, rfl, hb⟩ := hrel
    have HG := hideIt hgk
    clear hgk
    by_cases hlt : k < N
    · obtain ⟨x, hx⟩ : ∃ x, l[k]? = some x := ⟨_, List.getElem?_eq_getElem (by omega)⟩
      have hlti : (k : Int) < (N : Int) := by omega
      obtain ⟨ad, hA, hin, p0, p1, p2⟩ := nd_get ((hR.call hb).more hb.size) hx
      subst hA
      have hm := List.mem_of_getElem? hx
      have c1 := fun u => rnode_any x (by have := hs x hm; omega) (hw x hm) u
      have ht := take_flat (e := ndY) hx
      have h1 := flat_few (e := ndY) (B := 1034) (l.take k) fun y hy => by have := ndY_len y; have := hs y (List.mem_of_mem_take hy); omega
      have h2 : (l.take k).length * 1034 ≤ 10000 * 1034 := Nat.mul_le_mul_right _ (by rw [List.length_take]; omega)
      have hadd := adds_l (Y ++ (l.take k).flatMap ndY) (ndY x) (by rw [List.length_append]; omega) (by have := ndY_len x; have := hs x hm; omega)
      rw [List.append_assoc, ← ht] at hadd
      obtain ⟨s, h, q⟩ := x
      simp only [Nd.val] at c1
      clear hx hm ht h1 h2 hs hw
      generalize ofL (Y ++ (l.take k).flatMap ndY) = S0 at *
      generalize ofL (ndY ⟨s, h, q⟩) = S1 at *
      obtain ⟨S2, hS2⟩ : ∃ S2, ofL (Y ++ (l.take (k + 1)).flatMap ndY) = S2 := ⟨_, rfl⟩
      rw [hS2] at hadd
      have HS := hideIt hS2
      clear hS2
      go_wp2_with (first | (go_at_call 68; refine (c1 _).mono ?_; rintro e v2 ⟨rfl, j2⟩) | fail)
      go_roundg (N - (k + 1))
      case measure => have := HG.out; omega
      case rel => exact ⟨k + 1, by omega, Nat.le_refl _, by go_num, by rw [HS.out], chain hb j2⟩
    · have e : k = N := by omega
      subst e
      rw [List.take_of_length_le (by omega)]
      go_wp2
      go_ret
      exact ⟨rfl, hb⟩
set_option maxHeartbeats 2000000 in
theorem rleafY_any (x : Lf) (h1 : x.id.size ≤ 1000000) (h2 : x.salt.size ≤ 1000000) (hw : x.words) (w : World) : Calls Tryz.prog 58 #[x.val] w (Tells (.string (ofL (lfY x))) w.heap.size w) := by
  obtain ⟨p, i, s, h, l⟩ := x
  simp only at h1 h2
  have c0 := fun u => rflag_any p u
  have c1 := fun u => rtext_any i (by omega) u
  have c2 := fun u => rtext_any s (by omega) u
  have c3 := fun u => rwide_any h l hw.1 hw.2 u
  have z1 := textL_len i
  have z2 := textL_len s
  have z3 := wideL_len h l
  have a1 := adds_l [b01 p] (textL i) (by simp) (by omega)
  have a2 := adds_l ([b01 p] ++ textL i) (textL s) (by simp; omega) (by omega)
  have a3 := adds_l ([b01 p] ++ textL i ++ textL s) (wideL h l) (by simp; omega) (by omega)
  rw [show [b01 p] ++ textL i ++ textL s ++ wideL h l = lfY ⟨p, i, s, h, l⟩ by simp [lfY]] at a3
  generalize ofL (lfY ⟨p, i, s, h, l⟩) = R at *
  generalize ofL ([b01 p] ++ textL i ++ textL s) = R2 at *
  generalize ofL ([b01 p] ++ textL i) = R1 at *
  generalize ofL [b01 p] = F at *
  generalize ofL (textL i) = I at *
  generalize ofL (textL s) = S at *
  generalize ofL (wideL h l) = W0 at *
  clear z1 z2 z3
  have H0 := (Has.start w).add 28 (lfB p i s h l)
  show Calls _ _ #[.agg (lfB p i s h l)] _ _
  go_enter Tryz.func58, Tryz.ntmps58
  go_upto_region 1 with fail
  change Code.wp _ _ _ _ (w.alloc (.cells (lfB p i s h l) 28))
  generalize w.alloc (.cells (lfB p i s h l) 28) = W at *
  have fact : ∀ u, Below W.heap.size W u → u.cell? ⟨w.heap.size, 0, none⟩ = some (.bool p) ∧ u.cell? ⟨w.heap.size, 1, none⟩ = some (.string i) ∧ u.cell? ⟨w.heap.size, 2, none⟩ = some (.string s) ∧ u.cell? ⟨w.heap.size, 3, none⟩ = some (.int .u64 h) ∧ u.cell? ⟨w.heap.size, 4, none⟩ = some (.int .u64 l) := fun u hu =>
    (((H0.call hu).box 0).five0).1
  go_region_held3 (fun u => Below W.heap.size W u ∧ (u.cell? ⟨w.heap.size, 0, none⟩ = some (.bool p) ∧ u.cell? ⟨w.heap.size, 1, none⟩ = some (.string i) ∧ u.cell? ⟨w.heap.size, 2, none⟩ = some (.string s) ∧ u.cell? ⟨w.heap.size, 3, none⟩ = some (.int .u64 h) ∧ u.cell? ⟨w.heap.size, 4, none⟩ = some (.int .u64 l)))
    (first | exact on_start fact | exact on_call fact (by assumption) (by assumption) | exact on_past fact (by assumption) _ | with_reducible assumption | fail)
    (first
      | (go_at_call 103; refine (c0 _).mono ?_; rintro e v0 ⟨rfl, rfl⟩)
      | (go_at_call 104; (with_reducible refine (c1 _).mono ?_); rintro e v1 ⟨rfl, j1⟩)
      | (go_at_call 104; (with_reducible refine (c2 _).mono ?_); rintro e v2 ⟨rfl, j2⟩)
      | (go_at_call 105; refine (c3 _).mono ?_; rintro e v3 ⟨rfl, j3⟩)
      | fail)
  all_goals go_wp2
  all_goals go_ret
  all_goals exact ⟨rfl, (H0.call (on_low (by assumption))).below⟩
theorem Box.four0 {w : World} {g : Nat} {t : TypeId} {a b c d : Value} (h : Box w g t #[a, b, c, d]) : (w.cell? ⟨g, 0, none⟩ = some a ∧ w.cell? ⟨g, 1, none⟩ = some b ∧ w.cell? ⟨g, 2, none⟩ = some c ∧ w.cell? ⟨g, 3, none⟩ = some d) ∧ g < w.heap.size :=
  ⟨⟨h.read 0, h.read 1, h.read 2, h.read 3⟩, h.inside⟩
set_option maxHeartbeats 2000000 in
theorem rputRoot_any (x : RtP) (hs : x.hash.size ≤ 1000000) (hw : Word x.h ∧ Word x.l) (w : World) : Calls Tryz.prog 23 #[x.val] w (Tells (.string (ofL (rtY x))) w.heap.size w) := by
  obtain ⟨s, h, l, n⟩ := x
  simp only at hs hw
  have c1 := fun u => rnode_any ⟨s, h, l⟩ hs hw u
  obtain ⟨m, hm⟩ : ∃ m, n % 18446744073709551616 = m := ⟨_, rfl⟩
  have hwn : IntKind.u64.wrap n = m := by rw [IntKind.wrap_u64]; exact hm
  have c2 := fun u => rnum_any m ⟨by omega, by omega⟩ u
  have z1 := ndY_len ⟨s, h, l⟩
  have z2 := wideL_len 0 m
  have a1 := adds_l (ndY ⟨s, h, l⟩) (wideL 0 m) (by simp only at z1; omega) (by omega)
  rw [show ndY ⟨s, h, l⟩ ++ wideL 0 m = rtY ⟨s, h, l, n⟩ by unfold rtY; rw [hm]] at a1
  generalize ofL (rtY ⟨s, h, l, n⟩) = R at *
  generalize ofL (ndY ⟨s, h, l⟩) = A at *
  generalize ofL (wideL 0 m) = B at *
  simp only [Nd.val] at c1
  clear z1 z2 hm
  have H0 := (Has.start w).add 26 (rtB s h l n)
  show Calls _ _ #[.agg (rtB s h l n)] _ _
  go_enter Tryz.func23, Tryz.ntmps23
  go_upto_region 1 with fail
  change Code.wp _ _ _ _ (w.alloc (.cells (rtB s h l n) 26))
  generalize w.alloc (.cells (rtB s h l n) 26) = W at *
  have fact : ∀ u, Below W.heap.size W u → u.cell? ⟨w.heap.size, 0, none⟩ = some (.string s) ∧ u.cell? ⟨w.heap.size, 1, none⟩ = some (.int .u64 h) ∧ u.cell? ⟨w.heap.size, 2, none⟩ = some (.int .u64 l) ∧ u.cell? ⟨w.heap.size, 3, none⟩ = some (.int .i64 n) := fun u hu =>
    (((H0.call hu).box 0).four0).1
  go_region_held3 (fun u => Below W.heap.size W u ∧ (u.cell? ⟨w.heap.size, 0, none⟩ = some (.string s) ∧ u.cell? ⟨w.heap.size, 1, none⟩ = some (.int .u64 h) ∧ u.cell? ⟨w.heap.size, 2, none⟩ = some (.int .u64 l) ∧ u.cell? ⟨w.heap.size, 3, none⟩ = some (.int .i64 n)))
    (first | exact on_start fact | exact on_call fact (by assumption) (by assumption) | exact on_past fact (by assumption) _ | fail)
    (first
      | (go_at_call 68; refine (c1 _).mono ?_; rintro e v1 ⟨rfl, j1⟩)
      | (go_at_call 62; refine (c2 _).mono ?_; rintro e v2 ⟨rfl, j2⟩)
      | fail)
  all_goals go_wp2
  all_goals go_ret
  all_goals exact ⟨rfl, (H0.call (on_low (by assumption))).below⟩
set_option maxHeartbeats 2000000 in
theorem rlong_any (A : Option Addr) (c : Nat) (l : List Nd) (hl : l.length ≤ 1000000000) (w : World) (hR : ndS.Row w w.heap.size A l) : Calls Tryz.prog 61 #[.slice A l.length c] w (Plain (.bool (longN l)) w) := by
  obtain ⟨V, hV⟩ : ∃ V, longN l = V := ⟨_, rfl⟩
  rw [hV]
  have HV := hideIt hV
  clear hV
  obtain ⟨N, hN⟩ : ∃ N, l.length = N := ⟨_, rfl⟩
  rw [hN]
  by_cases h2 : 2048 < N
  · have h2i : (2048 : Int) < (N : Int) := by omega
    have e := HV.out
    unfold longN at e
    rw [decide_eq_true (by omega), Bool.true_or] at e
    subst e
    go_enter Tryz.func61, Tryz.ntmps61
    go_wp2
    go_ret
    exact ⟨rfl, rfl⟩
  · have h2i : ¬ ((2048 : Int) < (N : Int)) := by omega
    have e := HV.out
    unfold longN at e
    rw [decide_eq_false (by omega), Bool.false_or] at e
    have HV2 := hideIt e
    clear e HV
    go_enter Tryz.func61, Tryz.ntmps61
    go_wp2
    go_loopg [3] N (fun gk i wr => ∃ k : Nat, k ≤ N ∧ N - k ≤ gk ∧ i = .int .i64 k ∧ (∀ j x, j < k → l[j]? = some x → x.hash.size ≤ 32) ∧ wr = w)
    case atStart => exact ⟨0, Nat.zero_le _, by omega, rfl, fun j x hj => absurd hj (Nat.not_lt_zero _), rfl⟩
    case round =>
      obtain ⟨k, hk, hgk, rfl, hall, rfl⟩ := hrel
      have HG := hideIt hgk
      have HA := hideIt hall
      clear hgk hall
      by_cases hlt : k < N
      · obtain ⟨x, hx⟩ : ∃ x, l[k]? = some x := ⟨_, List.getElem?_eq_getElem (by omega)⟩
        have hlti : (k : Int) < (N : Int) := by omega
        obtain ⟨ad, hA, hin, p0, -, -⟩ := nd_get hR hx
        subst hA
        have HX := hideIt hx
        clear hx
        by_cases hz : 32 < x.hash.size
        · have hzi : (32 : Int) < (x.hash.size : Int) := by omega
          have e := HV2.out
          rw [List.any_eq_true.2 ⟨x, List.mem_of_getElem? HX.out, decide_eq_true hz⟩] at e
          subst e
          go_wp2
          go_ret
          exact ⟨rfl, rfl⟩
        · have hzi : ¬ ((32 : Int) < (x.hash.size : Int)) := by omega
          go_wp2
          go_roundg (N - (k + 1))
          case measure => have := HG.out; omega
          case rel => exact ⟨k + 1, by omega, Nat.le_refl _, by go_num, fun j y hj hy => by
            by_cases e : j = k
            · subst e
              rw [HX.out] at hy
              injection hy with hy
              subst hy
              omega
            · exact HA.out j y (by omega) hy, rfl⟩
      · have e : k = N := by omega
        subst e
        have e := HV2.out
        rw [List.any_eq_false.2 fun x hx => by
          obtain ⟨i, hi, rfl⟩ := List.getElem_of_mem hx
          have := HA.out i _ (by omega) (List.getElem?_eq_getElem hi)
          simp
          omega] at e
        subst e
        go_wp2
        go_ret
        exact ⟨rfl, rfl⟩
abbrev toldV (p : ByteArray × Int) : Value := .tuple #[.string p.1, .int .i64 p.2]
theorem rwhole_any (l : List UInt8) (hl : l.length ≤ 1000000000) (w : World) : Calls Tryz.prog 54 #[.string (ofL l)] w (Still (toldV (wholeO l)) w) := by
  have hz := ofL_size l
  by_cases h : 1048576 < l.length
  · have hi : (1048576 : Int) < ((ofL l).size : Int) := by omega
    rw [show wholeO l = (⟨#[]⟩, 3) from if_pos h]
    generalize ofL l = S at *
    go_enter Tryz.func54, Tryz.ntmps54
    go_wp2
    refine bodyPost_ret (results_tmp2 rfl _ _ _) rfl ?_
    exact ⟨rfl, rfl⟩
  · have hi : ¬ ((1048576 : Int) < ((ofL l).size : Int)) := by omega
    rw [show wholeO l = (ofL l, 0) from if_neg h]
    generalize ofL l = S at *
    go_enter Tryz.func54, Tryz.ntmps54
    go_wp2
    refine bodyPost_ret (results_tmp2 rfl _ _ _) rfl ?_
    exact ⟨rfl, rfl⟩
end Go.Proofs.YtmflhodiibjpnaaGreatDoor
/-
  paymasterref13's Root, Leaf, Entry, Range, Diff, walked.
-/
namespace Go.Proofs.YtmflhodiibjpnaaGreatDoor
set_option linter.unusedVariables false
set_option linter.unusedSimpArgs false
set_option maxRecDepth 10000
open Go.RowKit

theorem rtY_len (x : RtP) : (rtY x).length ≤ 60 + x.hash.size := by
  unfold rtY
  rw [List.length_append]
  have := ndY_len ⟨x.hash, x.h, x.l⟩
  have := wideL_len 0 (x.n % 18446744073709551616)
  simp only at *
  omega
theorem add_letter (c : UInt8) (l : List UInt8) (hl : l.length ≤ 100000000) : ∀ u : World, (Op.stringOp .add ⟨#[c]⟩ (ofL l)).run Tryz.prog u = .ok (.string (ofL (c :: l))) u := adds_l [c] l (by simp) hl
set_option maxHeartbeats 2000000 in
theorem rroot_any (x : RtP) (hs : x.hash.size ≤ 1000000) (hw : Word x.h ∧ Word x.l) (w : World) : Calls Tryz.prog 14 #[x.val] w (Tells (toldV (rtO x)) w.heap.size w) := by
  have cP := fun u => rputRoot_any x hs hw u
  have z := rtY_len x
  have cW := fun u => rwhole_any (82 :: rtY x) (by rw [List.length_cons]; omega) u
  have a0 := add_letter 82 (rtY x) (by omega)
  obtain ⟨E, hE⟩ : ∃ E, rtO x = E := ⟨_, rfl⟩
  rw [hE]
  unfold rtO RtP.long at hE
  obtain ⟨s, h, l, n⟩ := x
  simp only at hE hs z
  have H0 := (Has.start w).add 26 (rtB s h l n)
  simp only [RtP.val] at cP ⊢
  generalize ofL (82 :: rtY ⟨s, h, l, n⟩) = R at *
  generalize ofL (rtY ⟨s, h, l, n⟩) = Y at *
  generalize wholeO (82 :: rtY ⟨s, h, l, n⟩) = V at *
  clear z
  have HE := hideIt hE
  clear hE
  go_enter Tryz.func14, Tryz.ntmps14
  go_upto_region 1 with fail
  change Code.wp _ _ _ _ (w.alloc (.cells (rtB s h l n) 26))
  generalize w.alloc (.cells (rtB s h l n) 26) = W at *
  obtain ⟨⟨q0, q1, q2, q3⟩, hin⟩ := (H0.box 0).four0
  have L0 := H0.below
  by_cases k1 : 32 < s.size
  · have k1i : (32 : Int) < (s.size : Int) := by omega
    have e := HE.out
    rw [decide_eq_true k1, Bool.true_or, if_pos rfl] at e
    subst e
    go_wp2
    refine bodyPost_ret (results_tmp2 rfl _ _ _) rfl ?_
    exact ⟨rfl, L0⟩
  · have k1i : ¬ ((32 : Int) < (s.size : Int)) := by omega
    by_cases k2 : n < 0
    · have e := HE.out
      rw [decide_eq_false k1, Bool.false_or, decide_eq_true k2, Bool.true_or, if_pos rfl] at e
      subst e
      go_wp2
      refine bodyPost_ret (results_tmp2 rfl _ _ _) rfl ?_
      exact ⟨rfl, L0⟩
    · by_cases k3 : 63 < n
      · have e := HE.out
        rw [decide_eq_false k1, Bool.false_or, decide_eq_false k2, Bool.false_or, decide_eq_true k3, if_pos rfl] at e
        subst e
        go_wp2
        refine bodyPost_ret (results_tmp2 rfl _ _ _) rfl ?_
        exact ⟨rfl, L0⟩
      · have e := HE.out
        rw [decide_eq_false k1, Bool.false_or, decide_eq_false k2, Bool.false_or, decide_eq_false k3, if_neg Bool.noConfusion] at e
        subst e
        go_wp2_with (first
          | (go_at_call 23; refine (cP _).mono ?_; rintro e v1 ⟨rfl, j1⟩)
          | (go_at_call 54; refine (cW _).mono ?_; rintro e v2 ⟨rfl, rfl⟩)
          | fail)
        refine bodyPost_ret (results_tmp2 rfl _ _ _) rfl ?_
        exact ⟨rfl, chain L0 j1⟩
set_option maxHeartbeats 2000000 in
theorem rleafT_any (x : Lf) (h1 : x.id.size ≤ 1000000) (h2 : x.salt.size ≤ 1000000) (hw : x.words) (w : World) : Calls Tryz.prog 16 #[x.val] w (Tells (toldV (lfO x)) w.heap.size w) := by
  have cP := fun u => rleafY_any x h1 h2 hw u
  have z := lfY_len x
  have cW := fun u => rwhole_any (76 :: lfY x) (by rw [List.length_cons]; omega) u
  have a0 := add_letter 76 (lfY x) (by omega)
  have cM := fun u => rmayLeaf_any x h1 h2 u
  obtain ⟨E, hE⟩ : ∃ E, lfO x = E := ⟨_, rfl⟩
  rw [hE]
  unfold lfO at hE
  obtain ⟨p, i, s, h, l⟩ := x
  have H0 := (Has.start w).add 28 (lfB p i s h l)
  simp only [Lf.val] at cP cM ⊢
  generalize ofL (76 :: lfY ⟨p, i, s, h, l⟩) = R at *
  generalize ofL (lfY ⟨p, i, s, h, l⟩) = Y at *
  generalize wholeO (76 :: lfY ⟨p, i, s, h, l⟩) = V at *
  generalize Lf.may ⟨p, i, s, h, l⟩ = m at *
  clear z h1 h2 hw
  have HE := hideIt hE
  clear hE
  go_enter Tryz.func16, Tryz.ntmps16
  go_upto_region 1 with fail
  change Code.wp _ _ _ _ (w.alloc (.cells (lfB p i s h l) 28))
  generalize w.alloc (.cells (lfB p i s h l) 28) = W at *
  have L0 := H0.below
  cases m with
  | false =>
    have e := HE.out
    rw [if_neg Bool.noConfusion] at e
    subst e
    obtain ⟨⟨q0, q1, q2, q3, q4⟩, -, hin⟩ := (H0.box 0).five0
    go_wp2_with (first | (go_at_call 57; refine (cM _).mono ?_; rintro e v0 ⟨rfl, j0⟩) | fail)
    refine bodyPost_ret (results_tmp2 rfl _ _ _) rfl ?_
    exact ⟨rfl, chain L0 j0⟩
  | true =>
    have e := HE.out
    rw [if_pos rfl] at e
    subst e
    obtain ⟨⟨q0, q1, q2, q3, q4⟩, -, hin⟩ := (H0.box 0).five0
    go_upto_region 3 with (first | (go_at_call 57; refine (cM _).mono ?_; rintro e v0 ⟨rfl, j0⟩) | fail)
    have H1 := H0.call j0
    obtain ⟨⟨q0, q1, q2, q3, q4⟩, -, hin⟩ := (H1.box 0).five0
    go_wp2_with (first
      | (go_at_call 58; refine (cP _).mono ?_; rintro e v1 ⟨rfl, j1⟩)
      | (go_at_call 54; refine (cW _).mono ?_; rintro e v2 ⟨rfl, rfl⟩)
      | fail)
    refine bodyPost_ret (results_tmp2 rfl _ _ _) rfl ?_
    exact ⟨rfl, chain H1.below j1⟩

theorem enY_len (x : EnP) (hl : x.sides.length ≤ 10000) (hs : ∀ y ∈ x.sides, y.hash.size ≤ 1000) (h1 : x.leaf.id.size ≤ 1000000) (h2 : x.leaf.salt.size ≤ 1000000) : (enY x).length ≤ 14000000 := by
  unfold enY
  rw [List.length_append, List.length_append]
  have := lfY_len x.leaf
  have := row_len hl hs
  have := wideL_len 0 x.pos
  omega
set_option maxRecDepth 20000 in
set_option maxHeartbeats 4000000 in
theorem rentry_any (x : EnP) (A : Option Addr) (c : Nat) (hl : x.sides.length ≤ 10000) (hs : ∀ y ∈ x.sides, y.hash.size ≤ 1000) (hy : ∀ y ∈ x.sides, y.words) (h1 : x.leaf.id.size ≤ 1000000) (h2 : x.leaf.salt.size ≤ 1000000) (hw : x.leaf.words) (hp : Word x.pos) (w : World)
    (hR : ndS.Row w w.heap.size A x.sides) : Calls Tryz.prog 18 #[.agg (enB x.leaf.pad x.leaf.id x.leaf.salt x.leaf.h x.leaf.l x.pos A x.sides.length c)] w (Tells (toldV (enO x)) w.heap.size w) := by
  have cP := fun u => rleafY_any x.leaf h1 h2 hw u
  have cM := fun u => rmayLeaf_any x.leaf h1 h2 u
  have cL := fun u hu => rlong_any A c x.sides (by omega) u hu
  have cN := fun u => rnum_any x.pos hp u
  have cS := fun u hu => rnodes_any A c x.sides hl hs hy u hu
  have z := enY_len x hl hs h1 h2
  have z1 := lfY_len x.leaf
  have z2 := row_len hl hs
  have z3 := wideL_len 0 x.pos
  have cW := fun u => rwhole_any (69 :: enY x) (by rw [List.length_cons]; omega) u
  have a1 := add_letter 69 (lfY x.leaf) (by omega)
  have a2 := adds_l (69 :: lfY x.leaf) (wideL 0 x.pos) (by rw [List.length_cons]; omega) (by omega)
  have a3 := adds_l (69 :: lfY x.leaf ++ wideL 0 x.pos) (rowY ndY x.sides) (by rw [List.length_append, List.length_cons]; omega) (by omega)
  rw [show 69 :: lfY x.leaf ++ wideL 0 x.pos ++ rowY ndY x.sides = 69 :: enY x by simp [enY]] at a3
  obtain ⟨E, hE⟩ : ∃ E, enO x = E := ⟨_, rfl⟩
  rw [hE]
  unfold enO at hE
  obtain ⟨⟨p, i, s, h, l⟩, pos, sd⟩ := x
  simp only at *
  have H0 := (Has.start w).add 33 (enB p i s h l pos A sd.length c)
  simp only [Lf.val] at cP cM
  generalize ofL (69 :: enY ⟨⟨p, i, s, h, l⟩, pos, sd⟩) = R at *
  generalize wholeO (69 :: enY ⟨⟨p, i, s, h, l⟩, pos, sd⟩) = V at *
  generalize ofL (69 :: lfY ⟨p, i, s, h, l⟩ ++ wideL 0 pos) = R2 at *
  generalize ofL (69 :: lfY ⟨p, i, s, h, l⟩) = R1 at *
  generalize ofL (lfY ⟨p, i, s, h, l⟩) = Y at *
  generalize ofL (wideL 0 pos) = Q at *
  generalize ofL (rowY ndY sd) = T at *
  generalize Lf.may ⟨p, i, s, h, l⟩ = m at *
  generalize longN sd = q at *
  obtain ⟨N, hN⟩ : ∃ N, sd.length = N := ⟨_, rfl⟩
  rw [hN] at H0 cL cS ⊢
  clear z z1 z2 z3 h1 h2 hw hs hy hl hp
  have HE := hideIt hE
  clear hE
  go_enter Tryz.func18, Tryz.ntmps18
  go_upto_region 1 with fail
  change Code.wp _ _ _ _ (w.alloc (.cells (enB p i s h l pos A N c) 33))
  generalize w.alloc (.cells (enB p i s h l pos A N c) 33) = W at *
  have q0 := (H0.box 0).read 0
  have q1 := (H0.box 0).read 1
  have q2 := (H0.box 0).read 2
  have q3 := (H0.box 0).read 3
  have q4 := (H0.box 0).read 4
  have hin := (H0.box 0).inside
  cases m with
  | false =>
    have e := HE.out
    rw [if_neg Bool.noConfusion] at e
    subst e
    go_wp2_with (first | (go_at_call 57; refine (cM _).mono ?_; rintro e v0 ⟨rfl, j0⟩) | fail)
    refine bodyPost_ret (results_tmp2 rfl _ _ _) rfl ?_
    exact ⟨rfl, (H0.call j0).below⟩
  | true =>
    have e := HE.out
    rw [if_pos rfl] at e
    have HE2 := hideIt e
    clear e HE
    go_upto_region 3 with (first | (go_at_call 57; refine (cM _).mono ?_; rintro e v0 ⟨rfl, j0⟩) | fail)
    have H1 := H0.call j0
    clear H0 q0 q1 q2 q3 q4 hin
    have q6 := (H1.box 0).read 6
    have hin := (H1.box 0).inside
    have R1' := hR.on H1.below
    cases q with
    | true =>
      have e := HE2.out
      rw [if_pos rfl] at e
      subst e
      go_wp2_with (first | (go_at_call 61; refine (cL _ R1').mono ?_; rintro e v1 ⟨rfl, rfl⟩) | fail)
      refine bodyPost_ret (results_tmp2 rfl _ _ _) rfl ?_
      exact ⟨rfl, H1.below⟩
    | false =>
      have e := HE2.out
      rw [if_neg Bool.noConfusion] at e
      subst e
      go_upto_region 5 with (first | (go_at_call 61; refine (cL _ R1').mono ?_; rintro e v1 ⟨rfl, rfl⟩) | fail)
      clear R1'
      have fact : ∀ u, Below v0.heap.size v0 u → (u.cell? ⟨w.heap.size, 0, none⟩ = some (.bool p) ∧ u.cell? ⟨w.heap.size, 1, none⟩ = some (.string i) ∧ u.cell? ⟨w.heap.size, 2, none⟩ = some (.string s) ∧ u.cell? ⟨w.heap.size, 3, none⟩ = some (.int .u64 h) ∧ u.cell? ⟨w.heap.size, 4, none⟩ = some (.int .u64 l)) ∧
          u.cell? ⟨w.heap.size, 5, none⟩ = some (.int .u64 pos) ∧ u.cell? ⟨w.heap.size, 6, none⟩ = some (.slice A N c) := fun u hu => by
        have H2 := H1.call hu
        exact ⟨⟨(H2.box 0).read 0, (H2.box 0).read 1, (H2.box 0).read 2, (H2.box 0).read 3, (H2.box 0).read 4⟩, (H2.box 0).read 5, (H2.box 0).read 6⟩
      go_region_held3 (fun u => Below v0.heap.size v0 u ∧ ((u.cell? ⟨w.heap.size, 0, none⟩ = some (.bool p) ∧ u.cell? ⟨w.heap.size, 1, none⟩ = some (.string i) ∧ u.cell? ⟨w.heap.size, 2, none⟩ = some (.string s) ∧ u.cell? ⟨w.heap.size, 3, none⟩ = some (.int .u64 h) ∧ u.cell? ⟨w.heap.size, 4, none⟩ = some (.int .u64 l)) ∧
          u.cell? ⟨w.heap.size, 5, none⟩ = some (.int .u64 pos) ∧ u.cell? ⟨w.heap.size, 6, none⟩ = some (.slice A N c)))
        (first | exact on_start fact | exact on_call fact (by assumption) (by assumption) | exact on_past fact (by assumption) _ | with_reducible assumption | fail)
        (first
          | (go_at_call 58; refine (cP _).mono ?_; rintro e v2 ⟨rfl, j2⟩)
          | (go_at_call 62; refine (cN _).mono ?_; rintro e v3 ⟨rfl, j3⟩)
          | (go_at_call 63; refine (cS _ (hR.on (H1.call (on_low (by assumption))).below)).mono ?_; rintro e v4 ⟨rfl, j4⟩)
          | (go_at_call 54; refine (cW _).mono ?_; rintro e v5 ⟨rfl, rfl⟩)
          | fail)
      all_goals go_wp2
      all_goals refine bodyPost_ret (results_tmp2 rfl _ _ _) rfl ?_
      all_goals exact ⟨rfl, (H1.call (on_low (by assumption))).below⟩
set_option maxRecDepth 20000 in
set_option maxHeartbeats 4000000 in
theorem rrange_any (x : RgP) (A B : Option Addr) (c d : Nat) (hl : x.ins.length ≤ 10000) (hs : ∀ y ∈ x.ins, y.hash.size ≤ 1000) (hy : ∀ y ∈ x.ins, y.words) (gl : x.outs.length ≤ 10000) (gs : ∀ y ∈ x.outs, y.hash.size ≤ 1000) (gy : ∀ y ∈ x.outs, y.words) (hp : Word x.a) (hq : Word x.b) (w : World)
    (hR : ndS.Row w w.heap.size A x.ins) (hS : ndS.Row w w.heap.size B x.outs) : Calls Tryz.prog 20 #[.agg (rgB x.a x.b A x.ins.length c B x.outs.length d)] w (Tells (toldV (rgO x)) w.heap.size w) := by
  have cL := fun u hu => rlong_any A c x.ins (by omega) u hu
  have cK := fun u hu => rlong_any B d x.outs (by omega) u hu
  have cN := fun u => rnum_any x.a hp u
  have cM := fun u => rnum_any x.b hq u
  have cS := fun u hu => rnodes_any A c x.ins hl hs hy u hu
  have cT := fun u hu => rnodes_any B d x.outs gl gs gy u hu
  have z1 := row_len hl hs
  have z2 := row_len gl gs
  have z3 := wideL_len 0 x.a
  have z4 := wideL_len 0 x.b
  have a1 := add_letter 71 (wideL 0 x.a) (by omega)
  have a2 := adds_l (71 :: wideL 0 x.a) (wideL 0 x.b) (by rw [List.length_cons]; omega) (by omega)
  have a3 := adds_l (71 :: wideL 0 x.a ++ wideL 0 x.b) (rowY ndY x.ins) (by rw [List.length_append, List.length_cons]; omega) (by omega)
  have a4 := adds_l (71 :: wideL 0 x.a ++ wideL 0 x.b ++ rowY ndY x.ins) (rowY ndY x.outs) (by rw [List.length_append, List.length_append, List.length_cons]; omega) (by omega)
  have e4 : 71 :: wideL 0 x.a ++ wideL 0 x.b ++ rowY ndY x.ins ++ rowY ndY x.outs = 71 :: rgY x := by simp [rgY]
  have z : (71 :: rgY x).length ≤ 100000000 := by
    rw [← e4, List.length_append, List.length_append, List.length_append, List.length_cons]
    omega
  rw [e4] at a4
  have cW := fun u => rwhole_any (71 :: rgY x) (by omega) u
  obtain ⟨E, hE⟩ : ∃ E, rgO x = E := ⟨_, rfl⟩
  rw [hE]
  unfold rgO at hE
  obtain ⟨a, b, ins, outs⟩ := x
  simp only at *
  have H0 := (Has.start w).add 35 (rgB a b A ins.length c B outs.length d)
  generalize ofL (71 :: rgY ⟨a, b, ins, outs⟩) = R at *
  generalize wholeO (71 :: rgY ⟨a, b, ins, outs⟩) = V at *
  generalize ofL (71 :: wideL 0 a ++ wideL 0 b ++ rowY ndY ins) = R3 at *
  generalize ofL (71 :: wideL 0 a ++ wideL 0 b) = R2 at *
  generalize ofL (71 :: wideL 0 a) = R1 at *
  generalize ofL (wideL 0 a) = X at *
  generalize ofL (wideL 0 b) = Y at *
  generalize ofL (rowY ndY ins) = T1 at *
  generalize ofL (rowY ndY outs) = T2 at *
  generalize longN ins = q1 at *
  generalize longN outs = q2 at *
  obtain ⟨N, hN⟩ : ∃ N, ins.length = N := ⟨_, rfl⟩
  obtain ⟨M, hM⟩ : ∃ M, outs.length = M := ⟨_, rfl⟩
  rw [hN, hM] at H0 ⊢
  rw [hN] at cL cS
  rw [hM] at cK cT
  clear z z1 z2 z3 z4 hs hy hl gs gy gl hp hq e4
  have HE := hideIt hE
  clear hE
  go_enter Tryz.func20, Tryz.ntmps20
  go_upto_region 1 with fail
  change Code.wp _ _ _ _ (w.alloc (.cells (rgB a b A N c B M d) 35))
  generalize w.alloc (.cells (rgB a b A N c B M d) 35) = W at *
  obtain ⟨⟨p0, p1, p2, p3⟩, hin⟩ := (H0.box 0).four0
  have RA := hR.on H0.below
  have RB := hS.on H0.below
  cases q1 with
  | true =>
    have e := HE.out
    rw [Bool.true_or, if_pos rfl] at e
    subst e
    go_wp2_with (first | (go_at_call 61; (with_reducible refine (cL _ RA).mono ?_); rintro e v1 ⟨rfl, rfl⟩) | fail)
    refine bodyPost_ret (results_tmp2 rfl _ _ _) rfl ?_
    exact ⟨rfl, H0.below⟩
  | false =>
    cases q2 with
    | true =>
      have e := HE.out
      rw [Bool.or_true, if_pos rfl] at e
      subst e
      go_wp2_with (first
        | (go_at_call 61; (with_reducible refine (cL _ RA).mono ?_); rintro e v1 ⟨rfl, rfl⟩)
        | (go_at_call 61; (with_reducible refine (cK _ RB).mono ?_); rintro e v1 ⟨rfl, rfl⟩)
        | fail)
      refine bodyPost_ret (results_tmp2 rfl _ _ _) rfl ?_
      exact ⟨rfl, H0.below⟩
    | false =>
      have e := HE.out
      rw [Bool.or_false, if_neg Bool.noConfusion] at e
      subst e
      go_upto_region 3 with (first
        | (go_at_call 61; (with_reducible refine (cL _ RA).mono ?_); rintro e v1 ⟨rfl, rfl⟩)
        | (go_at_call 61; (with_reducible refine (cK _ RB).mono ?_); rintro e v1 ⟨rfl, rfl⟩)
        | fail)
      clear RA RB p0 p1 p2 p3
      have fact : ∀ u, Below W.heap.size W u → u.cell? ⟨w.heap.size, 0, none⟩ = some (.int .u64 a) ∧ u.cell? ⟨w.heap.size, 1, none⟩ = some (.int .u64 b) ∧ u.cell? ⟨w.heap.size, 2, none⟩ = some (.slice A N c) ∧ u.cell? ⟨w.heap.size, 3, none⟩ = some (.slice B M d) := fun u hu =>
        (((H0.call hu).box 0).four0).1
      go_region_held3 (fun u => Below W.heap.size W u ∧ (u.cell? ⟨w.heap.size, 0, none⟩ = some (.int .u64 a) ∧ u.cell? ⟨w.heap.size, 1, none⟩ = some (.int .u64 b) ∧ u.cell? ⟨w.heap.size, 2, none⟩ = some (.slice A N c) ∧ u.cell? ⟨w.heap.size, 3, none⟩ = some (.slice B M d)))
        (first | exact on_start fact | exact on_call fact (by assumption) (by assumption) | exact on_past fact (by assumption) _ | with_reducible assumption | fail)
        (first
          | (go_at_call 62; (with_reducible refine (cN _).mono ?_); rintro e v3 ⟨rfl, j3⟩)
          | (go_at_call 62; (with_reducible refine (cM _).mono ?_); rintro e v4 ⟨rfl, j4⟩)
          | (go_at_call 63; (with_reducible refine (cS _ (hR.on (H0.call (on_low (by assumption))).below)).mono ?_); rintro e v5 ⟨rfl, j5⟩)
          | (go_at_call 63; (with_reducible refine (cT _ (hS.on (H0.call (on_low (by assumption))).below)).mono ?_); rintro e v6 ⟨rfl, j6⟩)
          | (go_at_call 54; refine (cW _).mono ?_; rintro e v7 ⟨rfl, rfl⟩)
          | fail)
      all_goals go_wp2
      all_goals refine bodyPost_ret (results_tmp2 rfl _ _ _) rfl ?_
      all_goals exact ⟨rfl, (H0.call (on_low (by assumption))).below⟩
end Go.Proofs.YtmflhodiibjpnaaGreatDoor
/-
  paymasterref13's Diff, walked.
-/
namespace Go.Proofs.YtmflhodiibjpnaaGreatDoor
set_option linter.unusedVariables false
set_option linter.unusedSimpArgs false
set_option maxRecDepth 10000
open Go.RowKit

theorem chY_len (x : ChP) : (chY x).length ≤ 137 + ((x.old.id.size + x.old.salt.size) + (x.new.id.size + x.new.salt.size)) := by
  unfold chY
  rw [List.length_append, List.length_append]
  have := lfY_len x.old
  have := lfY_len x.new
  have := wideL_len 0 x.pos
  omega
/-- Sizes and words of changes that are gone through. -/
def ChSz (y : ChP) : Prop := (y.old.id.size ≤ 1000 ∧ y.old.salt.size ≤ 1000 ∧ y.old.words) ∧ (y.new.id.size ≤ 1000 ∧ y.new.salt.size ≤ 1000 ∧ y.new.words) ∧ Word y.pos
set_option maxRecDepth 20000 in
set_option maxHeartbeats 8000000 in
theorem rdiff_any (x : DfP) (A B : Option Addr) (c d : Nat) (hl : x.chs.length ≤ 10000) (hc : ∀ y ∈ x.chs, ChSz y) (gl : x.fr.length ≤ 10000) (gs : ∀ y ∈ x.fr, y.hash.size ≤ 1000) (gy : ∀ y ∈ x.fr, y.words) (w : World)
    (hR : chS.Row w w.heap.size A x.chs) (hS : ndS.Row w w.heap.size B x.fr) : Calls Tryz.prog 22 #[.agg (dfB A x.chs.length c B x.fr.length d)] w (Tells (toldV (dfO x)) w.heap.size w) := by
  obtain ⟨chs, fr⟩ := x
  simp only at *
  have cN := fun u => rnum_any (chs.length : Int) ⟨by omega, by omega⟩ u
  have cK := fun u hu => rlong_any B d fr (by omega) u hu
  have cT := fun u hu => rnodes_any B d fr gl gs gy u hu
  have z1 := row_len gl gs
  have z2 := wideL_len 0 (chs.length : Int)
  have z3 : ∀ k, ((chs.take k).flatMap chY).length ≤ 42000000 := fun k => by
    have h1 := flat_few (e := chY) (B := 4200) (chs.take k) fun y hy => by
      have h2 := chY_len y
      have h3 := hc y (List.mem_of_mem_take hy)
      have := h3.1
      have := h3.2.1
      omega
    have h2 : (chs.take k).length * 4200 ≤ 10000 * 4200 := Nat.mul_le_mul_right _ (by rw [List.length_take]; omega)
    omega
  have a0 := add_letter 68 (wideL 0 (chs.length : Int)) (by omega)
  obtain ⟨E, hE⟩ : ∃ E, dfO ⟨chs, fr⟩ = E := ⟨_, rfl⟩
  rw [hE]
  unfold dfO at hE
  simp only at hE
  have ey : 68 :: wideL 0 (chs.length : Int) ++ chs.flatMap chY ++ rowY ndY fr = 68 :: dfY ⟨chs, fr⟩ := by simp [dfY, rowY]
  have z4 : (68 :: dfY ⟨chs, fr⟩).length ≤ 100000000 := by
    have := z3 chs.length
    rw [List.take_length] at this
    rw [← ey, List.length_append, List.length_append, List.length_cons]
    omega
  have cW := fun u => rwhole_any (68 :: dfY ⟨chs, fr⟩) (by omega) u
  have a9 := adds_l (68 :: wideL 0 (chs.length : Int) ++ chs.flatMap chY) (rowY ndY fr) (by have := z3 chs.length; rw [List.take_length] at this; rw [List.length_append, List.length_cons]; omega) (by omega)
  rw [ey] at a9
  have H0 := (Has.start w).add 38 (dfB A chs.length c B fr.length d)
  obtain ⟨Y0, hY0⟩ : ∃ Y, 68 :: wideL 0 (chs.length : Int) = Y := ⟨_, rfl⟩
  have zy : Y0.length ≤ 18 := by rw [← hY0, List.length_cons]; omega
  rw [hY0] at a0 a9
  generalize ofL (68 :: dfY ⟨chs, fr⟩) = R at *
  generalize wholeO (68 :: dfY ⟨chs, fr⟩) = V at *
  generalize ofL (wideL 0 (chs.length : Int)) = X at *
  generalize ofL (rowY ndY fr) = F at *
  obtain ⟨q, hq⟩ : ∃ q, longN fr = q := ⟨_, rfl⟩
  rw [hq] at cK hE
  obtain ⟨N, hN⟩ : ∃ N, chs.length = N := ⟨_, rfl⟩
  obtain ⟨M, hM⟩ : ∃ M, fr.length = M := ⟨_, rfl⟩
  rw [hN, hM] at H0 ⊢
  rw [hN] at cN hE
  rw [hM] at cK cT
  clear z1 z2 z4 gs gy gl ey hY0 hq
  have HE := hideIt hE
  clear hE
  have hw64 : IntKind.u64.wrap (N : Int) = (N : Int) := by rw [IntKind.wrap_u64]; omega
  go_enter Tryz.func22, Tryz.ntmps22
  go_upto_region 1 with fail
  change Code.wp _ _ _ _ (w.alloc (.cells (dfB A N c B M d) 38))
  generalize w.alloc (.cells (dfB A N c B M d) 38) = W at *
  obtain ⟨p0, p1, -, -, hin⟩ := (H0.box 0).two
  go_upto_region 3 with (first | (go_at_call 62; refine (cN _).mono ?_; rintro e v1 ⟨rfl, j1⟩) | fail)
  have H1 := H0.call j1
  clear H0 j1 cN p0 p1 hin a0 hw64
  go_loopg [4, 5] N (fun gk v i wr => ∃ k : Nat, k ≤ N ∧ N - k ≤ gk ∧ i = .int .i64 k ∧ v = .string (ofL (Y0 ++ (chs.take k).flatMap chY)) ∧ Has w [(w.heap.size, 38, dfB A N c B M d)] wr ∧ Hid (∀ j y, j < k → chs[j]? = some y → y.old.may = true ∧ y.new.may = true))
  case atStart => exact ⟨0, Nat.zero_le _, by omega, rfl, by simp, H1, fun j y hj => absurd hj (Nat.not_lt_zero _)⟩
  case round =>
    clear H1
    obtain ⟨k, hk, hgk, rfl, rfl, H, HB⟩ := hrel
    have HG := hideIt hgk
    clear hgk
    obtain ⟨p0, p1, -, -, hin⟩ := (H.box 0).two
    by_cases hlt : k < N
    · obtain ⟨x, hx⟩ : ∃ x, chs[k]? = some x := ⟨_, List.getElem?_eq_getElem (by omega)⟩
      have hlti : (k : Int) < (N : Int) := by omega
      obtain ⟨ad, hA, hin2, r0, ⟨r1, r2, r3, r4, r5⟩, r6, r7, r8, r9, r10⟩ := ch_get (hR.on H.below) hx
      subst hA
      have hm := List.mem_of_getElem? hx
      obtain ⟨hz1, hz2, hz3⟩ := hc x hm
      have cA := fun u => rmayLeaf_any x.old (by have := hz1.1; omega) (by have := hz1.2.1; omega) u
      have cB := fun u => rmayLeaf_any x.new (by have := hz2.1; omega) (by have := hz2.2.1; omega) u
      have cC := fun u => rleafY_any x.old (by have := hz1.1; omega) (by have := hz1.2.1; omega) hz1.2.2 u
      have cD := fun u => rleafY_any x.new (by have := hz2.1; omega) (by have := hz2.2.1; omega) hz2.2.2 u
      have cP := fun u => rnum_any x.pos hz3 u
      have ht := take_flat (e := chY) hx
      have y1 := lfY_len x.old
      have y2 := lfY_len x.new
      have y3 := wideL_len 0 x.pos
      have y4 := z3 k
      have a1 := adds_l (Y0 ++ (chs.take k).flatMap chY) (wideL 0 x.pos) (by rw [List.length_append]; omega) (by omega)
      have a2 := adds_l (Y0 ++ (chs.take k).flatMap chY ++ wideL 0 x.pos) (lfY x.old) (by rw [List.length_append, List.length_append]; omega) (by have := hz1.1; have := hz1.2.1; omega)
      have a3 := adds_l (Y0 ++ (chs.take k).flatMap chY ++ wideL 0 x.pos ++ lfY x.old) (lfY x.new) (by rw [List.length_append, List.length_append, List.length_append]; have := hz1.1; have := hz1.2.1; omega) (by have := hz2.1; have := hz2.2.1; omega)
      have e3 : Y0 ++ (chs.take k).flatMap chY ++ wideL 0 x.pos ++ lfY x.old ++ lfY x.new = Y0 ++ (chs.take (k + 1)).flatMap chY := by
        rw [ht]
        simp [chY]
      rw [e3] at a3
      have hbad : (x.old.may = false ∨ x.new.may = false) → badC chs = true := fun h => by
        unfold badC
        rw [List.any_eq_true]
        refine ⟨x, hm, ?_⟩
        rcases h with h | h <;> simp [h]
      have HBD := hideIt hbad
      have HX := hideIt hx
      obtain ⟨m1, hm1⟩ : ∃ m, x.old.may = m := ⟨_, rfl⟩
      obtain ⟨m2, hm2⟩ : ∃ m, x.new.may = m := ⟨_, rfl⟩
      rw [hm1] at cA
      rw [hm2] at cB
      have HM1 := hideIt hm1
      have HM2 := hideIt hm2
      clear hbad hx hm hm1 hm2 hz1 hz2 hz3 ht y1 y2 y3 y4 e3 hlt
      obtain ⟨xq, ⟨p, i, s, h, l⟩, ⟨p', i', s', h', l'⟩⟩ := x
      simp only [Lf.val] at cA cB cC cD r0 r1 r2 r3 r4 r5 r6 r7 r8 r9 r10 a1 a2 a3 cP
      generalize ofL (Y0 ++ (chs.take k).flatMap chY ++ wideL 0 xq ++ lfY ⟨p, i, s, h, l⟩) = S2 at *
      generalize ofL (Y0 ++ (chs.take k).flatMap chY ++ wideL 0 xq) = S1 at *
      generalize ofL (Y0 ++ (chs.take k).flatMap chY) = S0 at *
      obtain ⟨S3, hS3⟩ : ∃ S, ofL (Y0 ++ (chs.take (k + 1)).flatMap chY) = S := ⟨_, rfl⟩
      rw [hS3] at a3
      have HS3 := hideIt hS3
      clear hS3
      generalize ofL (lfY ⟨p, i, s, h, l⟩) = L1 at *
      generalize ofL (lfY ⟨p', i', s', h', l'⟩) = L2 at *
      generalize ofL (wideL 0 xq) = Q at *
      have G := H.add 103 (chA xq p i s h l p' i' s' h' l')
      go_upto_region 6 with fail
      change Code.wp _ _ _ _ (wr.alloc (.cells (chA xq p i s h l p' i' s' h' l') 103))
      obtain ⟨b, hb⟩ : ∃ b, wr.heap.size = b := ⟨_, rfl⟩
      rw [hb] at G ⊢
      generalize wr.alloc (.cells (chA xq p i s h l p' i' s' h' l') 103) = W1 at *
      clear r0 r1 r2 r3 r4 r5 r6 r7 r8 r9 r10 hin2 H p0 p1 hin hb
      obtain ⟨r0, ⟨r1, r2, r3, r4, r5⟩, r6, r7, r8, r9, r10⟩ := (G.box 0).eleven
      have hin := (G.box 0).inside
      cases m1 with
      | false =>
        have e := HE.out
        rw [HBD.out (.inl HM1.out), if_pos rfl] at e
        subst e
        go_wp2_with (first
          | (go_at_call 57; (with_reducible refine (cA _).mono ?_); rintro e v2 ⟨rfl, j2⟩)
          | fail)
        refine bodyPost_ret (results_tmp2 rfl _ _ _) rfl ?_
        exact ⟨rfl, (G.call j2).below⟩
      | true =>
        cases m2 with
        | false =>
          have e := HE.out
          rw [HBD.out (.inr HM2.out), if_pos rfl] at e
          subst e
          go_wp2_with (first
            | (go_at_call 57; (with_reducible refine (cA _).mono ?_); rintro e v2 ⟨rfl, j2⟩; have G2 := G.call j2; obtain ⟨q0, ⟨q1, q2, q3, q4, q5⟩, q6, q7, q8, q9, q10⟩ := (G2.box 0).eleven; have hin3 := (G2.box 0).inside)
            | (go_at_call 57; (with_reducible refine (cB _).mono ?_); rintro e v3 ⟨rfl, j3⟩)
            | fail)
          refine bodyPost_ret (results_tmp2 rfl _ _ _) rfl ?_
          exact ⟨rfl, (G2.call j3).below⟩
        | true =>
          go_upto_region 8 with (first
            | (go_at_call 57; (with_reducible refine (cA _).mono ?_); rintro e v2 ⟨rfl, j2⟩; have G2 := G.call j2; obtain ⟨q0, ⟨q1, q2, q3, q4, q5⟩, q6, q7, q8, q9, q10⟩ := (G2.box 0).eleven; have hin3 := (G2.box 0).inside)
            | (go_at_call 57; (with_reducible refine (cB _).mono ?_); rintro e v3 ⟨rfl, j3⟩)
            | fail)
          have G3 := G2.call j3
          clear G G2 j2 j3 cA cB q0 q1 q2 q3 q4 q5 q6 q7 q8 q9 q10 hin3 r0 r1 r2 r3 r4 r5 r6 r7 r8 r9 r10 hin
          have fact : ∀ u, Below v3.heap.size v3 u → u.cell? ⟨b, 0, none⟩ = some (.int .u64 xq) ∧ (u.cell? ⟨b, 1, none⟩ = some (.bool p) ∧ u.cell? ⟨b, 2, none⟩ = some (.string i) ∧ u.cell? ⟨b, 3, none⟩ = some (.string s) ∧ u.cell? ⟨b, 4, none⟩ = some (.int .u64 h) ∧ u.cell? ⟨b, 5, none⟩ = some (.int .u64 l)) ∧
              (u.cell? ⟨b, 6, none⟩ = some (.bool p') ∧ u.cell? ⟨b, 7, none⟩ = some (.string i') ∧ u.cell? ⟨b, 8, none⟩ = some (.string s') ∧ u.cell? ⟨b, 9, none⟩ = some (.int .u64 h') ∧ u.cell? ⟨b, 10, none⟩ = some (.int .u64 l')) := fun u hu => ((G3.call hu).box 0).eleven
          go_region_held3 (fun u => Below v3.heap.size v3 u ∧ (u.cell? ⟨b, 0, none⟩ = some (.int .u64 xq) ∧ (u.cell? ⟨b, 1, none⟩ = some (.bool p) ∧ u.cell? ⟨b, 2, none⟩ = some (.string i) ∧ u.cell? ⟨b, 3, none⟩ = some (.string s) ∧ u.cell? ⟨b, 4, none⟩ = some (.int .u64 h) ∧ u.cell? ⟨b, 5, none⟩ = some (.int .u64 l)) ∧
              (u.cell? ⟨b, 6, none⟩ = some (.bool p') ∧ u.cell? ⟨b, 7, none⟩ = some (.string i') ∧ u.cell? ⟨b, 8, none⟩ = some (.string s') ∧ u.cell? ⟨b, 9, none⟩ = some (.int .u64 h') ∧ u.cell? ⟨b, 10, none⟩ = some (.int .u64 l'))))
            (first | exact on_start fact | exact on_call fact (by assumption) (by assumption) | exact on_past fact (by assumption) _ | with_reducible assumption | fail)
            (first
              | (go_at_call 62; refine (cP _).mono ?_; rintro e v4 ⟨rfl, j4⟩)
              | (go_at_call 58; (with_reducible refine (cC _).mono ?_); rintro e v5 ⟨rfl, j5⟩)
              | (go_at_call 58; (with_reducible refine (cD _).mono ?_); rintro e v6 ⟨rfl, j6⟩)
              | fail)
          all_goals go_wp2
          all_goals go_roundg (N - (k + 1))
          case measure => have := HG.out; omega
          case rel => exact ⟨k + 1, by omega, Nat.le_refl _, by go_num, by rw [HS3.out], (G3.call (on_low (by assumption))).tail, fun j y hj hy => by
              by_cases e : j = k
              · subst e
                rw [HX.out] at hy
                injection hy with hy
                subst hy
                exact ⟨HM1.out, HM2.out⟩
              · exact HB.out j y (by omega) hy⟩
    · have e : k = N := by omega
      subst e
      have hbad : badC chs = false := by
        unfold badC
        rw [List.any_eq_false]
        intro y hy
        obtain ⟨j, hj, rfl⟩ := List.getElem_of_mem hy
        obtain ⟨h1, h2⟩ := HB.out j _ (by omega) (List.getElem?_eq_getElem hj)
        simp [h1, h2]
      have e := HE.out
      rw [hbad, if_neg Bool.noConfusion] at e
      have HE2 := hideIt e
      clear e HE hbad HB
      rw [List.take_of_length_le (by omega)]
      have hlti : ¬ ((k : Int) < (k : Int)) := by omega
      generalize ofL (Y0 ++ chs.flatMap chY) = S0 at *
      have RB := hS.on H.below
      by_cases h2 : 2048 < k
      · have h2i : (2048 : Int) < (k : Int) := by omega
        have e := HE2.out
        rw [decide_eq_true h2, Bool.true_or, if_pos rfl] at e
        subst e
        go_wp2
        refine bodyPost_ret (results_tmp2 rfl _ _ _) rfl ?_
        exact ⟨rfl, H.below⟩
      · have h2i : ¬ ((2048 : Int) < (k : Int)) := by omega
        cases q with
        | true =>
          have e := HE2.out
          rw [Bool.or_true, if_pos rfl] at e
          subst e
          go_wp2_with (first | (go_at_call 61; refine (cK _ RB).mono ?_; rintro e v1 ⟨rfl, rfl⟩) | fail)
          refine bodyPost_ret (results_tmp2 rfl _ _ _) rfl ?_
          exact ⟨rfl, H.below⟩
        | false =>
          have e := HE2.out
          rw [decide_eq_false h2, Bool.or_false, if_neg Bool.noConfusion] at e
          subst e
          go_wp2_with (first
            | (go_at_call 61; refine (cK _ RB).mono ?_; rintro e v1 ⟨rfl, rfl⟩)
            | (go_at_call 63; refine (cT _ RB).mono ?_; rintro e v2 ⟨rfl, j2⟩)
            | (go_at_call 54; refine (cW _).mono ?_; rintro e v3 ⟨rfl, rfl⟩)
            | fail)
          refine bodyPost_ret (results_tmp2 rfl _ _ _) rfl ?_
          exact ⟨rfl, (H.call j2).below⟩
end Go.Proofs.YtmflhodiibjpnaaGreatDoor
