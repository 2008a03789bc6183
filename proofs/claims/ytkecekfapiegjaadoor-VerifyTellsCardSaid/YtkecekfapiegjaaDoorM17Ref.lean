/- Several of my texts, laid as one. -/
import Derived.Test.YtkecekfapiegjaaDoorM14One
import Derived.Test.YtkecekfapiegjaaDoorM16Ent
import Derived.Test.YtkecekfapiegjaaDoorM17Pln
import Derived.Test.YtkecekfapiegjaaDoorM7Rn
import Derived.Test.YtkecekfapiegjaaDoorM14Ref
import Derived.Test.YtkecekfapiegjaaDoorM13Nod
/-
  paymasterref16's Two and Shape, walked.
-/
namespace Go.Proofs.YtkecekfapiegjaaDoor
set_option linter.unusedVariables false
set_option linter.unusedSimpArgs false
set_option maxRecDepth 10000
open Go.RowKit

set_option maxHeartbeats 2000000 in
theorem rtwo16_any (n : Nat) (hn : n ≤ 63) (w : World) : Calls Tryd.prog 61 #[.int .i64 n] w (Plain (.int .u64 ((2 ^ n : Nat) : Int)) w) := by
  obtain ⟨T, hT⟩ : ∃ T, 2 ^ n = T := ⟨_, rfl⟩
  rw [hT]
  have HT := hideIt hT
  clear hT
  go_enter Tryd.func61, Tryd.ntmps61
  go_wp2
  go_loopg [3, 4] n (fun gk a i wr => ∃ k q : Nat, k ≤ n ∧ n - k ≤ gk ∧ a = .int .u64 q ∧ i = .int .i64 k ∧ q = 2 ^ k ∧ q ≤ 9223372036854775808 ∧ wr = w)
  case atStart => exact ⟨0, 1, Nat.zero_le _, by omega, rfl, rfl, rfl, by omega, rfl⟩
  case round =>
    obtain ⟨k, q, hk, hgk, rfl, rfl, hq, hqb, rfl⟩ := hrel
    have HG := hideIt hgk
    have HQ := hideIt hq
    clear hgk hq
    by_cases hlt : k < n
    · have hlti : (k : Int) < (n : Int) := by omega
      have e6 : 2 * q = 2 ^ (k + 1) := by rw [HQ.out, Nat.pow_succ, Nat.mul_comm]
      have e7 : 2 * q ≤ 9223372036854775808 := by rw [e6]; exact Nat.le_trans (Nat.pow_le_pow_right (n := 2) (by decide) (by omega : k + 1 ≤ 63)) (by decide)
      obtain ⟨q2, hq2⟩ : ∃ q2, 2 * q = q2 := ⟨_, rfl⟩
      have e5 : IntKind.u64.wrap (2 * (q : Int)) = (q2 : Int) := by rw [IntKind.wrap_u64]; omega
      rw [hq2] at e6 e7
      have H6 := hideIt e6
      clear hq2 e6
      go_wp2
      go_roundg (n - (k + 1))
      case measure => have := HG.out; omega
      case rel => exact ⟨k + 1, q2, by omega, Nat.le_refl _, rfl, by go_num, H6.out, e7, rfl⟩
    · have e : k = n := by omega
      subst e
      have hlti : ¬ (k : Int) < (k : Int) := by omega
      obtain rfl : q = T := HQ.out.trans HT.out
      go_wp2
      go_ret
      exact ⟨rfl, rfl⟩
set_option maxRecDepth 100000 in
set_option maxHeartbeats 4000000 in
theorem rshape16_any (n h : Int) (p : Nat) (hp : p < 18446744073709551616) (A : Option Addr) (c : Nat) (l : List Nd) (hl : l.length ≤ 1000000000) (w : World) (hR : ndS.Row w w.heap.size A l) :
    Calls Tryd.prog 32 #[.int .i64 n, .int .i64 h, .agg #[.int .u64 p, .slice A l.length c]] w (Tells (.int .i64 (shapeN n h p l)) w.heap.size w) := by
  have eV : shapeN n h p l = if h < 0 ∨ 63 < h then 120 else if allW n l = true then (if (l.length : Int) = h ∧ p < 2 ^ l.length then 0 else 160) else 70 := rfl
  obtain ⟨V, hV⟩ : ∃ V, shapeN n h p l = V := ⟨_, rfl⟩
  rw [hV] at eV ⊢
  clear hV
  have J0 := (Has.start w).addAt 37 #[.int .u64 p, .slice A l.length c] (g := w.heap.size) rfl
  obtain ⟨x0, x1, -, -, xin⟩ := (J0.box 0).two
  obtain ⟨N, hN⟩ : ∃ N, l.length = N := ⟨_, rfl⟩
  rw [hN] at eV J0 x1 hl ⊢
  by_cases h1 : h < 0
  · rw [if_pos (Or.inl h1)] at eV
    subst eV
    go_enter Tryd.func32, Tryd.ntmps32
    go_wp2
    go_ret
    exact ⟨rfl, J0.below⟩
  · by_cases h2 : 63 < h
    · rw [if_pos (Or.inr h2)] at eV
      subst eV
      go_enter Tryd.func32, Tryd.ntmps32
      go_wp2
      go_ret
      exact ⟨rfl, J0.below⟩
    · rw [if_neg (by omega)] at eV
      by_cases h3 : n < 1
      · rw [allW, show mayW n = false from decide_eq_false (by omega), Bool.false_and, if_neg (by decide)] at eV
        subst eV
        go_enter Tryd.func32, Tryd.ntmps32
        go_wp2
        go_ret
        exact ⟨rfl, J0.below⟩
      · by_cases h4 : 32 < n
        · rw [allW, show mayW n = false from decide_eq_false (by omega), Bool.false_and, if_neg (by decide)] at eV
          subst eV
          go_enter Tryd.func32, Tryd.ntmps32
          go_wp2
          go_ret
          exact ⟨rfl, J0.below⟩
        · rw [allW, show mayW n = true from decide_eq_true (by omega), Bool.true_and] at eV
          have HV := hideIt eV
          have HN := hideIt hN
          clear eV hN
          clear x0 x1 xin
          have J1 : Has w [(w.heap.size, 37, #[.int .u64 p, .slice A N c])] (w.alloc (.cells #[.int .u64 p, .slice A N c] 37)) := J0
          clear J0
          go_enter Tryd.func32, Tryd.ntmps32
          go_wp2
          change Code.wp _ _ _ _ (w.alloc (.cells #[.int .u64 p, .slice A N c] 37))
          generalize w.alloc (.cells #[.int .u64 p, .slice A N c] 37) = W0 at *
          go_loopg [7] N (fun gk i wr => ∃ k : Nat, k ≤ N ∧ N - k ≤ gk ∧ i = .int .i64 k ∧ (∀ j x, j < k → l[j]? = some x → x.of n = true) ∧ Has w [(w.heap.size, 37, #[.int .u64 p, .slice A N c])] wr)
          case atStart => exact ⟨0, Nat.zero_le _, by omega, rfl, fun j x hj => absurd hj (Nat.not_lt_zero _), J1⟩
          case round =>
            obtain ⟨k, hk, hgk, rfl, hall, J⟩ := hrel
            have HG := hideIt hgk
            have HA := hideIt hall
            clear hgk hall
            obtain ⟨x0, x1, -, -, xin⟩ := (J.box 0).two
            by_cases hlt : k < N
            · obtain ⟨x, hx⟩ : ∃ x, l[k]? = some x := ⟨_, List.getElem?_eq_getElem (by rw [HN.out]; omega)⟩
              have hlti : (k : Int) < (N : Int) := by omega
              obtain ⟨ad, rfl, g1, p0, p1, p2⟩ := nd_get (hR.on J.below) hx
              have cO := fun u => rof14_any n x u
              obtain ⟨t, ht⟩ : ∃ t, x.of n = t := ⟨_, rfl⟩
              rw [ht] at cO
              have HX := hideIt hx
              have HT := hideIt ht
              obtain ⟨xs, xh, xl⟩ := x
              simp only [Nd.val] at cO p0 p1 p2
              clear hx ht
              cases t with
              | true =>
                go_wp2_with (first | (go_at_call 60; refine (cO _).mono ?_; rintro e w2 ⟨rfl, b2⟩) | fail)
                go_roundg (N - (k + 1))
                case measure => have := HG.out; omega
                case rel => exact ⟨k + 1, by omega, Nat.le_refl _, by go_num, fun j x hj hx => by
                    by_cases e : j = k
                    · subst e
                      rw [HX.out] at hx
                      injection hx with hx
                      rw [← hx]
                      exact HT.out
                    · exact HA.out j x (by omega) hx, J.call b2⟩
              | false =>
                have hno : V = 70 := by
                  have : l.all (Nd.of n) = false := by
                    rw [Bool.eq_false_iff]
                    intro e
                    have := List.all_eq_true.1 e _ (List.mem_of_getElem? HX.out)
                    rw [HT.out] at this
                    cases this
                  rw [HV.out, this, if_neg (by decide)]
                subst hno
                go_wp2_with (first | (go_at_call 60; refine (cO _).mono ?_; rintro e w2 ⟨rfl, b2⟩) | fail)
                go_ret
                exact ⟨rfl, (J.call b2).below⟩
            · have e : k = N := by omega
              subst e
              have hlti : ¬ ((k : Int) < (k : Int)) := by omega
              have hyes : V = if (k : Int) = h ∧ p < 2 ^ k then 0 else 160 := by
                have : l.all (Nd.of n) = true := List.all_eq_true.2 fun x hx => by
                  obtain ⟨j, hj⟩ := List.getElem?_of_mem hx
                  exact HA.out j x (by have := (List.getElem?_eq_some_iff.1 hj).1; rw [HN.out] at this; omega) hj
                rw [HV.out, this, if_pos rfl]
              clear HV
              by_cases h5 : (k : Int) = h
              · subst h5
                have cT := fun u => rtwo16_any k (by omega) u
                have q0 : (((k : Nat) : Int) != (k : Int)) = false := by simp
                by_cases h6 : p < 2 ^ k
                · rw [if_pos ⟨rfl, h6⟩] at hyes
                  subst hyes
                  obtain ⟨T, hT⟩ : ∃ T, 2 ^ k = T := ⟨_, rfl⟩
                  rw [hT] at cT h6
                  clear hT
                  have h6i : ¬ (T : Int) ≤ (p : Int) := by omega
                  go_upto_region 10 with fail
                  go_quiet ((first | (go_at_call 61; exact Calls.quiet_of_same ((cT _).mono (fun _ _ h => ⟨h.1, h.2.symm⟩))) | fail))
                  go_wp2
                  go_ret
                  exact ⟨rfl, below_drewN J.below _⟩
                · rw [if_neg (fun h => h6 h.2)] at hyes
                  subst hyes
                  obtain ⟨T, hT⟩ : ∃ T, 2 ^ k = T := ⟨_, rfl⟩
                  rw [hT] at cT h6
                  clear hT
                  have h6i : (T : Int) ≤ (p : Int) := by omega
                  go_upto_region 10 with fail
                  go_quiet ((first | (go_at_call 61; exact Calls.quiet_of_same ((cT _).mono (fun _ _ h => ⟨h.1, h.2.symm⟩))) | fail))
                  go_wp2
                  go_ret
                  exact ⟨rfl, below_drewN J.below _⟩
              · rw [if_neg (fun h => h5 h.1)] at hyes
                subst hyes
                have q0 : (((k : Nat) : Int) != h) = true := bne_iff_ne.2 h5
                have cT : ∀ u, Calls Tryd.prog 61 #[.int .i64 h] u (Plain (.int .u64 0) u) ∨ True := fun u => Or.inr trivial
                go_upto_region 10 with fail
                go_quiet (fail)
                go_wp2
                go_ret
                exact ⟨rfl, below_drewN J.below _⟩
end Go.Proofs.YtkecekfapiegjaaDoor
/-
  paymasterref17's May, Up and Check, walked.
-/
namespace Go.Proofs.YtkecekfapiegjaaDoor
set_option linter.unusedVariables false
set_option linter.unusedSimpArgs false
set_option maxRecDepth 10000
open Go.RowKit

theorem topE_code (n : Int) (x : Lf) (p : Nat) (l : List Nd) : (topE n x p l).2 = (climbN n (nodeOf n x) p l).2 := by
  rw [topE]
  split
  · rename_i e; exact e.symm
  · rfl
theorem topE_root {n : Int} {x : Lf} {p : Nat} {l : List Nd} (e : (climbN n (nodeOf n x) p l).2 = 0) : (topE n x p l).1 = ⟨(climbN n (nodeOf n x) p l).1.hash, (climbN n (nodeOf n x) p l).1.h, (climbN n (nodeOf n x) p l).1.l, l.length⟩ := by
  rw [topE, if_pos e]
theorem topE_none {n : Int} {x : Lf} {p : Nat} {l : List Nd} (e : (climbN n (nodeOf n x) p l).2 ≠ 0) : (topE n x p l).1 = RtP.zero := by
  rw [topE, if_neg e]
theorem nodeOf_halved {n : Int} {x : Lf} (hw : Word x.h ∧ Word x.l) : (nodeOf n x).halved := by
  rw [nodeOf]
  split
  · exact hw
  · exact Nd.zero_halved
theorem Box.four17 {w : World} {g : Nat} {t : TypeId} {x y z u : Value} (h : Box w g t #[x, y, z, u]) :
    (w.cell? ⟨g, 0, none⟩ = some x ∧ w.cell? ⟨g, 1, none⟩ = some y ∧ w.cell? ⟨g, 2, none⟩ = some z ∧ w.cell? ⟨g, 3, none⟩ = some u) ∧ (w.frozen? ⟨g, 0, none⟩ = false ∧ w.frozen? ⟨g, 1, none⟩ = false ∧ w.frozen? ⟨g, 2, none⟩ = false ∧ w.frozen? ⟨g, 3, none⟩ = false) ∧ g < w.heap.size :=
  ⟨⟨h.read 0, h.read 1, h.read 2, h.read 3⟩, ⟨h.free 0, h.free 1, h.free 2, h.free 3⟩, h.inside⟩
theorem rtSame_eqR (x y : RtP) : rtSame x y = x.same y := rfl
set_option maxHeartbeats 2000000 in
theorem rmay17_any (r : RtP) (w : World) : Calls Tryd.prog 11 #[r.val] w (Tells (.int .i64 (mayR r)) w.heap.size w) := by
  have eV : mayR r = if r.n < 0 ∨ 63 < r.n then 120 else if mayW r.hash.size = true then 0 else 70 := rfl
  obtain ⟨V, hV⟩ : ∃ V, mayR r = V := ⟨_, rfl⟩
  rw [hV] at eV ⊢
  clear hV
  obtain ⟨s, h, l, n⟩ := r
  simp only at eV
  show Calls _ _ #[.agg (rtB s h l n)] _ _
  have J0 := (Has.start w).addAt 26 (rtB s h l n) (g := w.heap.size) rfl
  obtain ⟨⟨x0, x1, x2, x3⟩, -, xin⟩ := (J0.box 0).four17
  by_cases h1 : n < 0
  · rw [if_pos (Or.inl h1)] at eV
    subst eV
    go_enter Tryd.func11, Tryd.ntmps11
    go_wp2
    go_ret
    exact ⟨rfl, J0.below⟩
  · by_cases h2 : 63 < n
    · rw [if_pos (Or.inr h2)] at eV
      subst eV
      go_enter Tryd.func11, Tryd.ntmps11
      go_wp2
      go_ret
      exact ⟨rfl, J0.below⟩
    · rw [if_neg (by omega)] at eV
      obtain ⟨N, hN⟩ : ∃ N, s.size = N := ⟨_, rfl⟩
      rw [hN] at eV
      by_cases h3 : (N : Int) < 1
      · rw [show mayW N = false from decide_eq_false (by omega), if_neg (by decide)] at eV
        subst eV
        go_enter Tryd.func11, Tryd.ntmps11
        go_wp2
        go_ret
        exact ⟨rfl, J0.below⟩
      · by_cases h4 : (32 : Int) < N
        · rw [show mayW N = false from decide_eq_false (by omega), if_neg (by decide)] at eV
          subst eV
          go_enter Tryd.func11, Tryd.ntmps11
          go_wp2
          go_ret
          exact ⟨rfl, J0.below⟩
        · rw [show mayW N = true from decide_eq_true (by omega), if_pos rfl] at eV
          subst eV
          go_enter Tryd.func11, Tryd.ntmps11
          go_wp2
          go_ret
          exact ⟨rfl, J0.below⟩
set_option maxRecDepth 100000 in
set_option maxHeartbeats 8000000 in
theorem rup17_any (n : Int) (x : Lf) (p : Nat) (hp : p < 18446744073709551616) (A : Option Addr) (c : Nat) (l : List Nd) (hl : l.length ≤ 1000000000) (hx : x.id.size ≤ 1000000 ∧ x.salt.size ≤ 1000000) (hw : Word x.h ∧ Word x.l) (hy : ∀ y ∈ l, y.halved) (w : World) (hR : ndS.Row w w.heap.size A l) : Calls Tryd.prog 17 #[.int .i64 n, .agg (enV x p A l.length c)] w (Tells (.tuple #[(upE n x p l).1.val, .int .i64 (upE n x p l).2]) w.heap.size w) := by
  have cM := fun u => rmayLeaf_any x hx.1 hx.2 u
  have cS := fun u hu => rshape16_any n l.length p hp A c l hl u hu
  have cN := fun u => rleafNode_any n x hx.1 hx.2 hw.1 hw.2 u
  have cC := fun u hR => rclimb14_any n (nodeOf n x) p hp A c l hl (nodeOf_halved hw) hy u hR
  have eV : upE n x p l = if x.may = true then (if shapeN n l.length p l = 0 then topE n x p l else (RtP.zero, shapeN n l.length p l)) else (RtP.zero, 130) := rfl
  obtain ⟨V, hV⟩ : ∃ V, upE n x p l = V := ⟨_, rfl⟩
  rw [hV] at eV ⊢
  have hT1 := fun e => topE_root (n := n) (x := x) (p := p) (l := l) e
  have hT2 := fun e => topE_none (n := n) (x := x) (p := p) (l := l) e
  have hTc := topE_code n x p l
  obtain ⟨⟨T1, E⟩, hT⟩ : ∃ T, topE n x p l = T := ⟨_, rfl⟩
  rw [hT] at hT1 hT2 hTc eV
  obtain ⟨⟨⟨ts, th, tl⟩, E'⟩, hC⟩ : ∃ C, climbN n (nodeOf n x) p l = C := ⟨_, rfl⟩
  rw [hC] at cC hT1 hT2 hTc
  simp only at cC hT1 hT2 hTc
  subst hTc
  generalize nodeOf n x = X at *
  obtain ⟨M, hM⟩ : ∃ M, x.may = M := ⟨_, rfl⟩
  rw [hM] at cM eV
  obtain ⟨S, hS⟩ : ∃ S, shapeN n l.length p l = S := ⟨_, rfl⟩
  rw [hS] at cS eV
  obtain ⟨N, hN⟩ : ∃ N, l.length = N := ⟨_, rfl⟩
  rw [hN] at cS cC hT1 ⊢
  clear hM hS hN hC hT hV hy hx hl
  obtain ⟨xp, xi, xs, xh, xl⟩ := x
  obtain ⟨xns, xnh, xnl⟩ := X
  simp only [Nd.val, Lf.val] at cM cN cC
  obtain ⟨ge, hge⟩ : ∃ g, w.heap.size = g := ⟨_, rfl⟩
  have J0 := ((Has.start w).addAt 39 (enV ⟨xp, xi, xs, xh, xl⟩ p A N c) (g := ge) hge).addAt 26 (rtB ⟨#[]⟩ 0 0 0) (g := ge + 1) (by simp [hge])
  obtain ⟨⟨x0, x1, x2, x3, x4, x5, x6⟩, xin⟩ := (J0.box 1).seven
  simp only at x0 x1 x2 x3 x4
  have hgr : w.heap.size ≤ ge + 1 := by omega
  have hgn : ∀ y ∈ [((ge : Nat), 39, enV ⟨xp, xi, xs, xh, xl⟩ p A N c)], y.1 ≠ ge + 1 := fun y hy => by
    obtain rfl := List.mem_singleton.1 hy
    simp only
    omega
  cases M with
  | false =>
    rw [if_neg (by decide)] at eV
    subst eV
    clear cS cN cC hT1 hT2
    go_enter Tryd.func17, Tryd.ntmps17
    go_wp2_with (first
      | (go_at_call 31; refine (cM _).mono ?_; rintro e w2 ⟨rfl, b2⟩; have J2 := J0.call b2; obtain ⟨⟨y0, y1, y2, y3⟩, ⟨f0, f1, f2, f3⟩, yin⟩ := (J2.box 0).four17)
      | fail)
    have HK := (((J2.wrote hgr hgn 0 (.string ⟨#[]⟩)).wrote hgr hgn 1 (.int .u64 0)).wrote hgr hgn 2 (.int .u64 0)).wrote hgr hgn 3 (.int .i64 0)
    generalize World.setCell (World.setCell (World.setCell (World.setCell _ _ _) _ _) _ _) _ _ = WR at *
    obtain ⟨⟨y0, y1, y2, y3⟩, -, yin⟩ := (HK.box 0).four17
    exact bodyPost_ret (v := .tuple #[RtP.val RtP.zero, .int .i64 130]) (by simp [results, Tryd.results17, go_sem, RtP.val, RtP.zero, y0, y1, y2, y3]) rfl ⟨rfl, by first | exact HK.below | (rw [← hge]; exact HK.below)⟩
  | true =>
    rw [if_pos rfl] at eV
    by_cases hS0 : S = 0
    · rw [if_pos hS0] at eV
      subst hS0 eV
      have HE := hideIt hT1
      have HZ := hideIt hT2
      clear hT1 hT2
      go_enter Tryd.func17, Tryd.ntmps17
      go_upto_region 7 with (first
        | (go_at_call 31; refine (cM _).mono ?_; rintro e w2 ⟨rfl, b2⟩; have J2 := J0.call b2; obtain ⟨⟨v0, v1, v2, v3, v4, v5, v6⟩, vin⟩ := (J2.box 1).seven; simp only at v0 v1 v2 v3 v4)
        | (go_at_call 32; refine (cS _ (hR.on J2.below)).mono ?_; rintro e w3 ⟨rfl, b3⟩; have J4 := J2.call b3)
        | fail)
      have BS := hR.on J4.below
      generalize w3 = W1 at *
      clear x0 x1 x2 x3 x4 x5 x6 xin v0 v1 v2 v3 v4 v5 v6 vin J0 J2 b2 b3 cM cS
      have hS : ∀ u, Below W1.heap.size W1 u → (u.cell? ⟨ge, 0, none⟩ = some (.bool xp) ∧ u.cell? ⟨ge, 1, none⟩ = some (.string xi) ∧ u.cell? ⟨ge, 2, none⟩ = some (.string xs) ∧ u.cell? ⟨ge, 3, none⟩ = some (.int .u64 xh) ∧ u.cell? ⟨ge, 4, none⟩ = some (.int .u64 xl) ∧ u.cell? ⟨ge, 5, none⟩ = some (.int .u64 p) ∧ u.cell? ⟨ge, 6, none⟩ = some (.slice A N c)) ∧ ge < u.heap.size := fun u hu => ((J4.call hu).box 1).seven
      have b0 := (Below.refl W1.heap.size W1).drew
      refine wp_region_held_drew (S := fun u => (u.cell? ⟨ge, 0, none⟩ = some (.bool xp) ∧ u.cell? ⟨ge, 1, none⟩ = some (.string xi) ∧ u.cell? ⟨ge, 2, none⟩ = some (.string xs) ∧ u.cell? ⟨ge, 3, none⟩ = some (.int .u64 xh) ∧ u.cell? ⟨ge, 4, none⟩ = some (.int .u64 xl) ∧ u.cell? ⟨ge, 5, none⟩ = some (.int .u64 p) ∧ u.cell? ⟨ge, 6, none⟩ = some (.slice A N c)) ∧ ge < u.heap.size) (by kernel_rfl) (hS _ b0) (fun hHeld => ?_)
      generalize W1.drew = Wd at *
      have hs3 : W1.heap.size ≤ Wd.heap.size := b0.size
      refine wpAnyH_take (i := 0) (v := ?_) rfl (by kernel_rfl) (by kernel_rfl) (by kernel_rfl) (fun _ _ _ h => h) (Or.inl ⟨by rfl, ?_⟩) (by assumption) ?_
      rotate_left 1
      · intro w hSw; (try dsimp only at hSw); go_simp; try with_reducible rfl
      try simp only [Act.put, List.getElem_toArray, List.getElem_cons_succ, List.getElem_cons_zero, List.setIfInBounds_toArray, List.set_cons_zero, List.set_cons_succ]
      refine wpAnyH_take (i := 1) (v := ?_) rfl (by kernel_rfl) (by kernel_rfl) (by kernel_rfl) (fun _ _ _ h => h) (Or.inl ⟨by rfl, ?_⟩) (by assumption) ?_
      rotate_left 1
      · intro w hSw; (try dsimp only at hSw); go_simp; try with_reducible rfl
      try simp only [Act.put, List.getElem_toArray, List.getElem_cons_succ, List.getElem_cons_zero, List.setIfInBounds_toArray, List.set_cons_zero, List.set_cons_succ]
      refine wpAnyH_take (i := 2) (v := ?_) rfl (by kernel_rfl) (by kernel_rfl) (by kernel_rfl) (fun _ _ _ h => h) (Or.inl ⟨by rfl, ?_⟩) (by assumption) ?_
      rotate_left 1
      · intro w hSw; (try dsimp only at hSw); go_simp; try with_reducible rfl
      try simp only [Act.put, List.getElem_toArray, List.getElem_cons_succ, List.getElem_cons_zero, List.setIfInBounds_toArray, List.set_cons_zero, List.set_cons_succ]
      refine wpAnyH_take (i := 3) (v := ?_) rfl (by kernel_rfl) (by kernel_rfl) (by kernel_rfl) (fun _ _ _ h => h) (Or.inl ⟨by rfl, ?_⟩) (by assumption) ?_
      rotate_left 1
      · intro w hSw; (try dsimp only at hSw); go_simp; try with_reducible rfl
      try simp only [Act.put, List.getElem_toArray, List.getElem_cons_succ, List.getElem_cons_zero, List.setIfInBounds_toArray, List.set_cons_zero, List.set_cons_succ]
      refine wpAnyH_take (i := 5) (v := ?_) rfl (by kernel_rfl) (by kernel_rfl) (by kernel_rfl) (fun _ _ _ h => h) (Or.inl ⟨by rfl, ?_⟩) (by assumption) ?_
      rotate_left 1
      · intro w hSw; (try dsimp only at hSw); go_simp; try with_reducible rfl
      try simp only [Act.put, List.getElem_toArray, List.getElem_cons_succ, List.getElem_cons_zero, List.setIfInBounds_toArray, List.set_cons_zero, List.set_cons_succ]
      refine wpAnyH_take (i := 6) (v := ?_) rfl (by kernel_rfl) (by kernel_rfl) (by kernel_rfl) (fun _ _ _ h => h) (Or.inl ⟨by rfl, ?_⟩) (by assumption) ?_
      rotate_left 1
      · intro w hSw; (try dsimp only at hSw); go_simp; try with_reducible rfl
      try simp only [Act.put, List.getElem_toArray, List.getElem_cons_succ, List.getElem_cons_zero, List.setIfInBounds_toArray, List.set_cons_zero, List.set_cons_succ]
      refine wpAnyH_take (i := 7) (v := ?_) rfl (by kernel_rfl) (by kernel_rfl) (by kernel_rfl) (fun _ _ _ h => h) (Or.inl ⟨by rfl, ?_⟩) (by assumption) ?_
      rotate_left 1
      · intro w hSw; (try dsimp only at hSw); go_simp; try with_reducible rfl
      try simp only [Act.put, List.getElem_toArray, List.getElem_cons_succ, List.getElem_cons_zero, List.setIfInBounds_toArray, List.set_cons_zero, List.set_cons_succ]
      refine wpAnyH_take (i := 8) (v := ?_) rfl (by kernel_rfl) (by kernel_rfl) (by kernel_rfl) (fun _ _ _ h => h) (Or.inl ⟨by rfl, ?_⟩) (by assumption) ?_
      rotate_left 1
      · intro w hSw; (try dsimp only at hSw); go_simp; try with_reducible rfl
      try simp only [Act.put, List.getElem_toArray, List.getElem_cons_succ, List.getElem_cons_zero, List.setIfInBounds_toArray, List.set_cons_zero, List.set_cons_succ]
      refine wpAnyH_take (i := 9) (v := ?_) rfl (by kernel_rfl) (by kernel_rfl) (by kernel_rfl) (fun _ _ _ h => h) (Or.inl ⟨by rfl, ?_⟩) (by assumption) ?_
      rotate_left 1
      · intro w hSw; (try dsimp only at hSw); go_simp; try with_reducible rfl
      try simp only [Act.put, List.getElem_toArray, List.getElem_cons_succ, List.getElem_cons_zero, List.setIfInBounds_toArray, List.set_cons_zero, List.set_cons_succ]
      refine wpAnyH_take (i := 10) (v := ?_) rfl (by kernel_rfl) (by kernel_rfl) (by kernel_rfl) (fun _ _ _ h => h) (Or.inl ⟨by rfl, ?_⟩) (by assumption) ?_
      rotate_left 1
      · intro w hSw; (try dsimp only at hSw); go_simp; try with_reducible rfl
      try simp only [Act.put, List.getElem_toArray, List.getElem_cons_succ, List.getElem_cons_zero, List.setIfInBounds_toArray, List.set_cons_zero, List.set_cons_succ]
      refine wpAnyH_ready (rs := [4, 15]) (by kernel_rfl) (by simp) (AllReadyH.cons rfl (fun K hK => ?_) (AllReadyH.cons rfl (fun K hK => ?_) AllReadyH.nil))
      · go_simp
        go_at_call 35
        refine (cN _).mono ?_
        rintro e w6 ⟨rfl, b6⟩
        have b4 := chain b0 b6
        try simp only []
        refine hK.out _ _ (hS _ b4) (fun hHeld => ?_)
        clear hK K
        try simp only [Act.put, List.getElem_toArray, List.getElem_cons_succ, List.getElem_cons_zero, List.setIfInBounds_toArray, List.set_cons_zero, List.set_cons_succ]
        refine wpAnyH_ready (rs := [11, 15]) (by kernel_rfl) (by simp) (AllReadyH.cons rfl (fun K hK => ?_) (AllReadyH.cons rfl (fun K hK => ?_) AllReadyH.nil))
        · go_simp
          go_at_call 34
          refine (cC _ (BS.on b4)).mono ?_
          rintro e w7 ⟨rfl, b7⟩
          have b5 := chain b4 b7
          try simp only []
          refine hK.out _ _ (hS _ b5) (fun hHeld => ?_)
          clear hK K
          try simp only [Act.put, List.getElem_toArray, List.getElem_cons_succ, List.getElem_cons_zero, List.setIfInBounds_toArray, List.set_cons_zero, List.set_cons_succ]
          refine wpAnyH_take (i := 12) (v := ?_) rfl (by kernel_rfl) (by kernel_rfl) (by kernel_rfl) (fun _ _ _ h => h) (Or.inl ⟨by rfl, ?_⟩) (by assumption) ?_
          rotate_left 1
          · intro w hSw; (try dsimp only at hSw); go_simp; try with_reducible rfl
          try simp only [Act.put, List.getElem_toArray, List.getElem_cons_succ, List.getElem_cons_zero, List.setIfInBounds_toArray, List.set_cons_zero, List.set_cons_succ]
          refine wpAnyH_take (i := 13) (v := ?_) rfl (by kernel_rfl) (by kernel_rfl) (by kernel_rfl) (fun _ _ _ h => h) (Or.inl ⟨by rfl, ?_⟩) (by assumption) ?_
          rotate_left 1
          · intro w hSw; (try dsimp only at hSw); go_simp; try with_reducible rfl
          try simp only [Act.put, List.getElem_toArray, List.getElem_cons_succ, List.getElem_cons_zero, List.setIfInBounds_toArray, List.set_cons_zero, List.set_cons_succ]
          refine wpAnyH_take (i := 14) (v := ?_) rfl (by kernel_rfl) (by kernel_rfl) (by kernel_rfl) (fun _ _ _ h => h) (Or.inl ⟨by rfl, ?_⟩) (by assumption) ?_
          rotate_left 1
          · intro w hSw; (try dsimp only at hSw); go_simp; try with_reducible rfl
          try simp only [Act.put, List.getElem_toArray, List.getElem_cons_succ, List.getElem_cons_zero, List.setIfInBounds_toArray, List.set_cons_zero, List.set_cons_succ]
          refine wpAnyH_ready (rs := [15]) (by kernel_rfl) (by simp) (AllReadyH.cons rfl (fun K hK => ?_) AllReadyH.nil)
          go_simp
          have bw := chainA b5 (.cells (ndB ⟨#[]⟩ 0 0) 49)
          have bz := Box.made w7 49 (ndB ⟨#[]⟩ 0 0)
          have hgz : W1.heap.size ≤ (w7).heap.size := Below.size b5
          obtain ⟨gz, hgz0⟩ : ∃ g, (w7).heap.size = g := ⟨_, rfl⟩
          rw [hgz0] at bz hgz ⊢
          change K _ (World.alloc w7 (.cells (ndB ⟨#[]⟩ 0 0) 49))
          generalize World.alloc w7 (.cells (ndB ⟨#[]⟩ 0 0) 49) = w8 at *
          clear hgz0
          refine hK.out _ _ (hS _ bw) (fun hHeld => ?_)
          clear hK K
          try simp only [Act.put, List.getElem_toArray, List.getElem_cons_succ, List.getElem_cons_zero, List.setIfInBounds_toArray, List.set_cons_zero, List.set_cons_succ]
          obtain ⟨v0, v1, v2, vf0, vf1, vf2, vin⟩ := bz.three
          refine wpAnyH_ready (rs := [16]) (by kernel_rfl) (by simp) (AllReadyH.cons rfl (fun K hK => ?_) AllReadyH.nil)
          go_simp
          have bz9 := ((bz.wrote 0 (.string ts)).wrote 1 (.int .u64 th)).wrote 2 (.int .u64 tl)
          have bw8 : Below W1.heap.size W1 (World.setCell (World.setCell (World.setCell w8 ⟨gz, 0, none⟩ (.string ts)) ⟨gz, 1, none⟩ (.int .u64 th)) ⟨gz, 2, none⟩ (.int .u64 tl)) := ((bw.setCell (p := ⟨gz, 0, none⟩) hgz _).setCell (p := ⟨gz, 1, none⟩) hgz _).setCell (p := ⟨gz, 2, none⟩) hgz _
          generalize World.setCell (World.setCell (World.setCell w8 _ _) _ _) _ _ = W9 at *
          have bz9 : Box W9 gz 49 (ndB ts th tl) := bz9
          refine hK.out _ _ (hS _ bw8) (fun hHeld => ?_)
          clear hK K
          try simp only [Act.put, List.getElem_toArray, List.getElem_cons_succ, List.getElem_cons_zero, List.setIfInBounds_toArray, List.set_cons_zero, List.set_cons_succ]
          refine wpAnyH_take (i := 17) (v := ?_) rfl (by kernel_rfl) (by kernel_rfl) (by kernel_rfl) (fun _ _ _ h => h) (Or.inl ⟨by rfl, ?_⟩) (by assumption) ?_
          rotate_left 1
          · intro w hSw; (try dsimp only at hSw); go_simp; try with_reducible rfl
          try simp only [Act.put, List.getElem_toArray, List.getElem_cons_succ, List.getElem_cons_zero, List.setIfInBounds_toArray, List.set_cons_zero, List.set_cons_succ]
          refine wpAnyH_done (by kernel_rfl) ?_ _
          clear v0 v1 v2 vf0 vf1 vf2 vin
          obtain ⟨z0, z1, z2, -, -, -, zin⟩ := bz9.three
          have K9 := J4.call bw8
          obtain ⟨⟨y0, y1, y2, y3⟩, ⟨f0, f1, f2, f3⟩, yin⟩ := (K9.box 0).four17
          by_cases hE : E = 0
          · subst hE
            have HK := (((K9.wrote hgr hgn 0 (.string ts)).wrote hgr hgn 1 (.int .u64 th)).wrote hgr hgn 2 (.int .u64 tl)).wrote hgr hgn 3 (.int .i64 (N : Nat))
            have e1 := HE.out rfl
            subst e1
            go_wp2
            generalize World.setCell (World.setCell (World.setCell (World.setCell _ _ _) _ _) _ _) _ _ = WR at *
            obtain ⟨⟨y0, y1, y2, y3⟩, -, yin⟩ := (HK.box 0).four17
            exact bodyPost_ret (v := .tuple #[RtP.val ⟨ts, th, tl, (N : Nat)⟩, .int .i64 0]) (by simp [results, Tryd.results17, go_sem, RtP.val, RtP.zero, y0, y1, y2, y3]) rfl ⟨rfl, by first | exact HK.below | (rw [← hge]; exact HK.below)⟩
          · have q0 : (E != 0) = true := bne_iff_ne.2 hE
            have HK := (((K9.wrote hgr hgn 0 (.string ⟨#[]⟩)).wrote hgr hgn 1 (.int .u64 0)).wrote hgr hgn 2 (.int .u64 0)).wrote hgr hgn 3 (.int .i64 0)
            have e1 := HZ.out hE
            subst e1
            go_wp2
            generalize World.setCell (World.setCell (World.setCell (World.setCell _ _ _) _ _) _ _) _ _ = WR at *
            obtain ⟨⟨y0, y1, y2, y3⟩, -, yin⟩ := (HK.box 0).four17
            exact bodyPost_ret (v := .tuple #[RtP.val RtP.zero, .int .i64 E]) (by simp [results, Tryd.results17, go_sem, RtP.val, RtP.zero, y0, y1, y2, y3]) rfl ⟨rfl, by first | exact HK.below | (rw [← hge]; exact HK.below)⟩
        · go_simp
          have bw := chainA b4 (.cells (ndB ⟨#[]⟩ 0 0) 49)
          have bz := Box.made w6 49 (ndB ⟨#[]⟩ 0 0)
          have hgz : W1.heap.size ≤ (w6).heap.size := Below.size b4
          obtain ⟨gz, hgz0⟩ : ∃ g, (w6).heap.size = g := ⟨_, rfl⟩
          rw [hgz0] at bz hgz ⊢
          change K _ (World.alloc w6 (.cells (ndB ⟨#[]⟩ 0 0) 49))
          generalize World.alloc w6 (.cells (ndB ⟨#[]⟩ 0 0) 49) = w8 at *
          clear hgz0
          refine hK.out _ _ (hS _ bw) (fun hHeld => ?_)
          clear hK K
          try simp only [Act.put, List.getElem_toArray, List.getElem_cons_succ, List.getElem_cons_zero, List.setIfInBounds_toArray, List.set_cons_zero, List.set_cons_succ]
          refine wpAnyH_ready (rs := [11]) (by kernel_rfl) (by simp) (AllReadyH.cons rfl (fun K hK => ?_) AllReadyH.nil)
          go_simp
          go_at_call 34
          refine (cC _ (BS.on bw)).mono ?_
          rintro e w7 ⟨rfl, b7⟩
          have b5 := chain bw b7
          try simp only []
          refine hK.out _ _ (hS _ b5) (fun hHeld => ?_)
          clear hK K
          try simp only [Act.put, List.getElem_toArray, List.getElem_cons_succ, List.getElem_cons_zero, List.setIfInBounds_toArray, List.set_cons_zero, List.set_cons_succ]
          have bz := bz.call b7
          have bw := b5
          refine wpAnyH_take (i := 12) (v := ?_) rfl (by kernel_rfl) (by kernel_rfl) (by kernel_rfl) (fun _ _ _ h => h) (Or.inl ⟨by rfl, ?_⟩) (by assumption) ?_
          rotate_left 1
          · intro w hSw; (try dsimp only at hSw); go_simp; try with_reducible rfl
          try simp only [Act.put, List.getElem_toArray, List.getElem_cons_succ, List.getElem_cons_zero, List.setIfInBounds_toArray, List.set_cons_zero, List.set_cons_succ]
          refine wpAnyH_take (i := 13) (v := ?_) rfl (by kernel_rfl) (by kernel_rfl) (by kernel_rfl) (fun _ _ _ h => h) (Or.inl ⟨by rfl, ?_⟩) (by assumption) ?_
          rotate_left 1
          · intro w hSw; (try dsimp only at hSw); go_simp; try with_reducible rfl
          try simp only [Act.put, List.getElem_toArray, List.getElem_cons_succ, List.getElem_cons_zero, List.setIfInBounds_toArray, List.set_cons_zero, List.set_cons_succ]
          refine wpAnyH_take (i := 14) (v := ?_) rfl (by kernel_rfl) (by kernel_rfl) (by kernel_rfl) (fun _ _ _ h => h) (Or.inl ⟨by rfl, ?_⟩) (by assumption) ?_
          rotate_left 1
          · intro w hSw; (try dsimp only at hSw); go_simp; try with_reducible rfl
          try simp only [Act.put, List.getElem_toArray, List.getElem_cons_succ, List.getElem_cons_zero, List.setIfInBounds_toArray, List.set_cons_zero, List.set_cons_succ]
          obtain ⟨v0, v1, v2, vf0, vf1, vf2, vin⟩ := bz.three
          refine wpAnyH_ready (rs := [16]) (by kernel_rfl) (by simp) (AllReadyH.cons rfl (fun K hK => ?_) AllReadyH.nil)
          go_simp
          have bz9 := ((bz.wrote 0 (.string ts)).wrote 1 (.int .u64 th)).wrote 2 (.int .u64 tl)
          have bw7 : Below W1.heap.size W1 (World.setCell (World.setCell (World.setCell w7 ⟨gz, 0, none⟩ (.string ts)) ⟨gz, 1, none⟩ (.int .u64 th)) ⟨gz, 2, none⟩ (.int .u64 tl)) := ((bw.setCell (p := ⟨gz, 0, none⟩) hgz _).setCell (p := ⟨gz, 1, none⟩) hgz _).setCell (p := ⟨gz, 2, none⟩) hgz _
          generalize World.setCell (World.setCell (World.setCell w7 _ _) _ _) _ _ = W9 at *
          have bz9 : Box W9 gz 49 (ndB ts th tl) := bz9
          refine hK.out _ _ (hS _ bw7) (fun hHeld => ?_)
          clear hK K
          try simp only [Act.put, List.getElem_toArray, List.getElem_cons_succ, List.getElem_cons_zero, List.setIfInBounds_toArray, List.set_cons_zero, List.set_cons_succ]
          refine wpAnyH_take (i := 17) (v := ?_) rfl (by kernel_rfl) (by kernel_rfl) (by kernel_rfl) (fun _ _ _ h => h) (Or.inl ⟨by rfl, ?_⟩) (by assumption) ?_
          rotate_left 1
          · intro w hSw; (try dsimp only at hSw); go_simp; try with_reducible rfl
          try simp only [Act.put, List.getElem_toArray, List.getElem_cons_succ, List.getElem_cons_zero, List.setIfInBounds_toArray, List.set_cons_zero, List.set_cons_succ]
          refine wpAnyH_done (by kernel_rfl) ?_ _
          clear v0 v1 v2 vf0 vf1 vf2 vin
          obtain ⟨z0, z1, z2, -, -, -, zin⟩ := bz9.three
          have K9 := J4.call bw7
          obtain ⟨⟨y0, y1, y2, y3⟩, ⟨f0, f1, f2, f3⟩, yin⟩ := (K9.box 0).four17
          by_cases hE : E = 0
          · subst hE
            have HK := (((K9.wrote hgr hgn 0 (.string ts)).wrote hgr hgn 1 (.int .u64 th)).wrote hgr hgn 2 (.int .u64 tl)).wrote hgr hgn 3 (.int .i64 (N : Nat))
            have e1 := HE.out rfl
            subst e1
            go_wp2
            generalize World.setCell (World.setCell (World.setCell (World.setCell _ _ _) _ _) _ _) _ _ = WR at *
            obtain ⟨⟨y0, y1, y2, y3⟩, -, yin⟩ := (HK.box 0).four17
            exact bodyPost_ret (v := .tuple #[RtP.val ⟨ts, th, tl, (N : Nat)⟩, .int .i64 0]) (by simp [results, Tryd.results17, go_sem, RtP.val, RtP.zero, y0, y1, y2, y3]) rfl ⟨rfl, by first | exact HK.below | (rw [← hge]; exact HK.below)⟩
          · have q0 : (E != 0) = true := bne_iff_ne.2 hE
            have HK := (((K9.wrote hgr hgn 0 (.string ⟨#[]⟩)).wrote hgr hgn 1 (.int .u64 0)).wrote hgr hgn 2 (.int .u64 0)).wrote hgr hgn 3 (.int .i64 0)
            have e1 := HZ.out hE
            subst e1
            go_wp2
            generalize World.setCell (World.setCell (World.setCell (World.setCell _ _ _) _ _) _ _) _ _ = WR at *
            obtain ⟨⟨y0, y1, y2, y3⟩, -, yin⟩ := (HK.box 0).four17
            exact bodyPost_ret (v := .tuple #[RtP.val RtP.zero, .int .i64 E]) (by simp [results, Tryd.results17, go_sem, RtP.val, RtP.zero, y0, y1, y2, y3]) rfl ⟨rfl, by first | exact HK.below | (rw [← hge]; exact HK.below)⟩
      · go_simp
        have bw := chainA b0 (.cells (ndB ⟨#[]⟩ 0 0) 49)
        have bz := Box.made Wd 49 (ndB ⟨#[]⟩ 0 0)
        have hgz : W1.heap.size ≤ (Wd).heap.size := Below.size b0
        obtain ⟨gz, hgz0⟩ : ∃ g, (Wd).heap.size = g := ⟨_, rfl⟩
        rw [hgz0] at bz hgz ⊢
        change K _ (World.alloc Wd (.cells (ndB ⟨#[]⟩ 0 0) 49))
        generalize World.alloc Wd (.cells (ndB ⟨#[]⟩ 0 0) 49) = w8 at *
        clear hgz0
        refine hK.out _ _ (hS _ bw) (fun hHeld => ?_)
        clear hK K
        try simp only [Act.put, List.getElem_toArray, List.getElem_cons_succ, List.getElem_cons_zero, List.setIfInBounds_toArray, List.set_cons_zero, List.set_cons_succ]
        refine wpAnyH_ready (rs := [4]) (by kernel_rfl) (by simp) (AllReadyH.cons rfl (fun K hK => ?_) AllReadyH.nil)
        go_simp
        go_at_call 35
        refine (cN _).mono ?_
        rintro e w6 ⟨rfl, b6⟩
        have b4 := chain bw b6
        try simp only []
        refine hK.out _ _ (hS _ b4) (fun hHeld => ?_)
        clear hK K
        try simp only [Act.put, List.getElem_toArray, List.getElem_cons_succ, List.getElem_cons_zero, List.setIfInBounds_toArray, List.set_cons_zero, List.set_cons_succ]
        have bz := bz.call b6
        refine wpAnyH_ready (rs := [11]) (by kernel_rfl) (by simp) (AllReadyH.cons rfl (fun K hK => ?_) AllReadyH.nil)
        go_simp
        go_at_call 34
        refine (cC _ (BS.on b4)).mono ?_
        rintro e w7 ⟨rfl, b7⟩
        have b5 := chain b4 b7
        try simp only []
        refine hK.out _ _ (hS _ b5) (fun hHeld => ?_)
        clear hK K
        try simp only [Act.put, List.getElem_toArray, List.getElem_cons_succ, List.getElem_cons_zero, List.setIfInBounds_toArray, List.set_cons_zero, List.set_cons_succ]
        have bz := bz.call b7
        have bw := b5
        refine wpAnyH_take (i := 12) (v := ?_) rfl (by kernel_rfl) (by kernel_rfl) (by kernel_rfl) (fun _ _ _ h => h) (Or.inl ⟨by rfl, ?_⟩) (by assumption) ?_
        rotate_left 1
        · intro w hSw; (try dsimp only at hSw); go_simp; try with_reducible rfl
        try simp only [Act.put, List.getElem_toArray, List.getElem_cons_succ, List.getElem_cons_zero, List.setIfInBounds_toArray, List.set_cons_zero, List.set_cons_succ]
        refine wpAnyH_take (i := 13) (v := ?_) rfl (by kernel_rfl) (by kernel_rfl) (by kernel_rfl) (fun _ _ _ h => h) (Or.inl ⟨by rfl, ?_⟩) (by assumption) ?_
        rotate_left 1
        · intro w hSw; (try dsimp only at hSw); go_simp; try with_reducible rfl
        try simp only [Act.put, List.getElem_toArray, List.getElem_cons_succ, List.getElem_cons_zero, List.setIfInBounds_toArray, List.set_cons_zero, List.set_cons_succ]
        refine wpAnyH_take (i := 14) (v := ?_) rfl (by kernel_rfl) (by kernel_rfl) (by kernel_rfl) (fun _ _ _ h => h) (Or.inl ⟨by rfl, ?_⟩) (by assumption) ?_
        rotate_left 1
        · intro w hSw; (try dsimp only at hSw); go_simp; try with_reducible rfl
        try simp only [Act.put, List.getElem_toArray, List.getElem_cons_succ, List.getElem_cons_zero, List.setIfInBounds_toArray, List.set_cons_zero, List.set_cons_succ]
        obtain ⟨v0, v1, v2, vf0, vf1, vf2, vin⟩ := bz.three
        refine wpAnyH_ready (rs := [16]) (by kernel_rfl) (by simp) (AllReadyH.cons rfl (fun K hK => ?_) AllReadyH.nil)
        go_simp
        have bz9 := ((bz.wrote 0 (.string ts)).wrote 1 (.int .u64 th)).wrote 2 (.int .u64 tl)
        have bw7 : Below W1.heap.size W1 (World.setCell (World.setCell (World.setCell w7 ⟨gz, 0, none⟩ (.string ts)) ⟨gz, 1, none⟩ (.int .u64 th)) ⟨gz, 2, none⟩ (.int .u64 tl)) := ((bw.setCell (p := ⟨gz, 0, none⟩) hgz _).setCell (p := ⟨gz, 1, none⟩) hgz _).setCell (p := ⟨gz, 2, none⟩) hgz _
        generalize World.setCell (World.setCell (World.setCell w7 _ _) _ _) _ _ = W9 at *
        have bz9 : Box W9 gz 49 (ndB ts th tl) := bz9
        refine hK.out _ _ (hS _ bw7) (fun hHeld => ?_)
        clear hK K
        try simp only [Act.put, List.getElem_toArray, List.getElem_cons_succ, List.getElem_cons_zero, List.setIfInBounds_toArray, List.set_cons_zero, List.set_cons_succ]
        refine wpAnyH_take (i := 17) (v := ?_) rfl (by kernel_rfl) (by kernel_rfl) (by kernel_rfl) (fun _ _ _ h => h) (Or.inl ⟨by rfl, ?_⟩) (by assumption) ?_
        rotate_left 1
        · intro w hSw; (try dsimp only at hSw); go_simp; try with_reducible rfl
        try simp only [Act.put, List.getElem_toArray, List.getElem_cons_succ, List.getElem_cons_zero, List.setIfInBounds_toArray, List.set_cons_zero, List.set_cons_succ]
        refine wpAnyH_done (by kernel_rfl) ?_ _
        clear v0 v1 v2 vf0 vf1 vf2 vin
        obtain ⟨z0, z1, z2, -, -, -, zin⟩ := bz9.three
        have K9 := J4.call bw7
        obtain ⟨⟨y0, y1, y2, y3⟩, ⟨f0, f1, f2, f3⟩, yin⟩ := (K9.box 0).four17
        by_cases hE : E = 0
        · subst hE
          have HK := (((K9.wrote hgr hgn 0 (.string ts)).wrote hgr hgn 1 (.int .u64 th)).wrote hgr hgn 2 (.int .u64 tl)).wrote hgr hgn 3 (.int .i64 (N : Nat))
          have e1 := HE.out rfl
          subst e1
          go_wp2
          generalize World.setCell (World.setCell (World.setCell (World.setCell _ _ _) _ _) _ _) _ _ = WR at *
          obtain ⟨⟨y0, y1, y2, y3⟩, -, yin⟩ := (HK.box 0).four17
          exact bodyPost_ret (v := .tuple #[RtP.val ⟨ts, th, tl, (N : Nat)⟩, .int .i64 0]) (by simp [results, Tryd.results17, go_sem, RtP.val, RtP.zero, y0, y1, y2, y3]) rfl ⟨rfl, by first | exact HK.below | (rw [← hge]; exact HK.below)⟩
        · have q0 : (E != 0) = true := bne_iff_ne.2 hE
          have HK := (((K9.wrote hgr hgn 0 (.string ⟨#[]⟩)).wrote hgr hgn 1 (.int .u64 0)).wrote hgr hgn 2 (.int .u64 0)).wrote hgr hgn 3 (.int .i64 0)
          have e1 := HZ.out hE
          subst e1
          go_wp2
          generalize World.setCell (World.setCell (World.setCell (World.setCell _ _ _) _ _) _ _) _ _ = WR at *
          obtain ⟨⟨y0, y1, y2, y3⟩, -, yin⟩ := (HK.box 0).four17
          exact bodyPost_ret (v := .tuple #[RtP.val RtP.zero, .int .i64 E]) (by simp [results, Tryd.results17, go_sem, RtP.val, RtP.zero, y0, y1, y2, y3]) rfl ⟨rfl, by first | exact HK.below | (rw [← hge]; exact HK.below)⟩
    · rw [if_neg hS0] at eV
      subst eV
      clear cN cC hT1 hT2
      have q0 : (S != 0) = true := bne_iff_ne.2 hS0
      go_enter Tryd.func17, Tryd.ntmps17
      go_wp2_with (first
        | (go_at_call 31; refine (cM _).mono ?_; rintro e w2 ⟨rfl, b2⟩; have J2 := J0.call b2; obtain ⟨⟨v0, v1, v2, v3, v4, v5, v6⟩, vin⟩ := (J2.box 1).seven; simp only at v0 v1 v2 v3 v4)
        | (go_at_call 32; refine (cS _ (hR.on J2.below)).mono ?_; rintro e w3 ⟨rfl, b3⟩; have J4 := J2.call b3; obtain ⟨⟨y0, y1, y2, y3⟩, ⟨f0, f1, f2, f3⟩, yin⟩ := (J4.box 0).four17)
        | fail)
      have HK := (((J4.wrote hgr hgn 0 (.string ⟨#[]⟩)).wrote hgr hgn 1 (.int .u64 0)).wrote hgr hgn 2 (.int .u64 0)).wrote hgr hgn 3 (.int .i64 0)
      generalize World.setCell (World.setCell (World.setCell (World.setCell _ _ _) _ _) _ _) _ _ = WR at *
      obtain ⟨⟨y0, y1, y2, y3⟩, -, yin⟩ := (HK.box 0).four17
      exact bodyPost_ret (v := .tuple #[RtP.val RtP.zero, .int .i64 S]) (by simp [results, Tryd.results17, go_sem, RtP.val, RtP.zero, y0, y1, y2, y3]) rfl ⟨rfl, by first | exact HK.below | (rw [← hge]; exact HK.below)⟩
end Go.Proofs.YtkecekfapiegjaaDoor
/-
  paymasterref17's Check, walked.
-/
namespace Go.Proofs.YtkecekfapiegjaaDoor
set_option linter.unusedVariables false
set_option linter.unusedSimpArgs false
set_option maxRecDepth 10000
open Go.RowKit

set_option maxRecDepth 100000 in
set_option maxHeartbeats 8000000 in
theorem rcheck17_any (r : RtP) (x : Lf) (p : Nat) (hp : p < 18446744073709551616) (A : Option Addr) (c : Nat) (l : List Nd) (hl : l.length ≤ 1000000000) (hx : x.id.size ≤ 1000000 ∧ x.salt.size ≤ 1000000) (hw : Word x.h ∧ Word x.l) (hy : ∀ y ∈ l, y.halved) (w : World) (hR : ndS.Row w w.heap.size A l) : Calls Tryd.prog 12 #[r.val, .agg (enV x p A l.length c)] w (Tells (.int .i64 (checkE r x p l)) w.heap.size w) := by
  have cM := fun u => rmayLeaf_any x hx.1 hx.2 u
  have cR := fun u => rmay17_any r u
  have cS := fun u hu => rshape16_any r.hash.size r.n p hp A c l hl u hu
  have cU := fun u hu => rup17_any r.hash.size x p hp A c l hl hx hw hy u hu
  have eV : checkE r x p l = if mayR r = 0 then (if x.may = true then (if shapeN r.hash.size r.n p l = 0 then (if (topE r.hash.size x p l).2 = 0 then (if rtSame (topE r.hash.size x p l).1 r = true then 0 else 160) else (topE r.hash.size x p l).2) else shapeN r.hash.size r.n p l) else 130) else mayR r := rfl
  obtain ⟨V, hV⟩ : ∃ V, checkE r x p l = V := ⟨_, rfl⟩
  rw [hV] at eV ⊢
  have hUp : x.may = true → shapeN r.hash.size r.n p l = 0 → upE r.hash.size x p l = topE r.hash.size x p l := fun h1 h2 => by rw [upE, if_pos h1, if_pos (shape_same h2)]
  obtain ⟨R, hRr⟩ : ∃ R, mayR r = R := ⟨_, rfl⟩
  obtain ⟨M, hM⟩ : ∃ M, x.may = M := ⟨_, rfl⟩
  obtain ⟨S, hS⟩ : ∃ S, shapeN r.hash.size r.n p l = S := ⟨_, rfl⟩
  obtain ⟨⟨T, E⟩, hT⟩ : ∃ T, topE r.hash.size x p l = T := ⟨_, rfl⟩
  obtain ⟨⟨T', E'⟩, hT'⟩ : ∃ T, upE r.hash.size x p l = T := ⟨_, rfl⟩
  obtain ⟨N, hN⟩ : ∃ N, l.length = N := ⟨_, rfl⟩
  rw [hRr] at cR eV
  rw [hM] at cM eV hUp
  rw [hS] at cS eV hUp
  rw [hT] at eV hUp
  rw [hT'] at cU hUp
  rw [hN] at cS cU ⊢
  have hq := fun u => run_neq_rt T r u
  rw [← rtSame_eqR] at hq
  obtain ⟨Q, hQ⟩ : ∃ Q, rtSame T r = Q := ⟨_, rfl⟩
  simp only [hQ] at hq eV
  clear hV hRr hM hS hT hT' hN hQ hl hx hw hy
  obtain ⟨rs, rh', rl', rn⟩ := r
  obtain ⟨xp, xi, xs, xh, xl⟩ := x
  obtain ⟨ts, th, tl, tn⟩ := T
  obtain ⟨ge, hge⟩ : ∃ g, w.heap.size = g := ⟨_, rfl⟩
  have J0 := ((Has.start w).addAt 26 (rtB rs rh' rl' rn) (g := ge) hge).addAt 39 (enV ⟨xp, xi, xs, xh, xl⟩ p A N c) (g := ge + 1) (by simp [hge])
  obtain ⟨⟨x0, x1, x2, x3, x4, x5, x6⟩, xin⟩ := (J0.box 0).seven
  obtain ⟨⟨y0, y1, y2, y3⟩, -, yin⟩ := (J0.box 1).four17
  simp only at x0 x1 x2 x3 x4
  simp only [RtP.val, Lf.val] at cM cR cU hq ⊢
  by_cases h1 : R = 0
  · rw [if_pos h1] at eV
    subst h1
    cases M with
    | false =>
      rw [if_neg (by decide)] at eV
      subst eV
      clear cS cU hUp hq
      go_enter Tryd.func12, Tryd.ntmps12
      go_wp2_with (first
        | (go_at_call 11; refine (cR _).mono ?_; rintro e w2 ⟨rfl, b2⟩; have J2 := J0.call b2; obtain ⟨⟨v0, v1, v2, v3, v4, v5, v6⟩, vin⟩ := (J2.box 0).seven; obtain ⟨⟨u0, u1, u2, u3⟩, -, uin⟩ := (J2.box 1).four17; simp only at v0 v1 v2 v3 v4)
        | (go_at_call 31; refine (cM _).mono ?_; rintro e w3 ⟨rfl, b3⟩; have J3 := J2.call b3)
        | fail)
      go_ret
      exact ⟨rfl, by first | exact J3.below | (rw [← hge]; exact J3.below)⟩
    | true =>
      rw [if_pos rfl] at eV
      by_cases h3 : S = 0
      · rw [if_pos h3] at eV
        subst h3
        have hUp := hUp rfl rfl
        injection hUp with hU1 hU2
        subst hU1 hU2
        try simp only at eV
        by_cases h4 : E' = 0
        · rw [if_pos h4] at eV
          subst h4
          cases Q with
          | true =>
            rw [if_pos rfl] at eV
            subst eV
            go_enter Tryd.func12, Tryd.ntmps12
            go_wp2_with (first
              | (go_at_call 11; refine (cR _).mono ?_; rintro e w2 ⟨rfl, b2⟩; have J2 := J0.call b2; obtain ⟨⟨v0, v1, v2, v3, v4, v5, v6⟩, vin⟩ := (J2.box 0).seven; obtain ⟨⟨u0, u1, u2, u3⟩, -, uin⟩ := (J2.box 1).four17; simp only at v0 v1 v2 v3 v4)
              | (go_at_call 31; refine (cM _).mono ?_; rintro e w3 ⟨rfl, b3⟩; have J3 := J2.call b3; obtain ⟨⟨s0, s1, s2, s3, s4, s5, s6⟩, sin⟩ := (J3.box 0).seven; obtain ⟨⟨t0, t1, t2, t3⟩, -, tin⟩ := (J3.box 1).four17; simp only at s0 s1 s2 s3 s4)
              | (go_at_call 32; refine (cS _ (hR.on J3.below)).mono ?_; rintro e w4 ⟨rfl, b4⟩; have J4 := J3.call b4; obtain ⟨⟨i0, i1, i2, i3, i4, i5, i6⟩, iin⟩ := (J4.box 0).seven; obtain ⟨⟨j0, j1, j2, j3⟩, -, jin⟩ := (J4.box 1).four17; simp only at i0 i1 i2 i3 i4)
              | (go_at_call 17; refine (cU _ (hR.on J4.below)).mono ?_; rintro e w5 ⟨rfl, b5⟩; have J5 := (J4.call b5).add 26 (rtB ts th tl tn); obtain ⟨⟨k0, k1, k2, k3⟩, -, kin⟩ := (J5.box 0).four17; obtain ⟨⟨m0, m1, m2, m3⟩, -, min⟩ := (J5.box 2).four17)
              | fail)
            go_ret
            exact ⟨rfl, by first | exact J5.below | (rw [← hge]; exact J5.below)⟩
          | false =>
            rw [if_neg (by decide)] at eV
            subst eV
            go_enter Tryd.func12, Tryd.ntmps12
            go_wp2_with (first
              | (go_at_call 11; refine (cR _).mono ?_; rintro e w2 ⟨rfl, b2⟩; have J2 := J0.call b2; obtain ⟨⟨v0, v1, v2, v3, v4, v5, v6⟩, vin⟩ := (J2.box 0).seven; obtain ⟨⟨u0, u1, u2, u3⟩, -, uin⟩ := (J2.box 1).four17; simp only at v0 v1 v2 v3 v4)
              | (go_at_call 31; refine (cM _).mono ?_; rintro e w3 ⟨rfl, b3⟩; have J3 := J2.call b3; obtain ⟨⟨s0, s1, s2, s3, s4, s5, s6⟩, sin⟩ := (J3.box 0).seven; obtain ⟨⟨t0, t1, t2, t3⟩, -, tin⟩ := (J3.box 1).four17; simp only at s0 s1 s2 s3 s4)
              | (go_at_call 32; refine (cS _ (hR.on J3.below)).mono ?_; rintro e w4 ⟨rfl, b4⟩; have J4 := J3.call b4; obtain ⟨⟨i0, i1, i2, i3, i4, i5, i6⟩, iin⟩ := (J4.box 0).seven; obtain ⟨⟨j0, j1, j2, j3⟩, -, jin⟩ := (J4.box 1).four17; simp only at i0 i1 i2 i3 i4)
              | (go_at_call 17; refine (cU _ (hR.on J4.below)).mono ?_; rintro e w5 ⟨rfl, b5⟩; have J5 := (J4.call b5).add 26 (rtB ts th tl tn); obtain ⟨⟨k0, k1, k2, k3⟩, -, kin⟩ := (J5.box 0).four17; obtain ⟨⟨m0, m1, m2, m3⟩, -, min⟩ := (J5.box 2).four17)
              | fail)
            go_ret
            exact ⟨rfl, by first | exact J5.below | (rw [← hge]; exact J5.below)⟩
        · rw [if_neg h4] at eV
          subst eV
          have q0 : (V != 0) = true := bne_iff_ne.2 h4
          go_enter Tryd.func12, Tryd.ntmps12
          go_wp2_with (first
            | (go_at_call 11; refine (cR _).mono ?_; rintro e w2 ⟨rfl, b2⟩; have J2 := J0.call b2; obtain ⟨⟨v0, v1, v2, v3, v4, v5, v6⟩, vin⟩ := (J2.box 0).seven; obtain ⟨⟨u0, u1, u2, u3⟩, -, uin⟩ := (J2.box 1).four17; simp only at v0 v1 v2 v3 v4)
            | (go_at_call 31; refine (cM _).mono ?_; rintro e w3 ⟨rfl, b3⟩; have J3 := J2.call b3; obtain ⟨⟨s0, s1, s2, s3, s4, s5, s6⟩, sin⟩ := (J3.box 0).seven; obtain ⟨⟨t0, t1, t2, t3⟩, -, tin⟩ := (J3.box 1).four17; simp only at s0 s1 s2 s3 s4)
            | (go_at_call 32; refine (cS _ (hR.on J3.below)).mono ?_; rintro e w4 ⟨rfl, b4⟩; have J4 := J3.call b4; obtain ⟨⟨i0, i1, i2, i3, i4, i5, i6⟩, iin⟩ := (J4.box 0).seven; obtain ⟨⟨j0, j1, j2, j3⟩, -, jin⟩ := (J4.box 1).four17; simp only at i0 i1 i2 i3 i4)
            | (go_at_call 17; refine (cU _ (hR.on J4.below)).mono ?_; rintro e w5 ⟨rfl, b5⟩; have J5 := (J4.call b5).add 26 (rtB ts th tl tn); obtain ⟨⟨k0, k1, k2, k3⟩, -, kin⟩ := (J5.box 0).four17; obtain ⟨⟨m0, m1, m2, m3⟩, -, min⟩ := (J5.box 2).four17)
            | fail)
          go_ret
          exact ⟨rfl, by first | exact J5.below | (rw [← hge]; exact J5.below)⟩
      · rw [if_neg h3] at eV
        subst eV
        have q0 : (V != 0) = true := bne_iff_ne.2 h3
        clear cU hUp hq
        go_enter Tryd.func12, Tryd.ntmps12
        go_wp2_with (first
          | (go_at_call 11; refine (cR _).mono ?_; rintro e w2 ⟨rfl, b2⟩; have J2 := J0.call b2; obtain ⟨⟨v0, v1, v2, v3, v4, v5, v6⟩, vin⟩ := (J2.box 0).seven; obtain ⟨⟨u0, u1, u2, u3⟩, -, uin⟩ := (J2.box 1).four17; simp only at v0 v1 v2 v3 v4)
          | (go_at_call 31; refine (cM _).mono ?_; rintro e w3 ⟨rfl, b3⟩; have J3 := J2.call b3; obtain ⟨⟨s0, s1, s2, s3, s4, s5, s6⟩, sin⟩ := (J3.box 0).seven; obtain ⟨⟨t0, t1, t2, t3⟩, -, tin⟩ := (J3.box 1).four17; simp only at s0 s1 s2 s3 s4)
          | (go_at_call 32; refine (cS _ (hR.on J3.below)).mono ?_; rintro e w4 ⟨rfl, b4⟩; have J4 := J3.call b4)
          | fail)
        go_ret
        exact ⟨rfl, by first | exact J4.below | (rw [← hge]; exact J4.below)⟩
  · rw [if_neg h1] at eV
    subst eV
    have q0 : (V != 0) = true := bne_iff_ne.2 h1
    clear cM cS cU hUp hq
    go_enter Tryd.func12, Tryd.ntmps12
    go_wp2_with (first
      | (go_at_call 11; refine (cR _).mono ?_; rintro e w2 ⟨rfl, b2⟩; have J2 := J0.call b2)
      | fail)
    go_ret
    exact ⟨rfl, by first | exact J2.below | (rw [← hge]; exact J2.below)⟩
end Go.Proofs.YtkecekfapiegjaaDoor
