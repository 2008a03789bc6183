/-
  paymasterref16's Two and Shape, walked.
-/
import Derived.Test.YtjndabnegmecmaaM14One
import Derived.Test.YtjndabnegmecmaaM16Ent
namespace Go.Proofs.Ytjndabnegmecmaa
set_option linter.unusedVariables false
set_option linter.unusedSimpArgs false
set_option maxRecDepth 10000
open Go.RowKit

set_option maxHeartbeats 2000000 in
theorem rtwo16_any (n : Nat) (hn : n ≤ 63) (w : World) : Calls Try.prog 18 #[.int .i64 n] w (Plain (.int .u64 ((2 ^ n : Nat) : Int)) w) := by
  obtain ⟨T, hT⟩ : ∃ T, 2 ^ n = T := ⟨_, rfl⟩
  rw [hT]
  have HT := hideIt hT
  clear hT
  go_enter Try.func18, Try.ntmps18
  go_wp2
  go_loopg [3, 4] n (fun gk a i wr => ∃ k q : Nat, k ≤ n ∧ n - k ≤ gk ∧ a = .int .u64 q ∧ i = .int .i64 k ∧ q = 2 ^ k ∧ q ≤ 9223372036854775808 ∧ wr = w)
  case atStart => exact ⟨0, 1, Nat.zero_le _, by omega, rfl, rfl, rfl, by omega, rfl⟩
  case round =>
    obtain ⟨k, q, hk, hgk, rfl, rfl, hq, hqb, rfl⟩ := hrel
    have HG := hideIt hgk
    have HQ := hideIt hq
    clear hgk hq
    by_cases hlt : k < n
    · have hlti : (k : Int) < (n : Int) := by omega
      have e6 : 2 * q = 2 ^ (k + 1) := by rw [HQ.out, Nat.pow_succ, Nat.mul_comm]
      have e7 : 2 * q ≤ 9223372036854775808 := by rw [e6]; exact Nat.le_trans (Nat.pow_le_pow_right (n := 2) (by decide) (by omega : k + 1 ≤ 63)) (by decide)
      obtain ⟨q2, hq2⟩ : ∃ q2, 2 * q = q2 := ⟨_, rfl⟩
      have e5 : IntKind.u64.wrap (2 * (q : Int)) = (q2 : Int) := by rw [IntKind.wrap_u64]; omega
      rw [hq2] at e6 e7
      have H6 := hideIt e6
      clear hq2 e6
      go_wp2
      go_roundg (n - (k + 1))
      case measure => have := HG.out; omega
      case rel => exact ⟨k + 1, q2, by omega, Nat.le_refl _, rfl, by go_num, H6.out, e7, rfl⟩
    · have e : k = n := by omega
      subst e
      have hlti : ¬ (k : Int) < (k : Int) := by omega
      obtain rfl : q = T := HQ.out.trans HT.out
      go_wp2
      go_ret
      exact ⟨rfl, rfl⟩
set_option maxRecDepth 100000 in
set_option maxHeartbeats 4000000 in
theorem rshape16_any (n h : Int) (p : Nat) (hp : p < 18446744073709551616) (A : Option Addr) (c : Nat) (l : List Nd) (hl : l.length ≤ 1000000000) (w : World) (hR : ndS.Row w w.heap.size A l) :
    Calls Try.prog 7 #[.int .i64 n, .int .i64 h, .agg #[.int .u64 p, .slice A l.length c]] w (Tells (.int .i64 (shapeN n h p l)) w.heap.size w) := by
  have eV : shapeN n h p l = if h < 0 ∨ 63 < h then 120 else if allW n l = true then (if (l.length : Int) = h ∧ p < 2 ^ l.length then 0 else 160) else 70 := rfl
  obtain ⟨V, hV⟩ : ∃ V, shapeN n h p l = V := ⟨_, rfl⟩
  rw [hV] at eV ⊢
  clear hV
  have J0 := (Has.start w).addAt 29 #[.int .u64 p, .slice A l.length c] (g := w.heap.size) rfl
  obtain ⟨x0, x1, -, -, xin⟩ := (J0.box 0).two
  obtain ⟨N, hN⟩ : ∃ N, l.length = N := ⟨_, rfl⟩
  rw [hN] at eV J0 x1 hl ⊢
  by_cases h1 : h < 0
  · rw [if_pos (Or.inl h1)] at eV
    subst eV
    go_enter Try.func7, Try.ntmps7
    go_wp2
    go_ret
    exact ⟨rfl, J0.below⟩
  · by_cases h2 : 63 < h
    · rw [if_pos (Or.inr h2)] at eV
      subst eV
      go_enter Try.func7, Try.ntmps7
      go_wp2
      go_ret
      exact ⟨rfl, J0.below⟩
    · rw [if_neg (by omega)] at eV
      by_cases h3 : n < 1
      · rw [allW, show mayW n = false from decide_eq_false (by omega), Bool.false_and, if_neg (by decide)] at eV
        subst eV
        go_enter Try.func7, Try.ntmps7
        go_wp2
        go_ret
        exact ⟨rfl, J0.below⟩
      · by_cases h4 : 32 < n
        · rw [allW, show mayW n = false from decide_eq_false (by omega), Bool.false_and, if_neg (by decide)] at eV
          subst eV
          go_enter Try.func7, Try.ntmps7
          go_wp2
          go_ret
          exact ⟨rfl, J0.below⟩
        · rw [allW, show mayW n = true from decide_eq_true (by omega), Bool.true_and] at eV
          have HV := hideIt eV
          have HN := hideIt hN
          clear eV hN
          clear x0 x1 xin
          have J1 : Has w [(w.heap.size, 29, #[.int .u64 p, .slice A N c])] (w.alloc (.cells #[.int .u64 p, .slice A N c] 29)) := J0
          clear J0
          go_enter Try.func7, Try.ntmps7
          go_wp2
          change Code.wp _ _ _ _ (w.alloc (.cells #[.int .u64 p, .slice A N c] 29))
          generalize w.alloc (.cells #[.int .u64 p, .slice A N c] 29) = W0 at *
          go_loopg [7] N (fun gk i wr => ∃ k : Nat, k ≤ N ∧ N - k ≤ gk ∧ i = .int .i64 k ∧ (∀ j x, j < k → l[j]? = some x → x.of n = true) ∧ Has w [(w.heap.size, 29, #[.int .u64 p, .slice A N c])] wr)
          case atStart => exact ⟨0, Nat.zero_le _, by omega, rfl, fun j x hj => absurd hj (Nat.not_lt_zero _), J1⟩
          case round =>
            obtain ⟨k, hk, hgk, rfl, hall, J⟩ := hrel
            have HG := hideIt hgk
            have HA := hideIt hall
            clear hgk hall
            obtain ⟨x0, x1, -, -, xin⟩ := (J.box 0).two
            by_cases hlt : k < N
            · obtain ⟨x, hx⟩ : ∃ x, l[k]? = some x := ⟨_, List.getElem?_eq_getElem (by rw [HN.out]; omega)⟩
              have hlti : (k : Int) < (N : Int) := by omega
              obtain ⟨ad, rfl, g1, p0, p1, p2⟩ := nd_get (hR.on J.below) hx
              have cO := fun u => rof14_any n x u
              obtain ⟨t, ht⟩ : ∃ t, x.of n = t := ⟨_, rfl⟩
              rw [ht] at cO
              have HX := hideIt hx
              have HT := hideIt ht
              obtain ⟨xs, xh, xl⟩ := x
              simp only [Nd.val] at cO p0 p1 p2
              clear hx ht
              cases t with
              | true =>
                go_wp2_with (first | (go_at_call 17; refine (cO _).mono ?_; rintro e w2 ⟨rfl, b2⟩) | fail)
                go_roundg (N - (k + 1))
                case measure => have := HG.out; omega
                case rel => exact ⟨k + 1, by omega, Nat.le_refl _, by go_num, fun j x hj hx => by
                    by_cases e : j = k
                    · subst e
                      rw [HX.out] at hx
                      injection hx with hx
                      rw [← hx]
                      exact HT.out
                    · exact HA.out j x (by omega) hx, J.call b2⟩
              | false =>
                have hno : V = 70 := by
                  have : l.all (Nd.of n) = false := by
                    rw [Bool.eq_false_iff]
                    intro e
                    have := List.all_eq_true.1 e _ (List.mem_of_getElem? HX.out)
                    rw [HT.out] at this
                    cases this
                  rw [HV.out, this, if_neg (by decide)]
                subst hno
                go_wp2_with (first | (go_at_call 17; refine (cO _).mono ?_; rintro e w2 ⟨rfl, b2⟩) | fail)
                go_ret
                exact ⟨rfl, (J.call b2).below⟩
            · have e : k = N := by omega
              subst e
              have hlti : ¬ ((k : Int) < (k : Int)) := by omega
              have hyes : V = if (k : Int) = h ∧ p < 2 ^ k then 0 else 160 := by
                have : l.all (Nd.of n) = true := List.all_eq_true.2 fun x hx => by
                  obtain ⟨j, hj⟩ := List.getElem?_of_mem hx
                  exact HA.out j x (by have := (List.getElem?_eq_some_iff.1 hj).1; rw [HN.out] at this; omega) hj
                rw [HV.out, this, if_pos rfl]
              clear HV
              by_cases h5 : (k : Int) = h
              · subst h5
                have cT := fun u => rtwo16_any k (by omega) u
                have q0 : (((k : Nat) : Int) != (k : Int)) = false := by simp
                by_cases h6 : p < 2 ^ k
                · rw [if_pos ⟨rfl, h6⟩] at hyes
                  subst hyes
                  obtain ⟨T, hT⟩ : ∃ T, 2 ^ k = T := ⟨_, rfl⟩
                  rw [hT] at cT h6
                  clear hT
                  have h6i : ¬ (T : Int) ≤ (p : Int) := by omega
                  go_upto_region 10 with fail
                  go_quiet ((first | (go_at_call 18; exact Calls.quiet_of_same ((cT _).mono (fun _ _ h => ⟨h.1, h.2.symm⟩))) | fail))
                  go_wp2
                  go_ret
                  exact ⟨rfl, below_drewN J.below _⟩
                · rw [if_neg (fun h => h6 h.2)] at hyes
                  subst hyes
                  obtain ⟨T, hT⟩ : ∃ T, 2 ^ k = T := ⟨_, rfl⟩
                  rw [hT] at cT h6
                  clear hT
                  have h6i : (T : Int) ≤ (p : Int) := by omega
                  go_upto_region 10 with fail
                  go_quiet ((first | (go_at_call 18; exact Calls.quiet_of_same ((cT _).mono (fun _ _ h => ⟨h.1, h.2.symm⟩))) | fail))
                  go_wp2
                  go_ret
                  exact ⟨rfl, below_drewN J.below _⟩
              · rw [if_neg (fun h => h5 h.1)] at hyes
                subst hyes
                have q0 : (((k : Nat) : Int) != h) = true := bne_iff_ne.2 h5
                have cT : ∀ u, Calls Try.prog 18 #[.int .i64 h] u (Plain (.int .u64 0) u) ∨ True := fun u => Or.inr trivial
                go_upto_region 10 with fail
                go_quiet (fail)
                go_wp2
                go_ret
                exact ⟨rfl, below_drewN J.below _⟩
end Go.Proofs.Ytjndabnegmecmaa
