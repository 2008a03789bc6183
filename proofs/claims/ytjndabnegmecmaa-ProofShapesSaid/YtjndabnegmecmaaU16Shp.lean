/-
  Package proof's Shape, walked: slices.IndexFunc and ContainsFunc at nodes, by the closure that asks whether a side isn't of the width.
-/
import Derived.Test.YtjndabnegmecmaaM14One
import Derived.Test.YtjndabnegmecmaaM16Ent
namespace Go.Proofs.Ytjndabnegmecmaa
set_option linter.unusedVariables false
set_option linter.unusedSimpArgs false
set_option maxRecDepth 10000
open Go.RowKit

set_option maxRecDepth 100000 in
set_option maxHeartbeats 2000000 in
theorem wrong16_any (n : Int) (x : Nd) (b : Nat) (w : World) (hB : Box w b 3 #[.int .i64 n]) : Calls Try.prog 14 #[x.val, .pointer (some ⟨b, 0, none⟩)] w (Tells (.bool (!x.of n)) w.heap.size w) := by
  have cO := fun u => of14_any n x u
  obtain ⟨s, h, l⟩ := x
  simp only [Nd.val] at cO
  show Calls _ _ #[.agg (ndB s h l), _] _ _
  obtain ⟨V, hV⟩ : ∃ V, Nd.of n ⟨s, h, l⟩ = V := ⟨_, rfl⟩
  rw [hV] at cO ⊢
  clear hV
  have H0 := ((Has.start w).with hB).addAt 52 (ndB s h l) (g := w.heap.size) rfl
  clear hB
  go_enter Try.func14, Try.ntmps14
  go_upto_region 1 with fail
  change Code.wp _ _ _ _ (w.alloc (.cells (ndB s h l) 52))
  generalize w.alloc (.cells (ndB s h l) 52) = W1 at *
  obtain ⟨x0, x1, x2, -, -, -, xin⟩ := (H0.box 0).three
  have y0 := (H0.box 1).read 0
  have yin := (H0.box 1).inside
  go_wp2_with (first
    | (go_at_call 15; refine (cO _).mono ?_; rintro e w2 ⟨rfl, b2⟩; have K2 := H0.call b2)
    | fail)
  go_ret
  exact ⟨rfl, K2.below⟩
set_option maxRecDepth 100000 in
set_option maxHeartbeats 2000000 in
theorem index16_any (n : Int) (b : Nat) (A : Option Addr) (c : Nat) (l : List Nd) (hl : l.length ≤ 1000000000) (w : World) (hR : ndS.Row w w.heap.size A l) (hB : Box w b 3 #[.int .i64 n]) :
    Calls Try.prog 26 #[.slice A l.length c, .func (.func 14) #[] #[.pointer (some ⟨b, 0, none⟩)]] w
      (fun e w' => Below w.heap.size w w' ∧ ∃ i : Int, e = .returned (.int .i64 i) ∧ decide (0 ≤ i) = !l.all (Nd.of n)) := by
  have he := enters_of Try.func14 (by kernel_rfl) rfl
  obtain ⟨V, hV⟩ : ∃ V, l.all (Nd.of n) = V := ⟨_, rfl⟩
  rw [hV]
  have HV := hideIt hV
  clear hV
  obtain ⟨N, hN⟩ : ∃ N, l.length = N := ⟨_, rfl⟩
  rw [hN]
  go_enter Try.func26, Try.ntmps26
  go_wp2
  go_loopg [8] N (fun gk i wr => ∃ k : Nat, k ≤ N ∧ N - k ≤ gk ∧ i = .int .i64 k ∧ (∀ j x, j < k → l[j]? = some x → x.of n = true) ∧ Below w.heap.size w wr)
  case atStart => exact ⟨0, Nat.zero_le _, by omega, rfl, fun j x hj => absurd hj (Nat.not_lt_zero _), Below.refl _ _⟩
  case round =>
    obtain ⟨k, hk, hgk, rfl, hall, hb3⟩ := hrel
    have HG := hideIt hgk
    have HA := hideIt hall
    clear hgk hall
    by_cases hlt : k < N
    · obtain ⟨x, hx⟩ : ∃ x, l[k]? = some x := ⟨_, List.getElem?_eq_getElem (by omega)⟩
      have hlti : (k : Int) < (N : Int) := by omega
      obtain ⟨ad, rfl, g1, p0, p1, p2⟩ := nd_get (hR.on hb3) hx
      have cO := fun u (hu : Below w.heap.size w u) => wrong16_any n x b u (hB.call hu)
      obtain ⟨t, ht⟩ : ∃ t, x.of n = t := ⟨_, rfl⟩
      rw [ht] at cO
      have HX := hideIt hx
      have HT := hideIt ht
      obtain ⟨xs, xh, xl⟩ := x
      simp only [Nd.val] at cO p0 p1 p2
      clear hx ht
      cases t with
      | true =>
        go_wp2_with (first | (go_at_call 14; refine (cO _ hb3).mono ?_; rintro e w2 ⟨rfl, b2⟩) | fail)
        go_roundg (N - (k + 1))
        case measure => have := HG.out; omega
        case rel => exact ⟨k + 1, by omega, Nat.le_refl _, by go_num, fun j x hj hx => by
            by_cases e : j = k
            · subst e
              rw [HX.out] at hx
              injection hx with hx
              rw [← hx]
              exact HT.out
            · exact HA.out j x (by omega) hx, chain hb3 b2⟩
      | false =>
        have hno : V = false := by
          rw [← HV.out, Bool.eq_false_iff]
          intro e
          have := List.all_eq_true.1 e _ (List.mem_of_getElem? HX.out)
          rw [HT.out] at this
          cases this
        subst hno
        go_wp2_with (first | (go_at_call 14; refine (cO _ hb3).mono ?_; rintro e w2 ⟨rfl, b2⟩) | fail)
        go_ret
        exact ⟨chain hb3 b2, _, rfl, decide_eq_true (by omega)⟩
    · have e : k = N := by omega
      subst e
      have hyes : V = true := by
        rw [← HV.out]
        exact List.all_eq_true.2 fun x hx => by
          obtain ⟨j, hj⟩ := List.getElem?_of_mem hx
          exact HA.out j x (by have := (List.getElem?_eq_some_iff.1 hj).1; omega) hj
      subst hyes
      go_wp2
      go_ret
      exact ⟨hb3, _, rfl, decide_eq_false (by omega)⟩
set_option maxHeartbeats 1000000 in
theorem contains16_any (n : Int) (b : Nat) (A : Option Addr) (c : Nat) (l : List Nd) (hl : l.length ≤ 1000000000) (w : World) (hR : ndS.Row w w.heap.size A l) (hB : Box w b 3 #[.int .i64 n]) :
    Calls Try.prog 16 #[.slice A l.length c, .func (.func 14) #[] #[.pointer (some ⟨b, 0, none⟩)]] w (Tells (.bool (!l.all (Nd.of n))) w.heap.size w) := by
  have cI := index16_any n b A c l hl w hR hB
  generalize (!l.all (Nd.of n)) = V at *
  obtain ⟨N, hN⟩ : ∃ N, l.length = N := ⟨_, rfl⟩
  rw [hN] at cI ⊢
  clear hR hB hN hl
  go_enter Try.func16, Try.ntmps16
  go_wp2_with (first | (go_at_call 26; refine cI.mono ?_; rintro e w2 ⟨b2, i, rfl, hi⟩) | fail)
  go_ret
  exact ⟨rfl, b2⟩
set_option maxRecDepth 100000 in
set_option maxHeartbeats 4000000 in
theorem shape16_any (n h : Int) (p : Nat) (hp : p < 18446744073709551616) (A : Option Addr) (c : Nat) (l : List Nd) (hl : l.length ≤ 1000000000) (w : World) (hR : ndS.Row w w.heap.size A l) :
    Calls Try.prog 6 #[.int .i64 n, .int .i64 h, .agg #[.int .u64 p, .slice A l.length c]] w (Tells (.int .i64 (shapeN n h p l)) w.heap.size w) := by
  have eV : shapeN n h p l = if h < 0 ∨ 63 < h then 120 else if allW n l = true then (if (l.length : Int) = h ∧ p < 2 ^ l.length then 0 else 160) else 70 := rfl
  obtain ⟨V, hV⟩ : ∃ V, shapeN n h p l = V := ⟨_, rfl⟩
  rw [hV] at eV ⊢
  clear hV
  have J0 := ((Has.start w).addAt 3 #[.int .i64 n] (g := w.heap.size) rfl).addAt 29 #[.int .u64 p, .slice A l.length c] (g := w.heap.size + 1) (by simp)
  have cC := fun u (hu : Has w [(w.heap.size + 1, 29, #[.int .u64 p, .slice A l.length c]), (w.heap.size, 3, #[.int .i64 n])] u) => contains16_any n w.heap.size A c l hl u (hR.on hu.below) (hu.box 1)
  obtain ⟨x0, x1, -, -, xin⟩ := (J0.box 0).two
  have y0 := (J0.box 1).read 0
  have yin := (J0.box 1).inside
  clear hR
  obtain ⟨N, hN⟩ : ∃ N, l.length = N := ⟨_, rfl⟩
  rw [hN] at eV cC J0 x1 hl ⊢
  by_cases h1 : h < 0
  · rw [if_pos (Or.inl h1)] at eV
    subst eV
    clear cC
    go_enter Try.func6, Try.ntmps6
    go_wp2
    go_ret
    exact ⟨rfl, J0.below⟩
  · by_cases h2 : 63 < h
    · rw [if_pos (Or.inr h2)] at eV
      subst eV
      clear cC
      go_enter Try.func6, Try.ntmps6
      go_wp2
      go_ret
      exact ⟨rfl, J0.below⟩
    · rw [if_neg (by omega)] at eV
      by_cases h3 : n < 1
      · rw [allW, show mayW n = false from decide_eq_false (by omega), Bool.false_and, if_neg (by decide)] at eV
        subst eV
        clear cC
        go_enter Try.func6, Try.ntmps6
        go_wp2
        go_ret
        exact ⟨rfl, J0.below⟩
      · by_cases h4 : 32 < n
        · rw [allW, show mayW n = false from decide_eq_false (by omega), Bool.false_and, if_neg (by decide)] at eV
          subst eV
          clear cC
          go_enter Try.func6, Try.ntmps6
          go_wp2
          go_ret
          exact ⟨rfl, J0.below⟩
        · rw [allW, show mayW n = true from decide_eq_true (by omega), Bool.true_and] at eV
          cases ha : l.all (Nd.of n) with
          | false =>
            rw [ha] at eV cC
            rw [if_neg (by decide)] at eV
            subst eV
            clear ha hN
            go_enter Try.func6, Try.ntmps6
            go_wp2_with (first | (go_at_call 16; refine (cC _ J0).mono ?_; rintro e w2 ⟨rfl, b2⟩; have J2 := J0.call b2; obtain ⟨z0, z1, -, -, zin⟩ := (J2.box 0).two) | fail)
            go_ret
            exact ⟨rfl, J2.below⟩
          | true =>
            rw [ha] at eV cC
            rw [if_pos rfl] at eV
            clear ha hN
            by_cases h5 : (N : Int) = h
            · subst h5
              have e1 : (N : Int) ≤ 64 := by omega
              obtain ⟨Q, hQ⟩ : ∃ Q, p / 2 ^ N = Q := ⟨_, rfl⟩
              have e2 : (p : Int) / 2 ^ N = (Q : Int) := by rw [← hQ]; norm_cast
              have e3 : Q = 0 ↔ p < 2 ^ N := by
                rw [← hQ]
                exact ⟨fun h => by
                  rcases (Nat.div_eq_zero_iff).1 h with h | h
                  · exact absurd h (Nat.ne_of_gt (Nat.two_pow_pos N))
                  · exact h, fun h => Nat.div_eq_of_lt h⟩
              have q0 : (((N : Nat) : Int) != (N : Int)) = false := by simp
              by_cases h6 : p < 2 ^ N
              · rw [if_pos ⟨rfl, h6⟩] at eV
                subst eV
                have e4 := e3.2 h6
                subst e4
                clear hQ e3 h6
                go_enter Try.func6, Try.ntmps6
                go_wp2_with (first | (go_at_call 16; refine (cC _ J0).mono ?_; rintro e w2 ⟨rfl, b2⟩; have J2 := J0.call b2; obtain ⟨z0, z1, -, -, zin⟩ := (J2.box 0).two) | fail)
                go_ret
                exact ⟨rfl, J2.below⟩
              · rw [if_neg (fun h => h6 h.2)] at eV
                subst eV
                have e4 : ¬ Q = 0 := fun h => h6 (e3.1 h)
                have e5 : ((Q : Int) != 0) = true := bne_iff_ne.2 (by omega)
                clear hQ e3 h6
                go_enter Try.func6, Try.ntmps6
                go_wp2_with (first | (go_at_call 16; refine (cC _ J0).mono ?_; rintro e w2 ⟨rfl, b2⟩; have J2 := J0.call b2; obtain ⟨z0, z1, -, -, zin⟩ := (J2.box 0).two) | fail)
                go_ret
                exact ⟨rfl, J2.below⟩
            · rw [if_neg (fun h => h5 h.1)] at eV
              subst eV
              have q0 : (((N : Nat) : Int) != h) = true := bne_iff_ne.2 h5
              go_enter Try.func6, Try.ntmps6
              go_wp2_with (first | (go_at_call 16; refine (cC _ J0).mono ?_; rintro e w2 ⟨rfl, b2⟩; have J2 := J0.call b2; obtain ⟨z0, z1, -, -, zin⟩ := (J2.box 0).two) | fail)
              go_ret
              exact ⟨rfl, J2.below⟩
end Go.Proofs.Ytjndabnegmecmaa
