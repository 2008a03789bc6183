/- Several of my texts, laid as one. -/
import Derived.Test.YtkecekfapiegjaaDoorM14One
import Derived.Test.YtkecekfapiegjaaDoorM16Ent
import Derived.Test.YtkecekfapiegjaaDoorM15Tr
import Derived.Test.YtkecekfapiegjaaDoorM14W
import Derived.Test.YtkecekfapiegjaaDoorU1Bytes
import Derived.Test.YtkecekfapiegjaaDoorW5Round
import Derived.Maps.OwnIn
import Derived.Deep.AppendLies
/-
  Package proof's Shape, walked: slices.IndexFunc and ContainsFunc at nodes, by the closure that asks whether a side isn't of the width.
-/
namespace Go.Proofs.YtkecekfapiegjaaDoor
set_option linter.unusedVariables false
set_option linter.unusedSimpArgs false
set_option maxRecDepth 10000
open Go.RowKit

set_option maxRecDepth 100000 in
set_option maxHeartbeats 2000000 in
theorem wrong16_any (n : Int) (x : Nd) (b : Nat) (w : World) (hB : Box w b 3 #[.int .i64 n]) : Calls Tryd.prog 99 #[x.val, .pointer (some ⟨b, 0, none⟩)] w (Tells (.bool (!x.of n)) w.heap.size w) := by
  have cO := fun u => of14_any n x u
  obtain ⟨s, h, l⟩ := x
  simp only [Nd.val] at cO
  show Calls _ _ #[.agg (ndB s h l), _] _ _
  obtain ⟨V, hV⟩ : ∃ V, Nd.of n ⟨s, h, l⟩ = V := ⟨_, rfl⟩
  rw [hV] at cO ⊢
  clear hV
  have H0 := ((Has.start w).with hB).addAt 49 (ndB s h l) (g := w.heap.size) rfl
  clear hB
  go_enter Tryd.func99, Tryd.ntmps99
  go_upto_region 1 with fail
  change Code.wp _ _ _ _ (w.alloc (.cells (ndB s h l) 49))
  generalize w.alloc (.cells (ndB s h l) 49) = W1 at *
  obtain ⟨x0, x1, x2, -, -, -, xin⟩ := (H0.box 0).three
  have y0 := (H0.box 1).read 0
  have yin := (H0.box 1).inside
  go_wp2_with (first
    | (go_at_call 100; refine (cO _).mono ?_; rintro e w2 ⟨rfl, b2⟩; have K2 := H0.call b2)
    | fail)
  go_ret
  exact ⟨rfl, K2.below⟩
set_option maxRecDepth 100000 in
set_option maxHeartbeats 2000000 in
theorem index16_any (n : Int) (b : Nat) (A : Option Addr) (c : Nat) (l : List Nd) (hl : l.length ≤ 1000000000) (w : World) (hR : ndS.Row w w.heap.size A l) (hB : Box w b 3 #[.int .i64 n]) :
    Calls Tryd.prog 119 #[.slice A l.length c, .func (.func 99) #[] #[.pointer (some ⟨b, 0, none⟩)]] w
      (fun e w' => Below w.heap.size w w' ∧ ∃ i : Int, e = .returned (.int .i64 i) ∧ decide (0 ≤ i) = !l.all (Nd.of n)) := by
  have he := enters_of Tryd.func99 (by kernel_rfl) rfl
  obtain ⟨V, hV⟩ : ∃ V, l.all (Nd.of n) = V := ⟨_, rfl⟩
  rw [hV]
  have HV := hideIt hV
  clear hV
  obtain ⟨N, hN⟩ : ∃ N, l.length = N := ⟨_, rfl⟩
  rw [hN]
  go_enter Tryd.func119, Tryd.ntmps119
  go_wp2
  go_loopg [8] N (fun gk i wr => ∃ k : Nat, k ≤ N ∧ N - k ≤ gk ∧ i = .int .i64 k ∧ (∀ j x, j < k → l[j]? = some x → x.of n = true) ∧ Below w.heap.size w wr)
  case atStart => exact ⟨0, Nat.zero_le _, by omega, rfl, fun j x hj => absurd hj (Nat.not_lt_zero _), Below.refl _ _⟩
  case round =>
    obtain ⟨k, hk, hgk, rfl, hall, hb3⟩ := hrel
    have HG := hideIt hgk
    have HA := hideIt hall
    clear hgk hall
    by_cases hlt : k < N
    · obtain ⟨x, hx⟩ : ∃ x, l[k]? = some x := ⟨_, List.getElem?_eq_getElem (by omega)⟩
      have hlti : (k : Int) < (N : Int) := by omega
      obtain ⟨ad, rfl, g1, p0, p1, p2⟩ := nd_get (hR.on hb3) hx
      have cO := fun u (hu : Below w.heap.size w u) => wrong16_any n x b u (hB.call hu)
      obtain ⟨t, ht⟩ : ∃ t, x.of n = t := ⟨_, rfl⟩
      rw [ht] at cO
      have HX := hideIt hx
      have HT := hideIt ht
      obtain ⟨xs, xh, xl⟩ := x
      simp only [Nd.val] at cO p0 p1 p2
      clear hx ht
      cases t with
      | true =>
        go_wp2_with (first | (go_at_call 99; refine (cO _ hb3).mono ?_; rintro e w2 ⟨rfl, b2⟩) | fail)
        go_roundg (N - (k + 1))
        case measure => have := HG.out; omega
        case rel => exact ⟨k + 1, by omega, Nat.le_refl _, by go_num, fun j x hj hx => by
            by_cases e : j = k
            · subst e
              rw [HX.out] at hx
              injection hx with hx
              rw [← hx]
              exact HT.out
            · exact HA.out j x (by omega) hx, chain hb3 b2⟩
      | false =>
        have hno : V = false := by
          rw [← HV.out, Bool.eq_false_iff]
          intro e
          have := List.all_eq_true.1 e _ (List.mem_of_getElem? HX.out)
          rw [HT.out] at this
          cases this
        subst hno
        go_wp2_with (first | (go_at_call 99; refine (cO _ hb3).mono ?_; rintro e w2 ⟨rfl, b2⟩) | fail)
        go_ret
        exact ⟨chain hb3 b2, _, rfl, decide_eq_true (by omega)⟩
    · have e : k = N := by omega
      subst e
      have hyes : V = true := by
        rw [← HV.out]
        exact List.all_eq_true.2 fun x hx => by
          obtain ⟨j, hj⟩ := List.getElem?_of_mem hx
          exact HA.out j x (by have := (List.getElem?_eq_some_iff.1 hj).1; omega) hj
      subst hyes
      go_wp2
      go_ret
      exact ⟨hb3, _, rfl, decide_eq_false (by omega)⟩
set_option maxHeartbeats 1000000 in
theorem contains16_any (n : Int) (b : Nat) (A : Option Addr) (c : Nat) (l : List Nd) (hl : l.length ≤ 1000000000) (w : World) (hR : ndS.Row w w.heap.size A l) (hB : Box w b 3 #[.int .i64 n]) :
    Calls Tryd.prog 101 #[.slice A l.length c, .func (.func 99) #[] #[.pointer (some ⟨b, 0, none⟩)]] w (Tells (.bool (!l.all (Nd.of n))) w.heap.size w) := by
  have cI := index16_any n b A c l hl w hR hB
  generalize (!l.all (Nd.of n)) = V at *
  obtain ⟨N, hN⟩ : ∃ N, l.length = N := ⟨_, rfl⟩
  rw [hN] at cI ⊢
  clear hR hB hN hl
  go_enter Tryd.func101, Tryd.ntmps101
  go_wp2_with (first | (go_at_call 119; refine cI.mono ?_; rintro e w2 ⟨b2, i, rfl, hi⟩) | fail)
  go_ret
  exact ⟨rfl, b2⟩
set_option maxRecDepth 100000 in
set_option maxHeartbeats 4000000 in
theorem shape16_any (n h : Int) (p : Nat) (hp : p < 18446744073709551616) (A : Option Addr) (c : Nat) (l : List Nd) (hl : l.length ≤ 1000000000) (w : World) (hR : ndS.Row w w.heap.size A l) :
    Calls Tryd.prog 81 #[.int .i64 n, .int .i64 h, .agg #[.int .u64 p, .slice A l.length c]] w (Tells (.int .i64 (shapeN n h p l)) w.heap.size w) := by
  have eV : shapeN n h p l = if h < 0 ∨ 63 < h then 120 else if allW n l = true then (if (l.length : Int) = h ∧ p < 2 ^ l.length then 0 else 160) else 70 := rfl
  obtain ⟨V, hV⟩ : ∃ V, shapeN n h p l = V := ⟨_, rfl⟩
  rw [hV] at eV ⊢
  clear hV
  have J0 := ((Has.start w).addAt 3 #[.int .i64 n] (g := w.heap.size) rfl).addAt 37 #[.int .u64 p, .slice A l.length c] (g := w.heap.size + 1) (by simp)
  have cC := fun u (hu : Has w [(w.heap.size + 1, 37, #[.int .u64 p, .slice A l.length c]), (w.heap.size, 3, #[.int .i64 n])] u) => contains16_any n w.heap.size A c l hl u (hR.on hu.below) (hu.box 1)
  obtain ⟨x0, x1, -, -, xin⟩ := (J0.box 0).two
  have y0 := (J0.box 1).read 0
  have yin := (J0.box 1).inside
  clear hR
  obtain ⟨N, hN⟩ : ∃ N, l.length = N := ⟨_, rfl⟩
  rw [hN] at eV cC J0 x1 hl ⊢
  by_cases h1 : h < 0
  · rw [if_pos (Or.inl h1)] at eV
    subst eV
    clear cC
    go_enter Tryd.func81, Tryd.ntmps81
    go_wp2
    go_ret
    exact ⟨rfl, J0.below⟩
  · by_cases h2 : 63 < h
    · rw [if_pos (Or.inr h2)] at eV
      subst eV
      clear cC
      go_enter Tryd.func81, Tryd.ntmps81
      go_wp2
      go_ret
      exact ⟨rfl, J0.below⟩
    · rw [if_neg (by omega)] at eV
      by_cases h3 : n < 1
      · rw [allW, show mayW n = false from decide_eq_false (by omega), Bool.false_and, if_neg (by decide)] at eV
        subst eV
        clear cC
        go_enter Tryd.func81, Tryd.ntmps81
        go_wp2
        go_ret
        exact ⟨rfl, J0.below⟩
      · by_cases h4 : 32 < n
        · rw [allW, show mayW n = false from decide_eq_false (by omega), Bool.false_and, if_neg (by decide)] at eV
          subst eV
          clear cC
          go_enter Tryd.func81, Tryd.ntmps81
          go_wp2
          go_ret
          exact ⟨rfl, J0.below⟩
        · rw [allW, show mayW n = true from decide_eq_true (by omega), Bool.true_and] at eV
          cases ha : l.all (Nd.of n) with
          | false =>
            rw [ha] at eV cC
            rw [if_neg (by decide)] at eV
            subst eV
            clear ha hN
            go_enter Tryd.func81, Tryd.ntmps81
            go_wp2_with (first | (go_at_call 101; refine (cC _ J0).mono ?_; rintro e w2 ⟨rfl, b2⟩; have J2 := J0.call b2; obtain ⟨z0, z1, -, -, zin⟩ := (J2.box 0).two) | fail)
            go_ret
            exact ⟨rfl, J2.below⟩
          | true =>
            rw [ha] at eV cC
            rw [if_pos rfl] at eV
            clear ha hN
            by_cases h5 : (N : Int) = h
            · subst h5
              have e1 : (N : Int) ≤ 64 := by omega
              obtain ⟨Q, hQ⟩ : ∃ Q, p / 2 ^ N = Q := ⟨_, rfl⟩
              have e2 : (p : Int) / 2 ^ N = (Q : Int) := by rw [← hQ]; norm_cast
              have e3 : Q = 0 ↔ p < 2 ^ N := by
                rw [← hQ]
                exact ⟨fun h => by
                  rcases (Nat.div_eq_zero_iff).1 h with h | h
                  · exact absurd h (Nat.ne_of_gt (Nat.two_pow_pos N))
                  · exact h, fun h => Nat.div_eq_of_lt h⟩
              have q0 : (((N : Nat) : Int) != (N : Int)) = false := by simp
              by_cases h6 : p < 2 ^ N
              · rw [if_pos ⟨rfl, h6⟩] at eV
                subst eV
                have e4 := e3.2 h6
                subst e4
                clear hQ e3 h6
                go_enter Tryd.func81, Tryd.ntmps81
                go_wp2_with (first | (go_at_call 101; refine (cC _ J0).mono ?_; rintro e w2 ⟨rfl, b2⟩; have J2 := J0.call b2; obtain ⟨z0, z1, -, -, zin⟩ := (J2.box 0).two) | fail)
                go_ret
                exact ⟨rfl, J2.below⟩
              · rw [if_neg (fun h => h6 h.2)] at eV
                subst eV
                have e4 : ¬ Q = 0 := fun h => h6 (e3.1 h)
                have e5 : ((Q : Int) != 0) = true := bne_iff_ne.2 (by omega)
                clear hQ e3 h6
                go_enter Tryd.func81, Tryd.ntmps81
                go_wp2_with (first | (go_at_call 101; refine (cC _ J0).mono ?_; rintro e w2 ⟨rfl, b2⟩; have J2 := J0.call b2; obtain ⟨z0, z1, -, -, zin⟩ := (J2.box 0).two) | fail)
                go_ret
                exact ⟨rfl, J2.below⟩
            · rw [if_neg (fun h => h5 h.1)] at eV
              subst eV
              have q0 : (((N : Nat) : Int) != h) = true := bne_iff_ne.2 h5
              go_enter Tryd.func81, Tryd.ntmps81
              go_wp2_with (first | (go_at_call 101; refine (cC _ J0).mono ?_; rintro e w2 ⟨rfl, b2⟩; have J2 := J0.call b2; obtain ⟨z0, z1, -, -, zin⟩ := (J2.box 0).two) | fail)
              go_ret
              exact ⟨rfl, J2.below⟩
end Go.Proofs.YtkecekfapiegjaaDoor
/-
  Package proof: what stands beside a way; an entry; the entry of a position.
-/
namespace Go.Proofs.YtkecekfapiegjaaDoor
set_option linter.unusedVariables false
set_option linter.unusedSimpArgs false
set_option maxRecDepth 10000
open Go.RowKit

theorem nd16_app1 (w : World) (base : Nat) (v : Value) (n : Nat) (ys : List Nd) (hown : w.ownsRow base 49 3 v n (ndS.flat ys)) (x : Nd) (hm : n ≤ 100000000) (hb : base ≤ w.heap.size) :
    ∃ v' w', (∀ ty, (Builtin.append_ #[35, 35] ty #[v, .slice (some ⟨w.heap.size, 0, none⟩) 1 1]).run Tryd.prog (w.alloc (.cells (ndB x.hash x.h x.l) 49)) = .ok v' w') ∧
      w'.ownsRow base 49 3 v' (n + 1) (ndS.flat (ys ++ [x])) ∧ (w.alloc (.cells (ndB x.hash x.h x.l) 49)).grownBy w' v.ownBlock ∧ Below base w w' := ndE.app1 w base v n ys hown x _ rfl hm hb
section
variable {W : World} {q : TrG} {w : Int} {l : List Lf} {k : Nat}
set_option maxRecDepth 100000 in
set_option maxHeartbeats 4000000 in
theorem beside16_any (h : TrAt W q w l k) (hF : FairT w l k) (p : Nat) (hp : p < 2 ^ k) :
    Calls Tryd.prog 74 #[.pointer (some ⟨q.g, 0, none⟩), .int .u64 p] W (fun e w' => Below W.heap.size W w' ∧ ∃ A c, e = .returned (.slice A k c) ∧ SdAt w' W.heap.size A (sibsN w (l.map (nodeOf w)) p k) ∧ k ≤ c) := by
  have hk := hF.few
  have hpb : p < 18446744073709551616 := Nat.lt_of_lt_of_le hp (Nat.le_trans (Nat.pow_le_pow_right (n := 2) (by decide) hk) (by decide))
  have cH := height15_any h (by omega)
  have hlen := sibs_len w (l.map (nodeOf w)) p k
  have hat := fun (j : Nat) (hj : j < k) => sibs_take w (l.map (nodeOf w)) p hj
  obtain ⟨T, hT⟩ : ∃ T, sibsN w (l.map (nodeOf w)) p k = T := ⟨_, rfl⟩
  rw [hT] at hlen hat ⊢
  have HF := hideIt hF
  have HL := hideIt hlen
  have HA := hideIt hat
  clear hF hlen hat hT
  go_enter Tryd.func74, Tryd.ntmps74
  go_wp2_with (first | (go_at_call 24; refine cH.mono ?_; rintro e w1 ⟨rfl, rfl⟩) | fail)
  go_loopg [5, 11] k (fun gk v i wr => ∃ j : Nat, j ≤ k ∧ k - j ≤ gk ∧ i = .int .i64 j ∧ Below W.heap.size W wr ∧ wr.ownsRow W.heap.size 49 3 v j (ndS.flat (T.take j)))
  case atStart => exact ⟨0, Nat.zero_le _, by omega, rfl, Below.refl _ _, by rw [List.take_zero]; exact World.ownsRow_nil _ _ _ _⟩
  case round =>
    obtain ⟨j, hj, hgk, rfl, hb, hown⟩ := hrel
    have HG := hideIt hgk
    clear hgk
    by_cases hlt : j < k
    · have hji : (j : Int) < (k : Int) := by omega
      have htk := HA.out j hlt
      have cN := node15_in (h.call hb) HF.out (j := j) (by omega) (sib (p / 2 ^ j)) (sib_bound (Nat.lt_of_le_of_lt (Nat.div_le_self _ _) hpb))
      have hx := bits_xor1 (p / 2 ^ j) (Nat.lt_of_le_of_lt (Nat.div_le_self _ _) hpb)
      change T.take (j + 1) = T.take j ++ [ndAt (upN w j (l.map (nodeOf w))) (sib (p / 2 ^ j))] at htk
      generalize ndAt (upN w j (l.map (nodeOf w))) (sib (p / 2 ^ j)) = X at *
      obtain ⟨xs, xh, xl⟩ := X
      simp only [Nd.val] at cN
      obtain ⟨pj, hpj⟩ : ∃ pj, p / 2 ^ j = pj := ⟨_, rfl⟩
      rw [hpj] at cN hx
      have e1 : (p : Int) / 2 ^ j = (pj : Int) := by rw [← hpj]; norm_cast
      have e2 : (j : Int) ≤ 64 := by omega
      obtain ⟨sj, hsj⟩ : ∃ sj, sib pj = sj := ⟨_, rfl⟩
      rw [hsj] at cN hx
      have HTK := hideIt htk
      have happ := fun W' v ho hbb => nd16_app1 W' W.heap.size v j (T.take j) ho ⟨xs, xh, xl⟩ (by omega) hbb
      clear htk hpj hsj
      generalize decide (sj < 2 ^ (k - j)) = D at *
      go_upto_region 6 with (first
        | (go_at_call 42; refine cN.mono ?_; rintro e w5 ⟨rfl, b5⟩; have b6 := chainA b5 (.cells (ndB xs xh xl) 49); have x5 := Box.made w5 49 (ndB xs xh xl))
        | fail)
      obtain ⟨g7, hg7⟩ : ∃ g, w5.heap.size = g := ⟨_, rfl⟩
      rw [hg7] at x5 ⊢
      change Code.wp _ _ _ _ (w5.alloc (.cells (ndB xs xh xl) 49))
      generalize w5.alloc (.cells (ndB xs xh xl) 49) = W5 at *
      clear b5 hg7 cN
      obtain ⟨x0, x1, x2, -, -, -, xin⟩ := x5.three
      obtain ⟨v', w6, hrun, o6, -, b7⟩ := happ W5 u5 (own_below hown b6) (chain hb b6).size
      go_wp2_with (first
        | (at_builtin; refine gen_run rfl _ _ _ rfl _ _ rfl rfl _ w6 hrun ?_)
        | fail)
      go_roundg (k - (j + 1))
      case measure => have := HG.out; omega
      case rel => exact ⟨j + 1, by omega, Nat.le_refl _, by go_num, (chain hb b6).trans b7, by rw [HTK.out]; exact o6⟩
    · have e : j = k := by omega
      subst e
      have hji : ¬ (j : Int) < (j : Int) := by omega
      rw [List.take_of_length_le (by rw [HL.out]; exact Nat.le_refl _)] at hown
      have ho2 : wr.ownsRow W.heap.size 49 3 u5 T.length (ndS.flat T) := by rw [HL.out]; exact hown
      obtain ⟨A, c, rfl, hSd, hcc⟩ := SdAt.of_own ho2
      rw [HL.out] at hcc ⊢
      go_wp2
      exact bodyPost_ret (results_tmp rfl _ _ _) rfl ⟨hb, A, c, rfl, hSd, hcc⟩
set_option maxRecDepth 100000 in
set_option maxHeartbeats 4000000 in
theorem entry16_any (h : TrAt W q w l k) (hF : FairT w l k) (p : Nat) (hp : p < 2 ^ k) (x : Lf) :
    Calls Tryd.prog 44 #[.pointer (some ⟨q.g, 0, none⟩), .int .u64 p, x.val] W (fun e w' => Below W.heap.size W w' ∧ ∃ A c, e = .returned (.agg (enV x p A k c)) ∧ SdAt w' W.heap.size A (sibsN w (l.map (nodeOf w)) p k) ∧ k ≤ c) := by
  have cB := fun u (hu : TrAt u q w l k) => beside16_any hu hF p hp
  generalize sibsN w (l.map (nodeOf w)) p k = T at *
  obtain ⟨xp, xi, xs, xh, xl⟩ := x
  show Calls _ _ #[_, _, .agg (lfB xp xi xs xh xl)] _ _
  have hs0 : ((W.alloc (.cells (lfB xp xi xs xh xl) 34)).alloc (.cells (enV Lf.zero 0 none 0 0) 39)).heap.size = W.heap.size + 2 := by simp
  have H0 := ((Has.start W).addAt 34 (lfB xp xi xs xh xl) (g := W.heap.size) rfl).addAt 39 (enV Lf.zero 0 none 0 0) (g := W.heap.size + 1) (by simp)
  have hT := h.call H0.below
  clear hF
  go_enter Tryd.func44, Tryd.ntmps44
  go_upto_region 1 with fail
  change Code.wp _ _ _ _ ((W.alloc (.cells (lfB xp xi xs xh xl) 34)).alloc (.cells (enV Lf.zero 0 none 0 0) 39))
  generalize (W.alloc (.cells (lfB xp xi xs xh xl) 34)).alloc (.cells (enV Lf.zero 0 none 0 0) 39) = W0 at *
  have hS : ∀ u, Box u W.heap.size 34 (lfB xp xi xs xh xl) → (u.cell? ⟨W.heap.size, 0, none⟩ = some (.bool xp) ∧ u.cell? ⟨W.heap.size, 1, none⟩ = some (.string xi) ∧ u.cell? ⟨W.heap.size, 2, none⟩ = some (.string xs) ∧ u.cell? ⟨W.heap.size, 3, none⟩ = some (.int .u64 xh) ∧ u.cell? ⟨W.heap.size, 4, none⟩ = some (.int .u64 xl)) ∧ W.heap.size < u.heap.size := fun u hu => ⟨hu.five0.1, hu.inside⟩
  have H1 := H0.drew
  have hT1 := hT.drew
  have hs1 : W.heap.size ≤ W0.drew.heap.size := H1.size
  refine wp_region_held_drew (S := fun u => (u.cell? ⟨W.heap.size, 0, none⟩ = some (.bool xp) ∧ u.cell? ⟨W.heap.size, 1, none⟩ = some (.string xi) ∧ u.cell? ⟨W.heap.size, 2, none⟩ = some (.string xs) ∧ u.cell? ⟨W.heap.size, 3, none⟩ = some (.int .u64 xh) ∧ u.cell? ⟨W.heap.size, 4, none⟩ = some (.int .u64 xl)) ∧ W.heap.size < u.heap.size) (by kernel_rfl) (hS _ (H1.box 1)) (fun hHeld => ?_)
  generalize W0.drew = Wd at *
  refine wpAnyH_take (i := 0) (v := ?_) rfl (by kernel_rfl) (by kernel_rfl) (by kernel_rfl) (fun _ _ _ h => h) (Or.inl ⟨by rfl, ?_⟩) (by assumption) ?_
  rotate_left 1
  · intro w hSw; (try dsimp only at hSw); go_simp; try with_reducible rfl
  try simp only [Act.put, List.getElem_toArray, List.getElem_cons_succ, List.getElem_cons_zero, List.setIfInBounds_toArray, List.set_cons_zero, List.set_cons_succ]
  refine wpAnyH_take (i := 1) (v := ?_) rfl (by kernel_rfl) (by kernel_rfl) (by kernel_rfl) (fun _ _ _ h => h) (Or.inl ⟨by rfl, ?_⟩) (by assumption) ?_
  rotate_left 1
  · intro w hSw; (try dsimp only at hSw); go_simp; try with_reducible rfl
  try simp only [Act.put, List.getElem_toArray, List.getElem_cons_succ, List.getElem_cons_zero, List.setIfInBounds_toArray, List.set_cons_zero, List.set_cons_succ]
  refine wpAnyH_take (i := 2) (v := ?_) rfl (by kernel_rfl) (by kernel_rfl) (by kernel_rfl) (fun _ _ _ h => h) (Or.inl ⟨by rfl, ?_⟩) (by assumption) ?_
  rotate_left 1
  · intro w hSw; (try dsimp only at hSw); go_simp; try with_reducible rfl
  try simp only [Act.put, List.getElem_toArray, List.getElem_cons_succ, List.getElem_cons_zero, List.setIfInBounds_toArray, List.set_cons_zero, List.set_cons_succ]
  refine wpAnyH_take (i := 3) (v := ?_) rfl (by kernel_rfl) (by kernel_rfl) (by kernel_rfl) (fun _ _ _ h => h) (Or.inl ⟨by rfl, ?_⟩) (by assumption) ?_
  rotate_left 1
  · intro w hSw; (try dsimp only at hSw); go_simp; try with_reducible rfl
  try simp only [Act.put, List.getElem_toArray, List.getElem_cons_succ, List.getElem_cons_zero, List.setIfInBounds_toArray, List.set_cons_zero, List.set_cons_succ]
  refine wpAnyH_ready (rs := [4]) (by kernel_rfl) (by simp) (AllReadyH.cons rfl (fun K hK => ?_) AllReadyH.nil)
  go_simp
  go_at_call 74
  refine (cB _ hT1).mono ?_
  rintro e w4 ⟨b4, A, c, rfl, hSd, hcc⟩
  have H2 := H1.call b4
  try simp only []
  refine hK.out _ _ (hS _ (H2.box 1)) (fun hHeld => ?_)
  clear hK K
  try simp only [Act.put, List.getElem_toArray, List.getElem_cons_succ, List.getElem_cons_zero, List.setIfInBounds_toArray, List.set_cons_zero, List.set_cons_succ]
  refine wpAnyH_take (i := 5) (v := ?_) rfl (by kernel_rfl) (by kernel_rfl) (by kernel_rfl) (fun _ _ _ h => h) (Or.inl ⟨by rfl, ?_⟩) (by assumption) ?_
  rotate_left 1
  · intro w hSw; (try dsimp only at hSw); go_simp; try with_reducible rfl
  try simp only [Act.put, List.getElem_toArray, List.getElem_cons_succ, List.getElem_cons_zero, List.setIfInBounds_toArray, List.set_cons_zero, List.set_cons_succ]
  refine wpAnyH_take (i := 6) (v := ?_) rfl (by kernel_rfl) (by kernel_rfl) (by kernel_rfl) (fun _ _ _ h => h) (Or.inl ⟨by rfl, ?_⟩) (by assumption) ?_
  rotate_left 1
  · intro w hSw; (try dsimp only at hSw); go_simp; try with_reducible rfl
  try simp only [Act.put, List.getElem_toArray, List.getElem_cons_succ, List.getElem_cons_zero, List.setIfInBounds_toArray, List.set_cons_zero, List.set_cons_succ]
  obtain ⟨y0, y1, y2, y3, y4, y5, y6⟩ := (H2.box 0).seven_free
  obtain ⟨⟨z0, z1, z2, z3, z4, z5, z6⟩, zin⟩ := (H2.box 0).seven
  refine wpAnyH_ready (rs := [7]) (by kernel_rfl) (by simp) (AllReadyH.cons rfl (fun K hK => ?_) AllReadyH.nil)
  go_simp
  have E := H2.wrote7 (Nat.le_succ _) (fun x hx => by obtain rfl := List.mem_singleton.1 hx; exact Nat.lt_succ_self _) (.bool xp) (.string xi) (.string xs) (.int .u64 xh) (.int .u64 xl) (.int .u64 p) (.slice A k c)
  have hSd2 := (hSd.more hs1).offOne (put7_off w4 (W.heap.size + 1) (.bool xp) (.string xi) (.string xs) (.int .u64 xh) (.int .u64 xl) (.int .u64 p) (.slice A k c)) (H2.box 0) (by decide)
  generalize World.setCell (World.setCell (World.setCell (World.setCell (World.setCell (World.setCell (World.setCell w4 _ _) _ _) _ _) _ _) _ _) _ _) _ _ = W9 at *
  refine hK.out _ _ (hS _ (E.box 1)) (fun hHeld => ?_)
  clear hK K
  try simp only [Act.put, List.getElem_toArray, List.getElem_cons_succ, List.getElem_cons_zero, List.setIfInBounds_toArray, List.set_cons_zero, List.set_cons_succ]
  refine wpAnyH_done (by kernel_rfl) ?_ _
  clear y0 y1 y2 y3 y4 y5 y6 z0 z1 z2 z3 z4 z5 z6 zin
  go_wp2
  obtain ⟨⟨v0, v1, v2, v3, v4, v5, v6⟩, -⟩ := (E.box 0).seven
  exact bodyPost_ret (v := .agg (enV ⟨xp, xi, xs, xh, xl⟩ p A k c)) (by simp [results, Tryd.results44, go_sem, v0, v1, v2, v3, v4, v5, v6]) rfl ⟨E.below, A, c, rfl, hSd2, hcc⟩
theorem FairT.wide (hF : FairT w l k) : (w == 0) = false := by
  have := of_decide_eq_true hF.may
  simp
  omega
set_option maxRecDepth 100000 in
set_option maxHeartbeats 4000000 in
theorem of16_out (h : TrAt W q w l k) (hF : FairT w l k) (p : Nat) (hpb : p < 18446744073709551616) (hp : ¬ p < 2 ^ k) :
    Calls Tryd.prog 23 #[.pointer (some ⟨q.g, 0, none⟩), .int .u64 p] W (Tells (.tuple #[.agg (enV Lf.zero 0 none 0 0), .int .i64 2]) W.heap.size W) := by
  have hl := hF.len
  have hw0 := hF.wide
  have h1 := h.past (.cells (enV Lf.zero 0 none 0 0) 39)
  have cW := width15_any h1
  have cL := leaf15_any h1 hF p hpb
  rw [decide_eq_false (by omega)] at cL
  have hz : lfAt l p = Lf.zero := by rw [lfAt, List.getD_eq_getElem?_getD, List.getElem?_eq_none (by omega)]; rfl
  rw [hz] at cL
  simp only [Lf.val, Lf.zero] at cL cW ⊢
  have E := (Has.start W).addAt 39 (enV ⟨false, ⟨#[]⟩, ⟨#[]⟩, 0, 0⟩ 0 none 0 0) (g := W.heap.size) rfl
  clear h h1 hF hl hz hp
  go_enter Tryd.func23, Tryd.ntmps23
  go_upto_region 1 with fail
  change Code.wp _ _ _ _ (W.alloc (.cells (enV ⟨false, ⟨#[]⟩, ⟨#[]⟩, 0, 0⟩ 0 none 0 0) 39))
  obtain ⟨g, hg⟩ : ∃ g, W.heap.size = g := ⟨_, rfl⟩
  generalize W.alloc (.cells (enV ⟨false, ⟨#[]⟩, ⟨#[]⟩, 0, 0⟩ 0 none 0 0) 39) = W1 at *
  rw [hg] at E ⊢
  go_upto_region 4 with (first
    | (go_at_call 45; refine cW.mono ?_; rintro e w1 ⟨rfl, rfl⟩)
    | (go_at_call 46; refine cL.mono ?_; rintro e w2 ⟨rfl, b2⟩; have E2 := (E.call b2).past (.cells (lfB false ⟨#[]⟩ ⟨#[]⟩ 0 0) 34))
    | fail)
  change Code.wp _ _ _ _ (w2.alloc (.cells (lfB false ⟨#[]⟩ ⟨#[]⟩ 0 0) 34))
  generalize w2.alloc (.cells (lfB false ⟨#[]⟩ ⟨#[]⟩ 0 0) 34) = W2 at *
  obtain ⟨y0, y1, y2, y3, y4, y5, y6⟩ := (E2.box 0).seven_free
  obtain ⟨⟨z0, z1, z2, z3, z4, z5, z6⟩, zin⟩ := (E2.box 0).seven
  go_wp2
  have E3 := E2.wrote7 (Nat.le_of_eq hg) (fun x hx => by simp at hx) (.bool false) (.string ⟨#[]⟩) (.string ⟨#[]⟩) (.int .u64 0) (.int .u64 0) (.int .u64 0) (.slice none 0 0)
  generalize World.setCell (World.setCell (World.setCell (World.setCell (World.setCell (World.setCell (World.setCell W2 _ _) _ _) _ _) _ _) _ _) _ _) _ _ = W9 at *
  obtain ⟨⟨v0, v1, v2, v3, v4, v5, v6⟩, -⟩ := (E3.box 0).seven
  exact bodyPost_ret (v := .tuple #[.agg (enV ⟨false, ⟨#[]⟩, ⟨#[]⟩, 0, 0⟩ 0 none 0 0), .int .i64 2]) (by simp [results, Tryd.results23, go_sem, v0, v1, v2, v3, v4, v5, v6]) rfl ⟨rfl, by first | exact E3.below | (rw [hg]; exact E3.below) | (rw [← hg]; exact E3.below)⟩
set_option maxRecDepth 100000 in
set_option maxHeartbeats 4000000 in
theorem of16_in (h : TrAt W q w l k) (hF : FairT w l k) (p : Nat) (hp : p < 2 ^ k) {x : Lf} (hx : l[p]? = some x) :
    Calls Tryd.prog 23 #[.pointer (some ⟨q.g, 0, none⟩), .int .u64 p] W (fun e w' => Below W.heap.size W w' ∧ ∃ A c, e = .returned (.tuple #[.agg (enV x p A k c), .int .i64 0]) ∧ SdAt w' W.heap.size A (sibsN w (l.map (nodeOf w)) p k) ∧ k ≤ c) := by
  have hpb : p < 18446744073709551616 := Nat.lt_of_lt_of_le hp (Nat.le_trans (Nat.pow_le_pow_right (n := 2) (by decide) hF.few) (by decide))
  have hl := hF.len
  have hw0 := hF.wide
  have h1 := h.past (.cells (enV Lf.zero 0 none 0 0) 39)
  have cW := width15_any h1
  have cL := leaf15_any h1 hF p hpb
  rw [decide_eq_true (by omega), lfAt_some hx] at cL
  have cE := fun u (hu : TrAt u q w l k) => entry16_any hu hF p hp x
  generalize sibsN w (l.map (nodeOf w)) p k = T at *
  obtain ⟨xp, xi, xs, xh, xl⟩ := x
  simp only [Lf.val, Lf.zero] at cL cW cE h1 ⊢
  have E := (Has.start W).addAt 39 (enV ⟨false, ⟨#[]⟩, ⟨#[]⟩, 0, 0⟩ 0 none 0 0) (g := W.heap.size) rfl
  clear h hF hl hx
  go_enter Tryd.func23, Tryd.ntmps23
  go_upto_region 1 with fail
  change Code.wp _ _ _ _ (W.alloc (.cells (enV ⟨false, ⟨#[]⟩, ⟨#[]⟩, 0, 0⟩ 0 none 0 0) 39))
  obtain ⟨g, hg⟩ : ∃ g, W.heap.size = g := ⟨_, rfl⟩
  generalize W.alloc (.cells (enV ⟨false, ⟨#[]⟩, ⟨#[]⟩, 0, 0⟩ 0 none 0 0) 39) = W1 at *
  rw [hg] at E ⊢
  have hg1 : g ≤ W1.heap.size := by have := (E.box 0).inside; omega
  go_upto_region 4 with (first
    | (go_at_call 45; refine cW.mono ?_; rintro e w1 ⟨rfl, rfl⟩)
    | (go_at_call 46; refine cL.mono ?_; rintro e w2 ⟨rfl, b2⟩; have E2 := (E.call b2).add 34 (lfB xp xi xs xh xl); have hT2 := (h1.call b2).past (.cells (lfB xp xi xs xh xl) 34); have hg2 := Nat.le_trans hg1 b2.size)
    | fail)
  obtain ⟨g6, hg6⟩ : ∃ g, w2.heap.size = g := ⟨_, rfl⟩
  have hgs := World.size_alloc (w := w2) (o := .cells (lfB xp xi xs xh xl) 34)
  rw [hg6] at E2 hg2 hgs ⊢
  change Code.wp _ _ _ _ (w2.alloc (.cells (lfB xp xi xs xh xl) 34))
  generalize w2.alloc (.cells (lfB xp xi xs xh xl) 34) = W2 at *
  clear hg6 b2 E h1
  obtain ⟨⟨x0, x1, x2, x3, x4⟩, -, xin⟩ := (E2.box 0).five0
  have hg3 : g ≤ W2.heap.size := by omega
  go_wp2_with (first
    | (go_at_call 44; refine (cE _ hT2).mono ?_; rintro e w3 ⟨b3, A, c, rfl, hSd, hcc⟩; have E3 := (E2.call b3).tail; obtain ⟨y0, y1, y2, y3, y4, y5, y6⟩ := (E3.box 0).seven_free; obtain ⟨⟨z0, z1, z2, z3, z4, z5, z6⟩, zin⟩ := (E3.box 0).seven)
    | fail)
  have E4 := E3.wrote7 (Nat.le_of_eq hg) (fun x hx => by simp at hx) (.bool xp) (.string xi) (.string xs) (.int .u64 xh) (.int .u64 xl) (.int .u64 p) (.slice A k c)
  have hSd2 := (hSd.more hg3).offOne (put7_off w3 g (.bool xp) (.string xi) (.string xs) (.int .u64 xh) (.int .u64 xl) (.int .u64 p) (.slice A k c)) (E3.box 0) (by decide)
  generalize World.setCell (World.setCell (World.setCell (World.setCell (World.setCell (World.setCell (World.setCell w3 _ _) _ _) _ _) _ _) _ _) _ _) _ _ = W9 at *
  obtain ⟨⟨v0, v1, v2, v3, v4, v5, v6⟩, -⟩ := (E4.box 0).seven
  exact bodyPost_ret (v := .tuple #[.agg (enV ⟨xp, xi, xs, xh, xl⟩ p A k c), .int .i64 0]) (by simp [results, Tryd.results23, go_sem, v0, v1, v2, v3, v4, v5, v6]) rfl ⟨by first | exact E4.below | (rw [hg]; exact E4.below) | (rw [← hg]; exact E4.below), A, c, rfl, by first | exact hSd2 | (rw [hg]; exact hSd2) | (rw [← hg]; exact hSd2), hcc⟩
end
end Go.Proofs.YtkecekfapiegjaaDoor
/-
  Package proof's positions, walked: the function that is ranged over goes over a tree's leaves, each with its position. Of the tree only what Leaf tells is asked.
-/
namespace Go.Proofs.YtkecekfapiegjaaDoor
set_option linter.unusedVariables false
set_option linter.unusedSimpArgs false
set_option maxRecDepth 10000
open Go.RowKit Go.Shelf
attribute [local go_sem] Oper.semAt_some

/-- A leaf of these, with its position. -/
abbrev PoOf (l : List Lf) := { x : Nat × Lf // l[x.1]? = some x.2 }
set_option maxHeartbeats 1000000 in
theorem positions_any (a : Option Addr) (w : World) : Calls Tryd.prog 43 #[.pointer a] w fun e w' =>
    e = .returned (.func (.func 73) #[] #[.pointer (some ⟨w.heap.size, 0, none⟩)]) ∧ w' = w.alloc (.cells #[.pointer a] 55) := by
  go_enter Tryd.func43, Tryd.ntmps43
  go_wp2
  go_ret
  exact ⟨by simp, rfl⟩
set_option maxRecDepth 100000 in
set_option maxHeartbeats 4000000 in
theorem positions_in (D : Nat) (S : Nat → Prop) (n : Nat) (hn : 1 ≤ n) (y B1 : Nat) (a : Option Addr) (l : List Lf) (hl : l.length ≤ 1000000) (I : World → Prop) (hst : ∀ u u', I u → KpE D S u u' → I u')
    (hL : ∀ u, I u → ∀ p : Nat, p < 18446744073709551616 → Calls Tryd.prog 46 #[.pointer a, .int .u64 p] u (Tells (.tuple #[(lfAt l p).val, .bool (decide (p < l.length))]) u.heap.size u))
    (J Jx : List (PoOf l) → World → Prop) (W : World) (hDW : D ≤ W.heap.size) (hJ : AbidesFrom W.heap.size J)
    (hY : ∀ pre x W1, J pre W1 → pre.length < l.length → YieldAt Fence.wide (n - 1) Tryd.prog y #[.int .u64 x.1.1, x.1.2.val] W1 fun e W' =>
      (e = .returned (.bool true) ∧ J (pre ++ [x]) W' ∧ KpE D S W1 W') ∨ (e = .returned (.bool false) ∧ Jx (pre ++ [x]) W'))
    (hB1 : Box W B1 55 #[.pointer a]) (hl1 : B1 < D ∧ ¬ S B1) (hI0 : I W) (h0 : J [] W) :
    CallsIn Fence.wide n Tryd.prog 73 #[.func (.yield y) #[] #[], .pointer (some ⟨B1, 0, none⟩)] W fun e W' => (∃ v, e = .returned v) ∧
      ((∃ xs, xs.map (·.1) = posL l ∧ J xs W') ∨ (∃ pre, pre.map (·.1) <+: posL l ∧ Jx pre W')) := by
  obtain ⟨N, hN⟩ : ∃ N, l.length = N := ⟨_, rfl⟩
  have hlk := posL_len l
  refine callsIn_of_wp Tryd.func73 rfl trivial ?_ rfl
  simp only [Tryd.ntmps73, List.size_toArray, List.length_cons, List.length_nil, Nat.reduceAdd, Nat.reduceSub, Array.replicate_succ, Array.replicate_zero, List.push_toArray, List.append_toArray, List.nil_append, List.cons_append]
  gi_wp2
  gi_loopw [3] (fun i wr => ∃ (k : Nat) (pre : List (PoOf l)), k ≤ N ∧ i = .int .u64 k ∧ pre.map (·.1) = (posL l).take k ∧ J pre wr ∧ KpE D S W wr)
    (fun i _ => N - (intOf i).toNat)
  case atStart => exact ⟨0, [], Nat.zero_le _, rfl, by simp, h0, KpE.refl _⟩
  case round =>
    obtain ⟨k, pre, hk, rfl, hpre, hJr, hKp⟩ := hrel
    have hpl : pre.length = k := by
      have h1 := congrArg List.length hpre
      rw [List.length_map, List.length_take, hlk] at h1
      omega
    have HPRE := hideIt hpre
    clear hpre
    have hB1r : Box wr B1 55 #[.pointer a] := hKp.box hl1.1 hl1.2 hB1
    have c1 := hB1r.read 0
    have i1 := hB1r.inside
    have hIr := hst _ _ hI0 hKp
    have cL := hL wr hIr k (by omega)
    have hDr : D ≤ wr.heap.size := Nat.le_trans hDW hKp.1
    by_cases hlt : k < N
    · obtain ⟨x, hx⟩ : ∃ r, l[k]? = some r := ⟨_, List.getElem?_eq_getElem (by omega)⟩
      have htk := posL_at hx
      rw [lfAt_some hx, decide_eq_true (by omega)] at cL
      have HTK := hideIt htk
      have HX := hideIt hx
      obtain ⟨xp, xi, xs, xh, xl⟩ := x
      simp only [Lf.val] at cL
      clear htk hx
      refine wpIn_wide.2 ?_
      go_upto_region 3 with (first
        | (go_at_call 46; refine cL.mono ?_; rintro e w2 ⟨rfl, b2⟩)
        | fail)
      have L1 := chainA b2 (.cells (lfB xp xi xs xh xl) 34)
      have B1r := Box.made w2 34 (lfB xp xi xs xh xl)
      change Code.wp _ _ _ _ (w2.alloc (.cells (lfB xp xi xs xh xl) 34))
      generalize w2.alloc (.cells (lfB xp xi xs xh xl) 34) = W1 at *
      obtain ⟨g, hg⟩ : ∃ g, w2.heap.size = g := ⟨_, rfl⟩
      rw [hg] at B1r ⊢
      clear hg cL b2 c1 i1
      obtain ⟨⟨q0, q1, q2, q3, q4⟩, -, hin⟩ := B1r.five0
      have hJ2 := abideE hJ hJr L1
      have hK2 := hKp.trans (KpE.below L1 hDr)
      obtain ⟨fn, tmps, assign, body, hy, hRd⟩ := hY pre ⟨(k, ⟨xp, xi, xs, xh, xl⟩), HX.out⟩ W1 hJ2 (by omega)
      simp only [Lf.val] at hy
      refine (wpIn_wide (n := n)).1 ?_
      gi_wp2
      refine hRd.mono ?_
      rintro e W3 (⟨rfl, hJ3, hKp3⟩ | ⟨rfl, hJx3⟩)
      · gi_wp2
        go_wp2
        go_roundw
        case rel => exact ⟨k + 1, pre ++ [⟨(k, ⟨xp, xi, xs, xh, xl⟩), HX.out⟩], by omega, by go_num, by rw [List.map_append, HPRE.out, List.take_add_one, HTK.out]; rfl, hJ3, hK2.trans hKp3⟩
        case measure => simp [intOf]; omega
      · gi_wp2
        go_wp2
        refine bodyPost_ret (results_none rfl _ _ _) rfl ?_
        refine ⟨⟨_, rfl⟩, .inr ⟨_, ?_, hJx3⟩⟩
        rw [List.map_append, HPRE.out]
        exact ⟨(posL l).drop (k + 1), by rw [show (List.map (fun x : PoOf l => x.1) [⟨(k, ⟨xp, xi, xs, xh, xl⟩), HX.out⟩]) = (posL l)[k]?.toList by rw [HTK.out]; rfl, ← List.take_add_one, List.take_append_drop]⟩
    · have e : k = N := by omega
      subst e
      rw [decide_eq_false (by omega)] at cL
      have hz : lfAt l k = Lf.zero := by rw [lfAt, List.getD_eq_getElem?_getD, List.getElem?_eq_none (by omega)]; rfl
      rw [hz] at cL
      have hp := HPRE.out
      rw [List.take_of_length_le (by omega)] at hp
      have HP2 := hideIt hp
      clear hp hz
      simp only [Lf.val, Lf.zero] at cL
      refine wpIn_wide.2 ?_
      go_upto_region 3 with (first
        | (go_at_call 46; refine cL.mono ?_; rintro e w2 ⟨rfl, b2⟩)
        | fail)
      have L1 := chainA b2 (.cells (lfB false ⟨#[]⟩ ⟨#[]⟩ 0 0) 34)
      change Code.wp _ _ _ _ (w2.alloc (.cells (lfB false ⟨#[]⟩ ⟨#[]⟩ 0 0) 34))
      generalize w2.alloc (.cells (lfB false ⟨#[]⟩ ⟨#[]⟩ 0 0) 34) = W1 at *
      have hJ2 := abideE hJ hJr L1
      go_wp2
      refine bodyPost_ret (results_none rfl _ _ _) rfl ?_
      exact ⟨⟨_, rfl⟩, .inl ⟨pre, HP2.out, hJ2⟩⟩
end Go.Proofs.YtkecekfapiegjaaDoor
/-
  Package proof's All, walked: of the tree only what Leaf and entry tell is asked.
-/
namespace Go.Proofs.YtkecekfapiegjaaDoor
set_option linter.unusedVariables false
set_option linter.unusedSimpArgs false
set_option maxRecDepth 10000
open Go.RowKit Go.Shelf
attribute [local go_sem] Oper.semAt_some

def enE : El enS := ⟨27, 39, .agg #[.bool false, .string ⟨#[]⟩, .string ⟨#[]⟩, .int .u64 0, .int .u64 0, .int .u64 0, .slice none 0 0], 88, Tryd.underlying27, by kernel_rfl, rfl, by decide⟩
theorem en_app1 (w : World) (base : Nat) (v : Value) (n : Nat) (ys : List EnM) (hown : w.ownsRow base 39 7 v n (enS.flat ys)) (x : EnM) (hm : n ≤ 100000000) (hb : base ≤ w.heap.size) :
    ∃ v' w', (∀ ty, (Builtin.append_ #[27, 27] ty #[v, .slice (some ⟨w.heap.size, 0, none⟩) 1 1]).run Tryd.prog (w.alloc (.cells (enV x.lf x.pos x.A x.n x.c) 39)) = .ok v' w') ∧
      w'.ownsRow base 39 7 v' (n + 1) (enS.flat (ys ++ [x])) ∧ (w.alloc (.cells (enV x.lf x.pos x.A x.n x.c) 39)).grownBy w' v.ownBlock ∧ Below base w w' := enE.app1 w base v n ys hown x _ rfl hm hb
theorem own_slice16 {W : World} {b k n : Nat} {T : TypeId} {v : Value} {xs : List Value} (h : W.ownsRow b T k v n xs) : ∃ A c, v = .slice A n c := by
  rcases h.2 with ⟨h1, h2⟩ | ⟨g, cap, cur, hv, -⟩
  · exact ⟨none, 0, by rw [h1, h2]⟩
  · exact ⟨_, _, hv⟩
/-- What goes on in All's loop. -/
def AlI (w : World) (H : Nat) (a : Option Addr) (S : Nat → List Nd) (pre : List (Nat × Lf)) (W : World) : Prop :=
  H ≤ W.heap.size ∧ Has w [(w.heap.size, 55, #[.pointer a])] W ∧ ∃ v ms, Box W (w.heap.size + 1) 27 #[v] ∧ W.ownsRow H 39 7 v pre.length (enS.flat ms) ∧ ms.length = pre.length ∧ EnOk W H S pre ms
theorem AlI.call {w W W' : World} {H : Nat} {a : Option Addr} {S : Nat → List Nd} {pre : List (Nat × Lf)} (h : AlI w H a S pre W) (hb : Below W.heap.size W W') : AlI w H a S pre W' := by
  obtain ⟨h1, h2, v, ms, h3, h4, h5, h6⟩ := h
  exact ⟨Nat.le_trans h1 hb.size, h2.call hb, v, ms, h3.call hb, own_below h4 hb, h5, h6.call hb⟩
set_option maxRecDepth 100000 in
set_option maxHeartbeats 8000000 in
theorem all16_any (a : Option Addr) (l : List Lf) (hl : l.length ≤ 1000000) (S : Nat → List Nd) (I : World → Prop) (w : World) (hI0 : I w) (hst : ∀ u u', I u → (∀ b, b < w.heap.size → u'.heap[b]? = u.heap[b]?) → I u')
    (hL : ∀ u, I u → ∀ p : Nat, p < 18446744073709551616 → Calls Tryd.prog 46 #[.pointer a, .int .u64 p] u (Tells (.tuple #[(lfAt l p).val, .bool (decide (p < l.length))]) u.heap.size u))
    (hE : ∀ u, I u → ∀ (p : Nat) x, l[p]? = some x → Calls Tryd.prog 44 #[.pointer a, .int .u64 p, x.val] u (fun e w' => Below u.heap.size u w' ∧ ∃ A c, e = .returned (.agg (enV x p A (S p).length c)) ∧ SdAt w' u.heap.size A (S p))) :
    Calls Tryd.prog 22 #[.pointer a] w (fun e w' => Below w.heap.size w w' ∧ ∃ v ms, e = .returned v ∧ w'.ownsRow (w.heap.size + 3) 39 7 v l.length (enS.flat ms) ∧ ms.length = l.length ∧ EnOk w' (w.heap.size + 3) S (posL l) ms) := by
  have cP := fun u => positions_any a u
  have H0 := (Has.start w).addAt 55 #[.pointer a] (g := w.heap.size) rfl
  have B0 := Box.made (w.alloc (.cells #[.pointer a] 55)) 27 #[.slice none 0 0]
  rw [World.size_alloc] at B0
  have H1 := H0.past (.cells #[.slice none 0 0] 27)
  refine (callsIn_wide (n := 9)).1 (callsIn_of_wp_marks Tryd.func22 rfl trivial ?_ rfl)
  simp only [Tryd.ntmps22, List.size_toArray, List.length_cons, List.length_nil, Nat.reduceAdd, Nat.reduceSub, Array.replicate_succ, Array.replicate_zero, List.push_toArray, List.append_toArray, List.nil_append, List.cons_append]
  refine wpIn_wide.2 ?_
  refine Code.wp_mono (noPan_to _) ?_
  go_upto_region 2 with fail
  change Code.wp _ _ _ _ ((w.alloc (.cells #[.pointer a] 55)).alloc (.cells #[.slice none 0 0] 27))
  have hW1 : ((w.alloc (.cells #[.pointer a] 55)).alloc (.cells #[.slice none 0 0] 27)).heap.size = w.heap.size + 2 := by simp
  generalize (w.alloc (.cells #[.pointer a] 55)).alloc (.cells #[.slice none 0 0] 27) = W1 at *
  clear H0
  have y0 := (H1.box 0).read 0
  have yin := (H1.box 0).inside
  go_wp2_with (first
    | (go_at_call 43; refine (cP _).mono ?_; rintro e v1 ⟨rfl, rfl⟩)
    | fail)
  have e1 := hW1
  have bxT := Box.made W1 55 #[.pointer a]
  have LY := chainA (Below.refl W1.heap.size W1) (.cells #[.pointer a] 55)
  have KY := H1.call LY
  have bA := B0.call LY
  have hYs : (W1.alloc (.cells #[.pointer a] 55)).heap.size = w.heap.size + 3 := by simp [e1]
  rw [e1] at bxT
  change Code.wp _ _ _ _ (W1.alloc (.cells #[.pointer a] 55))
  generalize W1.alloc (.cells #[.pointer a] 55) = Y at *
  clear LY H1 cP hW1 e1 B0 y0 yin
  have hIY := hst _ _ hI0 (fun b hb => KY.below.block b hb)
  have hst2 : ∀ u u', I u → KpE Y.heap.size (fun i => i = w.heap.size + 1) u u' → I u' := fun u u' hu hk => hst u u' hu fun b hb => hk.2 b (by omega) (by omega)
  refine (wpIn_wide (n := 9)).1 ?_
  refine wpIn_rangeFunc_ownH (F := Fence.wide) (n := 9) rfl (by decide) (gf := 73) (lb := #[.pointer (some ⟨w.heap.size + 2, 0, none⟩)]) rfl trivial (enters_of Tryd.func73 (by kernel_rfl) rfl)
    (encs := fun x : PoOf l => #[.int .u64 (x.1.1 : Int), x.1.2.val]) (Kp := KpE Y.heap.size (fun i => i = w.heap.size + 1)) (S := fun xs => xs.map (·.1) = posL l) (Sp := fun pre => pre.map (·.1) <+: posL l) (N := l.length) (w0 := Y)
    ?hseq (fun a b => a.trans b) (fun W l o o' hl _ _ _ => KpE.putObj W l o' hl) (Below.refl _ _) (fun _ => rfl)
    (fun pre W => AlI w Y.heap.size a S (pre.map fun x => x.1) W ∧ I W) (fun _ _ _ => False)
    ?hI (fun _ _ _ _ _ hs _ _ => hs) ?h0
    (fun x a' W => ∃ Bx, Y.heap.size ≤ Bx ∧ Box W Bx 34 (lfB x.1.2.pad x.1.2.id x.1.2.salt x.1.2.h x.1.2.l) ∧
      a' = { tmps := #[.pointer a, .pointer (some ⟨w.heap.size, 0, none⟩), .slice none 0 0, .pointer (some ⟨w.heap.size + 1, 0, none⟩), .int .u64 (x.1.1 : Int), .pointer (some ⟨Bx, 0, none⟩), .pointer a, .func (.func 73) #[] #[.pointer (some ⟨w.heap.size + 2, 0, none⟩)], .int .u64 (x.1.1 : Int), x.1.2.val, undef, undef, undef, undef, undef, undef, undef, undef], defers := [] })
    ?hAx ?assign ?body ?done ?stop
  case hseq =>
    intro y J Jx W hW hJ hJx hY h0
    exact positions_in Y.heap.size (fun i => i = w.heap.size + 1) 8 (by decide) y (w.heap.size + 2) a l hl I hst2 hL J Jx W hW.size hJ hY (bxT.call hW) ⟨by omega, by omega⟩ (hst2 _ _ hIY (KpE.below hW (Nat.le_refl _))) h0
  case hI =>
    rintro q W W' row ⟨⟨h1, h2, v, ms, h3, h4, h5, h6⟩, hIW⟩ hg hr
    have hr3 : ∀ r, row = some r → Y.heap.size ≤ r := fun r e => (hr r e).1
    refine ⟨⟨Nat.le_trans h1 hg.size, h2.grownE hg (fun r e => by have := hr3 r e; omega) (fun r e x hx => by
      have := hr3 r e
      simp only [List.mem_cons, List.not_mem_nil, or_false] at hx
      rcases hx with rfl
      simp only
      omega), v, ms, h3.grown hg (fun e => by have := hr3 _ e.symm; omega), ?_, h5, ?_⟩, hst2 _ _ hIW ⟨hg.size, fun i hi _ => hg.block i (by omega) (fun e => by have := hr3 i e.symm; omega)⟩⟩
    · refine h4.kept hg ?_
      by_cases hv : v.ownBlock = none
      · exact Or.inl hv
      · refine Or.inr fun e => ?_
        rcases h4.2 with ⟨rfl, -⟩ | ⟨gg, cap, cur, rfl, hb, hgg, -⟩
        · exact hv rfl
        · obtain ⟨-, o, ho, hc⟩ := hr gg e.symm
          rw [hgg] at ho
          cases ho
          cases hc
    · refine h6.keep fun b _ hlt ⟨cs, fr, hcs⟩ => hg.block b hlt fun e => ?_
      obtain ⟨-, o, ho, hc⟩ := hr b e.symm
      rw [hcs] at ho
      cases ho
      cases hc
  case h0 => exact ⟨⟨Nat.le_refl _, KY, _, [], bA, World.ownsRow_nil _ _ _ _, rfl, fun i m hm => by simp at hm⟩, hIY⟩
  case hAx =>
    rintro x a' s W W' row ⟨Bx, h1, h2, h3⟩ hg hr
    exact ⟨Bx, h1, box_ownE (β := Unit) Bx _ _ (fun _ => _) () W W' row h2 hg hr, h3⟩
  case assign =>
    rintro lk pre ⟨⟨p, ⟨xp, xi, xs, xh, xl⟩⟩, hq⟩ W K ⟨hI, hIW⟩ hK2
    simp only [Lf.val] at hK2 ⊢
    have hHs := hI.1
    gi_wp2
    have hb := chainA (Below.refl W.heap.size W) (.cells (lfB xp xi xs xh xl) 34)
    exact hK2 _ _ (keepsFrom_belowE hb) (KpE.below hb hHs) ⟨hI.call hb, hst2 _ _ hIW (KpE.below hb hHs)⟩ ⟨W.heap.size, hHs, Box.made _ _ _, rfl⟩
  case body =>
    rintro lk pre ⟨⟨p, ⟨xp, xi, xs, xh, xl⟩⟩, hq⟩ a' W hlk ⟨rr, hrr⟩ ⟨hI, hIW⟩ ⟨Bx, hBx, bx, rfl⟩ hlt
    simp only [Lf.val]
    obtain ⟨hHs, hJ, v, ms, bv, hrow, hmn, hok⟩ := hI
    have hq : l[p]? = some ⟨xp, xi, xs, xh, xl⟩ := hq
    have bx : Box W Bx 34 (lfB xp xi xs xh xl) := bx
    have cE := fun u hu => hE u hu p _ hq
    simp only [Lf.val] at cE
    have hpl : (pre.map fun x => x.1).length ≤ 100000000 := by rw [List.length_map]; omega
    obtain ⟨Q, hQ⟩ : ∃ Q, (pre.map fun x => x.1) = Q := ⟨_, rfl⟩
    obtain ⟨T, hT⟩ : ∃ T, S p = T := ⟨_, rfl⟩
    rw [hQ] at hrow hmn hok hpl
    rw [hT] at cE
    have HQ := hideIt hQ
    have HT := hideIt hT
    clear hQ hT hL
    obtain ⟨M, hM⟩ : ∃ M, Q.length = M := ⟨_, rfl⟩
    rw [hM] at hrow hpl
    have HM := hideIt hM
    clear hM
    have hmx : Tryd.prog.follows .mixedOrders = true := by kernel_rfl
    have hS : ∀ u, Below W.heap.size W u → (u.cell? ⟨w.heap.size, 0, none⟩ = some (.pointer a) ∧ w.heap.size < u.heap.size) ∧ (u.cell? ⟨Bx, 0, none⟩ = some (.bool xp) ∧ u.cell? ⟨Bx, 1, none⟩ = some (.string xi) ∧ u.cell? ⟨Bx, 2, none⟩ = some (.string xs) ∧ u.cell? ⟨Bx, 3, none⟩ = some (.int .u64 xh) ∧ u.cell? ⟨Bx, 4, none⟩ = some (.int .u64 xl)) ∧ Bx < u.heap.size := fun u hb =>
      ⟨⟨((hJ.call hb).box 0).read 0, ((hJ.call hb).box 0).inside⟩, (bx.call hb).five0.1, (bx.call hb).inside⟩
    gi_wp2
    refine region_round (S := fun u => (u.cell? ⟨w.heap.size, 0, none⟩ = some (.pointer a) ∧ w.heap.size < u.heap.size) ∧ (u.cell? ⟨Bx, 0, none⟩ = some (.bool xp) ∧ u.cell? ⟨Bx, 1, none⟩ = some (.string xi) ∧ u.cell? ⟨Bx, 2, none⟩ = some (.string xs) ∧ u.cell? ⟨Bx, 3, none⟩ = some (.int .u64 xh) ∧ u.cell? ⟨Bx, 4, none⟩ = some (.int .u64 xl)) ∧ Bx < u.heap.size) hmx (by kernel_rfl) (fun ⟨a, u, h⟩ => h) (hS _ (Below.refl _ _).drew) (fun hHeld => ?_)
    have b0 := (Below.refl W.heap.size W).drew
    have hI0' := hst2 _ _ hIW (KpE.below b0 hHs)
    have y0 := (bv.call b0).read 0
    have yin := (bv.call b0).inside
    have hs0 : Y.heap.size ≤ W.drew.heap.size := Nat.le_trans hHs b0.size
    generalize W.drew = Wd at *
    refine wpAnyH_take (i := 1) (v := ?_) rfl (by kernel_rfl) (by kernel_rfl) (by kernel_rfl) (fun _ _ _ h => h) (Or.inl ⟨by rfl, ?_⟩) (by assumption) ?_
    rotate_left 1
    · intro w hSw; (try dsimp only at hSw); go_simp; try with_reducible rfl
    try simp only [Act.put, List.getElem_toArray, List.getElem_cons_succ, List.getElem_cons_zero, List.setIfInBounds_toArray, List.set_cons_zero, List.set_cons_succ]
    refine wpAnyH_take (i := 2) (v := ?_) rfl (by kernel_rfl) (by kernel_rfl) (by kernel_rfl) (fun _ _ _ h => h) (Or.inl ⟨by rfl, ?_⟩) (by assumption) ?_
    rotate_left 1
    · intro w hSw; (try dsimp only at hSw); go_simp; try with_reducible rfl
    try simp only [Act.put, List.getElem_toArray, List.getElem_cons_succ, List.getElem_cons_zero, List.setIfInBounds_toArray, List.set_cons_zero, List.set_cons_succ]
    refine wpAnyH_take (i := 3) (v := ?_) rfl (by kernel_rfl) (by kernel_rfl) (by kernel_rfl) (fun _ _ _ h => h) (Or.inl ⟨by rfl, ?_⟩) (by assumption) ?_
    rotate_left 1
    · intro w hSw; (try dsimp only at hSw); go_simp; try with_reducible rfl
    try simp only [Act.put, List.getElem_toArray, List.getElem_cons_succ, List.getElem_cons_zero, List.setIfInBounds_toArray, List.set_cons_zero, List.set_cons_succ]
    refine wpAnyH_ready (rs := [0, 4]) (by kernel_rfl) (by simp) (AllReadyH.cons rfl (fun K hK => ?_) (AllReadyH.cons rfl (fun K hK => ?_) AllReadyH.nil))
    · go_simp
      refine hK.out _ _ (hS _ b0) (fun hHeld => ?_)
      clear hK K
      try simp only [Act.put, List.getElem_toArray, List.getElem_cons_succ, List.getElem_cons_zero, List.setIfInBounds_toArray, List.set_cons_zero, List.set_cons_succ]
      refine wpAnyH_ready (rs := [4]) (by kernel_rfl) (by simp) (AllReadyH.cons rfl (fun K hK => ?_) AllReadyH.nil)
      go_simp
      clear y0 yin
      go_at_call 44
      refine (cE _ hI0').mono ?_
      rintro e w3 ⟨b3, A3, c3, rfl, hSd⟩
      have b4 := chain b0 b3
      have b5 := chainA b4 (.cells (enV ⟨xp, xi, xs, xh, xl⟩ p A3 T.length c3) 39)
      have y0 := (bv.call b4).read 0
      have yin := (bv.call b4).inside
      have z0 := (bv.call b5).read 0
      have zin := (bv.call b5).inside
      have hs3 : Y.heap.size ≤ w3.heap.size := Nat.le_trans hHs b4.size
      try simp only []
      refine hK.out _ _ (hS _ b4) (fun hHeld => ?_)
      clear hK K
      try simp only [Act.put, List.getElem_toArray, List.getElem_cons_succ, List.getElem_cons_zero, List.setIfInBounds_toArray, List.set_cons_zero, List.set_cons_succ]
      refine wpAnyH_ready (rs := [5]) (by kernel_rfl) (by simp) (AllReadyH.cons rfl (fun K hK => ?_) AllReadyH.nil)
      go_simp
      refine hK.out _ _ (hS _ b5) (fun hHeld => ?_)
      clear hK K
      try simp only [Act.put, List.getElem_toArray, List.getElem_cons_succ, List.getElem_cons_zero, List.setIfInBounds_toArray, List.set_cons_zero, List.set_cons_succ]
      have O3 := own_below hrow b4
      obtain ⟨v', w6, hrun, o6, gr6, b6⟩ := en_app1 w3 Y.heap.size v M ms O3 ⟨⟨xp, xi, xs, xh, xl⟩, p, A3, T.length, c3⟩ hpl hs3
      obtain ⟨A6, c6, rfl⟩ := own_slice16 o6
      have own3 := O3.alloc (.cells (enV ⟨xp, xi, xs, xh, xl⟩ p A3 T.length c3) 39)
      have X6 := (bx.call b5).grown gr6 (own_ty own3 (bx.call b5) (by decide))
      have J6 := ((hJ.call b5).box 0).grown gr6 (own_ty own3 ((hJ.call b5).box 0) (by decide))
      obtain ⟨V6, F7, -, kf, bf⟩ := Boxed.appended (bv.call b4) (by decide) (own_mono O3 (show w.heap.size + 1 ≤ Y.heap.size by omega)) (by omega) (Nat.le_refl _) (own_mono o6 (show w.heap.size + 1 ≤ Y.heap.size by omega)) gr6
      have V6 : Box w6 (w.heap.size + 1) 27 #[v] := V6
      have F7 : Box (w6.setCell ⟨w.heap.size + 1, 0, none⟩ (.slice A6 (M + 1) c6)) (w.heap.size + 1) 27 #[.slice A6 (M + 1) c6] := F7
      have ok6 := ((((hok.call b4).snoc hmn (q := (p, ⟨xp, xi, xs, xh, xl⟩)) (m := ⟨⟨xp, xi, xs, xh, xl⟩, p, A3, T.length, c3⟩) rfl rfl (by rw [HT.out]) (by rw [HT.out]; exact hSd.more hs0)).call (chainA (Below.refl _ w3) _)).grown own3 (by decide) gr6).set_ V6 (by decide) 0 (.slice A6 (M + 1) c6)
      have o7 := own_apart o6 (p := ⟨w.heap.size + 1, 0, none⟩) (fun e => by have := o6.lt _ e; simp only at this; omega) (.slice A6 (M + 1) c6)
      have X7 := X6.apart (p := ⟨w.heap.size + 1, 0, none⟩) (X6.type_ne V6 (by decide)) (.slice A6 (M + 1) c6)
      have J7 := J6.apart (p := ⟨w.heap.size + 1, 0, none⟩) (by show w.heap.size ≠ w.heap.size + 1; omega) (.slice A6 (M + 1) c6)
      have y0 := V6.read 0
      have yf := V6.free 0
      have yin := V6.inside
      refine wpAnyH_ready (rs := [6]) (by kernel_rfl) (by simp) (AllReadyH.cons rfl (fun K hK => ?_) AllReadyH.nil)
      refine gen_step rfl _ _ _ rfl _ _ rfl rfl _ w6 hrun ?_
      refine hK.out _ _ (⟨⟨J6.read 0, J6.inside⟩, X6.five0.1, X6.inside⟩) (fun hHeld => ?_)
      clear hK K
      try simp only [Act.put, List.getElem_toArray, List.getElem_cons_succ, List.getElem_cons_zero, List.setIfInBounds_toArray, List.set_cons_zero, List.set_cons_succ]
      refine wpAnyH_ready (rs := [7]) (by kernel_rfl) (by simp) (AllReadyH.cons rfl (fun K hK => ?_) AllReadyH.nil)
      go_simp
      have kp : KpE Y.heap.size (fun i => i = w.heap.size + 1) W (w6.setCell ⟨w.heap.size + 1, 0, none⟩ (.slice A6 (M + 1) c6)) := ((KpE.below b5 hHs).trans ⟨gr6.size, fun i hi _ => gr6.block i (Nat.lt_of_lt_of_le hi (Nat.le_trans hHs b5.size)) (fun e => by have := own3.lt i e.symm; omega)⟩).trans (KpE.set_ w6 _ _ rfl)
      have hbw := (hJ.call b4).below.trans (bf.mono (Nat.le_succ _))
      have kf2 := (keepsFrom_belowE (B := Y.heap.size) b4).trans (kf.from Y.heap.size)
      generalize World.setCell w6 _ _ = W9 at *
      refine hK.out _ _ (⟨⟨J7.read 0, J7.inside⟩, X7.five0.1, X7.inside⟩) (fun hHeld => ?_)
      clear hK K
      try simp only [Act.put, List.getElem_toArray, List.getElem_cons_succ, List.getElem_cons_zero, List.setIfInBounds_toArray, List.set_cons_zero, List.set_cons_succ]
      refine wpAnyH_done (by kernel_rfl) ?_ _
      try dsimp only [Exit.inBlock, Exit.then]
      clear y0 yf yin z0 zin
      gi_wp2
      have hI9 := hst2 _ _ hIW kp
      rw [hYs] at kf2 kp hHs o7 ok6
      refine ⟨kf2, kp, ⟨Nat.le_trans hHs kp.1, ⟨fun x hx => by obtain rfl := List.mem_singleton.1 hx; exact J7, hbw⟩, _, ms ++ [⟨⟨xp, xi, xs, xh, xl⟩, p, A3, T.length, c3⟩], F7, ?_, ?_, ?_⟩, hI9⟩
      · rw [List.map_append, HQ.out, List.length_append, HM.out]
        exact o7
      · rw [List.map_append, HQ.out, List.length_append, List.length_append, hmn]
        rfl
      · rw [List.map_append, HQ.out]
        exact ok6
    · go_simp
      clear y0 yin
      go_at_call 44
      refine (cE _ hI0').mono ?_
      rintro e w3 ⟨b3, A3, c3, rfl, hSd⟩
      have b4 := chain b0 b3
      have b5 := chainA b4 (.cells (enV ⟨xp, xi, xs, xh, xl⟩ p A3 T.length c3) 39)
      have y0 := (bv.call b4).read 0
      have yin := (bv.call b4).inside
      have z0 := (bv.call b5).read 0
      have zin := (bv.call b5).inside
      have hs3 : Y.heap.size ≤ w3.heap.size := Nat.le_trans hHs b4.size
      try simp only []
      refine hK.out _ _ (hS _ b4) (fun hHeld => ?_)
      clear hK K
      try simp only [Act.put, List.getElem_toArray, List.getElem_cons_succ, List.getElem_cons_zero, List.setIfInBounds_toArray, List.set_cons_zero, List.set_cons_succ]
      refine wpAnyH_ready (rs := [0, 5]) (by kernel_rfl) (by simp) (AllReadyH.cons rfl (fun K hK => ?_) (AllReadyH.cons rfl (fun K hK => ?_) AllReadyH.nil))
      · go_simp
        refine hK.out _ _ (hS _ b4) (fun hHeld => ?_)
        clear hK K
        try simp only [Act.put, List.getElem_toArray, List.getElem_cons_succ, List.getElem_cons_zero, List.setIfInBounds_toArray, List.set_cons_zero, List.set_cons_succ]
        refine wpAnyH_ready (rs := [5]) (by kernel_rfl) (by simp) (AllReadyH.cons rfl (fun K hK => ?_) AllReadyH.nil)
        go_simp
        refine hK.out _ _ (hS _ b5) (fun hHeld => ?_)
        clear hK K
        try simp only [Act.put, List.getElem_toArray, List.getElem_cons_succ, List.getElem_cons_zero, List.setIfInBounds_toArray, List.set_cons_zero, List.set_cons_succ]
        have O3 := own_below hrow b4
        obtain ⟨v', w6, hrun, o6, gr6, b6⟩ := en_app1 w3 Y.heap.size v M ms O3 ⟨⟨xp, xi, xs, xh, xl⟩, p, A3, T.length, c3⟩ hpl hs3
        obtain ⟨A6, c6, rfl⟩ := own_slice16 o6
        have own3 := O3.alloc (.cells (enV ⟨xp, xi, xs, xh, xl⟩ p A3 T.length c3) 39)
        have X6 := (bx.call b5).grown gr6 (own_ty own3 (bx.call b5) (by decide))
        have J6 := ((hJ.call b5).box 0).grown gr6 (own_ty own3 ((hJ.call b5).box 0) (by decide))
        obtain ⟨V6, F7, -, kf, bf⟩ := Boxed.appended (bv.call b4) (by decide) (own_mono O3 (show w.heap.size + 1 ≤ Y.heap.size by omega)) (by omega) (Nat.le_refl _) (own_mono o6 (show w.heap.size + 1 ≤ Y.heap.size by omega)) gr6
        have V6 : Box w6 (w.heap.size + 1) 27 #[v] := V6
        have F7 : Box (w6.setCell ⟨w.heap.size + 1, 0, none⟩ (.slice A6 (M + 1) c6)) (w.heap.size + 1) 27 #[.slice A6 (M + 1) c6] := F7
        have ok6 := ((((hok.call b4).snoc hmn (q := (p, ⟨xp, xi, xs, xh, xl⟩)) (m := ⟨⟨xp, xi, xs, xh, xl⟩, p, A3, T.length, c3⟩) rfl rfl (by rw [HT.out]) (by rw [HT.out]; exact hSd.more hs0)).call (chainA (Below.refl _ w3) _)).grown own3 (by decide) gr6).set_ V6 (by decide) 0 (.slice A6 (M + 1) c6)
        have o7 := own_apart o6 (p := ⟨w.heap.size + 1, 0, none⟩) (fun e => by have := o6.lt _ e; simp only at this; omega) (.slice A6 (M + 1) c6)
        have X7 := X6.apart (p := ⟨w.heap.size + 1, 0, none⟩) (X6.type_ne V6 (by decide)) (.slice A6 (M + 1) c6)
        have J7 := J6.apart (p := ⟨w.heap.size + 1, 0, none⟩) (by show w.heap.size ≠ w.heap.size + 1; omega) (.slice A6 (M + 1) c6)
        have y0 := V6.read 0
        have yf := V6.free 0
        have yin := V6.inside
        refine wpAnyH_ready (rs := [6]) (by kernel_rfl) (by simp) (AllReadyH.cons rfl (fun K hK => ?_) AllReadyH.nil)
        refine gen_step rfl _ _ _ rfl _ _ rfl rfl _ w6 hrun ?_
        refine hK.out _ _ (⟨⟨J6.read 0, J6.inside⟩, X6.five0.1, X6.inside⟩) (fun hHeld => ?_)
        clear hK K
        try simp only [Act.put, List.getElem_toArray, List.getElem_cons_succ, List.getElem_cons_zero, List.setIfInBounds_toArray, List.set_cons_zero, List.set_cons_succ]
        refine wpAnyH_ready (rs := [7]) (by kernel_rfl) (by simp) (AllReadyH.cons rfl (fun K hK => ?_) AllReadyH.nil)
        go_simp
        have kp : KpE Y.heap.size (fun i => i = w.heap.size + 1) W (w6.setCell ⟨w.heap.size + 1, 0, none⟩ (.slice A6 (M + 1) c6)) := ((KpE.below b5 hHs).trans ⟨gr6.size, fun i hi _ => gr6.block i (Nat.lt_of_lt_of_le hi (Nat.le_trans hHs b5.size)) (fun e => by have := own3.lt i e.symm; omega)⟩).trans (KpE.set_ w6 _ _ rfl)
        have hbw := (hJ.call b4).below.trans (bf.mono (Nat.le_succ _))
        have kf2 := (keepsFrom_belowE (B := Y.heap.size) b4).trans (kf.from Y.heap.size)
        generalize World.setCell w6 _ _ = W9 at *
        refine hK.out _ _ (⟨⟨J7.read 0, J7.inside⟩, X7.five0.1, X7.inside⟩) (fun hHeld => ?_)
        clear hK K
        try simp only [Act.put, List.getElem_toArray, List.getElem_cons_succ, List.getElem_cons_zero, List.setIfInBounds_toArray, List.set_cons_zero, List.set_cons_succ]
        refine wpAnyH_done (by kernel_rfl) ?_ _
        try dsimp only [Exit.inBlock, Exit.then]
        clear y0 yf yin z0 zin
        gi_wp2
        have hI9 := hst2 _ _ hIW kp
        rw [hYs] at kf2 kp hHs o7 ok6
        refine ⟨kf2, kp, ⟨Nat.le_trans hHs kp.1, ⟨fun x hx => by obtain rfl := List.mem_singleton.1 hx; exact J7, hbw⟩, _, ms ++ [⟨⟨xp, xi, xs, xh, xl⟩, p, A3, T.length, c3⟩], F7, ?_, ?_, ?_⟩, hI9⟩
        · rw [List.map_append, HQ.out, List.length_append, HM.out]
          exact o7
        · rw [List.map_append, HQ.out, List.length_append, List.length_append, hmn]
          rfl
        · rw [List.map_append, HQ.out]
          exact ok6
      · go_simp
        refine hK.out _ _ (hS _ b5) (fun hHeld => ?_)
        clear hK K
        try simp only [Act.put, List.getElem_toArray, List.getElem_cons_succ, List.getElem_cons_zero, List.setIfInBounds_toArray, List.set_cons_zero, List.set_cons_succ]
        refine wpAnyH_ready (rs := [0]) (by kernel_rfl) (by simp) (AllReadyH.cons rfl (fun K hK => ?_) AllReadyH.nil)
        go_simp
        refine hK.out _ _ (hS _ b5) (fun hHeld => ?_)
        clear hK K
        try simp only [Act.put, List.getElem_toArray, List.getElem_cons_succ, List.getElem_cons_zero, List.setIfInBounds_toArray, List.set_cons_zero, List.set_cons_succ]
        have O3 := own_below hrow b4
        obtain ⟨v', w6, hrun, o6, gr6, b6⟩ := en_app1 w3 Y.heap.size v M ms O3 ⟨⟨xp, xi, xs, xh, xl⟩, p, A3, T.length, c3⟩ hpl hs3
        obtain ⟨A6, c6, rfl⟩ := own_slice16 o6
        have own3 := O3.alloc (.cells (enV ⟨xp, xi, xs, xh, xl⟩ p A3 T.length c3) 39)
        have X6 := (bx.call b5).grown gr6 (own_ty own3 (bx.call b5) (by decide))
        have J6 := ((hJ.call b5).box 0).grown gr6 (own_ty own3 ((hJ.call b5).box 0) (by decide))
        obtain ⟨V6, F7, -, kf, bf⟩ := Boxed.appended (bv.call b4) (by decide) (own_mono O3 (show w.heap.size + 1 ≤ Y.heap.size by omega)) (by omega) (Nat.le_refl _) (own_mono o6 (show w.heap.size + 1 ≤ Y.heap.size by omega)) gr6
        have V6 : Box w6 (w.heap.size + 1) 27 #[v] := V6
        have F7 : Box (w6.setCell ⟨w.heap.size + 1, 0, none⟩ (.slice A6 (M + 1) c6)) (w.heap.size + 1) 27 #[.slice A6 (M + 1) c6] := F7
        have ok6 := ((((hok.call b4).snoc hmn (q := (p, ⟨xp, xi, xs, xh, xl⟩)) (m := ⟨⟨xp, xi, xs, xh, xl⟩, p, A3, T.length, c3⟩) rfl rfl (by rw [HT.out]) (by rw [HT.out]; exact hSd.more hs0)).call (chainA (Below.refl _ w3) _)).grown own3 (by decide) gr6).set_ V6 (by decide) 0 (.slice A6 (M + 1) c6)
        have o7 := own_apart o6 (p := ⟨w.heap.size + 1, 0, none⟩) (fun e => by have := o6.lt _ e; simp only at this; omega) (.slice A6 (M + 1) c6)
        have X7 := X6.apart (p := ⟨w.heap.size + 1, 0, none⟩) (X6.type_ne V6 (by decide)) (.slice A6 (M + 1) c6)
        have J7 := J6.apart (p := ⟨w.heap.size + 1, 0, none⟩) (by show w.heap.size ≠ w.heap.size + 1; omega) (.slice A6 (M + 1) c6)
        have y0 := V6.read 0
        have yf := V6.free 0
        have yin := V6.inside
        refine wpAnyH_ready (rs := [6]) (by kernel_rfl) (by simp) (AllReadyH.cons rfl (fun K hK => ?_) AllReadyH.nil)
        refine gen_step rfl _ _ _ rfl _ _ rfl rfl _ w6 hrun ?_
        refine hK.out _ _ (⟨⟨J6.read 0, J6.inside⟩, X6.five0.1, X6.inside⟩) (fun hHeld => ?_)
        clear hK K
        try simp only [Act.put, List.getElem_toArray, List.getElem_cons_succ, List.getElem_cons_zero, List.setIfInBounds_toArray, List.set_cons_zero, List.set_cons_succ]
        refine wpAnyH_ready (rs := [7]) (by kernel_rfl) (by simp) (AllReadyH.cons rfl (fun K hK => ?_) AllReadyH.nil)
        go_simp
        have kp : KpE Y.heap.size (fun i => i = w.heap.size + 1) W (w6.setCell ⟨w.heap.size + 1, 0, none⟩ (.slice A6 (M + 1) c6)) := ((KpE.below b5 hHs).trans ⟨gr6.size, fun i hi _ => gr6.block i (Nat.lt_of_lt_of_le hi (Nat.le_trans hHs b5.size)) (fun e => by have := own3.lt i e.symm; omega)⟩).trans (KpE.set_ w6 _ _ rfl)
        have hbw := (hJ.call b4).below.trans (bf.mono (Nat.le_succ _))
        have kf2 := (keepsFrom_belowE (B := Y.heap.size) b4).trans (kf.from Y.heap.size)
        generalize World.setCell w6 _ _ = W9 at *
        refine hK.out _ _ (⟨⟨J7.read 0, J7.inside⟩, X7.five0.1, X7.inside⟩) (fun hHeld => ?_)
        clear hK K
        try simp only [Act.put, List.getElem_toArray, List.getElem_cons_succ, List.getElem_cons_zero, List.setIfInBounds_toArray, List.set_cons_zero, List.set_cons_succ]
        refine wpAnyH_done (by kernel_rfl) ?_ _
        try dsimp only [Exit.inBlock, Exit.then]
        clear y0 yf yin z0 zin
        gi_wp2
        have hI9 := hst2 _ _ hIW kp
        rw [hYs] at kf2 kp hHs o7 ok6
        refine ⟨kf2, kp, ⟨Nat.le_trans hHs kp.1, ⟨fun x hx => by obtain rfl := List.mem_singleton.1 hx; exact J7, hbw⟩, _, ms ++ [⟨⟨xp, xi, xs, xh, xl⟩, p, A3, T.length, c3⟩], F7, ?_, ?_, ?_⟩, hI9⟩
        · rw [List.map_append, HQ.out, List.length_append, HM.out]
          exact o7
        · rw [List.map_append, HQ.out, List.length_append, List.length_append, hmn]
          rfl
        · rw [List.map_append, HQ.out]
          exact ok6
  case done =>
    rintro D xs W hD hxs ⟨⟨hHs, hJ, v, ms, bv, hrow, hmn, hok⟩, hIW⟩ hK2
    have hxs' : xs.map (fun x => x.1) = posL l := hxs
    rw [hxs', posL_len] at hrow hmn
    rw [hxs'] at hok
    have y0 := bv.read 0
    have yin := bv.inside
    obtain ⟨A6, c6, rfl⟩ := own_slice16 hrow
    try dsimp only [Exit.inBlock, Exit.then]
    go_wp2
    refine ⟨by simp, .inl ⟨_, _, rfl, run_takeDeferred hK2, ?_⟩⟩
    have bw := hJ.below.trans (belowK_b (w := w) (Nat.le_refl _) W D _ (.deferred none) (by omega) hK2 rfl rfl)
    have hr3 := ownsRow_putObj hrow (.deferred none) hK2 rfl
    have ok3 : EnOk (W.putObj D (.deferred none)) Y.heap.size S (posL l) ms := hok.keep fun b _ _ ⟨cs, fr, hc⟩ => World.putObj_heap_other fun e => by
      rw [e, hK2] at hc
      injection hc with hc
      cases hc
    rw [hYs] at hr3 ok3
    exact ⟨.slice A6 l.length c6, by simp [results, Tryd.results22, go_sem], bw, _, ms, rfl, hr3, hmn, ok3⟩
  case stop =>
    rintro D cc pre W _ _ hh _
    exact hh.elim
end Go.Proofs.YtkecekfapiegjaaDoor
/-
  Package proof's All of a tree.
-/
namespace Go.Proofs.YtkecekfapiegjaaDoor
set_option linter.unusedVariables false
set_option linter.unusedSimpArgs false
set_option maxRecDepth 10000
open Go.RowKit

/-- A tree's sides, by positions. -/
def sdsOf (w : Int) (l : List Lf) (k : Nat) (p : Nat) : List Nd := sibsN w (l.map (nodeOf w)) p k
theorem all16_tree {W : World} {q : TrG} {w : Int} {l : List Lf} {k : Nat} (h : TrAt W q w l k) (hF : FairT w l k) :
    Calls Tryd.prog 22 #[.pointer (some ⟨q.g, 0, none⟩)] W (fun e w' => Below W.heap.size W w' ∧ ∃ g c ms, e = .returned (.slice (some ⟨g, 0, none⟩) l.length c) ∧ W.heap.size ≤ g ∧ l.length ≤ c ∧ enS.Blk w' 39 g ms ∧ ms.length = l.length ∧ EnOk w' W.heap.size (sdsOf w l k) (posL l) ms) := by
  have hm := hF.most
  refine (all16_any (some ⟨q.g, 0, none⟩) l (by omega) (sdsOf w l k) (fun u => TrAt u q w l k) W h (fun u u' hu e => ?_) (fun u hu p hp => leaf15_any hu hF p hp) (fun u hu p x hx => ?_)).mono ?_
  · exact hu.keep h.inside fun b _ hb => e b hb
  · have hp : p < 2 ^ k := by rw [← hF.len]; exact (List.getElem?_eq_some_iff.1 hx).1
    have := entry16_any hu hF p hp x
    have hl : (sdsOf w l k p).length = k := sibs_len _ _ _ _
    rw [hl]
    exact this.mono fun e w' ⟨h1, A, c, h2, h3, _⟩ => ⟨h1, A, c, h2, h3⟩
  · rintro e w' ⟨hb, v, ms, rfl, ho, hl, hok⟩
    have hpos := hF.pos
    rw [← hl] at ho
    obtain ⟨g, c, rfl, hg, hc, hB⟩ := Sh.Blk.of_own (S := enS) ho (fun e => by rw [e] at hl; simp at hl; omega)
    rw [hl] at hc ⊢
    exact ⟨hb, g, c, ms, rfl, by omega, hc, hB, hl, hok.more (by omega)⟩
end Go.Proofs.YtkecekfapiegjaaDoor
