/-
  The document's Constant, Constants, First and Round, walked.
-/
import Derived.Test.YtlceniljnejjeaaDoorR4Prime
import Derived.Test.YtlceniljnejjeaaDoorR4Power
import Derived.Test.YtlceniljnejjeaaDoorR4Round
import Derived.Test.YtlceniljnejjeaaDoorR4Words
import Derived.Test.YtlceniljnejjeaaDoorU4Next
namespace Go.Proofs.YtlceniljnejjeaaDoor
set_option linter.unusedVariables false
set_option linter.unusedSimpArgs false
open Go.RowKit

theorem const_val : ∀ n : Nat, n < 64 → rootW (primeN n) 3 = iv (kB.getD n 0) := by decide +kernel
theorem first_val : ∀ n : Nat, n < 8 → rootW (primeN n) 2 = iv (st0.at n) := by decide +kernel
theorem prime_small : ∀ n : Nat, n < 64 → primeN n < 400 := by decide +kernel

/-- The first so many words of a state are laid. -/
def putN (s : St) : Nat → St
  | 0 => ⟨0, 0, 0, 0, 0, 0, 0, 0⟩
  | k + 1 => (putN s k).put k (s.at k)
theorem putN_all (s : St) : putN s 8 = s := by
  simp only [putN]
  exact St.put_all _ s

set_option maxHeartbeats 1000000 in
theorem rconst_any (k : Int) (w : World) : Calls Tryd.prog 17 #[.int .i64 k] w (Tells (.int .u32 (iv (kAt k))) w.heap.size w) := by
  by_cases h0 : k < 0
  · have e : (0 : Int) = iv (kAt k) := by unfold kAt; rw [if_neg (by omega)]; rfl
    have E := hideIt e
    clear e
    go_enter Tryd.func17, Tryd.ntmps17
    go_wp2
    rw [E.out]
    go_ret
    exact ⟨rfl, Below.refl _ _⟩
  by_cases h1 : 63 < k
  · have e : (0 : Int) = iv (kAt k) := by unfold kAt; rw [if_neg (by omega)]; rfl
    have E := hideIt e
    clear e
    go_enter Tryd.func17, Tryd.ntmps17
    go_wp2
    rw [E.out]
    go_ret
    exact ⟨rfl, Below.refl _ _⟩
  · obtain ⟨n, hn⟩ : ∃ n : Nat, k = n := ⟨k.toNat, by omega⟩
    subst hn
    have cP := fun u => prime_any n (by omega) u
    have hps := prime_small n (by omega)
    have hv := const_val n (by omega)
    rw [kAt_nat n (by omega)]
    obtain ⟨p, hp⟩ : ∃ p, primeN n = p := ⟨_, rfl⟩
    rw [hp] at cP hps hv
    have cR := fun u => root_any p ⟨by omega, by omega⟩ 3 (by omega) u
    rw [hv] at cR
    clear hp hv
    generalize iv (kB.getD n 0) = x at *
    go_enter Tryd.func17, Tryd.ntmps17
    go_wp2_with (first
      | (go_at_call 45; refine (cP _).mono ?_; rintro e w1 ⟨rfl, rfl⟩)
      | (go_at_call 44; refine (cR _).mono ?_; rintro e w2 ⟨rfl, b2⟩))
    go_ret
    exact ⟨rfl, b2⟩

set_option maxHeartbeats 2000000 in
theorem rconsts_any (w : World) : Calls Tryd.prog 23 #[] w fun e w' => ∃ g cap, e = .returned (.slice (some ⟨g, 0, none⟩) 64 cap) ∧ w.heap.size ≤ g ∧ g < w'.heap.size ∧
    (∀ i, i < 64 → w'.cell? ⟨g, i, none⟩ = some (.int .u32 (iv (kB.getD i 0)))) ∧ Below w.heap.size w w' := by
  obtain ⟨i0, hi, hz0, hz1, hz2⟩ := info_parts info_u32
  have hkl : kB.length = 64 := rfl
  generalize hkb : kB = ks at *
  go_enter Tryd.func23, Tryd.ntmps23
  go_wp2
  go_loopg [1, 2] 64 (fun gk v i wr => ∃ k : Nat, k ≤ 64 ∧ gk = 64 - k ∧ i = .int .i64 k ∧ wr.ownsRow w.heap.size 22 1 v k (w32s (ks.take k)) ∧ Below w.heap.size w wr)
  case atStart => exact ⟨0, by omega, rfl, rfl, World.ownsRow_nil _ _ _ _, Below.refl _ _⟩
  case round =>
    obtain ⟨k, hk, hgk, rfl, hown, L⟩ := hrel
    have HG := hideIt hgk
    clear hgk
    by_cases hlt : k < 64
    · have cK := fun u => rconst_any (k : Int) u
      rw [kAt_nat k hlt, hkb] at cK
      have hst : ks.take (k + 1) = ks.take k ++ [ks.getD k 0] := by
        rw [List.take_succ_eq_append_getElem (by omega), List.getD_eq_getElem?_getD, List.getElem?_eq_getElem (by omega)]; rfl
      have HS := hideIt hst
      clear hst
      generalize ks.getD k 0 = x at *
      have b1 : (k : Int) < 64 := by omega
      have hgs := L.size
      go_wp2_with (first
        | (go_at_call 17; refine (cK _).mono ?_; rintro e w1 ⟨rfl, b1'⟩
           have hown1 := own_below hown b1'
           have L1 := chain L b1'
           have hgs1 := L1.size)
        | (at_builtin; refine wp_append_new rfl _ _ 36 rfl w.heap.size 22 i0 (.int .u32 0) 4 Tryd.underlying36 hi hz0 hz1 hz2 rfl _ _ _ rfl hown1 #[.int .u32 (iv x)] rfl (by simp [Value.oneCell']) (by simp; omega) (by omega) hgs1 ?_))
      intro v2 w3 hown2 hb2 hk2
      have L3 := L1.trans (hb2 _ (Nat.le_refl _))
      have hown3 : w3.ownsRow w.heap.size 22 1 v2 (k + 1) (w32s (ks.take (k + 1))) := by rw [HS.out]; simpa [w32s] using hown2
      clear hk2 hb2 hown hown1 hown2 cK
      go_wp2
      go_roundg (64 - (k + 1))
      case measure => have := HG.out; omega
      case rel => exact ⟨k + 1, by omega, rfl, by go_num, hown3, L3⟩
    · have e : k = 64 := by omega
      subst e
      rw [List.take_of_length_le (Nat.le_of_eq hkl)] at hown
      obtain ⟨g, cap, rfl, hg, hlt', hc, hm, hr, hf⟩ := own_row hown (by omega)
      have hrd : ∀ i, i < 64 → wr.cell? ⟨g, i, none⟩ = some (.int .u32 (iv (ks.getD i 0))) := fun i hi => hr i _ (by
        simp [w32s, List.getD_eq_getElem?_getD, hkl, hi])
      clear HG hown hr
      go_wp2
      go_ret
      exact ⟨g, cap, rfl, hg, hlt', hrd, L⟩

set_option maxHeartbeats 2000000 in
theorem rfirst_any (w : World) : Calls Tryd.prog 19 #[] w (Tells (.agg #[.int .u32 (iv st0.a), .int .u32 (iv st0.b), .int .u32 (iv st0.c), .int .u32 (iv st0.d), .int .u32 (iv st0.e), .int .u32 (iv st0.f), .int .u32 (iv st0.g), .int .u32 (iv st0.h)]) w.heap.size w) := by
  have H0 : Has w [(w.heap.size + 1, 23, St.cs ⟨0, 0, 0, 0, 0, 0, 0, 0⟩), (w.heap.size, 23, St.cs ⟨0, 0, 0, 0, 0, 0, 0, 0⟩)] ((w.alloc (.cells (St.cs ⟨0, 0, 0, 0, 0, 0, 0, 0⟩) 23)).alloc (.cells (St.cs ⟨0, 0, 0, 0, 0, 0, 0, 0⟩) 23)) :=
    ((Has.start w).add 23 (St.cs ⟨0, 0, 0, 0, 0, 0, 0, 0⟩)).addAt 23 (St.cs ⟨0, 0, 0, 0, 0, 0, 0, 0⟩) (by simp)
  have hall : putN st0 8 = st0 := putN_all st0
  have HALL := hideIt hall
  clear hall
  go_enter Tryd.func19, Tryd.ntmps19
  go_upto_region 2 with fail
  generalize hW : World.alloc (World.alloc _ _) _ = W
  have H : Has w [(w.heap.size + 1, 23, St.cs ⟨0, 0, 0, 0, 0, 0, 0, 0⟩), (w.heap.size, 23, St.cs ⟨0, 0, 0, 0, 0, 0, 0, 0⟩)] W := by rw [← hW]; exact H0
  clear H0 hW
  go_wp2
  go_loopg [2] 8 (fun gk i wr => ∃ k : Nat, k ≤ 8 ∧ gk = 8 - k ∧ i = .int .i64 k ∧ Has w [(w.heap.size + 1, 23, (putN st0 k).cs), (w.heap.size, 23, St.cs ⟨0, 0, 0, 0, 0, 0, 0, 0⟩)] wr)
  case atStart => exact ⟨0, by omega, rfl, rfl, H⟩
  case round =>
    clear H
    obtain ⟨k, hk, hgk, rfl, H⟩ := hrel
    have HG := hideIt hgk
    clear hgk
    by_cases hlt : k < 8
    · have cP := fun u => prime_any k (by omega) u
      have hps := prime_small k (by omega)
      have hv := first_val k hlt
      obtain ⟨p, hp⟩ : ∃ p, primeN k = p := ⟨_, rfl⟩
      rw [hp] at cP hps hv
      have cR := fun u => root_any p ⟨by omega, by omega⟩ 2 (by omega) u
      rw [hv] at cR
      have hput := St.cs_put (putN st0 k) k (st0.at k) hlt
      have hsucc : (putN st0 k).put k (st0.at k) = putN st0 (k + 1) := rfl
      rw [hsucc] at hput
      have HS := hideIt hput
      clear hp hv hput hsucc
      obtain ⟨S, hS⟩ : ∃ S, putN st0 k = S := ⟨_, rfl⟩
      rw [hS] at H HS
      generalize st0.at k = x at *
      have HSS := hideIt hS
      clear hS
      have b1 : (k : Int) < 8 := by omega
      go_wp2_with (first
        | (go_at_call 45; refine (cP _).mono ?_; rintro e w1 ⟨rfl, rfl⟩)
        | (go_at_call 44; refine (cR _).mono ?_; rintro e w2 ⟨rfl, b2⟩
           have H2 := H.call b2
           have f2 := (H2.box 0).free k
           have r2 := (H2.box 0).read k
           rw [St.cs_at _ _ hlt] at r2
           have hin2 := (H2.box 0).inside))
      have H3 := H2.wrote (by omega) (by simp) k (.int .u32 (iv x))
      rw [HS.out] at H3
      clear H H2 f2 r2 hin2
      go_roundg (8 - (k + 1))
      case measure => have := HG.out; omega
      case rel => exact ⟨k + 1, by omega, rfl, by go_num, H3⟩
    · have e : k = 8 := by omega
      subst e
      rw [HALL.out] at H
      clear HG HALL
      have hst0 : st0 = st0 := rfl
      generalize st0 = F at *
      obtain ⟨r0, r1, r2, r3, r4, r5, r6, r7⟩ := (H.box 0).st
      obtain ⟨z0, z1, z2, z3, z4, z5, z6, z7, z8⟩ := (H.box 1).eight
      obtain ⟨y0, y1, y2, y3, y4, y5, y6, y7⟩ := (H.box 1).st
      have hin := (H.box 0).inside
      go_wp2
      generalize hX : World.setCell (World.setCell _ _ _) _ _ = X
      have hbx : Box X w.heap.size 23 F.cs := by rw [← hX]; exact Box.wrote8 (H.box 1) F
      have hbl : Below w.heap.size w X := by rw [← hX]; exact below_set8 H.below (by omega) F
      clear hX y0 y1 y2 y3 y4 y5 y6 y7 z0 z1 z2 z3 z4 z5 z6 z7 z8 r0 r1 r2 r3 r4 r5 r6 r7 hin
      obtain ⟨x0, x1, x2, x3, x4, x5, x6, x7⟩ := hbx.st
      have hgx := hbx.inside
      exact bodyPost_ret (v := .agg #[.int .u32 (iv F.a), .int .u32 (iv F.b), .int .u32 (iv F.c), .int .u32 (iv F.d), .int .u32 (iv F.e), .int .u32 (iv F.f), .int .u32 (iv F.g), .int .u32 (iv F.h)]) (by simp [results, Tryd.results19, go_sem, x0, x1, x2, x3, x4, x5, x6, x7]) rfl ⟨rfl, hbl⟩
end Go.Proofs.YtlceniljnejjeaaDoor
