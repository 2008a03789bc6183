/-
  The law ProofClimbs (the stage's theorem): from each leaf's node, by its proof, one climbs to the root; it has the tree's shape, and no other height's. Conditions: none.
-/
import Derived.Test.YtjndabnegmecmaaDoorU16Awak
import Derived.Test.YtjndabnegmecmaaDoorM16Fn
import Derived.Test.YtjndabnegmecmaaDoorM14Cl
namespace Go.Proofs.YtjndabnegmecmaaDoor
set_option linter.unusedVariables false
set_option linter.unusedSimpArgs false
set_option maxRecDepth 10000
open Go.ChangeShapes Go.WideShapes Go.ChangeAt Go.RowKit

theorem log_few16 {n : Int} {l : List Lf} {k : Nat} (h : FairT n l k) (hl : l.length ≤ 70) : k ≤ 6 := by
  by_cases hk : k ≤ 6
  · exact hk
  · have h1 : 2 ^ 7 ≤ 2 ^ k := Nat.pow_le_pow_right (by decide) (by omega)
    rw [← h.len] at h1
    omega
theorem run_neq_n16 (a b : Int) (u : World) : (binOp .neq 31 (.agg #[.int .u64 a, .int .u64 b]) (.agg #[.int .u64 a, .int .u64 b])).run Tryd.prog u = .ok (.bool false) u := by
  have e := equal_n7 9998 a b a b u
  rw [run_neq_struct, e]
  simp
set_option maxRecDepth 100000 in
set_option maxHeartbeats 8000000 in
theorem proofClimbs_fair (n : Int) (A : Option Addr) (c : Nat) (l : List Lf) (hc : l.length ≤ c) (hcm : c ≤ 9223372036854775807) (hg : greatLf l = false) (hF : FairT n l (Nat.log2 l.length))
    (w : World) (hR : lfS.Row w w.heap.size A l) (hK : Tab w) (hU : TabU w) :
    Calls Tryd.prog 3 #[.int .i64 n, .slice A l.length c] w (Tells (.bool true) w.heap.size w) := by
  obtain ⟨hl70, hsz⟩ := greatLf_no hg
  have hk := log_few16 hF hl70
  have cW := fun u hu hv => awake16_any u hu hv
  have cG := fun u hu => great15_any A c l (by omega) (fun x hx => ⟨by have := hsz x hx; omega, by have := hsz x hx; omega⟩) u hu
  rw [hg] at cG
  obtain ⟨k, hkk⟩ : ∃ k, Nat.log2 l.length = k := ⟨_, rfl⟩
  rw [hkk] at hF hk
  clear hkk
  have c1 := fun u hR hT hV => new15_fair n A c l u hF hR hT hV
  have hlen := hF.len
  have hall := hF.all
  have HF := hideIt hF
  obtain ⟨N, hN⟩ : ∃ N, l.length = N := ⟨_, rfl⟩
  rw [hN] at cG c1 hlen hl70 hc ⊢
  have HN := hideIt hN
  have HL := hideIt hlen
  clear hg hF hN hlen
  have H0 := Has.start w
  go_enter Tryd.func3, Tryd.ntmps3
  go_upto_region 8 with (first
    | (go_at_call 6; refine (cW _ hK hU).mono ?_; rintro e w1 ⟨rfl, b1⟩; have K1 := H0.call b1)
    | (go_at_call 7; refine (cG _ (hR.on K1.below)).mono ?_; rintro e w2 ⟨rfl, rfl⟩)
    | (go_at_call 8; refine (c1 _ (hR.on K1.below) (hK.call K1.below) (hU.call K1.below)).mono ?_; rintro e w3 ⟨b3, q, rfl, hT3, hq3⟩; have K3 := K1.call b3)
    | fail)
  have hKw := K3.below
  have hR3 := hR.on hKw
  have hK3 := hK.call hKw
  have hU3 := hU.call hKw
  clear K1 K3 b1 b3 cW cG c1 H0 hR hK hU hq3
  have cR := fun u (hu : TrAt u q n l k) => root15_any hu HF.out
  generalize hTop : topN n l k = T at *
  have HTop := hideIt hTop
  clear hTop
  obtain ⟨ts, th, tl⟩ := T
  simp only [rootV] at cR
  have J0 := Has.start w3
  go_upto_region 9 with (first
    | (go_at_call 9; refine (cR _ hT3).mono ?_; rintro e w4 ⟨rfl, b4⟩; have J1 := (J0.call b4).add 33 #[.string ts, .int .u64 th, .int .u64 tl, .int .i64 k])
    | fail)
  obtain ⟨g7, hg7⟩ : ∃ g, w4.heap.size = g := ⟨_, rfl⟩
  rw [hg7] at J1 ⊢
  change Code.wp _ _ _ _ (w4.alloc (.cells #[.string ts, .int .u64 th, .int .u64 tl, .int .i64 k] 33))
  generalize w4.alloc (.cells #[.string ts, .int .u64 th, .int .u64 tl, .int .i64 k] 33) = W4 at *
  clear cR b4 hg7 J0
  have en := fun u => run_neq_n16 th tl u
  go_wp2
  go_loopg [8] N (fun gk i wr => ∃ p : Nat, p ≤ N ∧ N - p ≤ gk ∧ i = .int .i64 p ∧ Has w3 [(g7, 33, #[.string ts, .int .u64 th, .int .u64 tl, .int .i64 k])] wr)
  case atStart => exact ⟨0, Nat.zero_le _, by omega, rfl, J1⟩
  case round =>
    obtain ⟨p, hp, hgk, rfl, J⟩ := hrel
    have HG := hideIt hgk
    clear hgk J1
    by_cases hlt : p < N
    · obtain ⟨x, hx0⟩ : ∃ r, l[p]? = some r := ⟨_, List.getElem?_eq_getElem (by rw [HN.out]; exact hlt)⟩
      have hp2 : p < 2 ^ k := by rw [← HL.out]; exact hlt
      obtain ⟨h1, h2⟩ := hsz x (List.mem_of_getElem? hx0)
      obtain ⟨-, h3, h4⟩ := hall x (List.mem_of_getElem? hx0)
      have cN := fun u hu hv => leafNode_any n x (by omega) (by omega) h3 h4 u hu hv
      have hnm := nodeOf_fine HF.out.may (hall x (List.mem_of_getElem? hx0)).1 h3 h4
      have cO := of16_in (hT3.call J.below) HF.out p hp2 hx0
      have s1 := HF.out.shape hp2
      have s2 := HF.out.misshape hp2
      have s3 := HF.out.climbs hp2 hx0
      rw [HTop.out] at s3
      have hsl := sibs_len n (l.map (nodeOf n)) p k
      have hsh := HF.out.sidesHalved hp2
      generalize sibsN n (l.map (nodeOf n)) p k = S at *
      have cS1 := fun A' c' u hR => shape16_any n k p (by omega) A' c' S (by omega) u hR
      have cS2 := fun A' c' u hR => shape16_any n ((k : Int) + 1) p (by omega) A' c' S (by omega) u hR
      have cC := fun A' c' u hR hT => climb14_any n (nodeOf n x) p (by omega) A' c' S (by omega) hnm.2.1 hsh u hR hT
      rw [s1] at cS1
      rw [s2] at cS2
      rw [s3] at cC
      rw [hsl] at cS1 cS2 cC
      generalize nodeOf n x = X at *
      obtain ⟨xns, xnh, xnl⟩ := X
      have hqx := fun (u : World) => (show (binOp .neq 36 x.val x.val).run Tryd.prog u = .ok (.bool false) u by rw [run_neq_lf, (Lf.same_iff _ _).2 rfl]; rfl)
      obtain ⟨ad, rfl, g1, p0, p1, p2, p3, p4⟩ := lf_get (hR3.on J.below) hx0
      have hRr := hR3.on J.below
      have HX := hideIt hx0
      obtain ⟨xp, xi, xs, xh, xl⟩ := x
      simp only [Nd.val, Lf.val] at cN cO cC hqx p0 p1 p2 p3 p4
      have hlti : (p : Int) < (N : Int) := by omega
      have hpu : IntKind.u64.wrap (p : Int) = (p : Int) := by rw [IntKind.wrap_u64]; omega
      have hk1 : IntKind.i64.wrap ((k : Int) + 1) = (k : Int) + 1 := by rw [IntKind.wrap_i64]; omega
      clear hx0 h1 h2 h3 h4 s1 s2 s3 hsl hsh hnm p0 p1 p2 p3 p4 g1
      go_upto_region 13 with (first
        | (go_at_call 10; refine cO.mono ?_; rintro e w5 ⟨b5, A5, c5, rfl, hSd⟩; have J5b := chainA b5 (.cells (enV ⟨xp, xi, xs, xh, xl⟩ p A5 k c5) 41); have X5 := Box.made w5 41 (enV ⟨xp, xi, xs, xh, xl⟩ p A5 k c5))
        | fail)
      have BS := (hSd.call (chainA (Below.refl w5.heap.size w5) (.cells (enV ⟨xp, xi, xs, xh, xl⟩ p A5 k c5) 41))).row
      obtain ⟨g9, hg9⟩ : ∃ g, w5.heap.size = g := ⟨_, rfl⟩
      rw [hg9] at X5 ⊢
      change Code.wp _ _ _ _ (w5.alloc (.cells (enV ⟨xp, xi, xs, xh, xl⟩ p A5 k c5) 41))
      generalize w5.alloc (.cells (enV ⟨xp, xi, xs, xh, xl⟩ p A5 k c5) 41) = W5 at *
      clear b5 hg9 cO hSd
      have hKx := hK3.call (chain J.below J5b)
      have hUx := hU3.call (chain J.below J5b)
      have cS1 := cS1 A5 c5
      have cS2 := cS2 A5 c5
      have cC := cC A5 c5
      have hS : ∀ u, Below W5.heap.size W5 u → (u.cell? ⟨g9, 0, none⟩ = some (.bool xp) ∧ u.cell? ⟨g9, 1, none⟩ = some (.string xi) ∧ u.cell? ⟨g9, 2, none⟩ = some (.string xs) ∧ u.cell? ⟨g9, 3, none⟩ = some (.int .u64 xh) ∧ u.cell? ⟨g9, 4, none⟩ = some (.int .u64 xl) ∧ u.cell? ⟨g9, 5, none⟩ = some (.int .u64 p) ∧ u.cell? ⟨g9, 6, none⟩ = some (.slice A5 k c5) ∧ g9 < u.heap.size) ∧ (u.cell? ⟨g7, 3, none⟩ = some (.int .i64 k) ∧ g7 < u.heap.size) ∧
        (u.cell? (ad.add (p * 5)) = some (.bool xp) ∧ u.cell? ⟨(ad.add (p * 5)).block, (ad.add (p * 5)).off + 1, none⟩ = some (.string xi) ∧ u.cell? ⟨(ad.add (p * 5)).block, (ad.add (p * 5)).off + 2, none⟩ = some (.string xs) ∧ u.cell? ⟨(ad.add (p * 5)).block, (ad.add (p * 5)).off + 3, none⟩ = some (.int .u64 xh) ∧ u.cell? ⟨(ad.add (p * 5)).block, (ad.add (p * 5)).off + 4, none⟩ = some (.int .u64 xl) ∧ (ad.add (p * 5)).block < u.heap.size) := fun u hu => by
        have B9 := X5.call hu
        have B7 := (J.call (chain J5b hu)).box 0
        obtain ⟨ad', e, q1, q2, q3, q4, q5, q6⟩ := lf_get (hRr.on (chain J5b hu)) HX.out
        injection e with e
        subst e
        exact ⟨⟨B9.read 0, B9.read 1, B9.read 2, B9.read 3, B9.read 4, B9.read 5, B9.read 6, B9.inside⟩, ⟨B7.read 3, B7.inside⟩, q2, q3, q4, q5, q6, q1⟩
      have b0 := (Below.refl W5.heap.size W5).drew
      refine wp_region_held_drew (S := fun u => (u.cell? ⟨g9, 0, none⟩ = some (.bool xp) ∧ u.cell? ⟨g9, 1, none⟩ = some (.string xi) ∧ u.cell? ⟨g9, 2, none⟩ = some (.string xs) ∧ u.cell? ⟨g9, 3, none⟩ = some (.int .u64 xh) ∧ u.cell? ⟨g9, 4, none⟩ = some (.int .u64 xl) ∧ u.cell? ⟨g9, 5, none⟩ = some (.int .u64 p) ∧ u.cell? ⟨g9, 6, none⟩ = some (.slice A5 k c5) ∧ g9 < u.heap.size) ∧ (u.cell? ⟨g7, 3, none⟩ = some (.int .i64 k) ∧ g7 < u.heap.size) ∧
        (u.cell? (ad.add (p * 5)) = some (.bool xp) ∧ u.cell? ⟨(ad.add (p * 5)).block, (ad.add (p * 5)).off + 1, none⟩ = some (.string xi) ∧ u.cell? ⟨(ad.add (p * 5)).block, (ad.add (p * 5)).off + 2, none⟩ = some (.string xs) ∧ u.cell? ⟨(ad.add (p * 5)).block, (ad.add (p * 5)).off + 3, none⟩ = some (.int .u64 xh) ∧ u.cell? ⟨(ad.add (p * 5)).block, (ad.add (p * 5)).off + 4, none⟩ = some (.int .u64 xl) ∧ (ad.add (p * 5)).block < u.heap.size)) (by kernel_rfl) (hS _ b0) (fun hHeld => ?_)
      generalize W5.drew = Wd at *
      refine wpAnyH_take (i := 0) (v := ?_) rfl (by kernel_rfl) (by kernel_rfl) (by kernel_rfl) (fun _ _ _ h => h) (Or.inl ⟨by rfl, ?_⟩) (by assumption) ?_
      rotate_left 1
      · intro w hSw; (try dsimp only at hSw); go_simp; try with_reducible rfl
      try simp only [Act.put, List.getElem_toArray, List.getElem_cons_succ, List.getElem_cons_zero, List.setIfInBounds_toArray, List.set_cons_zero, List.set_cons_succ]
      refine wpAnyH_take (i := 1) (v := ?_) rfl (by kernel_rfl) (by kernel_rfl) (by kernel_rfl) (fun _ _ _ h => h) (Or.inl ⟨by rfl, ?_⟩) (by assumption) ?_
      rotate_left 1
      · intro w hSw; (try dsimp only at hSw); go_simp; try with_reducible rfl
      try simp only [Act.put, List.getElem_toArray, List.getElem_cons_succ, List.getElem_cons_zero, List.setIfInBounds_toArray, List.set_cons_zero, List.set_cons_succ]
      refine wpAnyH_take (i := 2) (v := ?_) rfl (by kernel_rfl) (by kernel_rfl) (by kernel_rfl) (fun _ _ _ h => h) (Or.inl ⟨by rfl, ?_⟩) (by assumption) ?_
      rotate_left 1
      · intro w hSw; (try dsimp only at hSw); go_simp; try with_reducible rfl
      try simp only [Act.put, List.getElem_toArray, List.getElem_cons_succ, List.getElem_cons_zero, List.setIfInBounds_toArray, List.set_cons_zero, List.set_cons_succ]
      refine wpAnyH_take (i := 3) (v := ?_) rfl (by kernel_rfl) (by kernel_rfl) (by kernel_rfl) (fun _ _ _ h => h) (Or.inl ⟨by rfl, ?_⟩) (by assumption) ?_
      rotate_left 1
      · intro w hSw; (try dsimp only at hSw); go_simp; try with_reducible rfl
      try simp only [Act.put, List.getElem_toArray, List.getElem_cons_succ, List.getElem_cons_zero, List.setIfInBounds_toArray, List.set_cons_zero, List.set_cons_succ]
      refine wpAnyH_take (i := 4) (v := ?_) rfl (by kernel_rfl) (by kernel_rfl) (by kernel_rfl) (fun _ _ _ h => h) (Or.inl ⟨by rfl, ?_⟩) (by assumption) ?_
      rotate_left 1
      · intro w hSw; (try dsimp only at hSw); go_simp; try with_reducible rfl
      try simp only [Act.put, List.getElem_toArray, List.getElem_cons_succ, List.getElem_cons_zero, List.setIfInBounds_toArray, List.set_cons_zero, List.set_cons_succ]
      refine wpAnyH_take (i := 5) (v := ?_) rfl (by kernel_rfl) (by kernel_rfl) (by kernel_rfl) (fun _ _ _ h => h) (Or.inl ⟨by rfl, ?_⟩) (by assumption) ?_
      rotate_left 1
      · intro w hSw; (try dsimp only at hSw); go_simp; try with_reducible rfl
      try simp only [Act.put, List.getElem_toArray, List.getElem_cons_succ, List.getElem_cons_zero, List.setIfInBounds_toArray, List.set_cons_zero, List.set_cons_succ]
      refine wpAnyH_take (i := 6) (v := ?_) rfl (by kernel_rfl) (by kernel_rfl) (by kernel_rfl) (fun _ _ _ h => h) (Or.inl ⟨by rfl, ?_⟩) (by assumption) ?_
      rotate_left 1
      · intro w hSw; (try dsimp only at hSw); go_simp; try with_reducible rfl
      try simp only [Act.put, List.getElem_toArray, List.getElem_cons_succ, List.getElem_cons_zero, List.setIfInBounds_toArray, List.set_cons_zero, List.set_cons_succ]
      refine wpAnyH_take (i := 7) (v := ?_) rfl (by kernel_rfl) (by kernel_rfl) (by kernel_rfl) (fun _ _ _ h => h) (Or.inl ⟨by rfl, ?_⟩) (by assumption) ?_
      rotate_left 1
      · intro w hSw; (try dsimp only at hSw); go_simp; try with_reducible rfl
      try simp only [Act.put, List.getElem_toArray, List.getElem_cons_succ, List.getElem_cons_zero, List.setIfInBounds_toArray, List.set_cons_zero, List.set_cons_succ]
      refine wpAnyH_take (i := 8) (v := ?_) rfl (by kernel_rfl) (by kernel_rfl) (by kernel_rfl) (fun _ _ _ h => h) (Or.inl ⟨by rfl, ?_⟩) (by assumption) ?_
      rotate_left 1
      · intro w hSw; (try dsimp only at hSw); go_simp; try with_reducible rfl
      try simp only [Act.put, List.getElem_toArray, List.getElem_cons_succ, List.getElem_cons_zero, List.setIfInBounds_toArray, List.set_cons_zero, List.set_cons_succ]
      refine wpAnyH_take (i := 9) (v := ?_) rfl (by kernel_rfl) (by kernel_rfl) (by kernel_rfl) (fun _ _ _ h => h) (Or.inl ⟨by rfl, ?_⟩) (by assumption) ?_
      rotate_left 1
      · intro w hSw; (try dsimp only at hSw); go_simp; try with_reducible rfl
      try simp only [Act.put, List.getElem_toArray, List.getElem_cons_succ, List.getElem_cons_zero, List.setIfInBounds_toArray, List.set_cons_zero, List.set_cons_succ]
      refine wpAnyH_take (i := 10) (v := ?_) rfl (by kernel_rfl) (by kernel_rfl) (by kernel_rfl) (fun _ _ _ h => h) (Or.inl ⟨by rfl, ?_⟩) (by assumption) ?_
      rotate_left 1
      · intro w hSw; (try dsimp only at hSw); go_simp; try with_reducible rfl
      try simp only [Act.put, List.getElem_toArray, List.getElem_cons_succ, List.getElem_cons_zero, List.setIfInBounds_toArray, List.set_cons_zero, List.set_cons_succ]
      refine wpAnyH_take (i := 11) (v := ?_) rfl (by kernel_rfl) (by kernel_rfl) (by kernel_rfl) (fun _ _ _ h => h) (Or.inl ⟨by rfl, ?_⟩) (by assumption) ?_
      rotate_left 1
      · intro w hSw; (try dsimp only at hSw); go_simp; try with_reducible rfl
      try simp only [Act.put, List.getElem_toArray, List.getElem_cons_succ, List.getElem_cons_zero, List.setIfInBounds_toArray, List.set_cons_zero, List.set_cons_succ]
      refine wpAnyH_take (i := 12) (v := ?_) rfl (by kernel_rfl) (by kernel_rfl) (by kernel_rfl) (fun _ _ _ h => h) (Or.inl ⟨by rfl, ?_⟩) (by assumption) ?_
      rotate_left 1
      · intro w hSw; (try dsimp only at hSw); go_simp; try with_reducible rfl
      try simp only [Act.put, List.getElem_toArray, List.getElem_cons_succ, List.getElem_cons_zero, List.setIfInBounds_toArray, List.set_cons_zero, List.set_cons_succ]
      refine wpAnyH_take (i := 13) (v := ?_) rfl (by kernel_rfl) (by kernel_rfl) (by kernel_rfl) (fun _ _ _ h => h) (Or.inl ⟨by rfl, ?_⟩) (by assumption) ?_
      rotate_left 1
      · intro w hSw; (try dsimp only at hSw); go_simp; try with_reducible rfl
      try simp only [Act.put, List.getElem_toArray, List.getElem_cons_succ, List.getElem_cons_zero, List.setIfInBounds_toArray, List.set_cons_zero, List.set_cons_succ]
      refine wpAnyH_take (i := 14) (v := ?_) rfl (by kernel_rfl) (by kernel_rfl) (by kernel_rfl) (fun _ _ _ h => h) (Or.inl ⟨by rfl, ?_⟩) (by assumption) ?_
      rotate_left 1
      · intro w hSw; (try dsimp only at hSw); go_simp; try with_reducible rfl
      try simp only [Act.put, List.getElem_toArray, List.getElem_cons_succ, List.getElem_cons_zero, List.setIfInBounds_toArray, List.set_cons_zero, List.set_cons_succ]
      refine wpAnyH_take (i := 15) (v := ?_) rfl (by kernel_rfl) (by kernel_rfl) (by kernel_rfl) (fun _ _ _ h => h) (Or.inl ⟨by rfl, ?_⟩) (by assumption) ?_
      rotate_left 1
      · intro w hSw; (try dsimp only at hSw); go_simp; try with_reducible rfl
      try simp only [Act.put, List.getElem_toArray, List.getElem_cons_succ, List.getElem_cons_zero, List.setIfInBounds_toArray, List.set_cons_zero, List.set_cons_succ]
      refine wpAnyH_take (i := 16) (v := ?_) rfl (by kernel_rfl) (by kernel_rfl) (by kernel_rfl) (fun _ _ _ h => h) (Or.inl ⟨by rfl, ?_⟩) (by assumption) ?_
      rotate_left 1
      · intro w hSw; (try dsimp only at hSw); go_simp; try with_reducible rfl
      try simp only [Act.put, List.getElem_toArray, List.getElem_cons_succ, List.getElem_cons_zero, List.setIfInBounds_toArray, List.set_cons_zero, List.set_cons_succ]
      refine wpAnyH_take (i := 17) (v := ?_) rfl (by kernel_rfl) (by kernel_rfl) (by kernel_rfl) (fun _ _ _ h => h) (Or.inl ⟨by rfl, ?_⟩) (by assumption) ?_
      rotate_left 1
      · intro w hSw; (try dsimp only at hSw); go_simp; try with_reducible rfl
      try simp only [Act.put, List.getElem_toArray, List.getElem_cons_succ, List.getElem_cons_zero, List.setIfInBounds_toArray, List.set_cons_zero, List.set_cons_succ]
      refine wpAnyH_take (i := 18) (v := ?_) rfl (by kernel_rfl) (by kernel_rfl) (by kernel_rfl) (fun _ _ _ h => h) (Or.inl ⟨by rfl, ?_⟩) (by assumption) ?_
      rotate_left 1
      · intro w hSw; (try dsimp only at hSw); go_simp; try with_reducible rfl
      try simp only [Act.put, List.getElem_toArray, List.getElem_cons_succ, List.getElem_cons_zero, List.setIfInBounds_toArray, List.set_cons_zero, List.set_cons_succ]
      refine wpAnyH_take (i := 19) (v := ?_) rfl (by kernel_rfl) (by kernel_rfl) (by kernel_rfl) (fun _ _ _ h => h) (Or.inl ⟨by rfl, ?_⟩) (by assumption) ?_
      rotate_left 1
      · intro w hSw; (try dsimp only at hSw); go_simp; try with_reducible rfl
      try simp only [Act.put, List.getElem_toArray, List.getElem_cons_succ, List.getElem_cons_zero, List.setIfInBounds_toArray, List.set_cons_zero, List.set_cons_succ]
      refine wpAnyH_take (i := 20) (v := ?_) rfl (by kernel_rfl) (by kernel_rfl) (by kernel_rfl) (fun _ _ _ h => h) (Or.inl ⟨by rfl, ?_⟩) (by assumption) ?_
      rotate_left 1
      · intro w hSw; (try dsimp only at hSw); go_simp; try with_reducible rfl
      try simp only [Act.put, List.getElem_toArray, List.getElem_cons_succ, List.getElem_cons_zero, List.setIfInBounds_toArray, List.set_cons_zero, List.set_cons_succ]
      refine wpAnyH_take (i := 21) (v := ?_) rfl (by kernel_rfl) (by kernel_rfl) (by kernel_rfl) (fun _ _ _ h => h) (Or.inl ⟨by rfl, ?_⟩) (by assumption) ?_
      rotate_left 1
      · intro w hSw; (try dsimp only at hSw); go_simp; try with_reducible rfl
      try simp only [Act.put, List.getElem_toArray, List.getElem_cons_succ, List.getElem_cons_zero, List.setIfInBounds_toArray, List.set_cons_zero, List.set_cons_succ]
      refine wpAnyH_take (i := 22) (v := ?_) rfl (by kernel_rfl) (by kernel_rfl) (by kernel_rfl) (fun _ _ _ h => h) (Or.inl ⟨by rfl, ?_⟩) (by assumption) ?_
      rotate_left 1
      · intro w hSw; (try dsimp only at hSw); go_simp; try with_reducible rfl
      try simp only [Act.put, List.getElem_toArray, List.getElem_cons_succ, List.getElem_cons_zero, List.setIfInBounds_toArray, List.set_cons_zero, List.set_cons_succ]
      refine wpAnyH_take (i := 23) (v := ?_) rfl (by kernel_rfl) (by kernel_rfl) (by kernel_rfl) (fun _ _ _ h => h) (Or.inl ⟨by rfl, ?_⟩) (by assumption) ?_
      rotate_left 1
      · intro w hSw; (try dsimp only at hSw); go_simp; try with_reducible rfl
      try simp only [Act.put, List.getElem_toArray, List.getElem_cons_succ, List.getElem_cons_zero, List.setIfInBounds_toArray, List.set_cons_zero, List.set_cons_succ]
      refine wpAnyH_take (i := 24) (v := ?_) rfl (by kernel_rfl) (by kernel_rfl) (by kernel_rfl) (fun _ _ _ h => h) (Or.inl ⟨by rfl, ?_⟩) (by assumption) ?_
      rotate_left 1
      · intro w hSw; (try dsimp only at hSw); go_simp; try with_reducible rfl
      try simp only [Act.put, List.getElem_toArray, List.getElem_cons_succ, List.getElem_cons_zero, List.setIfInBounds_toArray, List.set_cons_zero, List.set_cons_succ]
      refine wpAnyH_ready (rs := [25]) (by kernel_rfl) (by simp) (AllReadyH.cons rfl (fun K hK => ?_) AllReadyH.nil)
      go_simp
      go_at_call 11
      refine (cS1 _ (BS.on b0)).mono ?_
      rintro e w6 ⟨rfl, b6⟩
      have b1 := chain b0 b6
      try simp only []
      refine hK.out _ _ (hS _ b1) (fun hHeld => ?_)
      clear hK K
      try simp only [Act.put, List.getElem_toArray, List.getElem_cons_succ, List.getElem_cons_zero, List.setIfInBounds_toArray, List.set_cons_zero, List.set_cons_succ]
      refine wpAnyH_take (i := 26) (v := ?_) rfl (by kernel_rfl) (by kernel_rfl) (by kernel_rfl) (fun _ _ _ h => h) (Or.inl ⟨by rfl, ?_⟩) (by assumption) ?_
      rotate_left 1
      · intro w hSw; (try dsimp only at hSw); go_simp; try with_reducible rfl
      try simp only [Act.put, List.getElem_toArray, List.getElem_cons_succ, List.getElem_cons_zero, List.setIfInBounds_toArray, List.set_cons_zero, List.set_cons_succ]
      refine wpAnyH_take (i := 27) (v := ?_) rfl (by kernel_rfl) (by kernel_rfl) (by kernel_rfl) (fun _ _ _ h => h) (Or.inl ⟨by rfl, ?_⟩) (by assumption) ?_
      rotate_left 1
      · intro w hSw; (try dsimp only at hSw); go_simp; try with_reducible rfl
      try simp only [Act.put, List.getElem_toArray, List.getElem_cons_succ, List.getElem_cons_zero, List.setIfInBounds_toArray, List.set_cons_zero, List.set_cons_succ]
      refine wpAnyH_take (i := 28) (v := ?_) rfl (by kernel_rfl) (by kernel_rfl) (by kernel_rfl) (fun _ _ _ h => h) (Or.inl ⟨by rfl, ?_⟩) (by assumption) ?_
      rotate_left 1
      · intro w hSw; (try dsimp only at hSw); go_simp; try with_reducible rfl
      try simp only [Act.put, List.getElem_toArray, List.getElem_cons_succ, List.getElem_cons_zero, List.setIfInBounds_toArray, List.set_cons_zero, List.set_cons_succ]
      refine wpAnyH_take (i := 29) (v := ?_) rfl (by kernel_rfl) (by kernel_rfl) (by kernel_rfl) (fun _ _ _ h => h) (Or.inl ⟨by rfl, ?_⟩) (by assumption) ?_
      rotate_left 1
      · intro w hSw; (try dsimp only at hSw); go_simp; try with_reducible rfl
      try simp only [Act.put, List.getElem_toArray, List.getElem_cons_succ, List.getElem_cons_zero, List.setIfInBounds_toArray, List.set_cons_zero, List.set_cons_succ]
      refine wpAnyH_take (i := 30) (v := ?_) rfl (by kernel_rfl) (by kernel_rfl) (by kernel_rfl) (fun _ _ _ h => h) (Or.inl ⟨by rfl, ?_⟩) (by assumption) ?_
      rotate_left 1
      · intro w hSw; (try dsimp only at hSw); go_simp; try with_reducible rfl
      try simp only [Act.put, List.getElem_toArray, List.getElem_cons_succ, List.getElem_cons_zero, List.setIfInBounds_toArray, List.set_cons_zero, List.set_cons_succ]
      refine wpAnyH_take (i := 31) (v := ?_) rfl (by kernel_rfl) (by kernel_rfl) (by kernel_rfl) (fun _ _ _ h => h) (Or.inl ⟨by rfl, ?_⟩) (by assumption) ?_
      rotate_left 1
      · intro w hSw; (try dsimp only at hSw); go_simp; try with_reducible rfl
      try simp only [Act.put, List.getElem_toArray, List.getElem_cons_succ, List.getElem_cons_zero, List.setIfInBounds_toArray, List.set_cons_zero, List.set_cons_succ]
      refine wpAnyH_take (i := 32) (v := ?_) rfl (by kernel_rfl) (by kernel_rfl) (by kernel_rfl) (fun _ _ _ h => h) (Or.inl ⟨by rfl, ?_⟩) (by assumption) ?_
      rotate_left 1
      · intro w hSw; (try dsimp only at hSw); go_simp; try with_reducible rfl
      try simp only [Act.put, List.getElem_toArray, List.getElem_cons_succ, List.getElem_cons_zero, List.setIfInBounds_toArray, List.set_cons_zero, List.set_cons_succ]
      refine wpAnyH_take (i := 33) (v := ?_) rfl (by kernel_rfl) (by kernel_rfl) (by kernel_rfl) (fun _ _ _ h => h) (Or.inl ⟨by rfl, ?_⟩) (by assumption) ?_
      rotate_left 1
      · intro w hSw; (try dsimp only at hSw); go_simp; try with_reducible rfl
      try simp only [Act.put, List.getElem_toArray, List.getElem_cons_succ, List.getElem_cons_zero, List.setIfInBounds_toArray, List.set_cons_zero, List.set_cons_succ]
      refine wpAnyH_take (i := 34) (v := ?_) rfl (by kernel_rfl) (by kernel_rfl) (by kernel_rfl) (fun _ _ _ h => h) (Or.inl ⟨by rfl, ?_⟩) (by assumption) ?_
      rotate_left 1
      · intro w hSw; (try dsimp only at hSw); go_simp; try with_reducible rfl
      try simp only [Act.put, List.getElem_toArray, List.getElem_cons_succ, List.getElem_cons_zero, List.setIfInBounds_toArray, List.set_cons_zero, List.set_cons_succ]
      refine wpAnyH_ready (rs := [35]) (by kernel_rfl) (by simp) (AllReadyH.cons rfl (fun K hK => ?_) AllReadyH.nil)
      go_simp
      go_at_call 11
      refine (cS2 _ (BS.on b1)).mono ?_
      rintro e w7 ⟨rfl, b7⟩
      have b2 := chain b1 b7
      try simp only []
      refine hK.out _ _ (hS _ b2) (fun hHeld => ?_)
      clear hK K
      try simp only [Act.put, List.getElem_toArray, List.getElem_cons_succ, List.getElem_cons_zero, List.setIfInBounds_toArray, List.set_cons_zero, List.set_cons_succ]
      refine wpAnyH_take (i := 36) (v := ?_) rfl (by kernel_rfl) (by kernel_rfl) (by kernel_rfl) (fun _ _ _ h => h) (Or.inl ⟨by rfl, ?_⟩) (by assumption) ?_
      rotate_left 1
      · intro w hSw; (try dsimp only at hSw); go_simp; try with_reducible rfl
      try simp only [Act.put, List.getElem_toArray, List.getElem_cons_succ, List.getElem_cons_zero, List.setIfInBounds_toArray, List.set_cons_zero, List.set_cons_succ]
      refine wpAnyH_take (i := 37) (v := ?_) rfl (by kernel_rfl) (by kernel_rfl) (by kernel_rfl) (fun _ _ _ h => h) (Or.inl ⟨by rfl, ?_⟩) (by assumption) ?_
      rotate_left 1
      · intro w hSw; (try dsimp only at hSw); go_simp; try with_reducible rfl
      try simp only [Act.put, List.getElem_toArray, List.getElem_cons_succ, List.getElem_cons_zero, List.setIfInBounds_toArray, List.set_cons_zero, List.set_cons_succ]
      refine wpAnyH_done (by kernel_rfl) ?_ _
      clear cS1 cS2 hqx
      go_upto_region 15 with fail
      have b3 := chain b2 (Below.refl w7.heap.size w7).drew
      refine wp_region_held_drew (S := fun u => (u.cell? ⟨g9, 0, none⟩ = some (.bool xp) ∧ u.cell? ⟨g9, 1, none⟩ = some (.string xi) ∧ u.cell? ⟨g9, 2, none⟩ = some (.string xs) ∧ u.cell? ⟨g9, 3, none⟩ = some (.int .u64 xh) ∧ u.cell? ⟨g9, 4, none⟩ = some (.int .u64 xl) ∧ u.cell? ⟨g9, 5, none⟩ = some (.int .u64 p) ∧ u.cell? ⟨g9, 6, none⟩ = some (.slice A5 k c5) ∧ g9 < u.heap.size) ∧ (u.cell? ⟨g7, 3, none⟩ = some (.int .i64 k) ∧ g7 < u.heap.size) ∧
        (u.cell? (ad.add (p * 5)) = some (.bool xp) ∧ u.cell? ⟨(ad.add (p * 5)).block, (ad.add (p * 5)).off + 1, none⟩ = some (.string xi) ∧ u.cell? ⟨(ad.add (p * 5)).block, (ad.add (p * 5)).off + 2, none⟩ = some (.string xs) ∧ u.cell? ⟨(ad.add (p * 5)).block, (ad.add (p * 5)).off + 3, none⟩ = some (.int .u64 xh) ∧ u.cell? ⟨(ad.add (p * 5)).block, (ad.add (p * 5)).off + 4, none⟩ = some (.int .u64 xl) ∧ (ad.add (p * 5)).block < u.heap.size)) (by kernel_rfl) (hS _ b3) (fun hHeld => ?_)
      generalize w7.drew = We at *
      have hs3 : W5.heap.size ≤ We.heap.size := b3.size
      refine wpAnyH_take (i := 0) (v := ?_) rfl (by kernel_rfl) (by kernel_rfl) (by kernel_rfl) (fun _ _ _ h => h) (Or.inl ⟨by rfl, ?_⟩) (by assumption) ?_
      rotate_left 1
      · intro w hSw; (try dsimp only at hSw); go_simp; try with_reducible rfl
      try simp only [Act.put, List.getElem_toArray, List.getElem_cons_succ, List.getElem_cons_zero, List.setIfInBounds_toArray, List.set_cons_zero, List.set_cons_succ]
      refine wpAnyH_take (i := 1) (v := ?_) rfl (by kernel_rfl) (by kernel_rfl) (by kernel_rfl) (fun _ _ _ h => h) (Or.inl ⟨by rfl, ?_⟩) (by assumption) ?_
      rotate_left 1
      · intro w hSw; (try dsimp only at hSw); go_simp; try with_reducible rfl
      try simp only [Act.put, List.getElem_toArray, List.getElem_cons_succ, List.getElem_cons_zero, List.setIfInBounds_toArray, List.set_cons_zero, List.set_cons_succ]
      refine wpAnyH_take (i := 2) (v := ?_) rfl (by kernel_rfl) (by kernel_rfl) (by kernel_rfl) (fun _ _ _ h => h) (Or.inl ⟨by rfl, ?_⟩) (by assumption) ?_
      rotate_left 1
      · intro w hSw; (try dsimp only at hSw); go_simp; try with_reducible rfl
      try simp only [Act.put, List.getElem_toArray, List.getElem_cons_succ, List.getElem_cons_zero, List.setIfInBounds_toArray, List.set_cons_zero, List.set_cons_succ]
      refine wpAnyH_take (i := 3) (v := ?_) rfl (by kernel_rfl) (by kernel_rfl) (by kernel_rfl) (fun _ _ _ h => h) (Or.inl ⟨by rfl, ?_⟩) (by assumption) ?_
      rotate_left 1
      · intro w hSw; (try dsimp only at hSw); go_simp; try with_reducible rfl
      try simp only [Act.put, List.getElem_toArray, List.getElem_cons_succ, List.getElem_cons_zero, List.setIfInBounds_toArray, List.set_cons_zero, List.set_cons_succ]
      refine wpAnyH_take (i := 5) (v := ?_) rfl (by kernel_rfl) (by kernel_rfl) (by kernel_rfl) (fun _ _ _ h => h) (Or.inl ⟨by rfl, ?_⟩) (by assumption) ?_
      rotate_left 1
      · intro w hSw; (try dsimp only at hSw); go_simp; try with_reducible rfl
      try simp only [Act.put, List.getElem_toArray, List.getElem_cons_succ, List.getElem_cons_zero, List.setIfInBounds_toArray, List.set_cons_zero, List.set_cons_succ]
      refine wpAnyH_take (i := 6) (v := ?_) rfl (by kernel_rfl) (by kernel_rfl) (by kernel_rfl) (fun _ _ _ h => h) (Or.inl ⟨by rfl, ?_⟩) (by assumption) ?_
      rotate_left 1
      · intro w hSw; (try dsimp only at hSw); go_simp; try with_reducible rfl
      try simp only [Act.put, List.getElem_toArray, List.getElem_cons_succ, List.getElem_cons_zero, List.setIfInBounds_toArray, List.set_cons_zero, List.set_cons_succ]
      refine wpAnyH_take (i := 7) (v := ?_) rfl (by kernel_rfl) (by kernel_rfl) (by kernel_rfl) (fun _ _ _ h => h) (Or.inl ⟨by rfl, ?_⟩) (by assumption) ?_
      rotate_left 1
      · intro w hSw; (try dsimp only at hSw); go_simp; try with_reducible rfl
      try simp only [Act.put, List.getElem_toArray, List.getElem_cons_succ, List.getElem_cons_zero, List.setIfInBounds_toArray, List.set_cons_zero, List.set_cons_succ]
      refine wpAnyH_take (i := 8) (v := ?_) rfl (by kernel_rfl) (by kernel_rfl) (by kernel_rfl) (fun _ _ _ h => h) (Or.inl ⟨by rfl, ?_⟩) (by assumption) ?_
      rotate_left 1
      · intro w hSw; (try dsimp only at hSw); go_simp; try with_reducible rfl
      try simp only [Act.put, List.getElem_toArray, List.getElem_cons_succ, List.getElem_cons_zero, List.setIfInBounds_toArray, List.set_cons_zero, List.set_cons_succ]
      refine wpAnyH_take (i := 9) (v := ?_) rfl (by kernel_rfl) (by kernel_rfl) (by kernel_rfl) (fun _ _ _ h => h) (Or.inl ⟨by rfl, ?_⟩) (by assumption) ?_
      rotate_left 1
      · intro w hSw; (try dsimp only at hSw); go_simp; try with_reducible rfl
      try simp only [Act.put, List.getElem_toArray, List.getElem_cons_succ, List.getElem_cons_zero, List.setIfInBounds_toArray, List.set_cons_zero, List.set_cons_succ]
      refine wpAnyH_ready (rs := [4, 14]) (by kernel_rfl) (by simp) (AllReadyH.cons rfl (fun K hK => ?_) (AllReadyH.cons rfl (fun K hK => ?_) AllReadyH.nil))
      · go_simp
        go_at_call 13
        refine (cN _ (hKx.call b3) (hUx.call b3)).mono ?_
        rintro e w6 ⟨rfl, b6⟩
        have b4 := chain b3 b6
        try simp only []
        refine hK.out _ _ (hS _ b4) (fun hHeld => ?_)
        clear hK K
        try simp only [Act.put, List.getElem_toArray, List.getElem_cons_succ, List.getElem_cons_zero, List.setIfInBounds_toArray, List.set_cons_zero, List.set_cons_succ]
        refine wpAnyH_ready (rs := [10, 14]) (by kernel_rfl) (by simp) (AllReadyH.cons rfl (fun K hK => ?_) (AllReadyH.cons rfl (fun K hK => ?_) AllReadyH.nil))
        · go_simp
          go_at_call 12
          refine (cC _ (BS.on b4) (hKx.call b4)).mono ?_
          rintro e w7 ⟨rfl, b7⟩
          have b5 := chain b4 b7
          try simp only []
          refine hK.out _ _ (hS _ b5) (fun hHeld => ?_)
          clear hK K
          try simp only [Act.put, List.getElem_toArray, List.getElem_cons_succ, List.getElem_cons_zero, List.setIfInBounds_toArray, List.set_cons_zero, List.set_cons_succ]
          refine wpAnyH_take (i := 11) (v := ?_) rfl (by kernel_rfl) (by kernel_rfl) (by kernel_rfl) (fun _ _ _ h => h) (Or.inl ⟨by rfl, ?_⟩) (by assumption) ?_
          rotate_left 1
          · intro w hSw; (try dsimp only at hSw); go_simp; try with_reducible rfl
          try simp only [Act.put, List.getElem_toArray, List.getElem_cons_succ, List.getElem_cons_zero, List.setIfInBounds_toArray, List.set_cons_zero, List.set_cons_succ]
          refine wpAnyH_take (i := 12) (v := ?_) rfl (by kernel_rfl) (by kernel_rfl) (by kernel_rfl) (fun _ _ _ h => h) (Or.inl ⟨by rfl, ?_⟩) (by assumption) ?_
          rotate_left 1
          · intro w hSw; (try dsimp only at hSw); go_simp; try with_reducible rfl
          try simp only [Act.put, List.getElem_toArray, List.getElem_cons_succ, List.getElem_cons_zero, List.setIfInBounds_toArray, List.set_cons_zero, List.set_cons_succ]
          refine wpAnyH_take (i := 13) (v := ?_) rfl (by kernel_rfl) (by kernel_rfl) (by kernel_rfl) (fun _ _ _ h => h) (Or.inl ⟨by rfl, ?_⟩) (by assumption) ?_
          rotate_left 1
          · intro w hSw; (try dsimp only at hSw); go_simp; try with_reducible rfl
          try simp only [Act.put, List.getElem_toArray, List.getElem_cons_succ, List.getElem_cons_zero, List.setIfInBounds_toArray, List.set_cons_zero, List.set_cons_succ]
          refine wpAnyH_ready (rs := [14]) (by kernel_rfl) (by simp) (AllReadyH.cons rfl (fun K hK => ?_) AllReadyH.nil)
          go_simp
          have bw := chainA b5 (.cells (ndB ⟨#[]⟩ 0 0) 46)
          have bz := Box.made w7 46 (ndB ⟨#[]⟩ 0 0)
          have hgz : W5.heap.size ≤ (w7).heap.size := Below.size b5
          obtain ⟨gz, hgz0⟩ : ∃ g, (w7).heap.size = g := ⟨_, rfl⟩
          rw [hgz0] at bz hgz ⊢
          change K _ (World.alloc w7 (.cells (ndB ⟨#[]⟩ 0 0) 46))
          generalize World.alloc w7 (.cells (ndB ⟨#[]⟩ 0 0) 46) = w8 at *
          clear hgz0
          refine hK.out _ _ (hS _ bw) (fun hHeld => ?_)
          clear hK K
          try simp only [Act.put, List.getElem_toArray, List.getElem_cons_succ, List.getElem_cons_zero, List.setIfInBounds_toArray, List.set_cons_zero, List.set_cons_succ]
          obtain ⟨v0, v1, v2, vf0, vf1, vf2, vin⟩ := bz.three
          refine wpAnyH_ready (rs := [15]) (by kernel_rfl) (by simp) (AllReadyH.cons rfl (fun K hK => ?_) AllReadyH.nil)
          go_simp
          have bz9 := ((bz.wrote 0 (.string ts)).wrote 1 (.int .u64 th)).wrote 2 (.int .u64 tl)
          have bw8 : Below W5.heap.size W5 (World.setCell (World.setCell (World.setCell w8 ⟨gz, 0, none⟩ (.string ts)) ⟨gz, 1, none⟩ (.int .u64 th)) ⟨gz, 2, none⟩ (.int .u64 tl)) := ((bw.setCell (p := ⟨gz, 0, none⟩) hgz _).setCell (p := ⟨gz, 1, none⟩) hgz _).setCell (p := ⟨gz, 2, none⟩) hgz _
          generalize World.setCell (World.setCell (World.setCell w8 _ _) _ _) _ _ = W9 at *
          have bz9 : Box W9 gz 46 (ndB ts th tl) := bz9
          refine hK.out _ _ (hS _ bw8) (fun hHeld => ?_)
          clear hK K
          try simp only [Act.put, List.getElem_toArray, List.getElem_cons_succ, List.getElem_cons_zero, List.setIfInBounds_toArray, List.set_cons_zero, List.set_cons_succ]
          refine wpAnyH_take (i := 16) (v := ?_) rfl (by kernel_rfl) (by kernel_rfl) (by kernel_rfl) (fun _ _ _ h => h) (Or.inl ⟨by rfl, ?_⟩) (by assumption) ?_
          rotate_left 1
          · intro w hSw; (try dsimp only at hSw); go_simp; try with_reducible rfl
          try simp only [Act.put, List.getElem_toArray, List.getElem_cons_succ, List.getElem_cons_zero, List.setIfInBounds_toArray, List.set_cons_zero, List.set_cons_succ]
          refine wpAnyH_done (by kernel_rfl) ?_ _
          clear v0 v1 v2 vf0 vf1 vf2 vin
          obtain ⟨z0, z1, z2, -, -, -, zin⟩ := bz9.three
          have JR := (J.call J5b).call bw8
          obtain ⟨⟨r0, r1, r2, r3⟩, -, rin⟩ := (JR.box 0).four4
          go_wp2
          go_roundg (N - (p + 1))
          case measure => have := HG.out; omega
          case rel => exact ⟨p + 1, by omega, Nat.le_refl _, by go_num, JR⟩
        · go_simp
          have bw := chainA b4 (.cells (ndB ⟨#[]⟩ 0 0) 46)
          have bz := Box.made w6 46 (ndB ⟨#[]⟩ 0 0)
          have hgz : W5.heap.size ≤ (w6).heap.size := Below.size b4
          obtain ⟨gz, hgz0⟩ : ∃ g, (w6).heap.size = g := ⟨_, rfl⟩
          rw [hgz0] at bz hgz ⊢
          change K _ (World.alloc w6 (.cells (ndB ⟨#[]⟩ 0 0) 46))
          generalize World.alloc w6 (.cells (ndB ⟨#[]⟩ 0 0) 46) = w8 at *
          clear hgz0
          refine hK.out _ _ (hS _ bw) (fun hHeld => ?_)
          clear hK K
          try simp only [Act.put, List.getElem_toArray, List.getElem_cons_succ, List.getElem_cons_zero, List.setIfInBounds_toArray, List.set_cons_zero, List.set_cons_succ]
          refine wpAnyH_ready (rs := [10]) (by kernel_rfl) (by simp) (AllReadyH.cons rfl (fun K hK => ?_) AllReadyH.nil)
          go_simp
          go_at_call 12
          refine (cC _ (BS.on bw) (hKx.call bw)).mono ?_
          rintro e w7 ⟨rfl, b7⟩
          have b5 := chain bw b7
          try simp only []
          refine hK.out _ _ (hS _ b5) (fun hHeld => ?_)
          clear hK K
          try simp only [Act.put, List.getElem_toArray, List.getElem_cons_succ, List.getElem_cons_zero, List.setIfInBounds_toArray, List.set_cons_zero, List.set_cons_succ]
          have bz := bz.call b7
          have bw := b5
          refine wpAnyH_take (i := 11) (v := ?_) rfl (by kernel_rfl) (by kernel_rfl) (by kernel_rfl) (fun _ _ _ h => h) (Or.inl ⟨by rfl, ?_⟩) (by assumption) ?_
          rotate_left 1
          · intro w hSw; (try dsimp only at hSw); go_simp; try with_reducible rfl
          try simp only [Act.put, List.getElem_toArray, List.getElem_cons_succ, List.getElem_cons_zero, List.setIfInBounds_toArray, List.set_cons_zero, List.set_cons_succ]
          refine wpAnyH_take (i := 12) (v := ?_) rfl (by kernel_rfl) (by kernel_rfl) (by kernel_rfl) (fun _ _ _ h => h) (Or.inl ⟨by rfl, ?_⟩) (by assumption) ?_
          rotate_left 1
          · intro w hSw; (try dsimp only at hSw); go_simp; try with_reducible rfl
          try simp only [Act.put, List.getElem_toArray, List.getElem_cons_succ, List.getElem_cons_zero, List.setIfInBounds_toArray, List.set_cons_zero, List.set_cons_succ]
          refine wpAnyH_take (i := 13) (v := ?_) rfl (by kernel_rfl) (by kernel_rfl) (by kernel_rfl) (fun _ _ _ h => h) (Or.inl ⟨by rfl, ?_⟩) (by assumption) ?_
          rotate_left 1
          · intro w hSw; (try dsimp only at hSw); go_simp; try with_reducible rfl
          try simp only [Act.put, List.getElem_toArray, List.getElem_cons_succ, List.getElem_cons_zero, List.setIfInBounds_toArray, List.set_cons_zero, List.set_cons_succ]
          obtain ⟨v0, v1, v2, vf0, vf1, vf2, vin⟩ := bz.three
          refine wpAnyH_ready (rs := [15]) (by kernel_rfl) (by simp) (AllReadyH.cons rfl (fun K hK => ?_) AllReadyH.nil)
          go_simp
          have bz9 := ((bz.wrote 0 (.string ts)).wrote 1 (.int .u64 th)).wrote 2 (.int .u64 tl)
          have bw7 : Below W5.heap.size W5 (World.setCell (World.setCell (World.setCell w7 ⟨gz, 0, none⟩ (.string ts)) ⟨gz, 1, none⟩ (.int .u64 th)) ⟨gz, 2, none⟩ (.int .u64 tl)) := ((bw.setCell (p := ⟨gz, 0, none⟩) hgz _).setCell (p := ⟨gz, 1, none⟩) hgz _).setCell (p := ⟨gz, 2, none⟩) hgz _
          generalize World.setCell (World.setCell (World.setCell w7 _ _) _ _) _ _ = W9 at *
          have bz9 : Box W9 gz 46 (ndB ts th tl) := bz9
          refine hK.out _ _ (hS _ bw7) (fun hHeld => ?_)
          clear hK K
          try simp only [Act.put, List.getElem_toArray, List.getElem_cons_succ, List.getElem_cons_zero, List.setIfInBounds_toArray, List.set_cons_zero, List.set_cons_succ]
          refine wpAnyH_take (i := 16) (v := ?_) rfl (by kernel_rfl) (by kernel_rfl) (by kernel_rfl) (fun _ _ _ h => h) (Or.inl ⟨by rfl, ?_⟩) (by assumption) ?_
          rotate_left 1
          · intro w hSw; (try dsimp only at hSw); go_simp; try with_reducible rfl
          try simp only [Act.put, List.getElem_toArray, List.getElem_cons_succ, List.getElem_cons_zero, List.setIfInBounds_toArray, List.set_cons_zero, List.set_cons_succ]
          refine wpAnyH_done (by kernel_rfl) ?_ _
          clear v0 v1 v2 vf0 vf1 vf2 vin
          obtain ⟨z0, z1, z2, -, -, -, zin⟩ := bz9.three
          have JR := (J.call J5b).call bw7
          obtain ⟨⟨r0, r1, r2, r3⟩, -, rin⟩ := (JR.box 0).four4
          go_wp2
          go_roundg (N - (p + 1))
          case measure => have := HG.out; omega
          case rel => exact ⟨p + 1, by omega, Nat.le_refl _, by go_num, JR⟩
      · go_simp
        have bw := chainA b3 (.cells (ndB ⟨#[]⟩ 0 0) 46)
        have bz := Box.made We 46 (ndB ⟨#[]⟩ 0 0)
        have hgz : W5.heap.size ≤ (We).heap.size := Below.size b3
        obtain ⟨gz, hgz0⟩ : ∃ g, (We).heap.size = g := ⟨_, rfl⟩
        rw [hgz0] at bz hgz ⊢
        change K _ (World.alloc We (.cells (ndB ⟨#[]⟩ 0 0) 46))
        generalize World.alloc We (.cells (ndB ⟨#[]⟩ 0 0) 46) = w8 at *
        clear hgz0
        refine hK.out _ _ (hS _ bw) (fun hHeld => ?_)
        clear hK K
        try simp only [Act.put, List.getElem_toArray, List.getElem_cons_succ, List.getElem_cons_zero, List.setIfInBounds_toArray, List.set_cons_zero, List.set_cons_succ]
        refine wpAnyH_ready (rs := [4]) (by kernel_rfl) (by simp) (AllReadyH.cons rfl (fun K hK => ?_) AllReadyH.nil)
        go_simp
        go_at_call 13
        refine (cN _ (hKx.call bw) (hUx.call bw)).mono ?_
        rintro e w6 ⟨rfl, b6⟩
        have b4 := chain bw b6
        try simp only []
        refine hK.out _ _ (hS _ b4) (fun hHeld => ?_)
        clear hK K
        try simp only [Act.put, List.getElem_toArray, List.getElem_cons_succ, List.getElem_cons_zero, List.setIfInBounds_toArray, List.set_cons_zero, List.set_cons_succ]
        have bz := bz.call b6
        refine wpAnyH_ready (rs := [10]) (by kernel_rfl) (by simp) (AllReadyH.cons rfl (fun K hK => ?_) AllReadyH.nil)
        go_simp
        go_at_call 12
        refine (cC _ (BS.on b4) (hKx.call b4)).mono ?_
        rintro e w7 ⟨rfl, b7⟩
        have b5 := chain b4 b7
        try simp only []
        refine hK.out _ _ (hS _ b5) (fun hHeld => ?_)
        clear hK K
        try simp only [Act.put, List.getElem_toArray, List.getElem_cons_succ, List.getElem_cons_zero, List.setIfInBounds_toArray, List.set_cons_zero, List.set_cons_succ]
        have bz := bz.call b7
        have bw := b5
        refine wpAnyH_take (i := 11) (v := ?_) rfl (by kernel_rfl) (by kernel_rfl) (by kernel_rfl) (fun _ _ _ h => h) (Or.inl ⟨by rfl, ?_⟩) (by assumption) ?_
        rotate_left 1
        · intro w hSw; (try dsimp only at hSw); go_simp; try with_reducible rfl
        try simp only [Act.put, List.getElem_toArray, List.getElem_cons_succ, List.getElem_cons_zero, List.setIfInBounds_toArray, List.set_cons_zero, List.set_cons_succ]
        refine wpAnyH_take (i := 12) (v := ?_) rfl (by kernel_rfl) (by kernel_rfl) (by kernel_rfl) (fun _ _ _ h => h) (Or.inl ⟨by rfl, ?_⟩) (by assumption) ?_
        rotate_left 1
        · intro w hSw; (try dsimp only at hSw); go_simp; try with_reducible rfl
        try simp only [Act.put, List.getElem_toArray, List.getElem_cons_succ, List.getElem_cons_zero, List.setIfInBounds_toArray, List.set_cons_zero, List.set_cons_succ]
        refine wpAnyH_take (i := 13) (v := ?_) rfl (by kernel_rfl) (by kernel_rfl) (by kernel_rfl) (fun _ _ _ h => h) (Or.inl ⟨by rfl, ?_⟩) (by assumption) ?_
        rotate_left 1
        · intro w hSw; (try dsimp only at hSw); go_simp; try with_reducible rfl
        try simp only [Act.put, List.getElem_toArray, List.getElem_cons_succ, List.getElem_cons_zero, List.setIfInBounds_toArray, List.set_cons_zero, List.set_cons_succ]
        obtain ⟨v0, v1, v2, vf0, vf1, vf2, vin⟩ := bz.three
        refine wpAnyH_ready (rs := [15]) (by kernel_rfl) (by simp) (AllReadyH.cons rfl (fun K hK => ?_) AllReadyH.nil)
        go_simp
        have bz9 := ((bz.wrote 0 (.string ts)).wrote 1 (.int .u64 th)).wrote 2 (.int .u64 tl)
        have bw7 : Below W5.heap.size W5 (World.setCell (World.setCell (World.setCell w7 ⟨gz, 0, none⟩ (.string ts)) ⟨gz, 1, none⟩ (.int .u64 th)) ⟨gz, 2, none⟩ (.int .u64 tl)) := ((bw.setCell (p := ⟨gz, 0, none⟩) hgz _).setCell (p := ⟨gz, 1, none⟩) hgz _).setCell (p := ⟨gz, 2, none⟩) hgz _
        generalize World.setCell (World.setCell (World.setCell w7 _ _) _ _) _ _ = W9 at *
        have bz9 : Box W9 gz 46 (ndB ts th tl) := bz9
        refine hK.out _ _ (hS _ bw7) (fun hHeld => ?_)
        clear hK K
        try simp only [Act.put, List.getElem_toArray, List.getElem_cons_succ, List.getElem_cons_zero, List.setIfInBounds_toArray, List.set_cons_zero, List.set_cons_succ]
        refine wpAnyH_take (i := 16) (v := ?_) rfl (by kernel_rfl) (by kernel_rfl) (by kernel_rfl) (fun _ _ _ h => h) (Or.inl ⟨by rfl, ?_⟩) (by assumption) ?_
        rotate_left 1
        · intro w hSw; (try dsimp only at hSw); go_simp; try with_reducible rfl
        try simp only [Act.put, List.getElem_toArray, List.getElem_cons_succ, List.getElem_cons_zero, List.setIfInBounds_toArray, List.set_cons_zero, List.set_cons_succ]
        refine wpAnyH_done (by kernel_rfl) ?_ _
        clear v0 v1 v2 vf0 vf1 vf2 vin
        obtain ⟨z0, z1, z2, -, -, -, zin⟩ := bz9.three
        have JR := (J.call J5b).call bw7
        obtain ⟨⟨r0, r1, r2, r3⟩, -, rin⟩ := (JR.box 0).four4
        go_wp2
        go_roundg (N - (p + 1))
        case measure => have := HG.out; omega
        case rel => exact ⟨p + 1, by omega, Nat.le_refl _, by go_num, JR⟩
    · have e : p = N := by omega
      subst e
      have hlti : ¬ ((p : Int) < (p : Int)) := by omega
      go_wp2
      go_ret
      exact ⟨rfl, chain hKw J.below⟩
end Go.Proofs.YtjndabnegmecmaaDoor
