/-
  paymasterref16's Of, walked.
-/
import Derived.Test.YtjndabnegmecmaaGreatDoorM15R
import Derived.Test.YtjndabnegmecmaaGreatDoorM16Fn
namespace Go.Proofs.YtjndabnegmecmaaGreatDoor
set_option linter.unusedVariables false
set_option linter.unusedSimpArgs false
set_option maxRecDepth 10000
open Go.RowKit

section
variable {W : World} {g gl c : Nat} {n : Int} {l : List Lf} {k : Nat}
theorem Has.wrote7R {w W : World} {g : Nat} {T : TypeId} {l : List Blk} {a0 b0 c0 d0 e0 f0 i0 : Value} (K : Has w ((g, T, #[a0, b0, c0, d0, e0, f0, i0]) :: l) W) (hg : w.heap.size ≤ g) (hl : ∀ x ∈ l, x.1 ≠ g) (t : Value) :
    Has w ((g, T, #[a0, b0, c0, d0, e0, f0, t]) :: l) (W.setCell ⟨g, 6, none⟩ t) := K.wrote hg hl 6 t
set_option maxRecDepth 100000 in
set_option maxHeartbeats 4000000 in
theorem rof16_out (h : RTr W g gl c n l) (hl : l.length ≤ 1000000) (p : Nat) (hp : p < 18446744073709551616) (hpl : ¬ p < l.length) :
    Calls Tryz.prog 8 #[.pointer (some ⟨g, 0, none⟩), .int .u64 p] W (Tells (.tuple #[.agg (enV Lf.zero 0 none 0 0), .int .i64 2]) W.heap.size W) := by
  have L := chainA (Below.refl W.heap.size W) (.cells (enV Lf.zero 0 none 0 0) 40)
  have E := (Has.start W).addAt 40 (enV Lf.zero 0 none 0 0) (g := W.heap.size) rfl
  obtain ⟨t0, t1, tin⟩ := (h.call L).cells
  obtain ⟨M, hM⟩ : ∃ M, l.length = M := ⟨_, rfl⟩
  rw [hM] at t1 hl hpl
  have e1 : IntKind.u64.wrap (M : Int) = (M : Int) := by rw [IntKind.wrap_u64]; omega
  have e2 : (M : Int) ≤ (p : Int) := by omega
  simp only [Lf.zero] at t0 t1 tin E L ⊢
  clear h hM
  go_enter Tryz.func8, Tryz.ntmps8
  go_upto_region 1 with fail
  change Code.wp _ _ _ _ (W.alloc (.cells (enV ⟨false, ⟨#[]⟩, ⟨#[]⟩, 0, 0⟩ 0 none 0 0) 40))
  generalize W.alloc (.cells (enV ⟨false, ⟨#[]⟩, ⟨#[]⟩, 0, 0⟩ 0 none 0 0) 40) = W1 at *
  obtain ⟨⟨z0, z1, z2, z3, z4, z5, z6⟩, zin⟩ := (E.box 0).seven
  obtain ⟨y0, y1, y2, y3, y4, y5, y6⟩ := (E.box 0).seven_free
  go_wp2
  have E3 := E.wrote7 (Nat.le_refl _) (fun x hx => by simp at hx) (.bool false) (.string ⟨#[]⟩) (.string ⟨#[]⟩) (.int .u64 0) (.int .u64 0) (.int .u64 0) (.slice none 0 0)
  generalize World.setCell (World.setCell (World.setCell (World.setCell (World.setCell (World.setCell (World.setCell W1 _ _) _ _) _ _) _ _) _ _) _ _) _ _ = W9 at *
  obtain ⟨⟨v0, v1, v2, v3, v4, v5, v6⟩, -⟩ := (E3.box 0).seven
  exact bodyPost_ret (v := .tuple #[.agg (enV ⟨false, ⟨#[]⟩, ⟨#[]⟩, 0, 0⟩ 0 none 0 0), .int .i64 2]) (by simp [results, Tryz.results8, go_sem, v0, v1, v2, v3, v4, v5, v6]) rfl ⟨rfl, E3.below⟩
set_option maxRecDepth 100000 in
set_option maxHeartbeats 8000000 in
theorem rof16_in (h : RTr W g gl c n l) (hF : FairT n l k) (hk : k ≤ 6) (p : Nat) (hp : p < 2 ^ k) {x : Lf} (hx : l[p]? = some x) :
    Calls Tryz.prog 8 #[.pointer (some ⟨g, 0, none⟩), .int .u64 p] W (fun e w' => Below W.heap.size W w' ∧ ∃ A c, e = .returned (.tuple #[.agg (enV x p A k c), .int .i64 0]) ∧ ndS.Row w' w'.heap.size A (sibsN n (l.map (nodeOf n)) p k)) := by
  have hl64 : l.length ≤ 64 := by rw [hF.len]; exact Nat.le_trans (Nat.pow_le_pow_right (n := 2) (by decide) hk) (by decide)
  have hsz : ∀ x ∈ l, x.id.size ≤ 96 ∧ x.salt.size ≤ 32 := fun x hx => mayT_sizes (hF.all x hx).1
  have cNs := fun u hu => rnodes15_any n (some ⟨gl, 0, none⟩) c l (by omega) (fun x hx => ⟨⟨by have := hsz x hx; omega, by have := hsz x hx; omega⟩, (hF.all x hx).2⟩) u hu
  have hup := fun (j : Nat) (hj : j ≤ k) => hF.up hj
  have hul := fun (i : Nat) (hi : i ≤ k) => hF.ulen hi
  have hlen := hF.len
  have hpl : p < l.length := by rw [hlen]; exact hp
  have hnl : (l.map (nodeOf n)).length = l.length := List.length_map _
  have hthere := fun (j : Nat) (hj : j < k) => sib_there n hF.nlen hp hj
  have htake := fun (j : Nat) (hj : j < k) => sibs_take n (l.map (nodeOf n)) p hj
  have hTl := sibs_len n (l.map (nodeOf n)) p k
  have hx0 := h.2.cell hx (j := 0) (by decide)
  have hx1 := h.2.cell hx (j := 1) (by decide)
  have hx2 := h.2.cell hx (j := 2) (by decide)
  have hx3 := h.2.cell hx (j := 3) (by decide)
  have hx4 := h.2.cell hx (j := 4) (by decide)
  have HXC := hideIt (And.intro hx0 (And.intro hx1 (And.intro hx2 (And.intro hx3 hx4))))
  clear hx0 hx1 hx2 hx3 hx4
  obtain ⟨T, hT⟩ : ∃ T, sibsN n (l.map (nodeOf n)) p k = T := ⟨_, rfl⟩
  rw [hT] at htake hTl ⊢
  obtain ⟨ns, hns⟩ : ∃ ns, l.map (nodeOf n) = ns := ⟨_, rfl⟩
  rw [hns] at cNs hup hul hnl hthere htake
  have HL := hideIt hlen
  have HUP := hideIt hup
  have HUL := hideIt hul
  have HNL := hideIt hnl
  have HTH := hideIt hthere
  have HTK := hideIt htake
  have HTL := hideIt hTl
  obtain ⟨g0, hg0⟩ : ∃ g, W.heap.size = g := ⟨_, rfl⟩
  have E0 := (Has.start W).addAt 40 (enV Lf.zero 0 none 0 0) hg0
  have hs1 : (W.alloc (.cells (enV Lf.zero 0 none 0 0) 40)).heap.size = g0 + 1 := by simp [hg0]
  obtain ⟨xp, xi, xs, xh, xl⟩ := x
  have e1 : IntKind.u64.wrap (l.length : Int) = (l.length : Int) := by rw [IntKind.wrap_u64]; omega
  have e2 : ¬ (l.length : Int) ≤ (p : Int) := by omega
  have e3 : (p : Int) < (l.length : Int) := by omega
  have e4 : IntKind.i64.wrap (p : Int) = (p : Int) := by rw [IntKind.wrap_i64]; omega
  simp only [Lf.zero] at E0 hs1
  have HG0 := hideIt hg0
  clear hF hlen hup hul hsz hnl hthere htake hTl hT hns hx
  go_enter Tryz.func8, Tryz.ntmps8
  go_upto_region 1 with fail
  change Code.wp _ _ _ _ (W.alloc (.cells (enV ⟨false, ⟨#[]⟩, ⟨#[]⟩, 0, 0⟩ 0 none 0 0) 40))
  generalize W.alloc (.cells (enV ⟨false, ⟨#[]⟩, ⟨#[]⟩, 0, 0⟩ 0 none 0 0) 40) = W1 at *
  clear hg0
  have h1 := h.call E0.below
  obtain ⟨t0, t1, tin⟩ := h1.cells
  obtain ⟨q0, q1, q2, q3, q4⟩ := HXC.out
  have hgl := h.2.inside
  have bE0 := E0.below
  have q0 : W1.cell? ⟨gl, p * 5, none⟩ = some (.bool xp) := (World.cell?_of_block (w := W) (bE0.block gl hgl)).trans q0
  have q1 : W1.cell? ⟨gl, p * 5 + 1, none⟩ = some (.string xi) := (World.cell?_of_block (w := W) (bE0.block gl hgl)).trans q1
  have q2 : W1.cell? ⟨gl, p * 5 + 2, none⟩ = some (.string xs) := (World.cell?_of_block (w := W) (bE0.block gl hgl)).trans q2
  have q3 : W1.cell? ⟨gl, p * 5 + 3, none⟩ = some (.int .u64 xh) := (World.cell?_of_block (w := W) (bE0.block gl hgl)).trans q3
  have q4 : W1.cell? ⟨gl, p * 5 + 4, none⟩ = some (.int .u64 xl) := (World.cell?_of_block (w := W) (bE0.block gl hgl)).trans q4
  have hgl1 := h1.2.inside
  have E1 := E0.addAt 40 (enV ⟨xp, xi, xs, xh, xl⟩ p none 0 0) hs1
  go_upto_region 4 with fail
  change Code.wp _ _ _ _ (W1.alloc (.cells (enV ⟨xp, xi, xs, xh, xl⟩ p none 0 0) 40))
  have hs2 : (W1.alloc (.cells (enV ⟨xp, xi, xs, xh, xl⟩ p none 0 0) 40)).heap.size = g0 + 2 := by simp [hs1]
  generalize W1.alloc (.cells (enV ⟨xp, xi, xs, xh, xl⟩ p none 0 0) 40) = W2 at *
  clear q0 q1 q2 q3 q4 t0 t1 tin hgl hgl1 h1 bE0 E0 hs1
  have h2 := h.call E1.below
  have hrow2 := h2.2.row
  go_cut [7] (fun s7 wx => ∃ v, s7 = v ∧ wx.ownsRow (g0 + 2) 47 3 v l.length (ndS.flat ns) ∧ Below W2.heap.size W2 wx)
  case first =>
    have hS : ∀ u, RTr u g gl c n l → u.cell? ⟨g, 0, none⟩ = some (.int .i64 n) ∧ u.cell? ⟨g, 1, none⟩ = some (.slice (some ⟨gl, 0, none⟩) l.length c) ∧ g < u.heap.size := fun u hu => hu.cells
    refine wp_region_held_drew (S := fun u => u.cell? ⟨g, 0, none⟩ = some (.int .i64 n) ∧ u.cell? ⟨g, 1, none⟩ = some (.slice (some ⟨gl, 0, none⟩) l.length c) ∧ g < u.heap.size) (by kernel_rfl) (hS _ h2.drew) (fun hHeld => ?_)
    have hd := h2.drew
    have hRd : lfS.Row W2.drew W2.drew.heap.size (some ⟨gl, 0, none⟩) l := hrow2.on (Below.refl _ _).drew
    have bd : Below W2.heap.size W2 W2.drew := (Below.refl _ _).drew
    have hsd : W2.drew.heap.size = g0 + 2 := by simp [hs2]
    generalize W2.drew = Wd at *
    refine wpAnyH_take (i := 0) (v := ?_) rfl (by kernel_rfl) (by kernel_rfl) (by kernel_rfl) (fun _ _ _ h => h) (Or.inl ⟨by rfl, ?_⟩) (by assumption) ?_
    rotate_left 1
    · intro w hSw; (try dsimp only at hSw); go_simp; try with_reducible rfl
    try simp only [Act.put, List.getElem_toArray, List.getElem_cons_succ, List.getElem_cons_zero, List.setIfInBounds_toArray, List.set_cons_zero, List.set_cons_succ]
    refine wpAnyH_take (i := 1) (v := ?_) rfl (by kernel_rfl) (by kernel_rfl) (by kernel_rfl) (fun _ _ _ h => h) (Or.inl ⟨by rfl, ?_⟩) (by assumption) ?_
    rotate_left 1
    · intro w hSw; (try dsimp only at hSw); go_simp; try with_reducible rfl
    try simp only [Act.put, List.getElem_toArray, List.getElem_cons_succ, List.getElem_cons_zero, List.setIfInBounds_toArray, List.set_cons_zero, List.set_cons_succ]
    refine wpAnyH_take (i := 2) (v := ?_) rfl (by kernel_rfl) (by kernel_rfl) (by kernel_rfl) (fun _ _ _ h => h) (Or.inl ⟨by rfl, ?_⟩) (by assumption) ?_
    rotate_left 1
    · intro w hSw; (try dsimp only at hSw); go_simp; try with_reducible rfl
    try simp only [Act.put, List.getElem_toArray, List.getElem_cons_succ, List.getElem_cons_zero, List.setIfInBounds_toArray, List.set_cons_zero, List.set_cons_succ]
    refine wpAnyH_take (i := 3) (v := ?_) rfl (by kernel_rfl) (by kernel_rfl) (by kernel_rfl) (fun _ _ _ h => h) (Or.inl ⟨by rfl, ?_⟩) (by assumption) ?_
    rotate_left 1
    · intro w hSw; (try dsimp only at hSw); go_simp; try with_reducible rfl
    try simp only [Act.put, List.getElem_toArray, List.getElem_cons_succ, List.getElem_cons_zero, List.setIfInBounds_toArray, List.set_cons_zero, List.set_cons_succ]
    refine wpAnyH_take (i := 4) (v := ?_) rfl (by kernel_rfl) (by kernel_rfl) (by kernel_rfl) (fun _ _ _ h => h) (Or.inl ⟨by rfl, ?_⟩) (by assumption) ?_
    rotate_left 1
    · intro w hSw; (try dsimp only at hSw); go_simp; try with_reducible rfl
    try simp only [Act.put, List.getElem_toArray, List.getElem_cons_succ, List.getElem_cons_zero, List.setIfInBounds_toArray, List.set_cons_zero, List.set_cons_succ]
    refine wpAnyH_take (i := 5) (v := ?_) rfl (by kernel_rfl) (by kernel_rfl) (by kernel_rfl) (fun _ _ _ h => h) (Or.inl ⟨by rfl, ?_⟩) (by assumption) ?_
    rotate_left 1
    · intro w hSw; (try dsimp only at hSw); go_simp; try with_reducible rfl
    try simp only [Act.put, List.getElem_toArray, List.getElem_cons_succ, List.getElem_cons_zero, List.setIfInBounds_toArray, List.set_cons_zero, List.set_cons_succ]
    refine wpAnyH_take (i := 6) (v := ?_) rfl (by kernel_rfl) (by kernel_rfl) (by kernel_rfl) (fun _ _ _ h => h) (Or.inl ⟨by rfl, ?_⟩) (by assumption) ?_
    rotate_left 1
    · intro w hSw; (try dsimp only at hSw); go_simp; try with_reducible rfl
    try simp only [Act.put, List.getElem_toArray, List.getElem_cons_succ, List.getElem_cons_zero, List.setIfInBounds_toArray, List.set_cons_zero, List.set_cons_succ]
    refine wpAnyH_take (i := 7) (v := ?_) rfl (by kernel_rfl) (by kernel_rfl) (by kernel_rfl) (fun _ _ _ h => h) (Or.inl ⟨by rfl, ?_⟩) (by assumption) ?_
    rotate_left 1
    · intro w hSw; (try dsimp only at hSw); go_simp; try with_reducible rfl
    try simp only [Act.put, List.getElem_toArray, List.getElem_cons_succ, List.getElem_cons_zero, List.setIfInBounds_toArray, List.set_cons_zero, List.set_cons_succ]
    refine wpAnyH_ready (rs := [8]) (by kernel_rfl) (by simp) (AllReadyH.cons rfl (fun K hK => ?_) AllReadyH.nil)
    go_simp
    go_at_call 19
    refine (cNs _ hRd).mono ?_
    rintro e w4 ⟨v, rfl, o4, b4⟩
    try simp only []
    refine hK.out _ _ (hS _ (hd.call b4)) (fun hHeld => ?_)
    clear hK K
    try simp only [Act.put, List.getElem_toArray, List.getElem_cons_succ, List.getElem_cons_zero, List.setIfInBounds_toArray, List.set_cons_zero, List.set_cons_succ]
    refine wpAnyH_take (i := 9) (v := ?_) rfl (by kernel_rfl) (by kernel_rfl) (by kernel_rfl) (fun _ _ _ h => h) (Or.inl ⟨by rfl, ?_⟩) (by assumption) ?_
    rotate_left 1
    · intro w hSw; (try dsimp only at hSw); go_simp; try with_reducible rfl
    try simp only [Act.put, List.getElem_toArray, List.getElem_cons_succ, List.getElem_cons_zero, List.setIfInBounds_toArray, List.set_cons_zero, List.set_cons_succ]
    refine wpAnyH_done (by kernel_rfl) ?_ _
    go_wp2
    go_meet
    exact ⟨_, rfl, own_mono o4 (Nat.le_of_eq hsd.symm), chain bd b4⟩
  case rest =>
    obtain ⟨v, rfl, own0, b0⟩ := hcut
    rename World => W3
    rw [HL.out] at own0
    have E3 := E1.call b0
    clear cNs E1 b0 hs2 h2 hrow2
    obtain ⟨gn, cn, hv, hgn, hcn, BN⟩ := Sh.Blk.of_own (S := ndS) (l := ns) (by rw [HNL.out, HL.out]; exact own0) (fun e => by have := HNL.out; rw [e] at this; simp at this; omega)
    rw [HNL.out, HL.out] at hv
    subst hv
    go_wp2
    go_loopg [7, 8] k (fun gk v i wr => ∃ j : Nat, j ≤ k ∧ k - j ≤ gk ∧ i = .int .i64 ((p / 2 ^ j : Nat) : Int) ∧ ∃ gj cj, (v = .slice (some ⟨gj, 0, none⟩) (2 ^ (k - j)) cj ∧ ndS.Blk wr 47 gj (upN n j ns)) ∧
      ∃ v6, Has W [(g0 + 1, 40, #[.bool xp, .string xi, .string xs, .int .u64 xh, .int .u64 xl, .int .u64 p, v6]), (g0, 40, enV ⟨false, ⟨#[]⟩, ⟨#[]⟩, 0, 0⟩ 0 none 0 0)] wr ∧ wr.ownsRow (g0 + 2) 47 3 v6 j (ndS.flat (T.take j)) ∧ ∀ r, v6.ownBlock = some r → r < gj)
    case atStart => exact ⟨0, Nat.zero_le _, by omega, by rw [Nat.pow_zero, Nat.div_one], gn, cn, ⟨rfl, BN⟩, _, E3, by rw [List.take_zero]; exact World.ownsRow_nil _ _ _ _, fun r e => by cases e⟩
    case round =>
      obtain ⟨j, hj, hgk, rfl, gj, cj, ⟨rfl, BJ⟩, v6, E, hown, hlow⟩ := hrel
      have HG := hideIt hgk
      clear hgk BN E3 own0
      by_cases hlt : j < k
      · have hMM : 2 ^ (k - j) = 2 ^ (k - (j + 1)) + 2 ^ (k - (j + 1)) := by rw [show k - j = k - (j + 1) + 1 by omega, pow_two]
        have hMb : 2 ^ (k - (j + 1)) ≤ 64 := Nat.le_trans (Nat.pow_le_pow_right (n := 2) (by decide) (by omega : k - (j + 1) ≤ 6)) (by decide)
        have hMp : 1 ≤ 2 ^ (k - (j + 1)) := Nat.two_pow_pos _
        have hul := HUL.out j (by omega)
        obtain ⟨f1, f2, -⟩ := HUP.out j (by omega)
        have cU := fun u hu => rup15_any n (some ⟨gj, 0, none⟩) cj (2 ^ (k - (j + 1))) (upN n j ns) (hul.trans hMM) (by omega) (fun x hx => ⟨f2 x hx, f1 x hx⟩) u hu
        rw [hul] at cU
        have hX := HTH.out j hlt
        have hsl := (List.getElem?_eq_some_iff.1 hX).1
        rw [hul] at hsl
        have htk := HTK.out j hlt
        have hq2 : p / 2 ^ (j + 1) = p / 2 ^ j / 2 := by rw [Nat.pow_succ, Nat.div_div_eq_div_mul]
        have hqb : p / 2 ^ j < 64 := Nat.lt_of_le_of_lt (Nat.div_le_self _ _) (by omega)
        obtain ⟨X, hXX⟩ : ∃ X, sibN (upN n j ns) (p / 2 ^ j) = X := ⟨_, rfl⟩
        rw [hXX] at hX htk
        obtain ⟨M2, hM2⟩ : ∃ M2, 2 ^ (k - (j + 1)) = M2 := ⟨_, rfl⟩
        obtain ⟨M, hM⟩ : ∃ M, 2 ^ (k - j) = M := ⟨_, rfl⟩
        rw [hM2] at cU hMM hMb hMp
        rw [hM] at cU hMM hsl
        obtain ⟨qj, hqj⟩ : ∃ q, p / 2 ^ j = q := ⟨_, rfl⟩
        rw [hqj] at hX hsl hq2 hqb
        obtain ⟨q2, hqq⟩ : ∃ q, qj / 2 = q := ⟨_, rfl⟩
        rw [hqq] at hq2
        have HQ2 := hideIt hq2
        have HM2 := hideIt hM2
        have HTKJ := hideIt htk
        obtain ⟨Xs, Xh, Xl⟩ := X
        rw [hqj, hM]
        have m1 : (1 : Int) < (M : Int) := by omega
        have m2 : Int.tdiv (qj : Int) 2 = (q2 : Int) := by rw [Int.tdiv_eq_ediv_of_nonneg (by omega)]; omega
        have m3 : (qj : Int) / 2 = (q2 : Int) := by omega
        clear hul f1 f2 htk hq2 hXX hM2 hqj hMM
        by_cases hpar : qj % 2 = 1
        · have hs : sib qj = qj - 1 := by rw [sib, if_pos hpar]
          rw [hs] at hX hsl
          obtain ⟨sj, hsj⟩ : ∃ s, qj - 1 = s := ⟨_, rfl⟩
          rw [hsj] at hX hsl
          have n1 : Int.tmod (qj : Int) 2 = 1 := by rw [Int.tmod_eq_emod_of_nonneg (by omega)]; omega
          have n2 : (qj : Int) % 2 = 1 := by omega
          have n3 : IntKind.i64.wrap ((qj : Int) - 1) = (sj : Int) := by rw [IntKind.wrap_i64]; omega
          have n4 : (0 : Int) ≤ (sj : Int) := by omega
          have n5 : (sj : Int) < (M : Int) := by omega
          clear hs hpar hsj hqq
          go_upto_region 9 with fail
          have hS : ∀ u, ndS.Blk u 47 gj (upN n j ns) → (u.cell? ⟨gj, sj * 3, none⟩ = some (.string Xs) ∧ u.cell? ⟨gj, sj * 3 + 1, none⟩ = some (.int .u64 Xh) ∧ u.cell? ⟨gj, sj * 3 + 2, none⟩ = some (.int .u64 Xl)) ∧ gj < u.heap.size := fun u hu => ⟨⟨hu.cell hX (j := 0) (by decide), hu.cell hX (j := 1) (by decide), hu.cell hX (j := 2) (by decide)⟩, hu.inside⟩
          have b1 := (Below.refl wr.heap.size wr).drew
          have K1 := E.call b1
          have BJ1 := BJ.call b1
          refine wp_region_held_drew (S := fun u => (u.cell? ⟨gj, sj * 3, none⟩ = some (.string Xs) ∧ u.cell? ⟨gj, sj * 3 + 1, none⟩ = some (.int .u64 Xh) ∧ u.cell? ⟨gj, sj * 3 + 2, none⟩ = some (.int .u64 Xl)) ∧ gj < u.heap.size) (by kernel_rfl) (hS _ BJ1) (fun hHeld => ?_)
          generalize wr.drew = Wd at *
          have L1 := chainA (Below.refl Wd.heap.size Wd) (.cells (ndB Xs Xh Xl) 47)
          have y0 : Wd.cell? ⟨g0 + 1, 6, none⟩ = some v6 := (K1.box 0).read 6
          have yin := (K1.box 0).inside
          have z0 : (Wd.alloc (.cells (ndB Xs Xh Xl) 47)).cell? ⟨g0 + 1, 6, none⟩ = some v6 := ((K1.call L1).box 0).read 6
          have zin := ((K1.call L1).box 0).inside
          refine wpAnyH_take (i := 0) (v := ?_) rfl (by kernel_rfl) (by kernel_rfl) (by kernel_rfl) (fun _ _ _ h => h) (Or.inl ⟨by rfl, ?_⟩) (by assumption) ?_
          rotate_left 1
          · intro w hSw; (try dsimp only at hSw); go_simp; try with_reducible rfl
          try simp only [Act.put, List.getElem_toArray, List.getElem_cons_succ, List.getElem_cons_zero, List.setIfInBounds_toArray, List.set_cons_zero, List.set_cons_succ]
          refine wpAnyH_take (i := 1) (v := ?_) rfl (by kernel_rfl) (by kernel_rfl) (by kernel_rfl) (fun _ _ _ h => h) (Or.inl ⟨by rfl, ?_⟩) (by assumption) ?_
          rotate_left 1
          · intro w hSw; (try dsimp only at hSw); go_simp; try with_reducible rfl
          try simp only [Act.put, List.getElem_toArray, List.getElem_cons_succ, List.getElem_cons_zero, List.setIfInBounds_toArray, List.set_cons_zero, List.set_cons_succ]
          refine wpAnyH_take (i := 3) (v := ?_) rfl (by kernel_rfl) (by kernel_rfl) (by kernel_rfl) (fun _ _ _ h => h) (Or.inl ⟨by rfl, ?_⟩) (by assumption) ?_
          rotate_left 1
          · intro w hSw; (try dsimp only at hSw); go_simp; try with_reducible rfl
          try simp only [Act.put, List.getElem_toArray, List.getElem_cons_succ, List.getElem_cons_zero, List.setIfInBounds_toArray, List.set_cons_zero, List.set_cons_succ]
          refine wpAnyH_take (i := 4) (v := ?_) rfl (by kernel_rfl) (by kernel_rfl) (by kernel_rfl) (fun _ _ _ h => h) (Or.inl ⟨by rfl, ?_⟩) (by assumption) ?_
          rotate_left 1
          · intro w hSw; (try dsimp only at hSw); go_simp; try with_reducible rfl
          try simp only [Act.put, List.getElem_toArray, List.getElem_cons_succ, List.getElem_cons_zero, List.setIfInBounds_toArray, List.set_cons_zero, List.set_cons_succ]
          refine wpAnyH_take (i := 5) (v := ?_) rfl (by kernel_rfl) (by kernel_rfl) (by kernel_rfl) (fun _ _ _ h => h) (Or.inl ⟨by rfl, ?_⟩) (by assumption) ?_
          rotate_left 1
          · intro w hSw; (try dsimp only at hSw); go_simp; try with_reducible rfl
          try simp only [Act.put, List.getElem_toArray, List.getElem_cons_succ, List.getElem_cons_zero, List.setIfInBounds_toArray, List.set_cons_zero, List.set_cons_succ]
          refine wpAnyH_take (i := 6) (v := ?_) rfl (by kernel_rfl) (by kernel_rfl) (by kernel_rfl) (fun _ _ _ h => h) (Or.inl ⟨by rfl, ?_⟩) (by assumption) ?_
          rotate_left 1
          · intro w hSw; (try dsimp only at hSw); go_simp; try with_reducible rfl
          try simp only [Act.put, List.getElem_toArray, List.getElem_cons_succ, List.getElem_cons_zero, List.setIfInBounds_toArray, List.set_cons_zero, List.set_cons_succ]
          refine wpAnyH_take (i := 7) (v := ?_) rfl (by kernel_rfl) (by kernel_rfl) (by kernel_rfl) (fun _ _ _ h => h) (Or.inl ⟨by rfl, ?_⟩) (by assumption) ?_
          rotate_left 1
          · intro w hSw; (try dsimp only at hSw); go_simp; try with_reducible rfl
          try simp only [Act.put, List.getElem_toArray, List.getElem_cons_succ, List.getElem_cons_zero, List.setIfInBounds_toArray, List.set_cons_zero, List.set_cons_succ]
          refine wpAnyH_ready (rs := [2, 8]) (by kernel_rfl) (by simp) (AllReadyH.cons rfl (fun K hK => ?_) (AllReadyH.cons rfl (fun K hK => ?_) AllReadyH.nil))
          · go_simp
            refine hK.out _ _ (hS _ BJ1) (fun hHeld => ?_)
            clear hK K
            try simp only [Act.put, List.getElem_toArray, List.getElem_cons_succ, List.getElem_cons_zero, List.setIfInBounds_toArray, List.set_cons_zero, List.set_cons_succ]
            refine wpAnyH_ready (rs := [8]) (by kernel_rfl) (by simp) (AllReadyH.cons rfl (fun K hK => ?_) AllReadyH.nil)
            go_simp
            refine hK.out _ _ (hS _ (BJ1.call L1)) (fun hHeld => ?_)
            clear hK K
            try simp only [Act.put, List.getElem_toArray, List.getElem_cons_succ, List.getElem_cons_zero, List.setIfInBounds_toArray, List.set_cons_zero, List.set_cons_succ]
            have O0 := own_below hown b1
            obtain ⟨v', w6, hrun, o6, gr6, b6⟩ := nd16_app1 Wd (g0 + 2) v6 j (T.take j) O0 ⟨Xs, Xh, Xl⟩ (by omega) (by have := (K1.box 0).inside; omega)
            obtain ⟨A6, c6, rfl⟩ := own_slice16 o6
            have own3 := O0.alloc (.cells (ndB Xs Xh Xl) 47)
            have KA := K1.past (.cells (ndB Xs Xh Xl) 47)
            have E6a := (KA.box 0).grown gr6 (own_ty own3 (KA.box 0) (by decide))
            have E6b := (KA.box 1).grown gr6 (own_ty own3 (KA.box 1) (by decide))
            have E6 : Has W [(g0 + 1, 40, #[.bool xp, .string xi, .string xs, .int .u64 xh, .int .u64 xl, .int .u64 p, v6]), (g0, 40, enV ⟨false, ⟨#[]⟩, ⟨#[]⟩, 0, 0⟩ 0 none 0 0)] w6 := ⟨fun x hx => by
              simp only [List.mem_cons, List.not_mem_nil, or_false] at hx
              rcases hx with rfl | rfl
              · exact E6a
              · exact E6b, K1.below.trans (b6.mono (by have := HG0.out; omega))⟩
            have BJ2 := BJ1.call (chainA (Below.refl Wd.heap.size Wd) (.cells (ndB Xs Xh Xl) 47))
            have L6 : ndS.Blk w6 47 gj (upN n j ns) := BJ2.keep (gr6.block gj BJ2.inside fun e => by have := hlow gj e.symm; omega)
            have hne : gj ≠ g0 + 1 := by
              obtain ⟨cur, rest, hb, he⟩ := L6
              exact hb.type_ne E6a (by decide)
            have L7 : ndS.Blk (w6.setCell ⟨g0 + 1, 6, none⟩ (.slice A6 (j + 1) c6)) 47 gj (upN n j ns) := L6.keep (Below.heap_setCell w6 _ _ gj hne)
            have o7 := own_apart o6 (p := ⟨g0 + 1, 6, none⟩) (fun e => by have := o6.lt _ e; simp only at this; omega) (.slice A6 (j + 1) c6)
            have E7 : Has W [(g0 + 1, 40, #[.bool xp, .string xi, .string xs, .int .u64 xh, .int .u64 xl, .int .u64 p, .slice A6 (j + 1) c6]), (g0, 40, enV ⟨false, ⟨#[]⟩, ⟨#[]⟩, 0, 0⟩ 0 none 0 0)] (w6.setCell ⟨g0 + 1, 6, none⟩ (.slice A6 (j + 1) c6)) :=
              E6.wrote (by have := HG0.out; omega) (fun x hx => by obtain rfl := List.mem_singleton.1 hx; show g0 ≠ g0 + 1; omega) 6 (.slice A6 (j + 1) c6)
            have yf := E6a.free 6
            have yi := E6a.inside
            refine wpAnyH_ready (rs := [9]) (by kernel_rfl) (by simp) (AllReadyH.cons rfl (fun K hK => ?_) AllReadyH.nil)
            refine gen_step rfl _ _ _ rfl _ _ rfl rfl _ w6 hrun ?_
            refine hK.out _ _ (hS _ L6) (fun hHeld => ?_)
            clear hK K
            try simp only [Act.put, List.getElem_toArray, List.getElem_cons_succ, List.getElem_cons_zero, List.setIfInBounds_toArray, List.set_cons_zero, List.set_cons_succ]
            refine wpAnyH_take (i := 10) (v := ?_) rfl (by kernel_rfl) (by kernel_rfl) (by kernel_rfl) (fun _ _ _ h => h) (Or.inl ⟨by rfl, ?_⟩) (by assumption) ?_
            rotate_left 1
            · intro w hSw; (try dsimp only at hSw); go_simp; try with_reducible rfl
            try simp only [Act.put, List.getElem_toArray, List.getElem_cons_succ, List.getElem_cons_zero, List.setIfInBounds_toArray, List.set_cons_zero, List.set_cons_succ]
            refine wpAnyH_take (i := 11) (v := ?_) rfl (by kernel_rfl) (by kernel_rfl) (by kernel_rfl) (fun _ _ _ h => h) (Or.inl ⟨by rfl, ?_⟩) (by assumption) ?_
            rotate_left 1
            · intro w hSw; (try dsimp only at hSw); go_simp; try with_reducible rfl
            try simp only [Act.put, List.getElem_toArray, List.getElem_cons_succ, List.getElem_cons_zero, List.setIfInBounds_toArray, List.set_cons_zero, List.set_cons_succ]
            have y6 : w6.cell? ⟨g0 + 1, 6, none⟩ = some v6 := E6a.read 6
            refine wpAnyH_ready (rs := [12]) (by kernel_rfl) (by simp) (AllReadyH.cons rfl (fun K hK => ?_) AllReadyH.nil)
            go_simp
            have hlow2 : ∀ r, (Value.slice A6 (j + 1) c6).ownBlock = some r → r < (w6.setCell ⟨g0 + 1, 6, none⟩ (.slice A6 (j + 1) c6)).heap.size := fun r e => (o7.lt r e).2
            generalize World.setCell w6 _ _ = W9 at *
            refine hK.out _ _ (hS _ L7) (fun hHeld => ?_)
            clear hK K
            try simp only [Act.put, List.getElem_toArray, List.getElem_cons_succ, List.getElem_cons_zero, List.setIfInBounds_toArray, List.set_cons_zero, List.set_cons_succ]
            refine wpAnyH_done (by kernel_rfl) ?_ _
            clear yf yi y6 y0 yin z0 zin
            have h9 := h.call E7.below
            obtain ⟨t0, t1, tin⟩ := h9.cells
            go_wp2_with (first
              | (go_at_call 23; refine (cU _ L7.row).mono ?_; rintro e w5 ⟨v5, rfl, o5, b5⟩)
              | fail)
            obtain ⟨gj', cj', hv5, hgj', -, BJ'⟩ := Sh.Blk.of_own (S := ndS) (l := upN n (j + 1) ns) (by rw [HUL.out (j + 1) (by omega), HM2.out]; exact o5) (fun e => by have h1 := HUL.out (j + 1) (by omega); rw [e, HM2.out] at h1; simp at h1; omega)
            rw [HUL.out (j + 1) (by omega)] at hv5
            go_roundg (k - (j + 1))
            case measure => have := HG.out; omega
            case rel => exact ⟨j + 1, by omega, Nat.le_refl _, by rw [HQ2.out], gj', cj', ⟨hv5, BJ'⟩, _, E7.call b5, by rw [HTKJ.out]; exact own_below o7 b5, fun r e => by have := hlow2 r e; omega⟩
          · go_simp
            refine hK.out _ _ (hS _ (BJ1.call L1)) (fun hHeld => ?_)
            clear hK K
            try simp only [Act.put, List.getElem_toArray, List.getElem_cons_succ, List.getElem_cons_zero, List.setIfInBounds_toArray, List.set_cons_zero, List.set_cons_succ]
            refine wpAnyH_ready (rs := [2]) (by kernel_rfl) (by simp) (AllReadyH.cons rfl (fun K hK => ?_) AllReadyH.nil)
            go_simp
            refine hK.out _ _ (hS _ (BJ1.call L1)) (fun hHeld => ?_)
            clear hK K
            try simp only [Act.put, List.getElem_toArray, List.getElem_cons_succ, List.getElem_cons_zero, List.setIfInBounds_toArray, List.set_cons_zero, List.set_cons_succ]
            have O0 := own_below hown b1
            obtain ⟨v', w6, hrun, o6, gr6, b6⟩ := nd16_app1 Wd (g0 + 2) v6 j (T.take j) O0 ⟨Xs, Xh, Xl⟩ (by omega) (by have := (K1.box 0).inside; omega)
            obtain ⟨A6, c6, rfl⟩ := own_slice16 o6
            have own3 := O0.alloc (.cells (ndB Xs Xh Xl) 47)
            have KA := K1.past (.cells (ndB Xs Xh Xl) 47)
            have E6a := (KA.box 0).grown gr6 (own_ty own3 (KA.box 0) (by decide))
            have E6b := (KA.box 1).grown gr6 (own_ty own3 (KA.box 1) (by decide))
            have E6 : Has W [(g0 + 1, 40, #[.bool xp, .string xi, .string xs, .int .u64 xh, .int .u64 xl, .int .u64 p, v6]), (g0, 40, enV ⟨false, ⟨#[]⟩, ⟨#[]⟩, 0, 0⟩ 0 none 0 0)] w6 := ⟨fun x hx => by
              simp only [List.mem_cons, List.not_mem_nil, or_false] at hx
              rcases hx with rfl | rfl
              · exact E6a
              · exact E6b, K1.below.trans (b6.mono (by have := HG0.out; omega))⟩
            have BJ2 := BJ1.call (chainA (Below.refl Wd.heap.size Wd) (.cells (ndB Xs Xh Xl) 47))
            have L6 : ndS.Blk w6 47 gj (upN n j ns) := BJ2.keep (gr6.block gj BJ2.inside fun e => by have := hlow gj e.symm; omega)
            have hne : gj ≠ g0 + 1 := by
              obtain ⟨cur, rest, hb, he⟩ := L6
              exact hb.type_ne E6a (by decide)
            have L7 : ndS.Blk (w6.setCell ⟨g0 + 1, 6, none⟩ (.slice A6 (j + 1) c6)) 47 gj (upN n j ns) := L6.keep (Below.heap_setCell w6 _ _ gj hne)
            have o7 := own_apart o6 (p := ⟨g0 + 1, 6, none⟩) (fun e => by have := o6.lt _ e; simp only at this; omega) (.slice A6 (j + 1) c6)
            have E7 : Has W [(g0 + 1, 40, #[.bool xp, .string xi, .string xs, .int .u64 xh, .int .u64 xl, .int .u64 p, .slice A6 (j + 1) c6]), (g0, 40, enV ⟨false, ⟨#[]⟩, ⟨#[]⟩, 0, 0⟩ 0 none 0 0)] (w6.setCell ⟨g0 + 1, 6, none⟩ (.slice A6 (j + 1) c6)) :=
              E6.wrote (by have := HG0.out; omega) (fun x hx => by obtain rfl := List.mem_singleton.1 hx; show g0 ≠ g0 + 1; omega) 6 (.slice A6 (j + 1) c6)
            have yf := E6a.free 6
            have yi := E6a.inside
            refine wpAnyH_ready (rs := [9]) (by kernel_rfl) (by simp) (AllReadyH.cons rfl (fun K hK => ?_) AllReadyH.nil)
            refine gen_step rfl _ _ _ rfl _ _ rfl rfl _ w6 hrun ?_
            refine hK.out _ _ (hS _ L6) (fun hHeld => ?_)
            clear hK K
            try simp only [Act.put, List.getElem_toArray, List.getElem_cons_succ, List.getElem_cons_zero, List.setIfInBounds_toArray, List.set_cons_zero, List.set_cons_succ]
            refine wpAnyH_take (i := 10) (v := ?_) rfl (by kernel_rfl) (by kernel_rfl) (by kernel_rfl) (fun _ _ _ h => h) (Or.inl ⟨by rfl, ?_⟩) (by assumption) ?_
            rotate_left 1
            · intro w hSw; (try dsimp only at hSw); go_simp; try with_reducible rfl
            try simp only [Act.put, List.getElem_toArray, List.getElem_cons_succ, List.getElem_cons_zero, List.setIfInBounds_toArray, List.set_cons_zero, List.set_cons_succ]
            refine wpAnyH_take (i := 11) (v := ?_) rfl (by kernel_rfl) (by kernel_rfl) (by kernel_rfl) (fun _ _ _ h => h) (Or.inl ⟨by rfl, ?_⟩) (by assumption) ?_
            rotate_left 1
            · intro w hSw; (try dsimp only at hSw); go_simp; try with_reducible rfl
            try simp only [Act.put, List.getElem_toArray, List.getElem_cons_succ, List.getElem_cons_zero, List.setIfInBounds_toArray, List.set_cons_zero, List.set_cons_succ]
            have y6 : w6.cell? ⟨g0 + 1, 6, none⟩ = some v6 := E6a.read 6
            refine wpAnyH_ready (rs := [12]) (by kernel_rfl) (by simp) (AllReadyH.cons rfl (fun K hK => ?_) AllReadyH.nil)
            go_simp
            have hlow2 : ∀ r, (Value.slice A6 (j + 1) c6).ownBlock = some r → r < (w6.setCell ⟨g0 + 1, 6, none⟩ (.slice A6 (j + 1) c6)).heap.size := fun r e => (o7.lt r e).2
            generalize World.setCell w6 _ _ = W9 at *
            refine hK.out _ _ (hS _ L7) (fun hHeld => ?_)
            clear hK K
            try simp only [Act.put, List.getElem_toArray, List.getElem_cons_succ, List.getElem_cons_zero, List.setIfInBounds_toArray, List.set_cons_zero, List.set_cons_succ]
            refine wpAnyH_done (by kernel_rfl) ?_ _
            clear yf yi y6 y0 yin z0 zin
            have h9 := h.call E7.below
            obtain ⟨t0, t1, tin⟩ := h9.cells
            go_wp2_with (first
              | (go_at_call 23; refine (cU _ L7.row).mono ?_; rintro e w5 ⟨v5, rfl, o5, b5⟩)
              | fail)
            obtain ⟨gj', cj', hv5, hgj', -, BJ'⟩ := Sh.Blk.of_own (S := ndS) (l := upN n (j + 1) ns) (by rw [HUL.out (j + 1) (by omega), HM2.out]; exact o5) (fun e => by have h1 := HUL.out (j + 1) (by omega); rw [e, HM2.out] at h1; simp at h1; omega)
            rw [HUL.out (j + 1) (by omega)] at hv5
            go_roundg (k - (j + 1))
            case measure => have := HG.out; omega
            case rel => exact ⟨j + 1, by omega, Nat.le_refl _, by rw [HQ2.out], gj', cj', ⟨hv5, BJ'⟩, _, E7.call b5, by rw [HTKJ.out]; exact own_below o7 b5, fun r e => by have := hlow2 r e; omega⟩
        · have hs : sib qj = qj + 1 := by rw [sib, if_neg hpar]
          rw [hs] at hX hsl
          obtain ⟨sj, hsj⟩ : ∃ s, qj + 1 = s := ⟨_, rfl⟩
          rw [hsj] at hX hsl
          have n1 : Int.tmod (qj : Int) 2 = 0 := by rw [Int.tmod_eq_emod_of_nonneg (by omega)]; omega
          have n2 : (qj : Int) % 2 = 0 := by omega
          have n3 : IntKind.i64.wrap ((qj : Int) + 1) = (sj : Int) := by rw [IntKind.wrap_i64]; omega
          have n4 : (0 : Int) ≤ (sj : Int) := by omega
          have n5 : (sj : Int) < (M : Int) := by omega
          clear hs hpar hsj hqq
          go_upto_region 8 with fail
          have hS : ∀ u, ndS.Blk u 47 gj (upN n j ns) → (u.cell? ⟨gj, sj * 3, none⟩ = some (.string Xs) ∧ u.cell? ⟨gj, sj * 3 + 1, none⟩ = some (.int .u64 Xh) ∧ u.cell? ⟨gj, sj * 3 + 2, none⟩ = some (.int .u64 Xl)) ∧ gj < u.heap.size := fun u hu => ⟨⟨hu.cell hX (j := 0) (by decide), hu.cell hX (j := 1) (by decide), hu.cell hX (j := 2) (by decide)⟩, hu.inside⟩
          have b1 := (Below.refl wr.heap.size wr).drew
          have K1 := E.call b1
          have BJ1 := BJ.call b1
          refine wp_region_held_drew (S := fun u => (u.cell? ⟨gj, sj * 3, none⟩ = some (.string Xs) ∧ u.cell? ⟨gj, sj * 3 + 1, none⟩ = some (.int .u64 Xh) ∧ u.cell? ⟨gj, sj * 3 + 2, none⟩ = some (.int .u64 Xl)) ∧ gj < u.heap.size) (by kernel_rfl) (hS _ BJ1) (fun hHeld => ?_)
          generalize wr.drew = Wd at *
          have L1 := chainA (Below.refl Wd.heap.size Wd) (.cells (ndB Xs Xh Xl) 47)
          have y0 : Wd.cell? ⟨g0 + 1, 6, none⟩ = some v6 := (K1.box 0).read 6
          have yin := (K1.box 0).inside
          have z0 : (Wd.alloc (.cells (ndB Xs Xh Xl) 47)).cell? ⟨g0 + 1, 6, none⟩ = some v6 := ((K1.call L1).box 0).read 6
          have zin := ((K1.call L1).box 0).inside
          refine wpAnyH_take (i := 0) (v := ?_) rfl (by kernel_rfl) (by kernel_rfl) (by kernel_rfl) (fun _ _ _ h => h) (Or.inl ⟨by rfl, ?_⟩) (by assumption) ?_
          rotate_left 1
          · intro w hSw; (try dsimp only at hSw); go_simp; try with_reducible rfl
          try simp only [Act.put, List.getElem_toArray, List.getElem_cons_succ, List.getElem_cons_zero, List.setIfInBounds_toArray, List.set_cons_zero, List.set_cons_succ]
          refine wpAnyH_take (i := 1) (v := ?_) rfl (by kernel_rfl) (by kernel_rfl) (by kernel_rfl) (fun _ _ _ h => h) (Or.inl ⟨by rfl, ?_⟩) (by assumption) ?_
          rotate_left 1
          · intro w hSw; (try dsimp only at hSw); go_simp; try with_reducible rfl
          try simp only [Act.put, List.getElem_toArray, List.getElem_cons_succ, List.getElem_cons_zero, List.setIfInBounds_toArray, List.set_cons_zero, List.set_cons_succ]
          refine wpAnyH_take (i := 3) (v := ?_) rfl (by kernel_rfl) (by kernel_rfl) (by kernel_rfl) (fun _ _ _ h => h) (Or.inl ⟨by rfl, ?_⟩) (by assumption) ?_
          rotate_left 1
          · intro w hSw; (try dsimp only at hSw); go_simp; try with_reducible rfl
          try simp only [Act.put, List.getElem_toArray, List.getElem_cons_succ, List.getElem_cons_zero, List.setIfInBounds_toArray, List.set_cons_zero, List.set_cons_succ]
          refine wpAnyH_take (i := 4) (v := ?_) rfl (by kernel_rfl) (by kernel_rfl) (by kernel_rfl) (fun _ _ _ h => h) (Or.inl ⟨by rfl, ?_⟩) (by assumption) ?_
          rotate_left 1
          · intro w hSw; (try dsimp only at hSw); go_simp; try with_reducible rfl
          try simp only [Act.put, List.getElem_toArray, List.getElem_cons_succ, List.getElem_cons_zero, List.setIfInBounds_toArray, List.set_cons_zero, List.set_cons_succ]
          refine wpAnyH_take (i := 5) (v := ?_) rfl (by kernel_rfl) (by kernel_rfl) (by kernel_rfl) (fun _ _ _ h => h) (Or.inl ⟨by rfl, ?_⟩) (by assumption) ?_
          rotate_left 1
          · intro w hSw; (try dsimp only at hSw); go_simp; try with_reducible rfl
          try simp only [Act.put, List.getElem_toArray, List.getElem_cons_succ, List.getElem_cons_zero, List.setIfInBounds_toArray, List.set_cons_zero, List.set_cons_succ]
          refine wpAnyH_take (i := 6) (v := ?_) rfl (by kernel_rfl) (by kernel_rfl) (by kernel_rfl) (fun _ _ _ h => h) (Or.inl ⟨by rfl, ?_⟩) (by assumption) ?_
          rotate_left 1
          · intro w hSw; (try dsimp only at hSw); go_simp; try with_reducible rfl
          try simp only [Act.put, List.getElem_toArray, List.getElem_cons_succ, List.getElem_cons_zero, List.setIfInBounds_toArray, List.set_cons_zero, List.set_cons_succ]
          refine wpAnyH_take (i := 7) (v := ?_) rfl (by kernel_rfl) (by kernel_rfl) (by kernel_rfl) (fun _ _ _ h => h) (Or.inl ⟨by rfl, ?_⟩) (by assumption) ?_
          rotate_left 1
          · intro w hSw; (try dsimp only at hSw); go_simp; try with_reducible rfl
          try simp only [Act.put, List.getElem_toArray, List.getElem_cons_succ, List.getElem_cons_zero, List.setIfInBounds_toArray, List.set_cons_zero, List.set_cons_succ]
          refine wpAnyH_ready (rs := [2, 8]) (by kernel_rfl) (by simp) (AllReadyH.cons rfl (fun K hK => ?_) (AllReadyH.cons rfl (fun K hK => ?_) AllReadyH.nil))
          · go_simp
            refine hK.out _ _ (hS _ BJ1) (fun hHeld => ?_)
            clear hK K
            try simp only [Act.put, List.getElem_toArray, List.getElem_cons_succ, List.getElem_cons_zero, List.setIfInBounds_toArray, List.set_cons_zero, List.set_cons_succ]
            refine wpAnyH_ready (rs := [8]) (by kernel_rfl) (by simp) (AllReadyH.cons rfl (fun K hK => ?_) AllReadyH.nil)
            go_simp
            refine hK.out _ _ (hS _ (BJ1.call L1)) (fun hHeld => ?_)
            clear hK K
            try simp only [Act.put, List.getElem_toArray, List.getElem_cons_succ, List.getElem_cons_zero, List.setIfInBounds_toArray, List.set_cons_zero, List.set_cons_succ]
            have O0 := own_below hown b1
            obtain ⟨v', w6, hrun, o6, gr6, b6⟩ := nd16_app1 Wd (g0 + 2) v6 j (T.take j) O0 ⟨Xs, Xh, Xl⟩ (by omega) (by have := (K1.box 0).inside; omega)
            obtain ⟨A6, c6, rfl⟩ := own_slice16 o6
            have own3 := O0.alloc (.cells (ndB Xs Xh Xl) 47)
            have KA := K1.past (.cells (ndB Xs Xh Xl) 47)
            have E6a := (KA.box 0).grown gr6 (own_ty own3 (KA.box 0) (by decide))
            have E6b := (KA.box 1).grown gr6 (own_ty own3 (KA.box 1) (by decide))
            have E6 : Has W [(g0 + 1, 40, #[.bool xp, .string xi, .string xs, .int .u64 xh, .int .u64 xl, .int .u64 p, v6]), (g0, 40, enV ⟨false, ⟨#[]⟩, ⟨#[]⟩, 0, 0⟩ 0 none 0 0)] w6 := ⟨fun x hx => by
              simp only [List.mem_cons, List.not_mem_nil, or_false] at hx
              rcases hx with rfl | rfl
              · exact E6a
              · exact E6b, K1.below.trans (b6.mono (by have := HG0.out; omega))⟩
            have BJ2 := BJ1.call (chainA (Below.refl Wd.heap.size Wd) (.cells (ndB Xs Xh Xl) 47))
            have L6 : ndS.Blk w6 47 gj (upN n j ns) := BJ2.keep (gr6.block gj BJ2.inside fun e => by have := hlow gj e.symm; omega)
            have hne : gj ≠ g0 + 1 := by
              obtain ⟨cur, rest, hb, he⟩ := L6
              exact hb.type_ne E6a (by decide)
            have L7 : ndS.Blk (w6.setCell ⟨g0 + 1, 6, none⟩ (.slice A6 (j + 1) c6)) 47 gj (upN n j ns) := L6.keep (Below.heap_setCell w6 _ _ gj hne)
            have o7 := own_apart o6 (p := ⟨g0 + 1, 6, none⟩) (fun e => by have := o6.lt _ e; simp only at this; omega) (.slice A6 (j + 1) c6)
            have E7 : Has W [(g0 + 1, 40, #[.bool xp, .string xi, .string xs, .int .u64 xh, .int .u64 xl, .int .u64 p, .slice A6 (j + 1) c6]), (g0, 40, enV ⟨false, ⟨#[]⟩, ⟨#[]⟩, 0, 0⟩ 0 none 0 0)] (w6.setCell ⟨g0 + 1, 6, none⟩ (.slice A6 (j + 1) c6)) :=
              E6.wrote (by have := HG0.out; omega) (fun x hx => by obtain rfl := List.mem_singleton.1 hx; show g0 ≠ g0 + 1; omega) 6 (.slice A6 (j + 1) c6)
            have yf := E6a.free 6
            have yi := E6a.inside
            refine wpAnyH_ready (rs := [9]) (by kernel_rfl) (by simp) (AllReadyH.cons rfl (fun K hK => ?_) AllReadyH.nil)
            refine gen_step rfl _ _ _ rfl _ _ rfl rfl _ w6 hrun ?_
            refine hK.out _ _ (hS _ L6) (fun hHeld => ?_)
            clear hK K
            try simp only [Act.put, List.getElem_toArray, List.getElem_cons_succ, List.getElem_cons_zero, List.setIfInBounds_toArray, List.set_cons_zero, List.set_cons_succ]
            refine wpAnyH_take (i := 10) (v := ?_) rfl (by kernel_rfl) (by kernel_rfl) (by kernel_rfl) (fun _ _ _ h => h) (Or.inl ⟨by rfl, ?_⟩) (by assumption) ?_
            rotate_left 1
            · intro w hSw; (try dsimp only at hSw); go_simp; try with_reducible rfl
            try simp only [Act.put, List.getElem_toArray, List.getElem_cons_succ, List.getElem_cons_zero, List.setIfInBounds_toArray, List.set_cons_zero, List.set_cons_succ]
            refine wpAnyH_take (i := 11) (v := ?_) rfl (by kernel_rfl) (by kernel_rfl) (by kernel_rfl) (fun _ _ _ h => h) (Or.inl ⟨by rfl, ?_⟩) (by assumption) ?_
            rotate_left 1
            · intro w hSw; (try dsimp only at hSw); go_simp; try with_reducible rfl
            try simp only [Act.put, List.getElem_toArray, List.getElem_cons_succ, List.getElem_cons_zero, List.setIfInBounds_toArray, List.set_cons_zero, List.set_cons_succ]
            have y6 : w6.cell? ⟨g0 + 1, 6, none⟩ = some v6 := E6a.read 6
            refine wpAnyH_ready (rs := [12]) (by kernel_rfl) (by simp) (AllReadyH.cons rfl (fun K hK => ?_) AllReadyH.nil)
            go_simp
            have hlow2 : ∀ r, (Value.slice A6 (j + 1) c6).ownBlock = some r → r < (w6.setCell ⟨g0 + 1, 6, none⟩ (.slice A6 (j + 1) c6)).heap.size := fun r e => (o7.lt r e).2
            generalize World.setCell w6 _ _ = W9 at *
            refine hK.out _ _ (hS _ L7) (fun hHeld => ?_)
            clear hK K
            try simp only [Act.put, List.getElem_toArray, List.getElem_cons_succ, List.getElem_cons_zero, List.setIfInBounds_toArray, List.set_cons_zero, List.set_cons_succ]
            refine wpAnyH_done (by kernel_rfl) ?_ _
            clear yf yi y6 y0 yin z0 zin
            have h9 := h.call E7.below
            obtain ⟨t0, t1, tin⟩ := h9.cells
            go_wp2_with (first
              | (go_at_call 23; refine (cU _ L7.row).mono ?_; rintro e w5 ⟨v5, rfl, o5, b5⟩)
              | fail)
            obtain ⟨gj', cj', hv5, hgj', -, BJ'⟩ := Sh.Blk.of_own (S := ndS) (l := upN n (j + 1) ns) (by rw [HUL.out (j + 1) (by omega), HM2.out]; exact o5) (fun e => by have h1 := HUL.out (j + 1) (by omega); rw [e, HM2.out] at h1; simp at h1; omega)
            rw [HUL.out (j + 1) (by omega)] at hv5
            go_roundg (k - (j + 1))
            case measure => have := HG.out; omega
            case rel => exact ⟨j + 1, by omega, Nat.le_refl _, by rw [HQ2.out], gj', cj', ⟨hv5, BJ'⟩, _, E7.call b5, by rw [HTKJ.out]; exact own_below o7 b5, fun r e => by have := hlow2 r e; omega⟩
          · go_simp
            refine hK.out _ _ (hS _ (BJ1.call L1)) (fun hHeld => ?_)
            clear hK K
            try simp only [Act.put, List.getElem_toArray, List.getElem_cons_succ, List.getElem_cons_zero, List.setIfInBounds_toArray, List.set_cons_zero, List.set_cons_succ]
            refine wpAnyH_ready (rs := [2]) (by kernel_rfl) (by simp) (AllReadyH.cons rfl (fun K hK => ?_) AllReadyH.nil)
            go_simp
            refine hK.out _ _ (hS _ (BJ1.call L1)) (fun hHeld => ?_)
            clear hK K
            try simp only [Act.put, List.getElem_toArray, List.getElem_cons_succ, List.getElem_cons_zero, List.setIfInBounds_toArray, List.set_cons_zero, List.set_cons_succ]
            have O0 := own_below hown b1
            obtain ⟨v', w6, hrun, o6, gr6, b6⟩ := nd16_app1 Wd (g0 + 2) v6 j (T.take j) O0 ⟨Xs, Xh, Xl⟩ (by omega) (by have := (K1.box 0).inside; omega)
            obtain ⟨A6, c6, rfl⟩ := own_slice16 o6
            have own3 := O0.alloc (.cells (ndB Xs Xh Xl) 47)
            have KA := K1.past (.cells (ndB Xs Xh Xl) 47)
            have E6a := (KA.box 0).grown gr6 (own_ty own3 (KA.box 0) (by decide))
            have E6b := (KA.box 1).grown gr6 (own_ty own3 (KA.box 1) (by decide))
            have E6 : Has W [(g0 + 1, 40, #[.bool xp, .string xi, .string xs, .int .u64 xh, .int .u64 xl, .int .u64 p, v6]), (g0, 40, enV ⟨false, ⟨#[]⟩, ⟨#[]⟩, 0, 0⟩ 0 none 0 0)] w6 := ⟨fun x hx => by
              simp only [List.mem_cons, List.not_mem_nil, or_false] at hx
              rcases hx with rfl | rfl
              · exact E6a
              · exact E6b, K1.below.trans (b6.mono (by have := HG0.out; omega))⟩
            have BJ2 := BJ1.call (chainA (Below.refl Wd.heap.size Wd) (.cells (ndB Xs Xh Xl) 47))
            have L6 : ndS.Blk w6 47 gj (upN n j ns) := BJ2.keep (gr6.block gj BJ2.inside fun e => by have := hlow gj e.symm; omega)
            have hne : gj ≠ g0 + 1 := by
              obtain ⟨cur, rest, hb, he⟩ := L6
              exact hb.type_ne E6a (by decide)
            have L7 : ndS.Blk (w6.setCell ⟨g0 + 1, 6, none⟩ (.slice A6 (j + 1) c6)) 47 gj (upN n j ns) := L6.keep (Below.heap_setCell w6 _ _ gj hne)
            have o7 := own_apart o6 (p := ⟨g0 + 1, 6, none⟩) (fun e => by have := o6.lt _ e; simp only at this; omega) (.slice A6 (j + 1) c6)
            have E7 : Has W [(g0 + 1, 40, #[.bool xp, .string xi, .string xs, .int .u64 xh, .int .u64 xl, .int .u64 p, .slice A6 (j + 1) c6]), (g0, 40, enV ⟨false, ⟨#[]⟩, ⟨#[]⟩, 0, 0⟩ 0 none 0 0)] (w6.setCell ⟨g0 + 1, 6, none⟩ (.slice A6 (j + 1) c6)) :=
              E6.wrote (by have := HG0.out; omega) (fun x hx => by obtain rfl := List.mem_singleton.1 hx; show g0 ≠ g0 + 1; omega) 6 (.slice A6 (j + 1) c6)
            have yf := E6a.free 6
            have yi := E6a.inside
            refine wpAnyH_ready (rs := [9]) (by kernel_rfl) (by simp) (AllReadyH.cons rfl (fun K hK => ?_) AllReadyH.nil)
            refine gen_step rfl _ _ _ rfl _ _ rfl rfl _ w6 hrun ?_
            refine hK.out _ _ (hS _ L6) (fun hHeld => ?_)
            clear hK K
            try simp only [Act.put, List.getElem_toArray, List.getElem_cons_succ, List.getElem_cons_zero, List.setIfInBounds_toArray, List.set_cons_zero, List.set_cons_succ]
            refine wpAnyH_take (i := 10) (v := ?_) rfl (by kernel_rfl) (by kernel_rfl) (by kernel_rfl) (fun _ _ _ h => h) (Or.inl ⟨by rfl, ?_⟩) (by assumption) ?_
            rotate_left 1
            · intro w hSw; (try dsimp only at hSw); go_simp; try with_reducible rfl
            try simp only [Act.put, List.getElem_toArray, List.getElem_cons_succ, List.getElem_cons_zero, List.setIfInBounds_toArray, List.set_cons_zero, List.set_cons_succ]
            refine wpAnyH_take (i := 11) (v := ?_) rfl (by kernel_rfl) (by kernel_rfl) (by kernel_rfl) (fun _ _ _ h => h) (Or.inl ⟨by rfl, ?_⟩) (by assumption) ?_
            rotate_left 1
            · intro w hSw; (try dsimp only at hSw); go_simp; try with_reducible rfl
            try simp only [Act.put, List.getElem_toArray, List.getElem_cons_succ, List.getElem_cons_zero, List.setIfInBounds_toArray, List.set_cons_zero, List.set_cons_succ]
            have y6 : w6.cell? ⟨g0 + 1, 6, none⟩ = some v6 := E6a.read 6
            refine wpAnyH_ready (rs := [12]) (by kernel_rfl) (by simp) (AllReadyH.cons rfl (fun K hK => ?_) AllReadyH.nil)
            go_simp
            have hlow2 : ∀ r, (Value.slice A6 (j + 1) c6).ownBlock = some r → r < (w6.setCell ⟨g0 + 1, 6, none⟩ (.slice A6 (j + 1) c6)).heap.size := fun r e => (o7.lt r e).2
            generalize World.setCell w6 _ _ = W9 at *
            refine hK.out _ _ (hS _ L7) (fun hHeld => ?_)
            clear hK K
            try simp only [Act.put, List.getElem_toArray, List.getElem_cons_succ, List.getElem_cons_zero, List.setIfInBounds_toArray, List.set_cons_zero, List.set_cons_succ]
            refine wpAnyH_done (by kernel_rfl) ?_ _
            clear yf yi y6 y0 yin z0 zin
            have h9 := h.call E7.below
            obtain ⟨t0, t1, tin⟩ := h9.cells
            go_wp2_with (first
              | (go_at_call 23; refine (cU _ L7.row).mono ?_; rintro e w5 ⟨v5, rfl, o5, b5⟩)
              | fail)
            obtain ⟨gj', cj', hv5, hgj', -, BJ'⟩ := Sh.Blk.of_own (S := ndS) (l := upN n (j + 1) ns) (by rw [HUL.out (j + 1) (by omega), HM2.out]; exact o5) (fun e => by have h1 := HUL.out (j + 1) (by omega); rw [e, HM2.out] at h1; simp at h1; omega)
            rw [HUL.out (j + 1) (by omega)] at hv5
            go_roundg (k - (j + 1))
            case measure => have := HG.out; omega
            case rel => exact ⟨j + 1, by omega, Nat.le_refl _, by rw [HQ2.out], gj', cj', ⟨hv5, BJ'⟩, _, E7.call b5, by rw [HTKJ.out]; exact own_below o7 b5, fun r e => by have := hlow2 r e; omega⟩
      · have e : j = k := by omega
        subst e
        rw [List.take_of_length_le (by rw [HTL.out]; exact Nat.le_refl _)] at hown
        obtain ⟨A, cA, rfl, hSd, -⟩ := SdAt.of_own (l := T) (by rw [HTL.out]; exact hown)
        rw [HTL.out] at E
        have hm : ¬ (1 : Int) < ((2 ^ (j - j) : Nat) : Int) := by rw [Nat.sub_self]; decide
        obtain ⟨M, hM⟩ : ∃ M, 2 ^ (j - j) = M := ⟨_, rfl⟩
        rw [hM] at hm ⊢
        obtain ⟨⟨x0, x1, x2, x3, x4, x5, x6⟩, xin⟩ := (E.box 0).seven
        obtain ⟨⟨z0, z1, z2, z3, z4, z5, z6⟩, zin⟩ := (E.box 1).seven
        obtain ⟨y0, y1, y2, y3, y4, y5, y6⟩ := (E.box 1).seven_free
        go_wp2
        have E4 := E.tail.wrote7 (Nat.le_of_eq HG0.out) (fun x hx => by simp at hx) (.bool xp) (.string xi) (.string xs) (.int .u64 xh) (.int .u64 xl) (.int .u64 p) (.slice A j cA)
        have hSd2 := (hSd.offOne (put7_off wr g0 (.bool xp) (.string xi) (.string xs) (.int .u64 xh) (.int .u64 xl) (.int .u64 p) (.slice A j cA)) (E.box 1) (by decide)).row
        generalize World.setCell (World.setCell (World.setCell (World.setCell (World.setCell (World.setCell (World.setCell wr _ _) _ _) _ _) _ _) _ _) _ _) _ _ = W9 at *
        obtain ⟨⟨v0, v1, v2, v3, v4, v5, v6⟩, -⟩ := (E4.box 0).seven
        exact bodyPost_ret (v := .tuple #[.agg (enV ⟨xp, xi, xs, xh, xl⟩ p A j cA), .int .i64 0]) (by simp [results, Tryz.results8, go_sem, v0, v1, v2, v3, v4, v5, v6]) rfl ⟨E4.below, A, ⟨cA, rfl⟩, hSd2⟩
end
end Go.Proofs.YtjndabnegmecmaaGreatDoor
