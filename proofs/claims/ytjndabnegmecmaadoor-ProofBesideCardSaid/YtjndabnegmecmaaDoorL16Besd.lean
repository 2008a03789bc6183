/-
  The law ProofBeside: two leaves that stand side by side have the same proofs, but for the first side: that is the other one's node; leaves whose ways meet at a level have the same sides from there on. Conditions: none.
-/
import Derived.Test.YtjndabnegmecmaaDoorU16Awak
import Derived.Test.YtjndabnegmecmaaDoorM16Fn
namespace Go.Proofs.YtjndabnegmecmaaDoor
set_option linter.unusedVariables false
set_option linter.unusedSimpArgs false
set_option maxRecDepth 10000
open Go.ChangeShapes Go.WideShapes Go.ChangeAt Go.RowKit

theorem log_fewB {n : Int} {l : List Lf} {k : Nat} (h : FairT n l k) (hl : l.length ≤ 70) : k ≤ 6 := by
  by_cases hk : k ≤ 6
  · exact hk
  · have h1 : 2 ^ 7 ≤ 2 ^ k := Nat.pow_le_pow_right (by decide) (by omega)
    rw [← h.len] at h1
    omega
/-- What a slice from a place on begins with. -/
theorem row_from {w : World} {B g c : Nat} {xs : List Nd} (h : ndS.Row w B (some ⟨g, 0, none⟩) xs) (hc : xs.length ≤ c) (j : Nat) : ndS.Row w B (if c = j then some ⟨g, 0, none⟩ else some ⟨g, j * 3, none⟩) (xs.drop j) := by
  by_cases hj : c = j
  · rw [if_pos hj, List.drop_of_length_le (by omega)]
    exact Sh.Row.nil _ _ _ _
  · rw [if_neg hj]
    intro i x hx
    rw [List.getElem?_drop] at hx
    obtain ⟨ad, e, hl, hq⟩ := h (j + i) x hx
    injection e with e
    subst e
    refine ⟨_, rfl, hl, ?_⟩
    change ndS.At w ((⟨g, 0, none⟩ : Addr).add ((j + i) * 3)) x at hq
    change ndS.At w ((⟨g, j * 3, none⟩ : Addr).add (i * 3)) x
    rw [gen_zero] at hq
    have e : (⟨g, j * 3, none⟩ : Addr).add (i * 3) = ⟨g, (j + i) * 3, none⟩ := by
      rw [show (⟨g, j * 3, none⟩ : Addr) = (⟨g, 0, none⟩ : Addr).add (j * 3) from (gen_zero _ _).symm, gen_add, gen_zero, Nat.add_mul]
    rw [e]
    exact hq
set_option maxRecDepth 100000 in
set_option maxHeartbeats 8000000 in
theorem proofBeside_fair (n : Int) (A : Option Addr) (c : Nat) (l : List Lf) (one two : Nat) (ho : one < 65536) (ht : two < 65536) (hc : l.length ≤ c) (hcm : c ≤ 9223372036854775807) (hg : greatLf l = false) (h2 : 2 ≤ l.length) (hF : FairT n l (Nat.log2 l.length))
    (w : World) (hR : lfS.Row w w.heap.size A l) (hK : Tab w) (hU : TabU w) :
    Calls Tryd.prog 4 #[.int .i64 n, .slice A l.length c, .int .u16 one, .int .u16 two] w (Tells (.bool true) w.heap.size w) := by
  obtain ⟨hl70, hsz⟩ := greatLf_no hg
  have hk := log_fewB hF hl70
  have cW := fun u hu hv => awake16_any u hu hv
  have cG := fun u hu => great15_any A c l (by omega) (fun x hx => ⟨by have := hsz x hx; omega, by have := hsz x hx; omega⟩) u hu
  rw [hg] at cG
  obtain ⟨k, hkk⟩ : ∃ k, Nat.log2 l.length = k := ⟨_, rfl⟩
  rw [hkk] at hF hk
  clear hkk
  have c1 := fun u hR hT hV => new15_fair n A c l u hF hR hT hV
  have hlen := hF.len
  have hall := hF.all
  have HF := hideIt hF
  have hk1 : 1 ≤ k := by
    rcases Nat.eq_zero_or_pos k with h | h
    · rw [hlen, h] at h2; omega
    · exact h
  -- the two positions
  obtain ⟨a, haa⟩ : ∃ a, one % l.length = a := ⟨_, rfl⟩
  obtain ⟨b, hbb⟩ : ∃ b, two % l.length = b := ⟨_, rfl⟩
  have ha : a < 2 ^ k := by rw [← haa, ← hlen]; exact Nat.mod_lt _ (by omega)
  have hb : b < 2 ^ k := by rw [← hbb, ← hlen]; exact Nat.mod_lt _ (by omega)
  have hz : sib a < 2 ^ k := by
    have := sib_fit (k := k) (j := 0) (a := a) hk1 (by rw [Nat.sub_zero]; exact ha)
    rwa [Nat.sub_zero] at this
  obtain ⟨x, hx⟩ : ∃ x, l[a]? = some x := ⟨_, List.getElem?_eq_getElem (by rw [hlen]; exact ha)⟩
  obtain ⟨y, hy⟩ : ∃ x, l[b]? = some x := ⟨_, List.getElem?_eq_getElem (by rw [hlen]; exact hb)⟩
  obtain ⟨z, hzz⟩ : ∃ x, l[sib a]? = some x := ⟨_, List.getElem?_eq_getElem (by rw [hlen]; exact hz)⟩
  have cX := fun u (q : TrG) (hu : TrAt u q n l k) => of16_in hu HF.out a ha hx
  have cY := fun u (q : TrG) (hu : TrAt u q n l k) => of16_in hu HF.out b hb hy
  have cZ := fun u (q : TrG) (hu : TrAt u q n l k) => of16_in hu HF.out (sib a) hz hzz
  have cH := fun u (q : TrG) (hu : TrAt u q n l k) => height15_any hu (by omega)
  have mx := List.mem_of_getElem? hx
  have mz := List.mem_of_getElem? hzz
  have cNx := fun u hu hv => leafNode_any n x (by have := hsz x mx; omega) (by have := hsz x mx; omega) (hall x mx).2.1 (hall x mx).2.2 u hu hv
  have cNz := fun u hu hv => leafNode_any n z (by have := hsz z mz; omega) (by have := hsz z mz; omega) (hall z mz).2.1 (hall z mz).2.2 u hu hv
  have fx : (sibsN n (l.map (nodeOf n)) a k)[0]? = some (nodeOf n z) := by
    rw [sibs_first n _ a hk1, sibN, List.getD_eq_getElem?_getD, List.getElem?_map, hzz]; rfl
  have fz : (sibsN n (l.map (nodeOf n)) (sib a) k)[0]? = some (nodeOf n x) := by
    rw [sibs_first n _ _ hk1, sibN, sib_sib, List.getD_eq_getElem?_getD, List.getElem?_map, hx]; rfl
  have e1 : (sibsN n (l.map (nodeOf n)) a k).drop 1 = (sibsN n (l.map (nodeOf n)) (sib a) k).drop 1 := sibs_meet n _ k (by rw [sib_div a (Nat.le_refl 1)])
  have e2 := fun (j : Nat) (h : a / 2 ^ j = b / 2 ^ j) => sibs_meet n (l.map (nodeOf n)) k h
  have lx := sibs_len n (l.map (nodeOf n)) a k
  have ly := sibs_len n (l.map (nodeOf n)) b k
  have lz := sibs_len n (l.map (nodeOf n)) (sib a) k
  generalize sibsN n (l.map (nodeOf n)) a k = Tx at *
  generalize sibsN n (l.map (nodeOf n)) b k = Ty at *
  generalize sibsN n (l.map (nodeOf n)) (sib a) k = Tz at *
  have hxor := bits_xor1 a (by omega)
  have hqx := fun (u : World) => (show (binOp .neq 46 (nodeOf n x).val (nodeOf n x).val).run Tryd.prog u = .ok (.bool false) u by rw [run_neq_nd, Nd.same_self]; rfl)
  have hqz := fun (u : World) => (show (binOp .neq 46 (nodeOf n z).val (nodeOf n z).val).run Tryd.prog u = .ok (.bool false) u by rw [run_neq_nd, Nd.same_self]; rfl)
  generalize nodeOf n x = X at *
  generalize nodeOf n z = Z at *
  have hN0 : (l.length : Int) ≠ 0 := by omega
  obtain ⟨N, hN⟩ : ∃ N, l.length = N := ⟨_, rfl⟩
  rw [hN] at cG c1 hlen hl70 hc h2 haa hbb hN0 ⊢
  have d1 : Int.tmod (one : Int) (N : Int) = (a : Int) := by rw [Int.tmod_eq_emod_of_nonneg (by omega), ← haa]; norm_cast
  have d2 : (one : Int) % (N : Int) = (a : Int) := by rw [← haa]; norm_cast
  have d3 : Int.tmod (two : Int) (N : Int) = (b : Int) := by rw [Int.tmod_eq_emod_of_nonneg (by omega), ← hbb]; norm_cast
  have d4 : (two : Int) % (N : Int) = (b : Int) := by rw [← hbb]; norm_cast
  have d5 : IntKind.u64.wrap (one : Int) = (one : Int) := by rw [IntKind.wrap_u64]; omega
  have d6 : IntKind.u64.wrap (two : Int) = (two : Int) := by rw [IntKind.wrap_u64]; omega
  have d7 : IntKind.u64.wrap (N : Int) = (N : Int) := by rw [IntKind.wrap_u64]; omega
  have d8 : ¬ (N : Int) = 0 := hN0
  have d9 : ¬ (N : Int) < 2 := by omega
  have HN := hideIt hN
  have HL := hideIt hlen
  clear hg hF hN hlen haa hbb hN0 hx hy hzz mx mz
  obtain ⟨xp, xi, xs, xh, xl⟩ := x
  obtain ⟨yp, yi, ys, yh, yl⟩ := y
  obtain ⟨zp, zi, zs, zh, zl⟩ := z
  obtain ⟨Xq, Xh, Xl⟩ := X
  obtain ⟨Zq, Zh, Zl⟩ := Z
  simp only [Nd.val, Lf.val] at cX cY cZ cNx cNz hqx hqz
  generalize sib a = sa at *
  have k1i : (1 : Int) ≤ (k : Int) := by omega
  have H0 := Has.start w
  go_enter Tryd.func4, Tryd.ntmps4
  go_upto_region 8 with (first
    | (go_at_call 6; refine (cW _ hK hU).mono ?_; rintro e w1 ⟨rfl, b1⟩; have K1 := H0.call b1)
    | (go_at_call 7; refine (cG _ (hR.on K1.below)).mono ?_; rintro e w2 ⟨rfl, rfl⟩)
    | (go_at_call 8; refine (c1 _ (hR.on K1.below) (hK.call K1.below) (hU.call K1.below)).mono ?_; rintro e w3 ⟨b3, q, rfl, hT3, hq3⟩; have K3 := K1.call b3)
    | fail)
  have hKw := K3.below
  have hK3 := hK.call hKw
  have hU3 := hU.call hKw
  clear K1 K3 b1 b3 cW cG c1 H0 hR hK hU hq3
  go_quiet (fail)
  have q3 := below_drewN (Below.refl w3.heap.size w3) nq
  have hT0 := hT3.call q3
  have hb0 := chain hKw q3
  have hK0 := hK3.call q3
  have hU0 := hU3.call q3
  generalize w3.drewN nq = Wa at *
  clear q3 hT3 hKw hK3 hU3 d1 d2 d3 d4 d5 d6 d7 d8 d9
  have J0 := Has.start Wa
  go_upto_region 10 with (first
    | (go_at_call 10; refine (cX _ _ hT0).mono ?_; rintro e w5 ⟨b5, A5, c5, rfl, hSx, hcx⟩; have J1 := (J0.call b5).add 41 (enV ⟨xp, xi, xs, xh, xl⟩ a A5 k c5); have L5 := chainA (Below.refl w5.heap.size w5) (.cells (enV ⟨xp, xi, xs, xh, xl⟩ a A5 k c5) 41))
    | fail)
  rcases hSx with h | ⟨sx, rfl, -, -, hBx⟩
  · exfalso
    rw [h] at lx
    simp at lx
    omega
  have BX := hBx.call L5
  obtain ⟨g13, hg13⟩ : ∃ g, (w5).heap.size = g := ⟨_, rfl⟩
  rw [hg13] at J1 ⊢
  change Code.wp _ _ _ _ (World.alloc w5 (.cells (enV ⟨xp, xi, xs, xh, xl⟩ a (some ⟨sx, 0, none⟩) k c5) 41))
  generalize World.alloc w5 (.cells (enV ⟨xp, xi, xs, xh, xl⟩ a (some ⟨sx, 0, none⟩) k c5) 41) = W5 at *
  clear hg13
  clear hBx L5 b5 cX J0
  have hT5 := hT0.call J1.below
  go_upto_region 11 with (first
    | (go_at_call 10; refine (cY _ _ hT5).mono ?_; rintro e w6 ⟨b6, A6, c6, rfl, hSy, hcy⟩; have J2 := (J1.call b6).add 41 (enV ⟨yp, yi, ys, yh, yl⟩ b A6 k c6); have L6 := chainA b6 (.cells (enV ⟨yp, yi, ys, yh, yl⟩ b A6 k c6) 41); have L6b := chainA (Below.refl w6.heap.size w6) (.cells (enV ⟨yp, yi, ys, yh, yl⟩ b A6 k c6) 41))
    | fail)
  rcases hSy with h | ⟨sy, rfl, -, -, hBy⟩
  · exfalso
    rw [h] at ly
    simp at ly
    omega
  have BY := hBy.call L6b
  have BX := BX.call L6
  obtain ⟨g15, hg15⟩ : ∃ g, (w6).heap.size = g := ⟨_, rfl⟩
  rw [hg15] at J2 ⊢
  change Code.wp _ _ _ _ (World.alloc w6 (.cells (enV ⟨yp, yi, ys, yh, yl⟩ b (some ⟨sy, 0, none⟩) k c6) 41))
  generalize World.alloc w6 (.cells (enV ⟨yp, yi, ys, yh, yl⟩ b (some ⟨sy, 0, none⟩) k c6) 41) = W6 at *
  clear hg15
  clear hBy L6 L6b b6 cY J1 hT5
  have hT6 := hT0.call J2.below
  go_upto_region 12 with (first
    | (go_at_call 10; refine (cZ _ _ hT6).mono ?_; rintro e w7 ⟨b7, A7, c7, rfl, hSz, hcz⟩; have J3 := (J2.call b7).add 41 (enV ⟨zp, zi, zs, zh, zl⟩ sa A7 k c7); have L7 := chainA b7 (.cells (enV ⟨zp, zi, zs, zh, zl⟩ sa A7 k c7) 41); have L7b := chainA (Below.refl w7.heap.size w7) (.cells (enV ⟨zp, zi, zs, zh, zl⟩ sa A7 k c7) 41))
    | fail)
  rcases hSz with h | ⟨sz, rfl, -, -, hBz⟩
  · exfalso
    rw [h] at lz
    simp at lz
    omega
  have BZ := hBz.call L7b
  have BX := BX.call L7
  have BY := BY.call L7
  obtain ⟨g17, hg17⟩ : ∃ g, (w7).heap.size = g := ⟨_, rfl⟩
  rw [hg17] at J3 ⊢
  change Code.wp _ _ _ _ (World.alloc w7 (.cells (enV ⟨zp, zi, zs, zh, zl⟩ sa (some ⟨sz, 0, none⟩) k c7) 41))
  generalize World.alloc w7 (.cells (enV ⟨zp, zi, zs, zh, zl⟩ sa (some ⟨sz, 0, none⟩) k c7) 41) = W7 at *
  clear hg17
  clear hBz L7 L7b b7 cZ J2 hT6
  have hT7 := hT0.call J3.below
  have hK7 := hK0.call J3.below
  have hU7 := hU0.call J3.below
  have hS : ∀ u, Below W7.heap.size W7 u → ((u.cell? ⟨g13, 0, none⟩ = some (.bool xp) ∧ u.cell? ⟨g13, 1, none⟩ = some (.string xi) ∧ u.cell? ⟨g13, 2, none⟩ = some (.string xs) ∧ u.cell? ⟨g13, 3, none⟩ = some (.int .u64 xh) ∧ u.cell? ⟨g13, 4, none⟩ = some (.int .u64 xl) ∧ u.cell? ⟨g13, 6, none⟩ = some (.slice (some ⟨sx, 0, none⟩) k c5) ∧ g13 < u.heap.size) ∧
        (u.cell? ⟨g15, 6, none⟩ = some (.slice (some ⟨sy, 0, none⟩) k c6) ∧ g15 < u.heap.size) ∧
        (u.cell? ⟨g17, 0, none⟩ = some (.bool zp) ∧ u.cell? ⟨g17, 1, none⟩ = some (.string zi) ∧ u.cell? ⟨g17, 2, none⟩ = some (.string zs) ∧ u.cell? ⟨g17, 3, none⟩ = some (.int .u64 zh) ∧ u.cell? ⟨g17, 4, none⟩ = some (.int .u64 zl) ∧ u.cell? ⟨g17, 6, none⟩ = some (.slice (some ⟨sz, 0, none⟩) k c7) ∧ g17 < u.heap.size)) ∧
        (u.cell? ⟨sx, 0, none⟩ = some (.string Zq) ∧ u.cell? ⟨sx, 1, none⟩ = some (.int .u64 Zh) ∧ u.cell? ⟨sx, 2, none⟩ = some (.int .u64 Zl) ∧ sx < u.heap.size) ∧ (u.cell? ⟨sz, 0, none⟩ = some (.string Xq) ∧ u.cell? ⟨sz, 1, none⟩ = some (.int .u64 Xh) ∧ u.cell? ⟨sz, 2, none⟩ = some (.int .u64 Xl) ∧ sz < u.heap.size) := fun u hu => by
    have K := J3.call hu
    have KX := BX.call hu
    have KZ := BZ.call hu
    exact ⟨⟨⟨(K.box 2).read 0, (K.box 2).read 1, (K.box 2).read 2, (K.box 2).read 3, (K.box 2).read 4, (K.box 2).read 6, (K.box 2).inside⟩, ⟨(K.box 1).read 6, (K.box 1).inside⟩, (K.box 0).read 0, (K.box 0).read 1, (K.box 0).read 2, (K.box 0).read 3, (K.box 0).read 4, (K.box 0).read 6, (K.box 0).inside⟩,
      ⟨KX.cell (i := 0) fx (j := 0) (by decide), KX.cell (i := 0) fx (j := 1) (by decide), KX.cell (i := 0) fx (j := 2) (by decide), KX.inside⟩, KZ.cell (i := 0) fz (j := 0) (by decide), KZ.cell (i := 0) fz (j := 1) (by decide), KZ.cell (i := 0) fz (j := 2) (by decide), KZ.inside⟩
  have b0 := (Below.refl W7.heap.size W7).drew
  refine wp_region_held_drew (S := fun u => ((u.cell? ⟨g13, 0, none⟩ = some (.bool xp) ∧ u.cell? ⟨g13, 1, none⟩ = some (.string xi) ∧ u.cell? ⟨g13, 2, none⟩ = some (.string xs) ∧ u.cell? ⟨g13, 3, none⟩ = some (.int .u64 xh) ∧ u.cell? ⟨g13, 4, none⟩ = some (.int .u64 xl) ∧ u.cell? ⟨g13, 6, none⟩ = some (.slice (some ⟨sx, 0, none⟩) k c5) ∧ g13 < u.heap.size) ∧
        (u.cell? ⟨g15, 6, none⟩ = some (.slice (some ⟨sy, 0, none⟩) k c6) ∧ g15 < u.heap.size) ∧
        (u.cell? ⟨g17, 0, none⟩ = some (.bool zp) ∧ u.cell? ⟨g17, 1, none⟩ = some (.string zi) ∧ u.cell? ⟨g17, 2, none⟩ = some (.string zs) ∧ u.cell? ⟨g17, 3, none⟩ = some (.int .u64 zh) ∧ u.cell? ⟨g17, 4, none⟩ = some (.int .u64 zl) ∧ u.cell? ⟨g17, 6, none⟩ = some (.slice (some ⟨sz, 0, none⟩) k c7) ∧ g17 < u.heap.size)) ∧
        (u.cell? ⟨sx, 0, none⟩ = some (.string Zq) ∧ u.cell? ⟨sx, 1, none⟩ = some (.int .u64 Zh) ∧ u.cell? ⟨sx, 2, none⟩ = some (.int .u64 Zl) ∧ sx < u.heap.size) ∧ (u.cell? ⟨sz, 0, none⟩ = some (.string Xq) ∧ u.cell? ⟨sz, 1, none⟩ = some (.int .u64 Xh) ∧ u.cell? ⟨sz, 2, none⟩ = some (.int .u64 Xl) ∧ sz < u.heap.size)) (by kernel_rfl) (hS _ b0) (fun hHeld => ?_)
  generalize W7.drew = Wd at *
  refine wpAnyH_take (i := 0) (v := ?_) rfl (by kernel_rfl) (by kernel_rfl) (by kernel_rfl) (fun _ _ _ h => h) (Or.inl ⟨by rfl, ?_⟩) (by assumption) ?_
  rotate_left 1
  · intro w hSw; (try dsimp only at hSw); go_simp; try with_reducible rfl
  try simp only [Act.put, List.getElem_toArray, List.getElem_cons_succ, List.getElem_cons_zero, List.setIfInBounds_toArray, List.set_cons_zero, List.set_cons_succ]
  refine wpAnyH_take (i := 1) (v := ?_) rfl (by kernel_rfl) (by kernel_rfl) (by kernel_rfl) (fun _ _ _ h => h) (Or.inl ⟨by rfl, ?_⟩) (by assumption) ?_
  rotate_left 1
  · intro w hSw; (try dsimp only at hSw); go_simp; try with_reducible rfl
  try simp only [Act.put, List.getElem_toArray, List.getElem_cons_succ, List.getElem_cons_zero, List.setIfInBounds_toArray, List.set_cons_zero, List.set_cons_succ]
  refine wpAnyH_take (i := 2) (v := ?_) rfl (by kernel_rfl) (by kernel_rfl) (by kernel_rfl) (fun _ _ _ h => h) (Or.inl ⟨by rfl, ?_⟩) (by assumption) ?_
  rotate_left 1
  · intro w hSw; (try dsimp only at hSw); go_simp; try with_reducible rfl
  try simp only [Act.put, List.getElem_toArray, List.getElem_cons_succ, List.getElem_cons_zero, List.setIfInBounds_toArray, List.set_cons_zero, List.set_cons_succ]
  refine wpAnyH_take (i := 3) (v := ?_) rfl (by kernel_rfl) (by kernel_rfl) (by kernel_rfl) (fun _ _ _ h => h) (Or.inl ⟨by rfl, ?_⟩) (by assumption) ?_
  rotate_left 1
  · intro w hSw; (try dsimp only at hSw); go_simp; try with_reducible rfl
  try simp only [Act.put, List.getElem_toArray, List.getElem_cons_succ, List.getElem_cons_zero, List.setIfInBounds_toArray, List.set_cons_zero, List.set_cons_succ]
  refine wpAnyH_take (i := 4) (v := ?_) rfl (by kernel_rfl) (by kernel_rfl) (by kernel_rfl) (fun _ _ _ h => h) (Or.inl ⟨by rfl, ?_⟩) (by assumption) ?_
  rotate_left 1
  · intro w hSw; (try dsimp only at hSw); go_simp; try with_reducible rfl
  try simp only [Act.put, List.getElem_toArray, List.getElem_cons_succ, List.getElem_cons_zero, List.setIfInBounds_toArray, List.set_cons_zero, List.set_cons_succ]
  refine wpAnyH_take (i := 5) (v := ?_) rfl (by kernel_rfl) (by kernel_rfl) (by kernel_rfl) (fun _ _ _ h => h) (Or.inl ⟨by rfl, ?_⟩) (by assumption) ?_
  rotate_left 1
  · intro w hSw; (try dsimp only at hSw); go_simp; try with_reducible rfl
  try simp only [Act.put, List.getElem_toArray, List.getElem_cons_succ, List.getElem_cons_zero, List.setIfInBounds_toArray, List.set_cons_zero, List.set_cons_succ]
  refine wpAnyH_take (i := 6) (v := ?_) rfl (by kernel_rfl) (by kernel_rfl) (by kernel_rfl) (fun _ _ _ h => h) (Or.inl ⟨by rfl, ?_⟩) (by assumption) ?_
  rotate_left 1
  · intro w hSw; (try dsimp only at hSw); go_simp; try with_reducible rfl
  try simp only [Act.put, List.getElem_toArray, List.getElem_cons_succ, List.getElem_cons_zero, List.setIfInBounds_toArray, List.set_cons_zero, List.set_cons_succ]
  refine wpAnyH_take (i := 7) (v := ?_) rfl (by kernel_rfl) (by kernel_rfl) (by kernel_rfl) (fun _ _ _ h => h) (Or.inl ⟨by rfl, ?_⟩) (by assumption) ?_
  rotate_left 1
  · intro w hSw; (try dsimp only at hSw); go_simp; try with_reducible rfl
  try simp only [Act.put, List.getElem_toArray, List.getElem_cons_succ, List.getElem_cons_zero, List.setIfInBounds_toArray, List.set_cons_zero, List.set_cons_succ]
  refine wpAnyH_take (i := 8) (v := ?_) rfl (by kernel_rfl) (by kernel_rfl) (by kernel_rfl) (fun _ _ _ h => h) (Or.inl ⟨by rfl, ?_⟩) (by assumption) ?_
  rotate_left 1
  · intro w hSw; (try dsimp only at hSw); go_simp; try with_reducible rfl
  try simp only [Act.put, List.getElem_toArray, List.getElem_cons_succ, List.getElem_cons_zero, List.setIfInBounds_toArray, List.set_cons_zero, List.set_cons_succ]
  refine wpAnyH_take (i := 9) (v := ?_) rfl (by kernel_rfl) (by kernel_rfl) (by kernel_rfl) (fun _ _ _ h => h) (Or.inl ⟨by rfl, ?_⟩) (by assumption) ?_
  rotate_left 1
  · intro w hSw; (try dsimp only at hSw); go_simp; try with_reducible rfl
  try simp only [Act.put, List.getElem_toArray, List.getElem_cons_succ, List.getElem_cons_zero, List.setIfInBounds_toArray, List.set_cons_zero, List.set_cons_succ]
  refine wpAnyH_take (i := 10) (v := ?_) rfl (by kernel_rfl) (by kernel_rfl) (by kernel_rfl) (fun _ _ _ h => h) (Or.inl ⟨by rfl, ?_⟩) (by assumption) ?_
  rotate_left 1
  · intro w hSw; (try dsimp only at hSw); go_simp; try with_reducible rfl
  try simp only [Act.put, List.getElem_toArray, List.getElem_cons_succ, List.getElem_cons_zero, List.setIfInBounds_toArray, List.set_cons_zero, List.set_cons_succ]
  refine wpAnyH_take (i := 11) (v := ?_) rfl (by kernel_rfl) (by kernel_rfl) (by kernel_rfl) (fun _ _ _ h => h) (Or.inl ⟨by rfl, ?_⟩) (by assumption) ?_
  rotate_left 1
  · intro w hSw; (try dsimp only at hSw); go_simp; try with_reducible rfl
  try simp only [Act.put, List.getElem_toArray, List.getElem_cons_succ, List.getElem_cons_zero, List.setIfInBounds_toArray, List.set_cons_zero, List.set_cons_succ]
  refine wpAnyH_take (i := 12) (v := ?_) rfl (by kernel_rfl) (by kernel_rfl) (by kernel_rfl) (fun _ _ _ h => h) (Or.inl ⟨by rfl, ?_⟩) (by assumption) ?_
  rotate_left 1
  · intro w hSw; (try dsimp only at hSw); go_simp; try with_reducible rfl
  try simp only [Act.put, List.getElem_toArray, List.getElem_cons_succ, List.getElem_cons_zero, List.setIfInBounds_toArray, List.set_cons_zero, List.set_cons_succ]
  refine wpAnyH_take (i := 13) (v := ?_) rfl (by kernel_rfl) (by kernel_rfl) (by kernel_rfl) (fun _ _ _ h => h) (Or.inl ⟨by rfl, ?_⟩) (by assumption) ?_
  rotate_left 1
  · intro w hSw; (try dsimp only at hSw); go_simp; try with_reducible rfl
  try simp only [Act.put, List.getElem_toArray, List.getElem_cons_succ, List.getElem_cons_zero, List.setIfInBounds_toArray, List.set_cons_zero, List.set_cons_succ]
  refine wpAnyH_take (i := 14) (v := ?_) rfl (by kernel_rfl) (by kernel_rfl) (by kernel_rfl) (fun _ _ _ h => h) (Or.inl ⟨by rfl, ?_⟩) (by assumption) ?_
  rotate_left 1
  · intro w hSw; (try dsimp only at hSw); go_simp; try with_reducible rfl
  try simp only [Act.put, List.getElem_toArray, List.getElem_cons_succ, List.getElem_cons_zero, List.setIfInBounds_toArray, List.set_cons_zero, List.set_cons_succ]
  refine wpAnyH_take (i := 15) (v := ?_) rfl (by kernel_rfl) (by kernel_rfl) (by kernel_rfl) (fun _ _ _ h => h) (Or.inl ⟨by rfl, ?_⟩) (by assumption) ?_
  rotate_left 1
  · intro w hSw; (try dsimp only at hSw); go_simp; try with_reducible rfl
  try simp only [Act.put, List.getElem_toArray, List.getElem_cons_succ, List.getElem_cons_zero, List.setIfInBounds_toArray, List.set_cons_zero, List.set_cons_succ]
  refine wpAnyH_ready (rs := [16]) (by kernel_rfl) (by simp) (AllReadyH.cons rfl (fun K hK => ?_) AllReadyH.nil)
  go_simp
  go_at_call 14
  refine (cH _ _ (hT7.call b0)).mono ?_
  rintro e v1 ⟨rfl, rfl⟩
  try simp only []
  refine hK.out _ _ (hS _ b0) (fun hHeld => ?_)
  clear hK K
  try simp only [Act.put, List.getElem_toArray, List.getElem_cons_succ, List.getElem_cons_zero, List.setIfInBounds_toArray, List.set_cons_zero, List.set_cons_succ]
  refine wpAnyH_take (i := 17) (v := ?_) rfl (by kernel_rfl) (by kernel_rfl) (by kernel_rfl) (fun _ _ _ h => h) (Or.inl ⟨by rfl, ?_⟩) (by assumption) ?_
  rotate_left 1
  · intro w hSw; (try dsimp only at hSw); go_simp; try with_reducible rfl
  try simp only [Act.put, List.getElem_toArray, List.getElem_cons_succ, List.getElem_cons_zero, List.setIfInBounds_toArray, List.set_cons_zero, List.set_cons_succ]
  refine wpAnyH_take (i := 18) (v := ?_) rfl (by kernel_rfl) (by kernel_rfl) (by kernel_rfl) (fun _ _ _ h => h) (Or.inl ⟨by rfl, ?_⟩) (by assumption) ?_
  rotate_left 1
  · intro w hSw; (try dsimp only at hSw); go_simp; try with_reducible rfl
  try simp only [Act.put, List.getElem_toArray, List.getElem_cons_succ, List.getElem_cons_zero, List.setIfInBounds_toArray, List.set_cons_zero, List.set_cons_succ]
  refine wpAnyH_take (i := 19) (v := ?_) rfl (by kernel_rfl) (by kernel_rfl) (by kernel_rfl) (fun _ _ _ h => h) (Or.inl ⟨by rfl, ?_⟩) (by assumption) ?_
  rotate_left 1
  · intro w hSw; (try dsimp only at hSw); go_simp; try with_reducible rfl
  try simp only [Act.put, List.getElem_toArray, List.getElem_cons_succ, List.getElem_cons_zero, List.setIfInBounds_toArray, List.set_cons_zero, List.set_cons_succ]
  refine wpAnyH_take (i := 20) (v := ?_) rfl (by kernel_rfl) (by kernel_rfl) (by kernel_rfl) (fun _ _ _ h => h) (Or.inl ⟨by rfl, ?_⟩) (by assumption) ?_
  rotate_left 1
  · intro w hSw; (try dsimp only at hSw); go_simp; try with_reducible rfl
  try simp only [Act.put, List.getElem_toArray, List.getElem_cons_succ, List.getElem_cons_zero, List.setIfInBounds_toArray, List.set_cons_zero, List.set_cons_succ]
  refine wpAnyH_take (i := 21) (v := ?_) rfl (by kernel_rfl) (by kernel_rfl) (by kernel_rfl) (fun _ _ _ h => h) (Or.inl ⟨by rfl, ?_⟩) (by assumption) ?_
  rotate_left 1
  · intro w hSw; (try dsimp only at hSw); go_simp; try with_reducible rfl
  try simp only [Act.put, List.getElem_toArray, List.getElem_cons_succ, List.getElem_cons_zero, List.setIfInBounds_toArray, List.set_cons_zero, List.set_cons_succ]
  refine wpAnyH_take (i := 22) (v := ?_) rfl (by kernel_rfl) (by kernel_rfl) (by kernel_rfl) (fun _ _ _ h => h) (Or.inl ⟨by rfl, ?_⟩) (by assumption) ?_
  rotate_left 1
  · intro w hSw; (try dsimp only at hSw); go_simp; try with_reducible rfl
  try simp only [Act.put, List.getElem_toArray, List.getElem_cons_succ, List.getElem_cons_zero, List.setIfInBounds_toArray, List.set_cons_zero, List.set_cons_succ]
  refine wpAnyH_take (i := 23) (v := ?_) rfl (by kernel_rfl) (by kernel_rfl) (by kernel_rfl) (fun _ _ _ h => h) (Or.inl ⟨by rfl, ?_⟩) (by assumption) ?_
  rotate_left 1
  · intro w hSw; (try dsimp only at hSw); go_simp; try with_reducible rfl
  try simp only [Act.put, List.getElem_toArray, List.getElem_cons_succ, List.getElem_cons_zero, List.setIfInBounds_toArray, List.set_cons_zero, List.set_cons_succ]
  refine wpAnyH_take (i := 24) (v := ?_) rfl (by kernel_rfl) (by kernel_rfl) (by kernel_rfl) (fun _ _ _ h => h) (Or.inl ⟨by rfl, ?_⟩) (by assumption) ?_
  rotate_left 1
  · intro w hSw; (try dsimp only at hSw); go_simp; try with_reducible rfl
  try simp only [Act.put, List.getElem_toArray, List.getElem_cons_succ, List.getElem_cons_zero, List.setIfInBounds_toArray, List.set_cons_zero, List.set_cons_succ]
  refine wpAnyH_ready (rs := [25]) (by kernel_rfl) (by simp) (AllReadyH.cons rfl (fun K hK => ?_) AllReadyH.nil)
  go_simp
  go_at_call 14
  refine (cH _ _ (hT7.call b0)).mono ?_
  rintro e v1 ⟨rfl, rfl⟩
  try simp only []
  refine hK.out _ _ (hS _ b0) (fun hHeld => ?_)
  clear hK K
  try simp only [Act.put, List.getElem_toArray, List.getElem_cons_succ, List.getElem_cons_zero, List.setIfInBounds_toArray, List.set_cons_zero, List.set_cons_succ]
  refine wpAnyH_take (i := 26) (v := ?_) rfl (by kernel_rfl) (by kernel_rfl) (by kernel_rfl) (fun _ _ _ h => h) (Or.inl ⟨by rfl, ?_⟩) (by assumption) ?_
  rotate_left 1
  · intro w hSw; (try dsimp only at hSw); go_simp; try with_reducible rfl
  try simp only [Act.put, List.getElem_toArray, List.getElem_cons_succ, List.getElem_cons_zero, List.setIfInBounds_toArray, List.set_cons_zero, List.set_cons_succ]
  refine wpAnyH_take (i := 27) (v := ?_) rfl (by kernel_rfl) (by kernel_rfl) (by kernel_rfl) (fun _ _ _ h => h) (Or.inl ⟨by rfl, ?_⟩) (by assumption) ?_
  rotate_left 1
  · intro w hSw; (try dsimp only at hSw); go_simp; try with_reducible rfl
  try simp only [Act.put, List.getElem_toArray, List.getElem_cons_succ, List.getElem_cons_zero, List.setIfInBounds_toArray, List.set_cons_zero, List.set_cons_succ]
  refine wpAnyH_take (i := 28) (v := ?_) rfl (by kernel_rfl) (by kernel_rfl) (by kernel_rfl) (fun _ _ _ h => h) (Or.inl ⟨by rfl, ?_⟩) (by assumption) ?_
  rotate_left 1
  · intro w hSw; (try dsimp only at hSw); go_simp; try with_reducible rfl
  try simp only [Act.put, List.getElem_toArray, List.getElem_cons_succ, List.getElem_cons_zero, List.setIfInBounds_toArray, List.set_cons_zero, List.set_cons_succ]
  refine wpAnyH_take (i := 29) (v := ?_) rfl (by kernel_rfl) (by kernel_rfl) (by kernel_rfl) (fun _ _ _ h => h) (Or.inl ⟨by rfl, ?_⟩) (by assumption) ?_
  rotate_left 1
  · intro w hSw; (try dsimp only at hSw); go_simp; try with_reducible rfl
  try simp only [Act.put, List.getElem_toArray, List.getElem_cons_succ, List.getElem_cons_zero, List.setIfInBounds_toArray, List.set_cons_zero, List.set_cons_succ]
  refine wpAnyH_take (i := 30) (v := ?_) rfl (by kernel_rfl) (by kernel_rfl) (by kernel_rfl) (fun _ _ _ h => h) (Or.inl ⟨by rfl, ?_⟩) (by assumption) ?_
  rotate_left 1
  · intro w hSw; (try dsimp only at hSw); go_simp; try with_reducible rfl
  try simp only [Act.put, List.getElem_toArray, List.getElem_cons_succ, List.getElem_cons_zero, List.setIfInBounds_toArray, List.set_cons_zero, List.set_cons_succ]
  refine wpAnyH_take (i := 31) (v := ?_) rfl (by kernel_rfl) (by kernel_rfl) (by kernel_rfl) (fun _ _ _ h => h) (Or.inl ⟨by rfl, ?_⟩) (by assumption) ?_
  rotate_left 1
  · intro w hSw; (try dsimp only at hSw); go_simp; try with_reducible rfl
  try simp only [Act.put, List.getElem_toArray, List.getElem_cons_succ, List.getElem_cons_zero, List.setIfInBounds_toArray, List.set_cons_zero, List.set_cons_succ]
  refine wpAnyH_take (i := 32) (v := ?_) rfl (by kernel_rfl) (by kernel_rfl) (by kernel_rfl) (fun _ _ _ h => h) (Or.inl ⟨by rfl, ?_⟩) (by assumption) ?_
  rotate_left 1
  · intro w hSw; (try dsimp only at hSw); go_simp; try with_reducible rfl
  try simp only [Act.put, List.getElem_toArray, List.getElem_cons_succ, List.getElem_cons_zero, List.setIfInBounds_toArray, List.set_cons_zero, List.set_cons_succ]
  refine wpAnyH_take (i := 33) (v := ?_) rfl (by kernel_rfl) (by kernel_rfl) (by kernel_rfl) (fun _ _ _ h => h) (Or.inl ⟨by rfl, ?_⟩) (by assumption) ?_
  rotate_left 1
  · intro w hSw; (try dsimp only at hSw); go_simp; try with_reducible rfl
  try simp only [Act.put, List.getElem_toArray, List.getElem_cons_succ, List.getElem_cons_zero, List.setIfInBounds_toArray, List.set_cons_zero, List.set_cons_succ]
  refine wpAnyH_ready (rs := [34]) (by kernel_rfl) (by simp) (AllReadyH.cons rfl (fun K hK => ?_) AllReadyH.nil)
  go_simp
  go_at_call 14
  refine (cH _ _ (hT7.call b0)).mono ?_
  rintro e v1 ⟨rfl, rfl⟩
  try simp only []
  refine hK.out _ _ (hS _ b0) (fun hHeld => ?_)
  clear hK K
  try simp only [Act.put, List.getElem_toArray, List.getElem_cons_succ, List.getElem_cons_zero, List.setIfInBounds_toArray, List.set_cons_zero, List.set_cons_succ]
  refine wpAnyH_take (i := 35) (v := ?_) rfl (by kernel_rfl) (by kernel_rfl) (by kernel_rfl) (fun _ _ _ h => h) (Or.inl ⟨by rfl, ?_⟩) (by assumption) ?_
  rotate_left 1
  · intro w hSw; (try dsimp only at hSw); go_simp; try with_reducible rfl
  try simp only [Act.put, List.getElem_toArray, List.getElem_cons_succ, List.getElem_cons_zero, List.setIfInBounds_toArray, List.set_cons_zero, List.set_cons_succ]
  refine wpAnyH_take (i := 36) (v := ?_) rfl (by kernel_rfl) (by kernel_rfl) (by kernel_rfl) (fun _ _ _ h => h) (Or.inl ⟨by rfl, ?_⟩) (by assumption) ?_
  rotate_left 1
  · intro w hSw; (try dsimp only at hSw); go_simp; try with_reducible rfl
  try simp only [Act.put, List.getElem_toArray, List.getElem_cons_succ, List.getElem_cons_zero, List.setIfInBounds_toArray, List.set_cons_zero, List.set_cons_succ]
  refine wpAnyH_done (by kernel_rfl) ?_ _
  go_upto_region 14 with fail
  have b1 := b0.drew
  refine wp_region_held_drew (S := fun u => ((u.cell? ⟨g13, 0, none⟩ = some (.bool xp) ∧ u.cell? ⟨g13, 1, none⟩ = some (.string xi) ∧ u.cell? ⟨g13, 2, none⟩ = some (.string xs) ∧ u.cell? ⟨g13, 3, none⟩ = some (.int .u64 xh) ∧ u.cell? ⟨g13, 4, none⟩ = some (.int .u64 xl) ∧ u.cell? ⟨g13, 6, none⟩ = some (.slice (some ⟨sx, 0, none⟩) k c5) ∧ g13 < u.heap.size) ∧
        (u.cell? ⟨g15, 6, none⟩ = some (.slice (some ⟨sy, 0, none⟩) k c6) ∧ g15 < u.heap.size) ∧
        (u.cell? ⟨g17, 0, none⟩ = some (.bool zp) ∧ u.cell? ⟨g17, 1, none⟩ = some (.string zi) ∧ u.cell? ⟨g17, 2, none⟩ = some (.string zs) ∧ u.cell? ⟨g17, 3, none⟩ = some (.int .u64 zh) ∧ u.cell? ⟨g17, 4, none⟩ = some (.int .u64 zl) ∧ u.cell? ⟨g17, 6, none⟩ = some (.slice (some ⟨sz, 0, none⟩) k c7) ∧ g17 < u.heap.size)) ∧
        (u.cell? ⟨sx, 0, none⟩ = some (.string Zq) ∧ u.cell? ⟨sx, 1, none⟩ = some (.int .u64 Zh) ∧ u.cell? ⟨sx, 2, none⟩ = some (.int .u64 Zl) ∧ sx < u.heap.size) ∧ (u.cell? ⟨sz, 0, none⟩ = some (.string Xq) ∧ u.cell? ⟨sz, 1, none⟩ = some (.int .u64 Xh) ∧ u.cell? ⟨sz, 2, none⟩ = some (.int .u64 Xl) ∧ sz < u.heap.size)) (by kernel_rfl) (hS _ b1) (fun hHeld => ?_)
  generalize Wd.drew = We at *
  have cE1 := fun A B c d u hA hB => rsame14_any A B c d (Tx.drop 1) (Tz.drop 1) (by rw [List.length_drop]; omega) (by rw [List.length_drop]; omega) u hA hB
  rw [List.length_drop, List.length_drop, lx, lz, decide_eq_true e1] at cE1
  have k1n : 1 ≤ k := hk1
  obtain ⟨B1, hB1⟩ : ∃ B, (if c5 = 1 then (some ⟨sx, 0, none⟩ : Option Addr) else some ⟨sx, 3, none⟩) = B := ⟨_, rfl⟩
  obtain ⟨B2, hB2⟩ : ∃ B, (if c7 = 1 then (some ⟨sz, 0, none⟩ : Option Addr) else some ⟨sz, 3, none⟩) = B := ⟨_, rfl⟩
  have R1 : ∀ u, Below W7.heap.size W7 u → ndS.Row u u.heap.size B1 (Tx.drop 1) := fun u hu => by rw [← hB1]; exact row_from (BX.row.on hu) (by omega) 1
  have R2 : ∀ u, Below W7.heap.size W7 u → ndS.Row u u.heap.size B2 (Tz.drop 1) := fun u hu => by rw [← hB2]; exact row_from (BZ.row.on hu) (by omega) 1
  have i1 : (1 : Int) ≤ (c5 : Int) := by omega
  have i2 : (1 : Int) ≤ (c7 : Int) := by omega
  have i3 : (k : Int) ≤ (c5 : Int) := by omega
  have i4 : (k : Int) ≤ (c7 : Int) := by omega
  have i5 : (0 : Int) < (k : Int) := by omega
  have i6 : 0 < k := hk1
  refine wpAnyH_take (i := 0) (v := ?_) rfl (by kernel_rfl) (by kernel_rfl) (by kernel_rfl) (fun _ _ _ h => h) (Or.inl ⟨by rfl, ?_⟩) (by assumption) ?_
  rotate_left 1
  · intro w hSw; (try dsimp only at hSw); go_simp; try with_reducible rfl
  try simp only [Act.put, List.getElem_toArray, List.getElem_cons_succ, List.getElem_cons_zero, List.setIfInBounds_toArray, List.set_cons_zero, List.set_cons_succ]
  refine wpAnyH_take (i := 1) (v := ?_) rfl (by kernel_rfl) (by kernel_rfl) (by kernel_rfl) (fun _ _ _ h => h) (Or.inl ⟨by rfl, ?_⟩) (by assumption) ?_
  rotate_left 1
  · intro w hSw; (try dsimp only at hSw); go_simp; try with_reducible rfl
  try simp only [Act.put, List.getElem_toArray, List.getElem_cons_succ, List.getElem_cons_zero, List.setIfInBounds_toArray, List.set_cons_zero, List.set_cons_succ]
  refine wpAnyH_take (i := 2) (v := ?_) rfl (by kernel_rfl) (by kernel_rfl) (by kernel_rfl) (fun _ _ _ h => h) (Or.inl ⟨by rfl, ?_⟩) (by assumption) ?_
  rotate_left 1
  · intro w hSw; (try dsimp only at hSw); go_simp; try with_reducible rfl
  try simp only [Act.put, List.getElem_toArray, List.getElem_cons_succ, List.getElem_cons_zero, List.setIfInBounds_toArray, List.set_cons_zero, List.set_cons_succ]
  refine wpAnyH_take (i := 3) (v := ?_) rfl (by kernel_rfl) (by kernel_rfl) (by kernel_rfl) (fun _ _ _ h => h) (Or.inl ⟨by rfl, ?_⟩) (by assumption) ?_
  rotate_left 1
  · intro w hSw; (try dsimp only at hSw); go_simp; try with_reducible rfl
  try simp only [Act.put, List.getElem_toArray, List.getElem_cons_succ, List.getElem_cons_zero, List.setIfInBounds_toArray, List.set_cons_zero, List.set_cons_succ]
  refine wpAnyH_take (i := 4) (v := ?_) rfl (by kernel_rfl) (by kernel_rfl) (by kernel_rfl) (fun _ _ _ h => h) (Or.inl ⟨by rfl, ?_⟩) (by assumption) ?_
  rotate_left 1
  · intro w hSw; (try dsimp only at hSw); go_simp; try with_reducible rfl
  try simp only [Act.put, List.getElem_toArray, List.getElem_cons_succ, List.getElem_cons_zero, List.setIfInBounds_toArray, List.set_cons_zero, List.set_cons_succ]
  refine wpAnyH_take (i := 5) (v := ?_) rfl (by kernel_rfl) (by kernel_rfl) (by kernel_rfl) (fun _ _ _ h => h) (Or.inl ⟨by rfl, ?_⟩) (by assumption) ?_
  rotate_left 1
  · intro w hSw; (try dsimp only at hSw); go_simp; try with_reducible rfl
  try simp only [Act.put, List.getElem_toArray, List.getElem_cons_succ, List.getElem_cons_zero, List.setIfInBounds_toArray, List.set_cons_zero, List.set_cons_succ]
  refine wpAnyH_take (i := 6) (v := ?_) rfl (by kernel_rfl) (by kernel_rfl) (by kernel_rfl) (fun _ _ _ h => h) (Or.inl ⟨by rfl, ?_⟩) (by assumption) ?_
  rotate_left 1
  · intro w hSw; (try dsimp only at hSw); go_simp; try with_reducible rfl
  try simp only [Act.put, List.getElem_toArray, List.getElem_cons_succ, List.getElem_cons_zero, List.setIfInBounds_toArray, List.set_cons_zero, List.set_cons_succ]
  refine wpAnyH_take (i := 7) (v := ?_) rfl (by kernel_rfl) (by kernel_rfl) (by kernel_rfl) (fun _ _ _ h => h) (Or.inl ⟨by rfl, ?_⟩) (by assumption) ?_
  rotate_left 1
  · intro w hSw; (try dsimp only at hSw); go_simp; try with_reducible rfl
  try simp only [Act.put, List.getElem_toArray, List.getElem_cons_succ, List.getElem_cons_zero, List.setIfInBounds_toArray, List.set_cons_zero, List.set_cons_succ]
  refine wpAnyH_ready (rs := [8]) (by kernel_rfl) (by simp) (AllReadyH.cons rfl (fun K hK => ?_) AllReadyH.nil)
  go_simp
  go_at_call 13
  refine (cNz _ (hK7.call b1) (hU7.call b1)).mono ?_
  rintro e v1 ⟨rfl, p1⟩
  have b2 := chain b1 p1
  try simp only []
  refine hK.out _ _ (hS _ b2) (fun hHeld => ?_)
  clear hK K
  try simp only [Act.put, List.getElem_toArray, List.getElem_cons_succ, List.getElem_cons_zero, List.setIfInBounds_toArray, List.set_cons_zero, List.set_cons_succ]
  refine wpAnyH_take (i := 9) (v := ?_) rfl (by kernel_rfl) (by kernel_rfl) (by kernel_rfl) (fun _ _ _ h => h) (Or.inl ⟨by rfl, ?_⟩) (by assumption) ?_
  rotate_left 1
  · intro w hSw; (try dsimp only at hSw); go_simp; try with_reducible rfl
  try simp only [Act.put, List.getElem_toArray, List.getElem_cons_succ, List.getElem_cons_zero, List.setIfInBounds_toArray, List.set_cons_zero, List.set_cons_succ]
  refine wpAnyH_take (i := 10) (v := ?_) rfl (by kernel_rfl) (by kernel_rfl) (by kernel_rfl) (fun _ _ _ h => h) (Or.inl ⟨by rfl, ?_⟩) (by assumption) ?_
  rotate_left 1
  · intro w hSw; (try dsimp only at hSw); go_simp; try with_reducible rfl
  try simp only [Act.put, List.getElem_toArray, List.getElem_cons_succ, List.getElem_cons_zero, List.setIfInBounds_toArray, List.set_cons_zero, List.set_cons_succ]
  refine wpAnyH_take (i := 11) (v := ?_) rfl (by kernel_rfl) (by kernel_rfl) (by kernel_rfl) (fun _ _ _ h => h) (Or.inl ⟨by rfl, ?_⟩) (by assumption) ?_
  rotate_left 1
  · intro w hSw; (try dsimp only at hSw); go_simp; try with_reducible rfl
  try simp only [Act.put, List.getElem_toArray, List.getElem_cons_succ, List.getElem_cons_zero, List.setIfInBounds_toArray, List.set_cons_zero, List.set_cons_succ]
  refine wpAnyH_take (i := 12) (v := ?_) rfl (by kernel_rfl) (by kernel_rfl) (by kernel_rfl) (fun _ _ _ h => h) (Or.inl ⟨by rfl, ?_⟩) (by assumption) ?_
  rotate_left 1
  · intro w hSw; (try dsimp only at hSw); go_simp; try with_reducible rfl
  try simp only [Act.put, List.getElem_toArray, List.getElem_cons_succ, List.getElem_cons_zero, List.setIfInBounds_toArray, List.set_cons_zero, List.set_cons_succ]
  refine wpAnyH_take (i := 13) (v := ?_) rfl (by kernel_rfl) (by kernel_rfl) (by kernel_rfl) (fun _ _ _ h => h) (Or.inl ⟨by rfl, ?_⟩) (by assumption) ?_
  rotate_left 1
  · intro w hSw; (try dsimp only at hSw); go_simp; try with_reducible rfl
  try simp only [Act.put, List.getElem_toArray, List.getElem_cons_succ, List.getElem_cons_zero, List.setIfInBounds_toArray, List.set_cons_zero, List.set_cons_succ]
  refine wpAnyH_take (i := 14) (v := ?_) rfl (by kernel_rfl) (by kernel_rfl) (by kernel_rfl) (fun _ _ _ h => h) (Or.inl ⟨by rfl, ?_⟩) (by assumption) ?_
  rotate_left 1
  · intro w hSw; (try dsimp only at hSw); go_simp; try with_reducible rfl
  try simp only [Act.put, List.getElem_toArray, List.getElem_cons_succ, List.getElem_cons_zero, List.setIfInBounds_toArray, List.set_cons_zero, List.set_cons_succ]
  refine wpAnyH_take (i := 15) (v := ?_) rfl (by kernel_rfl) (by kernel_rfl) (by kernel_rfl) (fun _ _ _ h => h) (Or.inl ⟨by rfl, ?_⟩) (by assumption) ?_
  rotate_left 1
  · intro w hSw; (try dsimp only at hSw); go_simp; try with_reducible rfl
  try simp only [Act.put, List.getElem_toArray, List.getElem_cons_succ, List.getElem_cons_zero, List.setIfInBounds_toArray, List.set_cons_zero, List.set_cons_succ]
  refine wpAnyH_take (i := 16) (v := ?_) rfl (by kernel_rfl) (by kernel_rfl) (by kernel_rfl) (fun _ _ _ h => h) (Or.inl ⟨by rfl, ?_⟩) (by assumption) ?_
  rotate_left 1
  · intro w hSw; (try dsimp only at hSw); go_simp; try with_reducible rfl
  try simp only [Act.put, List.getElem_toArray, List.getElem_cons_succ, List.getElem_cons_zero, List.setIfInBounds_toArray, List.set_cons_zero, List.set_cons_succ]
  refine wpAnyH_take (i := 17) (v := ?_) rfl (by kernel_rfl) (by kernel_rfl) (by kernel_rfl) (fun _ _ _ h => h) (Or.inl ⟨by rfl, ?_⟩) (by assumption) ?_
  rotate_left 1
  · intro w hSw; (try dsimp only at hSw); go_simp; try with_reducible rfl
  try simp only [Act.put, List.getElem_toArray, List.getElem_cons_succ, List.getElem_cons_zero, List.setIfInBounds_toArray, List.set_cons_zero, List.set_cons_succ]
  refine wpAnyH_take (i := 18) (v := ?_) rfl (by kernel_rfl) (by kernel_rfl) (by kernel_rfl) (fun _ _ _ h => h) (Or.inl ⟨by rfl, ?_⟩) (by assumption) ?_
  rotate_left 1
  · intro w hSw; (try dsimp only at hSw); go_simp; try with_reducible rfl
  try simp only [Act.put, List.getElem_toArray, List.getElem_cons_succ, List.getElem_cons_zero, List.setIfInBounds_toArray, List.set_cons_zero, List.set_cons_succ]
  refine wpAnyH_ready (rs := [19]) (by kernel_rfl) (by simp) (AllReadyH.cons rfl (fun K hK => ?_) AllReadyH.nil)
  go_simp
  go_at_call 13
  refine (cNx _ (hK7.call b2) (hU7.call b2)).mono ?_
  rintro e v2 ⟨rfl, p2⟩
  have b3 := chain b2 p2
  try simp only []
  refine hK.out _ _ (hS _ b3) (fun hHeld => ?_)
  clear hK K
  try simp only [Act.put, List.getElem_toArray, List.getElem_cons_succ, List.getElem_cons_zero, List.setIfInBounds_toArray, List.set_cons_zero, List.set_cons_succ]
  refine wpAnyH_take (i := 20) (v := ?_) rfl (by kernel_rfl) (by kernel_rfl) (by kernel_rfl) (fun _ _ _ h => h) (Or.inl ⟨by rfl, ?_⟩) (by assumption) ?_
  rotate_left 1
  · intro w hSw; (try dsimp only at hSw); go_simp; try with_reducible rfl
  try simp only [Act.put, List.getElem_toArray, List.getElem_cons_succ, List.getElem_cons_zero, List.setIfInBounds_toArray, List.set_cons_zero, List.set_cons_succ]
  refine wpAnyH_take (i := 21) (v := ?_) rfl (by kernel_rfl) (by kernel_rfl) (by kernel_rfl) (fun _ _ _ h => h) (Or.inl ⟨by rfl, ?_⟩) (by assumption) ?_
  rotate_left 1
  · intro w hSw; (try dsimp only at hSw); go_simp; try with_reducible rfl
  try simp only [Act.put, List.getElem_toArray, List.getElem_cons_succ, List.getElem_cons_zero, List.setIfInBounds_toArray, List.set_cons_zero, List.set_cons_succ]
  refine wpAnyH_take (i := 22) (v := ?_) rfl (by kernel_rfl) (by kernel_rfl) (by kernel_rfl) (fun _ _ _ h => h) (Or.inl ⟨by rfl, ?_⟩) (by assumption) ?_
  rotate_left 1
  · intro w hSw; (try dsimp only at hSw); go_simp; try with_reducible rfl
  try simp only [Act.put, List.getElem_toArray, List.getElem_cons_succ, List.getElem_cons_zero, List.setIfInBounds_toArray, List.set_cons_zero, List.set_cons_succ]
  refine wpAnyH_take (i := 23) (v := ?_) rfl (by kernel_rfl) (by kernel_rfl) (by kernel_rfl) (fun _ _ _ h => h) (Or.inl ⟨by rfl, ?_⟩) (by assumption) ?_
  rotate_left 1
  · intro w hSw; (try dsimp only at hSw); go_simp; try with_reducible rfl
  try simp only [Act.put, List.getElem_toArray, List.getElem_cons_succ, List.getElem_cons_zero, List.setIfInBounds_toArray, List.set_cons_zero, List.set_cons_succ]
  refine wpAnyH_take (i := 24) (v := ?_) rfl (by kernel_rfl) (by kernel_rfl) (by kernel_rfl) (fun _ _ _ h => h) (Or.inl ⟨by rfl, ?_⟩) (by assumption) ?_
  rotate_left 1
  · intro w hSw; (try dsimp only at hSw); go_simp; try with_reducible rfl
  try simp only [Act.put, List.getElem_toArray, List.getElem_cons_succ, List.getElem_cons_zero, List.setIfInBounds_toArray, List.set_cons_zero, List.set_cons_succ]
  refine wpAnyH_take (i := 25) (v := ?_) rfl (by kernel_rfl) (by kernel_rfl) (by kernel_rfl) (fun _ _ _ h => h) (Or.inl ⟨by rfl, ?_⟩) (by assumption) ?_
  rotate_left 1
  · intro w hSw; (try dsimp only at hSw); go_simp; try with_reducible rfl
  try simp only [Act.put, List.getElem_toArray, List.getElem_cons_succ, List.getElem_cons_zero, List.setIfInBounds_toArray, List.set_cons_zero, List.set_cons_succ]
  refine wpAnyH_take (i := 26) (v := ?_) rfl (by kernel_rfl) (by kernel_rfl) (by kernel_rfl) (fun _ _ _ h => h) (Or.inl ⟨by rfl, ?_⟩) (by assumption) ?_
  rotate_left 1
  · intro w hSw; (try dsimp only at hSw); go_simp; try with_reducible rfl
  try simp only [Act.put, List.getElem_toArray, List.getElem_cons_succ, List.getElem_cons_zero, List.setIfInBounds_toArray, List.set_cons_zero, List.set_cons_succ]
  refine wpAnyH_take (i := 27) (v := ?_) rfl (by kernel_rfl) (by kernel_rfl) (by kernel_rfl) (fun _ _ _ h => h) (Or.inl ⟨by rfl, ?_⟩) (by assumption) ?_
  rotate_left 1
  · intro w hSw; (try dsimp only at hSw); go_simp; try with_reducible rfl
  try simp only [Act.put, List.getElem_toArray, List.getElem_cons_succ, List.getElem_cons_zero, List.setIfInBounds_toArray, List.set_cons_zero, List.set_cons_succ]
  refine wpAnyH_take (i := 28) (v := ?_) rfl (by kernel_rfl) (by kernel_rfl) (by kernel_rfl) (fun _ _ _ h => h) (Or.inl ⟨by rfl, ?_⟩) (by assumption) ?_
  rotate_left 1
  · intro w hSw; (try dsimp only at hSw); go_simp; try with_reducible rfl
  try simp only [Act.put, List.getElem_toArray, List.getElem_cons_succ, List.getElem_cons_zero, List.setIfInBounds_toArray, List.set_cons_zero, List.set_cons_succ]
  refine wpAnyH_take (i := 29) (v := ?_) rfl (by kernel_rfl) (by kernel_rfl) (by kernel_rfl) (fun _ _ _ h => h) (Or.inl ⟨by rfl, ?_⟩) (by assumption) ?_
  rotate_left 1
  · intro w hSw; (try dsimp only at hSw); go_simp; try with_reducible rfl
  try simp only [Act.put, List.getElem_toArray, List.getElem_cons_succ, List.getElem_cons_zero, List.setIfInBounds_toArray, List.set_cons_zero, List.set_cons_succ]
  refine wpAnyH_take (i := 30) (v := ?_) rfl (by kernel_rfl) (by kernel_rfl) (by kernel_rfl) (fun _ _ _ h => h) (Or.inl ⟨by rfl, ?_⟩) (by assumption) ?_
  rotate_left 1
  · intro w hSw; (try dsimp only at hSw); go_simp; try with_reducible rfl
  try simp only [Act.put, List.getElem_toArray, List.getElem_cons_succ, List.getElem_cons_zero, List.setIfInBounds_toArray, List.set_cons_zero, List.set_cons_succ]
  refine wpAnyH_ready (rs := [31]) (by kernel_rfl) (by simp) (AllReadyH.cons rfl (fun K hK => ?_) AllReadyH.nil)
  go_simp
  go_at_call 15
  refine (cE1 _ _ _ _ _ (R1 _ b3) (R2 _ b3)).mono ?_
  rintro e v3 ⟨rfl, p3⟩
  have b4 := chain b3 p3
  try simp only []
  refine hK.out _ _ (hS _ b4) (fun hHeld => ?_)
  clear hK K
  try simp only [Act.put, List.getElem_toArray, List.getElem_cons_succ, List.getElem_cons_zero, List.setIfInBounds_toArray, List.set_cons_zero, List.set_cons_succ]
  refine wpAnyH_take (i := 32) (v := ?_) rfl (by kernel_rfl) (by kernel_rfl) (by kernel_rfl) (fun _ _ _ h => h) (Or.inl ⟨by rfl, ?_⟩) (by assumption) ?_
  rotate_left 1
  · intro w hSw; (try dsimp only at hSw); go_simp; try with_reducible rfl
  try simp only [Act.put, List.getElem_toArray, List.getElem_cons_succ, List.getElem_cons_zero, List.setIfInBounds_toArray, List.set_cons_zero, List.set_cons_succ]
  refine wpAnyH_take (i := 33) (v := ?_) rfl (by kernel_rfl) (by kernel_rfl) (by kernel_rfl) (fun _ _ _ h => h) (Or.inl ⟨by rfl, ?_⟩) (by assumption) ?_
  rotate_left 1
  · intro w hSw; (try dsimp only at hSw); go_simp; try with_reducible rfl
  try simp only [Act.put, List.getElem_toArray, List.getElem_cons_succ, List.getElem_cons_zero, List.setIfInBounds_toArray, List.set_cons_zero, List.set_cons_succ]
  refine wpAnyH_done (by kernel_rfl) ?_ _
  clear cE1 hqx hqz cNx cNz i1 i2 i3 i4 i5 e1 R1 R2 hB1 hB2
  go_wp2
  have hQ := chain hb0 (chain J3.below b4)
  have b5 := b4
  clear b0 b1 b2 b3 b4
  go_loopg [19] k (fun gk i wr => ∃ j : Nat, j ≤ k ∧ k - j ≤ gk ∧ i = .int .i64 j ∧ wr = v3)
  case atStart => exact ⟨0, Nat.zero_le _, by omega, rfl, rfl⟩
  case round =>
    obtain ⟨j, hj, hgk, rfl, rfl⟩ := hrel
    have HG := hideIt hgk
    clear hgk
    have f1 : IntKind.u64.wrap (j : Int) = (j : Int) := by rw [IntKind.wrap_u64]; omega
    have f2 : (j : Int) ≤ 64 := by omega
    have f3 : min j 64 = j := by omega
    obtain ⟨aj, haj⟩ : ∃ aj, a / 2 ^ j = aj := ⟨_, rfl⟩
    obtain ⟨bj, hbj⟩ : ∃ bj, b / 2 ^ j = bj := ⟨_, rfl⟩
    have f4 : (a : Int) / 2 ^ j = (aj : Int) := by rw [← haj]; norm_cast
    have f5 : (b : Int) / 2 ^ j = (bj : Int) := by rw [← hbj]; norm_cast
    by_cases he : aj = bj
    · have hd := e2 j (by rw [haj, hbj, he])
      have HD := hideIt hd
      subst he
      have f6 : (((aj : Nat) : Int) != (aj : Int)) = false := by simp
      clear hd haj hbj
      have cE2 := fun A B c d u hA hB => rsame14_any A B c d (Tx.drop j) (Ty.drop j) (by rw [List.length_drop]; omega) (by rw [List.length_drop]; omega) u hA hB
      rw [List.length_drop, List.length_drop, lx, ly, decide_eq_true HD.out] at cE2
      obtain ⟨B3, hB3⟩ : ∃ B, (if c5 = j then (some ⟨sx, 0, none⟩ : Option Addr) else some ⟨sx, j * 3, none⟩) = B := ⟨_, rfl⟩
      obtain ⟨B4, hB4⟩ : ∃ B, (if c6 = j then (some ⟨sy, 0, none⟩ : Option Addr) else some ⟨sy, j * 3, none⟩) = B := ⟨_, rfl⟩
      have R3 : ∀ u, Below W7.heap.size W7 u → ndS.Row u u.heap.size B3 (Tx.drop j) := fun u hu => by rw [← hB3]; exact row_from (BX.row.on hu) (by omega) j
      have R4 : ∀ u, Below W7.heap.size W7 u → ndS.Row u u.heap.size B4 (Ty.drop j) := fun u hu => by rw [← hB4]; exact row_from (BY.row.on hu) (by omega) j
      have i0 : (0 : Int) ≤ (j : Int) := by omega
      have i1 : (j : Int) ≤ (k : Int) := by omega
      have i2 : (j : Int) ≤ (c5 : Int) := by omega
      have i3 : (j : Int) ≤ (c6 : Int) := by omega
      have i4 : (k : Int) ≤ (c5 : Int) := by omega
      have i5 : (k : Int) ≤ (c6 : Int) := by omega
      go_upto_region 19 with fail
      have b6 := b5.drew
      refine wp_region_held_drew (S := fun u => ((u.cell? ⟨g13, 0, none⟩ = some (.bool xp) ∧ u.cell? ⟨g13, 1, none⟩ = some (.string xi) ∧ u.cell? ⟨g13, 2, none⟩ = some (.string xs) ∧ u.cell? ⟨g13, 3, none⟩ = some (.int .u64 xh) ∧ u.cell? ⟨g13, 4, none⟩ = some (.int .u64 xl) ∧ u.cell? ⟨g13, 6, none⟩ = some (.slice (some ⟨sx, 0, none⟩) k c5) ∧ g13 < u.heap.size) ∧
        (u.cell? ⟨g15, 6, none⟩ = some (.slice (some ⟨sy, 0, none⟩) k c6) ∧ g15 < u.heap.size) ∧
        (u.cell? ⟨g17, 0, none⟩ = some (.bool zp) ∧ u.cell? ⟨g17, 1, none⟩ = some (.string zi) ∧ u.cell? ⟨g17, 2, none⟩ = some (.string zs) ∧ u.cell? ⟨g17, 3, none⟩ = some (.int .u64 zh) ∧ u.cell? ⟨g17, 4, none⟩ = some (.int .u64 zl) ∧ u.cell? ⟨g17, 6, none⟩ = some (.slice (some ⟨sz, 0, none⟩) k c7) ∧ g17 < u.heap.size)) ∧
        (u.cell? ⟨sx, 0, none⟩ = some (.string Zq) ∧ u.cell? ⟨sx, 1, none⟩ = some (.int .u64 Zh) ∧ u.cell? ⟨sx, 2, none⟩ = some (.int .u64 Zl) ∧ sx < u.heap.size) ∧ (u.cell? ⟨sz, 0, none⟩ = some (.string Xq) ∧ u.cell? ⟨sz, 1, none⟩ = some (.int .u64 Xh) ∧ u.cell? ⟨sz, 2, none⟩ = some (.int .u64 Xl) ∧ sz < u.heap.size)) (by kernel_rfl) (hS _ b6) (fun hHeld => ?_)
      generalize wr.drew = We at *
      refine wpAnyH_take (i := 0) (v := ?_) rfl (by kernel_rfl) (by kernel_rfl) (by kernel_rfl) (fun _ _ _ h => h) (Or.inl ⟨by rfl, ?_⟩) (by assumption) ?_
      rotate_left 1
      · intro w hSw; (try dsimp only at hSw); go_simp; try with_reducible rfl
      try simp only [Act.put, List.getElem_toArray, List.getElem_cons_succ, List.getElem_cons_zero, List.setIfInBounds_toArray, List.set_cons_zero, List.set_cons_succ]
      refine wpAnyH_take (i := 1) (v := ?_) rfl (by kernel_rfl) (by kernel_rfl) (by kernel_rfl) (fun _ _ _ h => h) (Or.inl ⟨by rfl, ?_⟩) (by assumption) ?_
      rotate_left 1
      · intro w hSw; (try dsimp only at hSw); go_simp; try with_reducible rfl
      try simp only [Act.put, List.getElem_toArray, List.getElem_cons_succ, List.getElem_cons_zero, List.setIfInBounds_toArray, List.set_cons_zero, List.set_cons_succ]
      refine wpAnyH_take (i := 2) (v := ?_) rfl (by kernel_rfl) (by kernel_rfl) (by kernel_rfl) (fun _ _ _ h => h) (Or.inl ⟨by rfl, ?_⟩) (by assumption) ?_
      rotate_left 1
      · intro w hSw; (try dsimp only at hSw); go_simp; try with_reducible rfl
      try simp only [Act.put, List.getElem_toArray, List.getElem_cons_succ, List.getElem_cons_zero, List.setIfInBounds_toArray, List.set_cons_zero, List.set_cons_succ]
      refine wpAnyH_take (i := 3) (v := ?_) rfl (by kernel_rfl) (by kernel_rfl) (by kernel_rfl) (fun _ _ _ h => h) (Or.inl ⟨by rfl, ?_⟩) (by assumption) ?_
      rotate_left 1
      · intro w hSw; (try dsimp only at hSw); go_simp; try with_reducible rfl
      try simp only [Act.put, List.getElem_toArray, List.getElem_cons_succ, List.getElem_cons_zero, List.setIfInBounds_toArray, List.set_cons_zero, List.set_cons_succ]
      refine wpAnyH_take (i := 4) (v := ?_) rfl (by kernel_rfl) (by kernel_rfl) (by kernel_rfl) (fun _ _ _ h => h) (Or.inl ⟨by rfl, ?_⟩) (by assumption) ?_
      rotate_left 1
      · intro w hSw; (try dsimp only at hSw); go_simp; try with_reducible rfl
      try simp only [Act.put, List.getElem_toArray, List.getElem_cons_succ, List.getElem_cons_zero, List.setIfInBounds_toArray, List.set_cons_zero, List.set_cons_succ]
      refine wpAnyH_take (i := 5) (v := ?_) rfl (by kernel_rfl) (by kernel_rfl) (by kernel_rfl) (fun _ _ _ h => h) (Or.inl ⟨by rfl, ?_⟩) (by assumption) ?_
      rotate_left 1
      · intro w hSw; (try dsimp only at hSw); go_simp; try with_reducible rfl
      try simp only [Act.put, List.getElem_toArray, List.getElem_cons_succ, List.getElem_cons_zero, List.setIfInBounds_toArray, List.set_cons_zero, List.set_cons_succ]
      refine wpAnyH_take (i := 6) (v := ?_) rfl (by kernel_rfl) (by kernel_rfl) (by kernel_rfl) (fun _ _ _ h => h) (Or.inl ⟨by rfl, ?_⟩) (by assumption) ?_
      rotate_left 1
      · intro w hSw; (try dsimp only at hSw); go_simp; try with_reducible rfl
      try simp only [Act.put, List.getElem_toArray, List.getElem_cons_succ, List.getElem_cons_zero, List.setIfInBounds_toArray, List.set_cons_zero, List.set_cons_succ]
      refine wpAnyH_take (i := 7) (v := ?_) rfl (by kernel_rfl) (by kernel_rfl) (by kernel_rfl) (fun _ _ _ h => h) (Or.inl ⟨by rfl, ?_⟩) (by assumption) ?_
      rotate_left 1
      · intro w hSw; (try dsimp only at hSw); go_simp; try with_reducible rfl
      try simp only [Act.put, List.getElem_toArray, List.getElem_cons_succ, List.getElem_cons_zero, List.setIfInBounds_toArray, List.set_cons_zero, List.set_cons_succ]
      refine wpAnyH_take (i := 8) (v := ?_) rfl (by kernel_rfl) (by kernel_rfl) (by kernel_rfl) (fun _ _ _ h => h) (Or.inl ⟨by rfl, ?_⟩) (by assumption) ?_
      rotate_left 1
      · intro w hSw; (try dsimp only at hSw); go_simp; try with_reducible rfl
      try simp only [Act.put, List.getElem_toArray, List.getElem_cons_succ, List.getElem_cons_zero, List.setIfInBounds_toArray, List.set_cons_zero, List.set_cons_succ]
      refine wpAnyH_take (i := 9) (v := ?_) rfl (by kernel_rfl) (by kernel_rfl) (by kernel_rfl) (fun _ _ _ h => h) (Or.inl ⟨by rfl, ?_⟩) (by assumption) ?_
      rotate_left 1
      · intro w hSw; (try dsimp only at hSw); go_simp; try with_reducible rfl
      try simp only [Act.put, List.getElem_toArray, List.getElem_cons_succ, List.getElem_cons_zero, List.setIfInBounds_toArray, List.set_cons_zero, List.set_cons_succ]
      refine wpAnyH_ready (rs := [10]) (by kernel_rfl) (by simp) (AllReadyH.cons rfl (fun K hK => ?_) AllReadyH.nil)
      go_simp
      go_at_call 15
      refine (cE2 _ _ _ _ _ (R3 _ b6) (R4 _ b6)).mono ?_
      rintro e v4 ⟨rfl, p4⟩
      have b7 := chain b6 p4
      try simp only []
      refine hK.out _ _ (hS _ b7) (fun hHeld => ?_)
      clear hK K
      try simp only [Act.put, List.getElem_toArray, List.getElem_cons_succ, List.getElem_cons_zero, List.setIfInBounds_toArray, List.set_cons_zero, List.set_cons_succ]
      refine wpAnyH_take (i := 11) (v := ?_) rfl (by kernel_rfl) (by kernel_rfl) (by kernel_rfl) (fun _ _ _ h => h) (Or.inl ⟨by rfl, ?_⟩) (by assumption) ?_
      rotate_left 1
      · intro w hSw; (try dsimp only at hSw); go_simp; try with_reducible rfl
      try simp only [Act.put, List.getElem_toArray, List.getElem_cons_succ, List.getElem_cons_zero, List.setIfInBounds_toArray, List.set_cons_zero, List.set_cons_succ]
      refine wpAnyH_done (by kernel_rfl) ?_ _
      go_wp2
      go_ret
      exact ⟨rfl, chain hb0 (chain J3.below b7)⟩
    · have hjk : j < k := by
        rcases Nat.lt_or_ge j k with h | h
        · exact h
        · exfalso
          have e : j = k := by omega
          subst e
          rw [Nat.div_eq_of_lt ha] at haj
          rw [Nat.div_eq_of_lt hb] at hbj
          omega
      have f6 : (((aj : Nat) : Int) != (bj : Int)) = true := bne_iff_ne.2 (by omega)
      clear haj hbj
      go_wp2
      go_roundg (k - (j + 1))
      case measure => have := HG.out; omega
      case rel => exact ⟨j + 1, by omega, Nat.le_refl _, by go_num, rfl⟩
end Go.Proofs.YtjndabnegmecmaaDoor
