/-
  The law ProofChanges: of a leaf that is set the own proof stays; of each other one just one side changes, or none. Conditions: none.
-/
import Derived.Test.YtjndabnegmecmaaDoorU16Awak
import Derived.Test.YtjndabnegmecmaaDoorM16Fn
namespace Go.Proofs.YtjndabnegmecmaaDoor
set_option linter.unusedVariables false
set_option linter.unusedSimpArgs false
set_option maxRecDepth 10000
open Go.ChangeShapes Go.WideShapes Go.ChangeAt Go.RowKit

theorem log_fewC {n : Int} {l : List Lf} {k : Nat} (h : FairT n l k) (hl : l.length ≤ 70) : k ≤ 6 := by
  by_cases hk : k ≤ 6
  · exact hk
  · have h1 : 2 ^ 7 ≤ 2 ^ k := Nat.pow_le_pow_right (by decide) (by omega)
    rw [← h.len] at h1
    omega
theorem xor1_i64 : ∀ q : Nat, q < 128 → bits .xor .i64 (q : Int) 1 = (sib q : Int) := by decide +kernel
/-- How many sides turned so far: none, or one, there where the way of the leaf that was set is. -/
def OneOf (i p j : Nat) (o : Nat) : Prop := o = 0 ∨ (o = 1 ∧ ∃ t, t < j ∧ sib (i / 2 ^ t) = p / 2 ^ t)
theorem OneOf.next {i p j o : Nat} (h : OneOf i p j o) : OneOf i p (j + 1) o := by
  rcases h with h | ⟨h, t, ht, e⟩
  · exact Or.inl h
  · exact Or.inr ⟨h, t, by omega, e⟩
theorem OneOf.hit {i p j o : Nat} (h : OneOf i p j o) (e : sib (i / 2 ^ j) = p / 2 ^ j) : o = 0 ∧ OneOf i p (j + 1) 1 := by
  refine ⟨?_, Or.inr ⟨rfl, j, by omega, e⟩⟩
  rcases h with h | ⟨h, t, ht, e'⟩
  · exact h
  · exact absurd e (side_once e' ht)
set_option maxRecDepth 100000 in
set_option maxHeartbeats 8000000 in
theorem proofChanges_fair (n : Int) (A : Option Addr) (c : Nat) (l : List Lf) (pos : Nat) (hpos : pos < 65536) (x : Lf) (hx5 : x.fine15) (hc : l.length ≤ c) (hcm : c ≤ 9223372036854775807) (hg : greatLf l = false) (hgx : greatLf [x] = false) (hF : FairT n l (Nat.log2 l.length))
    (w : World) (hR : lfS.Row w w.heap.size A l) (hK : Tab w) (hU : TabU w) :
    Calls Tryd.prog 5 #[.int .i64 n, .slice A l.length c, .int .u16 pos, x.val] w (Tells (.bool true) w.heap.size w) := by
  obtain ⟨hl70, hsz⟩ := greatLf_no hg
  have hxs := (greatLf_no hgx).2 x (by simp)
  have hk := log_fewC hF hl70
  have cW := fun u hu hv => awake16_any u hu hv
  have cG := fun u hu => great15_any A c l (by omega) (fun x hx => ⟨by have := hsz x hx; omega, by have := hsz x hx; omega⟩) u hu
  have cG2 := fun g u hu => great15_any (some ⟨g, 0, none⟩) 1 [x] (by simp) (fun y hy => by rw [List.mem_singleton.1 hy]; exact hx5.1) u hu
  rw [hg] at cG
  rw [hgx] at cG2
  obtain ⟨k, hkk⟩ : ∃ k, Nat.log2 l.length = k := ⟨_, rfl⟩
  rw [hkk] at hF hk
  clear hkk
  have c1 := fun u hR hT hV => new15_fair n A c l u hF hR hT hV
  have cA1 := fun u (q : TrG) (hu : TrAt u q n l k) => all16_tree hu hF
  have hlen := hF.len
  have hrow := fun u => lf_rowL u [x]
  obtain ⟨p, hpp⟩ : ∃ p, pos % l.length = p := ⟨_, rfl⟩
  have hp : p < 2 ^ k := by rw [← hpp, ← hlen]; exact Nat.mod_lt _ (by have := hF.pos; omega)
  have hset : (newE n (l.set p x) = 0 ∧ FairT n (l.set p x) k) ∨ ∃ E : Int, E ≠ 0 ∧ ∀ u (q : TrG), TrAt u q n l k → Tab u → TabU u → Calls Tryd.prog 17 #[.pointer (some ⟨q.g, 0, none⟩), .int .u64 p, x.val] u (Tells (.int .i64 E) u.heap.size u) := by
    rcases newE_set hF p hp x hx5.2 with ⟨h1, h2⟩ | ⟨-, h2⟩ | ⟨-, h2, h3⟩
    · exact Or.inl ⟨h1, h2⟩
    · exact Or.inr ⟨130, by decide, fun u q hu hT hV => set15_leaf hu hF p (by rw [hlen]; exact hp) x h2 (by omega) (by omega) hV⟩
    · exact Or.inr ⟨10, by decide, fun u q hu hT hV => set15_full hu hF p hp x ⟨h2, hx5.2⟩ h3 hT hV⟩
  have HF := hideIt hF
  have hN0 : 1 ≤ l.length := hF.pos
  obtain ⟨N, hN⟩ : ∃ N, l.length = N := ⟨_, rfl⟩
  rw [hN] at cG c1 cA1 hlen hl70 hc hpp hN0 ⊢
  have HN := hideIt hN
  have HL := hideIt hlen
  have d1 : Int.tmod (pos : Int) (N : Int) = (p : Int) := by rw [Int.tmod_eq_emod_of_nonneg (by omega), ← hpp]; norm_cast
  have d2 : (pos : Int) % (N : Int) = (p : Int) := by rw [← hpp]; norm_cast
  have d3 : IntKind.i64.wrap (pos : Int) = (pos : Int) := by rw [IntKind.wrap_i64]; omega
  have d4 : ¬ (N : Int) = 0 := by omega
  have hpN : p < N := by rw [hlen]; exact hp
  have d5 : IntKind.u64.wrap (p : Int) = (p : Int) := by rw [IntKind.wrap_u64]; omega
  have d6 : IntKind.i64.wrap (p : Int) = (p : Int) := by rw [IntKind.wrap_i64]; omega
  simp only [List.length_cons, List.length_nil, Nat.reduceAdd] at cG2
  have H0 := (Has.start w).addAt 36 (lfB x.pad x.id x.salt x.h x.l) (g := w.heap.size) rfl
  have HX := hideIt hx5
  clear hg hgx hF hN hlen hpp hx5
  rcases hset with ⟨-, hF2⟩ | ⟨E, hE, cSE⟩
  case inr =>
    have q0 : (E != 0) = true := bne_iff_ne.2 hE
    clear hE
    obtain ⟨xp, xi, xs, xh, xl⟩ := x
    simp only [Lf.val] at cSE H0 ⊢
    obtain ⟨⟨x0, x1, x2, x3, x4⟩, -, xin⟩ := (H0.box 0).five0
    go_enter Tryd.func5, Tryd.ntmps5
    go_wp2_with (first
      | (go_at_call 6; refine (cW _ (hK.call H0.below) (hU.call H0.below)).mono ?_; rintro e w1 ⟨rfl, b1⟩; have K1 := H0.call b1; clear x0 x1 x2 x3 x4 xin; obtain ⟨⟨x0, x1, x2, x3, x4⟩, -, xin⟩ := (K1.box 0).five0)
      | (go_at_call 7; refine (cG _ (hR.on K1.below)).mono ?_; rintro e w2 ⟨rfl, rfl⟩; clear cG)
      | (go_at_call 7; refine (cG2 _ _ (hrow _)).mono ?_; rintro e w2 ⟨rfl, rfl⟩; have K2 := K1.past (.cells (lfS.flat [⟨xp, xi, xs, xh, xl⟩]).toArray 36))
      | (go_at_call 8; refine (c1 _ (hR.on K2.below) (hK.call K2.below) (hU.call K2.below)).mono ?_; rintro e w3 ⟨b3, q, rfl, hT3, hq3⟩; have K3 := K2.call b3)
      | (go_at_call 16; refine (cA1 _ _ hT3).mono ?_; rintro e w4 ⟨b4, gw, cw, ms, rfl, hgw, hcw, BW, hml, hok⟩; have K4 := K3.call b4; obtain ⟨⟨y0, y1, y2, y3, y4⟩, -, yin⟩ := (K4.box 0).five0)
      | (go_at_call 17; refine (cSE _ _ (hT3.call b4) (hK.call K4.below) (hU.call K4.below)).mono ?_; rintro e w5 ⟨rfl, b5⟩; have K5 := K4.call b5)
      | fail)
    go_ret
    exact ⟨rfl, K5.below⟩
  case inl =>
    have cS2 := fun u (q : TrG) (hu : TrAt u q n l k) hT hV => set15_yes hu HF.out p hp x hF2 hT hV
    have cA2 := fun u (q : TrG) (hu : TrAt u q n (l.set p x) k) => all16_tree hu hF2
    have hl2 : (l.set p x).length = N := by rw [List.length_set, HN.out]
    rw [hl2] at cA2
    have hown : sdsOf n (l.set p x) k p = sdsOf n l k p := HF.out.own_stays hF2
    have hside := fun (i j : Nat) (hj : j < k) (hq : sib (i / 2 ^ j) ≠ p / 2 ^ j) => HF.out.side_stays hF2 i hj hq
    have hxp : (l.set p x)[p]? = some x := by rw [List.getElem?_set_self (by rw [HN.out]; exact hpN)]
    have hxo := fun (i : Nat) (h : i ≠ p) => (List.getElem?_set_ne (l := l) (a := x) h.symm)
    have hqx := fun (u : World) => (show (binOp .neq 36 x.val x.val).run Tryd.prog u = .ok (.bool false) u by rw [run_neq_lf, (Lf.same_iff _ _).2 rfl]; rfl)
    have HF2 := hideIt hF2
    have HL2 := hideIt hl2
    obtain ⟨l', hl'⟩ : ∃ l', l.set p x = l' := ⟨_, rfl⟩
    rw [hl'] at cS2 cA2 hown hside hxp hxo HF2 HL2
    have HOWN := hideIt hown
    have HSIDE := hideIt hside
    have HXP := hideIt hxp
    have HXO := hideIt hxo
    obtain ⟨xp, xi, xs, xh, xl⟩ := x
    simp only [Lf.val] at cS2 H0 hqx ⊢
    clear hF2 hl2 hown hside hxp hxo hl'
    obtain ⟨⟨x0, x1, x2, x3, x4⟩, -, xin⟩ := (H0.box 0).five0
    go_enter Tryd.func5, Tryd.ntmps5
    go_upto_region 8 with (first
      | (go_at_call 6; refine (cW _ (hK.call H0.below) (hU.call H0.below)).mono ?_; rintro e w1 ⟨rfl, b1⟩; have K1 := H0.call b1; clear x0 x1 x2 x3 x4 xin; obtain ⟨⟨x0, x1, x2, x3, x4⟩, -, xin⟩ := (K1.box 0).five0)
      | (go_at_call 7; refine (cG _ (hR.on K1.below)).mono ?_; rintro e w2 ⟨rfl, rfl⟩; clear cG)
      | (go_at_call 7; refine (cG2 _ _ (hrow _)).mono ?_; rintro e w2 ⟨rfl, rfl⟩; have K2 := K1.past (.cells (lfS.flat [⟨xp, xi, xs, xh, xl⟩]).toArray 36))
      | (go_at_call 8; refine (c1 _ (hR.on K2.below) (hK.call K2.below) (hU.call K2.below)).mono ?_; rintro e w3 ⟨b3, q, rfl, hT3, hq3⟩; have K3 := K2.call b3; have hq := hq3.more (show w.heap.size + 1 ≤ _ from (K2.box 0).inside) (Nat.le_refl _))
      | fail)
    clear x0 x1 x2 x3 x4 xin b1 b3 hq3 K1 K2 cW cG2 c1 hrow
    go_upto_region 10 with (first
      | (go_at_call 16; refine (cA1 _ _ hT3).mono ?_; rintro e w4 ⟨b4, gw, cw, ms, rfl, hgw, hcw, BW, hml, hok⟩; have K4 := K3.call b4; obtain ⟨⟨y0, y1, y2, y3, y4⟩, -, yin⟩ := (K4.box 0).five0)
      | fail)
    have hlow : ∀ b, q.turns b → w.heap.size + 1 ≤ b ∧ b < w3.heap.size := fun b hb => hq.turns hb
    go_upto_region 12 with (first
      | (go_at_call 17; refine (cS2 _ _ (hT3.call b4) (hK.call K4.below) (hU.call K4.below)).mono ?_; rintro e w5 ⟨rfl, hT5, O5⟩)
      | fail)
    have BW5 := BW.off O5 (fun h => by have := (hlow gw h).2; omega)
    have ok5 := hok.off O5 (fun b h => (hlow b h).2)
    have X5 := O5.box (K4.box 0) (fun h => by have := (hlow _ h).1; omega)
    have b45 := (hq.off O5 (by have := (K4.box 0).inside; omega)).mono (Nat.le_succ w.heap.size)
    have hb5 := K4.below.trans b45
    clear y0 y1 y2 y3 y4 yin BW hok O5 K4 b45 b4 K3 hT3 hq hlow cS2
    go_upto_region 13 with (first
      | (go_at_call 16; refine (cA2 _ _ hT5).mono ?_; rintro e w6 ⟨b6, gn, cn, mn, rfl, hgn, hcn, BN, hmn, ok2⟩)
      | fail)
    have BW6 := BW5.call b6
    have ok6 := ok5.call b6
    have X6 := X5.call b6
    have hb6 := chain hb5 b6
    have hR6 := hR.on hb6
    have hT6 := hT5.call b6
    clear BW5 ok5 X5 hb5 hT5 b6 cA1 cA2 hK hU
    have hwas := fun (i : Nat) y (hy : l[i]? = some y) => ok6.at_ (by rw [hml, HN.out]) hy
    have hnow := fun (i : Nat) y (hy : l'[i]? = some y) => ok2.at_ (by rw [hmn, HL2.out]) hy
    have HWAS := hideIt hwas
    have HNOW := hideIt hnow
    obtain ⟨yp, hyp⟩ : ∃ y, l[p]? = some y := ⟨_, List.getElem?_eq_getElem (by rw [HN.out]; exact hpN)⟩
    obtain ⟨A1, c1, hms, hSd1⟩ := hwas p _ hyp
    obtain ⟨A2, c2, hmn2, hSd2⟩ := hnow p _ HXP.out
    have hsl : (sdsOf n l k p).length = k := sibs_len _ _ _ _
    rw [HOWN.out] at hmn2 hSd2
    rw [hsl] at hms hmn2
    obtain ⟨S, hS0⟩ : ∃ S, sdsOf n l k p = S := ⟨_, rfl⟩
    rw [hS0] at hSd1 hSd2 hsl
    have cS := fun A' c' B' d' u h1 h2 => rsame14_any A' B' c' d' S S (by omega) (by omega) u h1 h2
    rw [hsl, decide_eq_true rfl] at cS
    clear hwas hnow ok6 ok2 hyp hS0
    have hS : ∀ u, Below w6.heap.size w6 u → ((u.cell? ⟨gn, p * 7, none⟩ = some (.bool xp) ∧ u.cell? ⟨gn, p * 7 + 1, none⟩ = some (.string xi) ∧ u.cell? ⟨gn, p * 7 + 2, none⟩ = some (.string xs) ∧ u.cell? ⟨gn, p * 7 + 3, none⟩ = some (.int .u64 xh) ∧ u.cell? ⟨gn, p * 7 + 4, none⟩ = some (.int .u64 xl) ∧ u.cell? ⟨gn, p * 7 + 6, none⟩ = some (.slice A2 k c2) ∧ gn < u.heap.size) ∧
        (u.cell? ⟨gw, p * 7 + 6, none⟩ = some (.slice A1 k c1) ∧ gw < u.heap.size)) ∧
        ((u.cell? ⟨w.heap.size, 0, none⟩ = some (.bool xp) ∧ u.cell? ⟨w.heap.size, 1, none⟩ = some (.string xi) ∧ u.cell? ⟨w.heap.size, 2, none⟩ = some (.string xs) ∧ u.cell? ⟨w.heap.size, 3, none⟩ = some (.int .u64 xh) ∧ u.cell? ⟨w.heap.size, 4, none⟩ = some (.int .u64 xl)) ∧ w.heap.size < u.heap.size) := fun u hu => by
      have B1 := BW6.call hu
      have B2 := BN.call hu
      have B3 := X6.call hu
      exact ⟨⟨⟨B2.cell hmn2 (j := 0) (by decide), B2.cell hmn2 (j := 1) (by decide), B2.cell hmn2 (j := 2) (by decide), B2.cell hmn2 (j := 3) (by decide), B2.cell hmn2 (j := 4) (by decide), B2.cell hmn2 (j := 6) (by decide), B2.inside⟩, B1.cell hms (j := 6) (by decide), B1.inside⟩, B3.five0.1, B3.inside⟩
    have q0 : (((N : Nat) : Int) != (N : Int)) = false := by simp
    have q1 : (p : Int) < (N : Int) := by omega
    have b0 := (Below.refl w6.heap.size w6).drew
    refine wp_region_held_drew (S := fun u => ((u.cell? ⟨gn, p * 7, none⟩ = some (.bool xp) ∧ u.cell? ⟨gn, p * 7 + 1, none⟩ = some (.string xi) ∧ u.cell? ⟨gn, p * 7 + 2, none⟩ = some (.string xs) ∧ u.cell? ⟨gn, p * 7 + 3, none⟩ = some (.int .u64 xh) ∧ u.cell? ⟨gn, p * 7 + 4, none⟩ = some (.int .u64 xl) ∧ u.cell? ⟨gn, p * 7 + 6, none⟩ = some (.slice A2 k c2) ∧ gn < u.heap.size) ∧
        (u.cell? ⟨gw, p * 7 + 6, none⟩ = some (.slice A1 k c1) ∧ gw < u.heap.size)) ∧
        ((u.cell? ⟨w.heap.size, 0, none⟩ = some (.bool xp) ∧ u.cell? ⟨w.heap.size, 1, none⟩ = some (.string xi) ∧ u.cell? ⟨w.heap.size, 2, none⟩ = some (.string xs) ∧ u.cell? ⟨w.heap.size, 3, none⟩ = some (.int .u64 xh) ∧ u.cell? ⟨w.heap.size, 4, none⟩ = some (.int .u64 xl)) ∧ w.heap.size < u.heap.size)) (by kernel_rfl) (hS _ b0) (fun hHeld => ?_)
    generalize w6.drew = Wd at *
    refine wpAnyH_take (i := 0) (v := ?_) rfl (by kernel_rfl) (by kernel_rfl) (by kernel_rfl) (fun _ _ _ h => h) (Or.inl ⟨by rfl, ?_⟩) (by assumption) ?_
    rotate_left 1
    · intro w hSw; (try dsimp only at hSw); go_simp; try with_reducible rfl
    try simp only [Act.put, List.getElem_toArray, List.getElem_cons_succ, List.getElem_cons_zero, List.setIfInBounds_toArray, List.set_cons_zero, List.set_cons_succ]
    refine wpAnyH_take (i := 1) (v := ?_) rfl (by kernel_rfl) (by kernel_rfl) (by kernel_rfl) (fun _ _ _ h => h) (Or.inl ⟨by rfl, ?_⟩) (by assumption) ?_
    rotate_left 1
    · intro w hSw; (try dsimp only at hSw); go_simp; try with_reducible rfl
    try simp only [Act.put, List.getElem_toArray, List.getElem_cons_succ, List.getElem_cons_zero, List.setIfInBounds_toArray, List.set_cons_zero, List.set_cons_succ]
    refine wpAnyH_take (i := 2) (v := ?_) rfl (by kernel_rfl) (by kernel_rfl) (by kernel_rfl) (fun _ _ _ h => h) (Or.inl ⟨by rfl, ?_⟩) (by assumption) ?_
    rotate_left 1
    · intro w hSw; (try dsimp only at hSw); go_simp; try with_reducible rfl
    try simp only [Act.put, List.getElem_toArray, List.getElem_cons_succ, List.getElem_cons_zero, List.setIfInBounds_toArray, List.set_cons_zero, List.set_cons_succ]
    refine wpAnyH_take (i := 3) (v := ?_) rfl (by kernel_rfl) (by kernel_rfl) (by kernel_rfl) (fun _ _ _ h => h) (Or.inl ⟨by rfl, ?_⟩) (by assumption) ?_
    rotate_left 1
    · intro w hSw; (try dsimp only at hSw); go_simp; try with_reducible rfl
    try simp only [Act.put, List.getElem_toArray, List.getElem_cons_succ, List.getElem_cons_zero, List.setIfInBounds_toArray, List.set_cons_zero, List.set_cons_succ]
    refine wpAnyH_take (i := 4) (v := ?_) rfl (by kernel_rfl) (by kernel_rfl) (by kernel_rfl) (fun _ _ _ h => h) (Or.inl ⟨by rfl, ?_⟩) (by assumption) ?_
    rotate_left 1
    · intro w hSw; (try dsimp only at hSw); go_simp; try with_reducible rfl
    try simp only [Act.put, List.getElem_toArray, List.getElem_cons_succ, List.getElem_cons_zero, List.setIfInBounds_toArray, List.set_cons_zero, List.set_cons_succ]
    refine wpAnyH_take (i := 5) (v := ?_) rfl (by kernel_rfl) (by kernel_rfl) (by kernel_rfl) (fun _ _ _ h => h) (Or.inl ⟨by rfl, ?_⟩) (by assumption) ?_
    rotate_left 1
    · intro w hSw; (try dsimp only at hSw); go_simp; try with_reducible rfl
    try simp only [Act.put, List.getElem_toArray, List.getElem_cons_succ, List.getElem_cons_zero, List.setIfInBounds_toArray, List.set_cons_zero, List.set_cons_succ]
    refine wpAnyH_take (i := 6) (v := ?_) rfl (by kernel_rfl) (by kernel_rfl) (by kernel_rfl) (fun _ _ _ h => h) (Or.inl ⟨by rfl, ?_⟩) (by assumption) ?_
    rotate_left 1
    · intro w hSw; (try dsimp only at hSw); go_simp; try with_reducible rfl
    try simp only [Act.put, List.getElem_toArray, List.getElem_cons_succ, List.getElem_cons_zero, List.setIfInBounds_toArray, List.set_cons_zero, List.set_cons_succ]
    refine wpAnyH_take (i := 7) (v := ?_) rfl (by kernel_rfl) (by kernel_rfl) (by kernel_rfl) (fun _ _ _ h => h) (Or.inl ⟨by rfl, ?_⟩) (by assumption) ?_
    rotate_left 1
    · intro w hSw; (try dsimp only at hSw); go_simp; try with_reducible rfl
    try simp only [Act.put, List.getElem_toArray, List.getElem_cons_succ, List.getElem_cons_zero, List.setIfInBounds_toArray, List.set_cons_zero, List.set_cons_succ]
    refine wpAnyH_take (i := 8) (v := ?_) rfl (by kernel_rfl) (by kernel_rfl) (by kernel_rfl) (fun _ _ _ h => h) (Or.inl ⟨by rfl, ?_⟩) (by assumption) ?_
    rotate_left 1
    · intro w hSw; (try dsimp only at hSw); go_simp; try with_reducible rfl
    try simp only [Act.put, List.getElem_toArray, List.getElem_cons_succ, List.getElem_cons_zero, List.setIfInBounds_toArray, List.set_cons_zero, List.set_cons_succ]
    refine wpAnyH_take (i := 9) (v := ?_) rfl (by kernel_rfl) (by kernel_rfl) (by kernel_rfl) (fun _ _ _ h => h) (Or.inl ⟨by rfl, ?_⟩) (by assumption) ?_
    rotate_left 1
    · intro w hSw; (try dsimp only at hSw); go_simp; try with_reducible rfl
    try simp only [Act.put, List.getElem_toArray, List.getElem_cons_succ, List.getElem_cons_zero, List.setIfInBounds_toArray, List.set_cons_zero, List.set_cons_succ]
    refine wpAnyH_take (i := 10) (v := ?_) rfl (by kernel_rfl) (by kernel_rfl) (by kernel_rfl) (fun _ _ _ h => h) (Or.inl ⟨by rfl, ?_⟩) (by assumption) ?_
    rotate_left 1
    · intro w hSw; (try dsimp only at hSw); go_simp; try with_reducible rfl
    try simp only [Act.put, List.getElem_toArray, List.getElem_cons_succ, List.getElem_cons_zero, List.setIfInBounds_toArray, List.set_cons_zero, List.set_cons_succ]
    refine wpAnyH_take (i := 11) (v := ?_) rfl (by kernel_rfl) (by kernel_rfl) (by kernel_rfl) (fun _ _ _ h => h) (Or.inl ⟨by rfl, ?_⟩) (by assumption) ?_
    rotate_left 1
    · intro w hSw; (try dsimp only at hSw); go_simp; try with_reducible rfl
    try simp only [Act.put, List.getElem_toArray, List.getElem_cons_succ, List.getElem_cons_zero, List.setIfInBounds_toArray, List.set_cons_zero, List.set_cons_succ]
    refine wpAnyH_take (i := 12) (v := ?_) rfl (by kernel_rfl) (by kernel_rfl) (by kernel_rfl) (fun _ _ _ h => h) (Or.inl ⟨by rfl, ?_⟩) (by assumption) ?_
    rotate_left 1
    · intro w hSw; (try dsimp only at hSw); go_simp; try with_reducible rfl
    try simp only [Act.put, List.getElem_toArray, List.getElem_cons_succ, List.getElem_cons_zero, List.setIfInBounds_toArray, List.set_cons_zero, List.set_cons_succ]
    refine wpAnyH_take (i := 13) (v := ?_) rfl (by kernel_rfl) (by kernel_rfl) (by kernel_rfl) (fun _ _ _ h => h) (Or.inl ⟨by rfl, ?_⟩) (by assumption) ?_
    rotate_left 1
    · intro w hSw; (try dsimp only at hSw); go_simp; try with_reducible rfl
    try simp only [Act.put, List.getElem_toArray, List.getElem_cons_succ, List.getElem_cons_zero, List.setIfInBounds_toArray, List.set_cons_zero, List.set_cons_succ]
    refine wpAnyH_take (i := 14) (v := ?_) rfl (by kernel_rfl) (by kernel_rfl) (by kernel_rfl) (fun _ _ _ h => h) (Or.inl ⟨by rfl, ?_⟩) (by assumption) ?_
    rotate_left 1
    · intro w hSw; (try dsimp only at hSw); go_simp; try with_reducible rfl
    try simp only [Act.put, List.getElem_toArray, List.getElem_cons_succ, List.getElem_cons_zero, List.setIfInBounds_toArray, List.set_cons_zero, List.set_cons_succ]
    refine wpAnyH_take (i := 15) (v := ?_) rfl (by kernel_rfl) (by kernel_rfl) (by kernel_rfl) (fun _ _ _ h => h) (Or.inl ⟨by rfl, ?_⟩) (by assumption) ?_
    rotate_left 1
    · intro w hSw; (try dsimp only at hSw); go_simp; try with_reducible rfl
    try simp only [Act.put, List.getElem_toArray, List.getElem_cons_succ, List.getElem_cons_zero, List.setIfInBounds_toArray, List.set_cons_zero, List.set_cons_succ]
    refine wpAnyH_take (i := 16) (v := ?_) rfl (by kernel_rfl) (by kernel_rfl) (by kernel_rfl) (fun _ _ _ h => h) (Or.inl ⟨by rfl, ?_⟩) (by assumption) ?_
    rotate_left 1
    · intro w hSw; (try dsimp only at hSw); go_simp; try with_reducible rfl
    try simp only [Act.put, List.getElem_toArray, List.getElem_cons_succ, List.getElem_cons_zero, List.setIfInBounds_toArray, List.set_cons_zero, List.set_cons_succ]
    refine wpAnyH_take (i := 17) (v := ?_) rfl (by kernel_rfl) (by kernel_rfl) (by kernel_rfl) (fun _ _ _ h => h) (Or.inl ⟨by rfl, ?_⟩) (by assumption) ?_
    rotate_left 1
    · intro w hSw; (try dsimp only at hSw); go_simp; try with_reducible rfl
    try simp only [Act.put, List.getElem_toArray, List.getElem_cons_succ, List.getElem_cons_zero, List.setIfInBounds_toArray, List.set_cons_zero, List.set_cons_succ]
    refine wpAnyH_take (i := 18) (v := ?_) rfl (by kernel_rfl) (by kernel_rfl) (by kernel_rfl) (fun _ _ _ h => h) (Or.inl ⟨by rfl, ?_⟩) (by assumption) ?_
    rotate_left 1
    · intro w hSw; (try dsimp only at hSw); go_simp; try with_reducible rfl
    try simp only [Act.put, List.getElem_toArray, List.getElem_cons_succ, List.getElem_cons_zero, List.setIfInBounds_toArray, List.set_cons_zero, List.set_cons_succ]
    refine wpAnyH_take (i := 19) (v := ?_) rfl (by kernel_rfl) (by kernel_rfl) (by kernel_rfl) (fun _ _ _ h => h) (Or.inl ⟨by rfl, ?_⟩) (by assumption) ?_
    rotate_left 1
    · intro w hSw; (try dsimp only at hSw); go_simp; try with_reducible rfl
    try simp only [Act.put, List.getElem_toArray, List.getElem_cons_succ, List.getElem_cons_zero, List.setIfInBounds_toArray, List.set_cons_zero, List.set_cons_succ]
    refine wpAnyH_take (i := 20) (v := ?_) rfl (by kernel_rfl) (by kernel_rfl) (by kernel_rfl) (fun _ _ _ h => h) (Or.inl ⟨by rfl, ?_⟩) (by assumption) ?_
    rotate_left 1
    · intro w hSw; (try dsimp only at hSw); go_simp; try with_reducible rfl
    try simp only [Act.put, List.getElem_toArray, List.getElem_cons_succ, List.getElem_cons_zero, List.setIfInBounds_toArray, List.set_cons_zero, List.set_cons_succ]
    refine wpAnyH_take (i := 21) (v := ?_) rfl (by kernel_rfl) (by kernel_rfl) (by kernel_rfl) (fun _ _ _ h => h) (Or.inl ⟨by rfl, ?_⟩) (by assumption) ?_
    rotate_left 1
    · intro w hSw; (try dsimp only at hSw); go_simp; try with_reducible rfl
    try simp only [Act.put, List.getElem_toArray, List.getElem_cons_succ, List.getElem_cons_zero, List.setIfInBounds_toArray, List.set_cons_zero, List.set_cons_succ]
    refine wpAnyH_take (i := 22) (v := ?_) rfl (by kernel_rfl) (by kernel_rfl) (by kernel_rfl) (fun _ _ _ h => h) (Or.inl ⟨by rfl, ?_⟩) (by assumption) ?_
    rotate_left 1
    · intro w hSw; (try dsimp only at hSw); go_simp; try with_reducible rfl
    try simp only [Act.put, List.getElem_toArray, List.getElem_cons_succ, List.getElem_cons_zero, List.setIfInBounds_toArray, List.set_cons_zero, List.set_cons_succ]
    refine wpAnyH_take (i := 23) (v := ?_) rfl (by kernel_rfl) (by kernel_rfl) (by kernel_rfl) (fun _ _ _ h => h) (Or.inl ⟨by rfl, ?_⟩) (by assumption) ?_
    rotate_left 1
    · intro w hSw; (try dsimp only at hSw); go_simp; try with_reducible rfl
    try simp only [Act.put, List.getElem_toArray, List.getElem_cons_succ, List.getElem_cons_zero, List.setIfInBounds_toArray, List.set_cons_zero, List.set_cons_succ]
    refine wpAnyH_take (i := 24) (v := ?_) rfl (by kernel_rfl) (by kernel_rfl) (by kernel_rfl) (fun _ _ _ h => h) (Or.inl ⟨by rfl, ?_⟩) (by assumption) ?_
    rotate_left 1
    · intro w hSw; (try dsimp only at hSw); go_simp; try with_reducible rfl
    try simp only [Act.put, List.getElem_toArray, List.getElem_cons_succ, List.getElem_cons_zero, List.setIfInBounds_toArray, List.set_cons_zero, List.set_cons_succ]
    refine wpAnyH_take (i := 25) (v := ?_) rfl (by kernel_rfl) (by kernel_rfl) (by kernel_rfl) (fun _ _ _ h => h) (Or.inl ⟨by rfl, ?_⟩) (by assumption) ?_
    rotate_left 1
    · intro w hSw; (try dsimp only at hSw); go_simp; try with_reducible rfl
    try simp only [Act.put, List.getElem_toArray, List.getElem_cons_succ, List.getElem_cons_zero, List.setIfInBounds_toArray, List.set_cons_zero, List.set_cons_succ]
    refine wpAnyH_take (i := 26) (v := ?_) rfl (by kernel_rfl) (by kernel_rfl) (by kernel_rfl) (fun _ _ _ h => h) (Or.inl ⟨by rfl, ?_⟩) (by assumption) ?_
    rotate_left 1
    · intro w hSw; (try dsimp only at hSw); go_simp; try with_reducible rfl
    try simp only [Act.put, List.getElem_toArray, List.getElem_cons_succ, List.getElem_cons_zero, List.setIfInBounds_toArray, List.set_cons_zero, List.set_cons_succ]
    refine wpAnyH_take (i := 27) (v := ?_) rfl (by kernel_rfl) (by kernel_rfl) (by kernel_rfl) (fun _ _ _ h => h) (Or.inl ⟨by rfl, ?_⟩) (by assumption) ?_
    rotate_left 1
    · intro w hSw; (try dsimp only at hSw); go_simp; try with_reducible rfl
    try simp only [Act.put, List.getElem_toArray, List.getElem_cons_succ, List.getElem_cons_zero, List.setIfInBounds_toArray, List.set_cons_zero, List.set_cons_succ]
    refine wpAnyH_take (i := 28) (v := ?_) rfl (by kernel_rfl) (by kernel_rfl) (by kernel_rfl) (fun _ _ _ h => h) (Or.inl ⟨by rfl, ?_⟩) (by assumption) ?_
    rotate_left 1
    · intro w hSw; (try dsimp only at hSw); go_simp; try with_reducible rfl
    try simp only [Act.put, List.getElem_toArray, List.getElem_cons_succ, List.getElem_cons_zero, List.setIfInBounds_toArray, List.set_cons_zero, List.set_cons_succ]
    refine wpAnyH_take (i := 29) (v := ?_) rfl (by kernel_rfl) (by kernel_rfl) (by kernel_rfl) (fun _ _ _ h => h) (Or.inl ⟨by rfl, ?_⟩) (by assumption) ?_
    rotate_left 1
    · intro w hSw; (try dsimp only at hSw); go_simp; try with_reducible rfl
    try simp only [Act.put, List.getElem_toArray, List.getElem_cons_succ, List.getElem_cons_zero, List.setIfInBounds_toArray, List.set_cons_zero, List.set_cons_succ]
    refine wpAnyH_take (i := 30) (v := ?_) rfl (by kernel_rfl) (by kernel_rfl) (by kernel_rfl) (fun _ _ _ h => h) (Or.inl ⟨by rfl, ?_⟩) (by assumption) ?_
    rotate_left 1
    · intro w hSw; (try dsimp only at hSw); go_simp; try with_reducible rfl
    try simp only [Act.put, List.getElem_toArray, List.getElem_cons_succ, List.getElem_cons_zero, List.setIfInBounds_toArray, List.set_cons_zero, List.set_cons_succ]
    refine wpAnyH_take (i := 31) (v := ?_) rfl (by kernel_rfl) (by kernel_rfl) (by kernel_rfl) (fun _ _ _ h => h) (Or.inl ⟨by rfl, ?_⟩) (by assumption) ?_
    rotate_left 1
    · intro w hSw; (try dsimp only at hSw); go_simp; try with_reducible rfl
    try simp only [Act.put, List.getElem_toArray, List.getElem_cons_succ, List.getElem_cons_zero, List.setIfInBounds_toArray, List.set_cons_zero, List.set_cons_succ]
    refine wpAnyH_take (i := 32) (v := ?_) rfl (by kernel_rfl) (by kernel_rfl) (by kernel_rfl) (fun _ _ _ h => h) (Or.inl ⟨by rfl, ?_⟩) (by assumption) ?_
    rotate_left 1
    · intro w hSw; (try dsimp only at hSw); go_simp; try with_reducible rfl
    try simp only [Act.put, List.getElem_toArray, List.getElem_cons_succ, List.getElem_cons_zero, List.setIfInBounds_toArray, List.set_cons_zero, List.set_cons_succ]
    refine wpAnyH_take (i := 33) (v := ?_) rfl (by kernel_rfl) (by kernel_rfl) (by kernel_rfl) (fun _ _ _ h => h) (Or.inl ⟨by rfl, ?_⟩) (by assumption) ?_
    rotate_left 1
    · intro w hSw; (try dsimp only at hSw); go_simp; try with_reducible rfl
    try simp only [Act.put, List.getElem_toArray, List.getElem_cons_succ, List.getElem_cons_zero, List.setIfInBounds_toArray, List.set_cons_zero, List.set_cons_succ]
    refine wpAnyH_ready (rs := [34]) (by kernel_rfl) (by simp) (AllReadyH.cons rfl (fun K hK => ?_) AllReadyH.nil)
    go_simp
    go_at_call 15
    refine (cS _ _ _ _ _ (hSd1.call b0).row (hSd2.call b0).row).mono ?_
    rintro e w7 ⟨rfl, b7⟩
    have b1 := chain b0 b7
    try simp only []
    refine hK.out _ _ (hS _ b1) (fun hHeld => ?_)
    clear hK K
    try simp only [Act.put, List.getElem_toArray, List.getElem_cons_succ, List.getElem_cons_zero, List.setIfInBounds_toArray, List.set_cons_zero, List.set_cons_succ]
    refine wpAnyH_take (i := 35) (v := ?_) rfl (by kernel_rfl) (by kernel_rfl) (by kernel_rfl) (fun _ _ _ h => h) (Or.inl ⟨by rfl, ?_⟩) (by assumption) ?_
    rotate_left 1
    · intro w hSw; (try dsimp only at hSw); go_simp; try with_reducible rfl
    try simp only [Act.put, List.getElem_toArray, List.getElem_cons_succ, List.getElem_cons_zero, List.setIfInBounds_toArray, List.set_cons_zero, List.set_cons_succ]
    refine wpAnyH_take (i := 36) (v := ?_) rfl (by kernel_rfl) (by kernel_rfl) (by kernel_rfl) (fun _ _ _ h => h) (Or.inl ⟨by rfl, ?_⟩) (by assumption) ?_
    rotate_left 1
    · intro w hSw; (try dsimp only at hSw); go_simp; try with_reducible rfl
    try simp only [Act.put, List.getElem_toArray, List.getElem_cons_succ, List.getElem_cons_zero, List.setIfInBounds_toArray, List.set_cons_zero, List.set_cons_succ]
    refine wpAnyH_done (by kernel_rfl) ?_ _
    clear hS cS hqx hSd1 hSd2 hms hmn2 hsl
    go_wp2
    go_loopg [14] N (fun gk i wr => ∃ i' : Nat, i' ≤ N ∧ N - i' ≤ gk ∧ i = .int .i64 i' ∧ Below w6.heap.size w6 wr)
    case atStart => exact ⟨0, Nat.zero_le _, by omega, rfl, b1⟩
    case round =>
      obtain ⟨i, hi, hgk, rfl, hb⟩ := hrel
      rename World => wo
      have HG := hideIt hgk
      clear hgk b0 b1 b7
      by_cases hlt : i < N
      · have hii : (i : Int) < (N : Int) := by omega
        have hi0 : (0 : Int) ≤ (i : Int) := by omega
        have hi2 : i < 2 ^ k := by rw [← HL.out]; exact hlt
        have hi70 : i < 70 := by omega
        obtain ⟨y, hy⟩ : ∃ y, l[i]? = some y := ⟨_, List.getElem?_eq_getElem (by rw [HN.out]; exact hlt)⟩
        obtain ⟨z, hz⟩ : ∃ z, l'[i]? = some z := ⟨_, List.getElem?_eq_getElem (by rw [HL2.out]; exact hlt)⟩
        obtain ⟨B1, e1, hmi, hSw⟩ := HWAS.out i y hy
        obtain ⟨B2, e2, hni, hSn⟩ := HNOW.out i z hz
        have l1 : (sdsOf n l k i).length = k := sibs_len _ _ _ _
        have l2 : (sdsOf n l' k i).length = k := sibs_len _ _ _ _
        have hsid : ∀ j, j < k → sib (i / 2 ^ j) ≠ p / 2 ^ j → (sdsOf n l' k i)[j]? = (sdsOf n l k i)[j]? := fun j h1 h2 => HSIDE.out i j h1 h2
        generalize sdsOf n l k i = Sw at *
        generalize sdsOf n l' k i = Sn at *
        rw [l1] at hmi
        rw [l2] at hni
        have HSID := hideIt hsid
        clear hsid
        have b0 := hb.drew
        by_cases hip : i = p
        · have q2 : ((i : Int) != (p : Int)) = false := by rw [hip]; simp
          clear hip
          have q3 : (((k : Nat) : Int) != (k : Int)) = false := by simp
          have hS : ∀ u, Below w6.heap.size w6 u → (u.cell? ⟨gn, i * 7 + 6, none⟩ = some (.slice B2 k e2) ∧ gn < u.heap.size) ∧ (u.cell? ⟨gw, i * 7 + 6, none⟩ = some (.slice B1 k e1) ∧ gw < u.heap.size) := fun u hu => by
            have C1 := BW6.call hu
            have C2 := BN.call hu
            exact ⟨⟨C2.cell hni (j := 6) (by decide), C2.inside⟩, C1.cell hmi (j := 6) (by decide), C1.inside⟩
          go_upto_region 18 with fail
          refine wp_region_held_drew (S := fun u => (u.cell? ⟨gn, i * 7 + 6, none⟩ = some (.slice B2 k e2) ∧ gn < u.heap.size) ∧ (u.cell? ⟨gw, i * 7 + 6, none⟩ = some (.slice B1 k e1) ∧ gw < u.heap.size)) (by kernel_rfl) (hS _ b0) (fun hHeld => ?_)
          generalize wo.drew = We at *
          refine wpAnyH_take (i := 0) (v := ?_) rfl (by kernel_rfl) (by kernel_rfl) (by kernel_rfl) (fun _ _ _ h => h) (Or.inl ⟨by rfl, ?_⟩) (by assumption) ?_
          rotate_left 1
          · intro w hSw; (try dsimp only at hSw); go_simp; try with_reducible rfl
          try simp only [Act.put, List.getElem_toArray, List.getElem_cons_succ, List.getElem_cons_zero, List.setIfInBounds_toArray, List.set_cons_zero, List.set_cons_succ]
          refine wpAnyH_take (i := 1) (v := ?_) rfl (by kernel_rfl) (by kernel_rfl) (by kernel_rfl) (fun _ _ _ h => h) (Or.inl ⟨by rfl, ?_⟩) (by assumption) ?_
          rotate_left 1
          · intro w hSw; (try dsimp only at hSw); go_simp; try with_reducible rfl
          try simp only [Act.put, List.getElem_toArray, List.getElem_cons_succ, List.getElem_cons_zero, List.setIfInBounds_toArray, List.set_cons_zero, List.set_cons_succ]
          refine wpAnyH_take (i := 2) (v := ?_) rfl (by kernel_rfl) (by kernel_rfl) (by kernel_rfl) (fun _ _ _ h => h) (Or.inl ⟨by rfl, ?_⟩) (by assumption) ?_
          rotate_left 1
          · intro w hSw; (try dsimp only at hSw); go_simp; try with_reducible rfl
          try simp only [Act.put, List.getElem_toArray, List.getElem_cons_succ, List.getElem_cons_zero, List.setIfInBounds_toArray, List.set_cons_zero, List.set_cons_succ]
          refine wpAnyH_take (i := 3) (v := ?_) rfl (by kernel_rfl) (by kernel_rfl) (by kernel_rfl) (fun _ _ _ h => h) (Or.inl ⟨by rfl, ?_⟩) (by assumption) ?_
          rotate_left 1
          · intro w hSw; (try dsimp only at hSw); go_simp; try with_reducible rfl
          try simp only [Act.put, List.getElem_toArray, List.getElem_cons_succ, List.getElem_cons_zero, List.setIfInBounds_toArray, List.set_cons_zero, List.set_cons_succ]
          refine wpAnyH_take (i := 4) (v := ?_) rfl (by kernel_rfl) (by kernel_rfl) (by kernel_rfl) (fun _ _ _ h => h) (Or.inl ⟨by rfl, ?_⟩) (by assumption) ?_
          rotate_left 1
          · intro w hSw; (try dsimp only at hSw); go_simp; try with_reducible rfl
          try simp only [Act.put, List.getElem_toArray, List.getElem_cons_succ, List.getElem_cons_zero, List.setIfInBounds_toArray, List.set_cons_zero, List.set_cons_succ]
          refine wpAnyH_take (i := 5) (v := ?_) rfl (by kernel_rfl) (by kernel_rfl) (by kernel_rfl) (fun _ _ _ h => h) (Or.inl ⟨by rfl, ?_⟩) (by assumption) ?_
          rotate_left 1
          · intro w hSw; (try dsimp only at hSw); go_simp; try with_reducible rfl
          try simp only [Act.put, List.getElem_toArray, List.getElem_cons_succ, List.getElem_cons_zero, List.setIfInBounds_toArray, List.set_cons_zero, List.set_cons_succ]
          refine wpAnyH_take (i := 6) (v := ?_) rfl (by kernel_rfl) (by kernel_rfl) (by kernel_rfl) (fun _ _ _ h => h) (Or.inl ⟨by rfl, ?_⟩) (by assumption) ?_
          rotate_left 1
          · intro w hSw; (try dsimp only at hSw); go_simp; try with_reducible rfl
          try simp only [Act.put, List.getElem_toArray, List.getElem_cons_succ, List.getElem_cons_zero, List.setIfInBounds_toArray, List.set_cons_zero, List.set_cons_succ]
          refine wpAnyH_take (i := 7) (v := ?_) rfl (by kernel_rfl) (by kernel_rfl) (by kernel_rfl) (fun _ _ _ h => h) (Or.inl ⟨by rfl, ?_⟩) (by assumption) ?_
          rotate_left 1
          · intro w hSw; (try dsimp only at hSw); go_simp; try with_reducible rfl
          try simp only [Act.put, List.getElem_toArray, List.getElem_cons_succ, List.getElem_cons_zero, List.setIfInBounds_toArray, List.set_cons_zero, List.set_cons_succ]
          refine wpAnyH_ready (rs := [8]) (by kernel_rfl) (by simp) (AllReadyH.cons rfl (fun K hK => ?_) AllReadyH.nil)
          go_simp
          go_at_call 14
          refine (height15_any (hT6.call b0) (by omega)).mono ?_
          rintro e v1 ⟨rfl, rfl⟩
          try simp only []
          refine hK.out _ _ (hS _ b0) (fun hHeld => ?_)
          clear hK K
          try simp only [Act.put, List.getElem_toArray, List.getElem_cons_succ, List.getElem_cons_zero, List.setIfInBounds_toArray, List.set_cons_zero, List.set_cons_succ]
          refine wpAnyH_take (i := 9) (v := ?_) rfl (by kernel_rfl) (by kernel_rfl) (by kernel_rfl) (fun _ _ _ h => h) (Or.inl ⟨by rfl, ?_⟩) (by assumption) ?_
          rotate_left 1
          · intro w hSw; (try dsimp only at hSw); go_simp; try with_reducible rfl
          try simp only [Act.put, List.getElem_toArray, List.getElem_cons_succ, List.getElem_cons_zero, List.setIfInBounds_toArray, List.set_cons_zero, List.set_cons_succ]
          refine wpAnyH_take (i := 10) (v := ?_) rfl (by kernel_rfl) (by kernel_rfl) (by kernel_rfl) (fun _ _ _ h => h) (Or.inl ⟨by rfl, ?_⟩) (by assumption) ?_
          rotate_left 1
          · intro w hSw; (try dsimp only at hSw); go_simp; try with_reducible rfl
          try simp only [Act.put, List.getElem_toArray, List.getElem_cons_succ, List.getElem_cons_zero, List.setIfInBounds_toArray, List.set_cons_zero, List.set_cons_succ]
          refine wpAnyH_take (i := 11) (v := ?_) rfl (by kernel_rfl) (by kernel_rfl) (by kernel_rfl) (fun _ _ _ h => h) (Or.inl ⟨by rfl, ?_⟩) (by assumption) ?_
          rotate_left 1
          · intro w hSw; (try dsimp only at hSw); go_simp; try with_reducible rfl
          try simp only [Act.put, List.getElem_toArray, List.getElem_cons_succ, List.getElem_cons_zero, List.setIfInBounds_toArray, List.set_cons_zero, List.set_cons_succ]
          refine wpAnyH_take (i := 12) (v := ?_) rfl (by kernel_rfl) (by kernel_rfl) (by kernel_rfl) (fun _ _ _ h => h) (Or.inl ⟨by rfl, ?_⟩) (by assumption) ?_
          rotate_left 1
          · intro w hSw; (try dsimp only at hSw); go_simp; try with_reducible rfl
          try simp only [Act.put, List.getElem_toArray, List.getElem_cons_succ, List.getElem_cons_zero, List.setIfInBounds_toArray, List.set_cons_zero, List.set_cons_succ]
          refine wpAnyH_take (i := 13) (v := ?_) rfl (by kernel_rfl) (by kernel_rfl) (by kernel_rfl) (fun _ _ _ h => h) (Or.inl ⟨by rfl, ?_⟩) (by assumption) ?_
          rotate_left 1
          · intro w hSw; (try dsimp only at hSw); go_simp; try with_reducible rfl
          try simp only [Act.put, List.getElem_toArray, List.getElem_cons_succ, List.getElem_cons_zero, List.setIfInBounds_toArray, List.set_cons_zero, List.set_cons_succ]
          refine wpAnyH_take (i := 14) (v := ?_) rfl (by kernel_rfl) (by kernel_rfl) (by kernel_rfl) (fun _ _ _ h => h) (Or.inl ⟨by rfl, ?_⟩) (by assumption) ?_
          rotate_left 1
          · intro w hSw; (try dsimp only at hSw); go_simp; try with_reducible rfl
          try simp only [Act.put, List.getElem_toArray, List.getElem_cons_succ, List.getElem_cons_zero, List.setIfInBounds_toArray, List.set_cons_zero, List.set_cons_succ]
          refine wpAnyH_take (i := 15) (v := ?_) rfl (by kernel_rfl) (by kernel_rfl) (by kernel_rfl) (fun _ _ _ h => h) (Or.inl ⟨by rfl, ?_⟩) (by assumption) ?_
          rotate_left 1
          · intro w hSw; (try dsimp only at hSw); go_simp; try with_reducible rfl
          try simp only [Act.put, List.getElem_toArray, List.getElem_cons_succ, List.getElem_cons_zero, List.setIfInBounds_toArray, List.set_cons_zero, List.set_cons_succ]
          refine wpAnyH_take (i := 16) (v := ?_) rfl (by kernel_rfl) (by kernel_rfl) (by kernel_rfl) (fun _ _ _ h => h) (Or.inl ⟨by rfl, ?_⟩) (by assumption) ?_
          rotate_left 1
          · intro w hSw; (try dsimp only at hSw); go_simp; try with_reducible rfl
          try simp only [Act.put, List.getElem_toArray, List.getElem_cons_succ, List.getElem_cons_zero, List.setIfInBounds_toArray, List.set_cons_zero, List.set_cons_succ]
          refine wpAnyH_take (i := 17) (v := ?_) rfl (by kernel_rfl) (by kernel_rfl) (by kernel_rfl) (fun _ _ _ h => h) (Or.inl ⟨by rfl, ?_⟩) (by assumption) ?_
          rotate_left 1
          · intro w hSw; (try dsimp only at hSw); go_simp; try with_reducible rfl
          try simp only [Act.put, List.getElem_toArray, List.getElem_cons_succ, List.getElem_cons_zero, List.setIfInBounds_toArray, List.set_cons_zero, List.set_cons_succ]
          refine wpAnyH_take (i := 18) (v := ?_) rfl (by kernel_rfl) (by kernel_rfl) (by kernel_rfl) (fun _ _ _ h => h) (Or.inl ⟨by rfl, ?_⟩) (by assumption) ?_
          rotate_left 1
          · intro w hSw; (try dsimp only at hSw); go_simp; try with_reducible rfl
          try simp only [Act.put, List.getElem_toArray, List.getElem_cons_succ, List.getElem_cons_zero, List.setIfInBounds_toArray, List.set_cons_zero, List.set_cons_succ]
          refine wpAnyH_ready (rs := [19]) (by kernel_rfl) (by simp) (AllReadyH.cons rfl (fun K hK => ?_) AllReadyH.nil)
          go_simp
          go_at_call 14
          refine (height15_any (hT6.call b0) (by omega)).mono ?_
          rintro e v1 ⟨rfl, rfl⟩
          try simp only []
          refine hK.out _ _ (hS _ b0) (fun hHeld => ?_)
          clear hK K
          try simp only [Act.put, List.getElem_toArray, List.getElem_cons_succ, List.getElem_cons_zero, List.setIfInBounds_toArray, List.set_cons_zero, List.set_cons_succ]
          refine wpAnyH_take (i := 20) (v := ?_) rfl (by kernel_rfl) (by kernel_rfl) (by kernel_rfl) (fun _ _ _ h => h) (Or.inl ⟨by rfl, ?_⟩) (by assumption) ?_
          rotate_left 1
          · intro w hSw; (try dsimp only at hSw); go_simp; try with_reducible rfl
          try simp only [Act.put, List.getElem_toArray, List.getElem_cons_succ, List.getElem_cons_zero, List.setIfInBounds_toArray, List.set_cons_zero, List.set_cons_succ]
          refine wpAnyH_take (i := 21) (v := ?_) rfl (by kernel_rfl) (by kernel_rfl) (by kernel_rfl) (fun _ _ _ h => h) (Or.inl ⟨by rfl, ?_⟩) (by assumption) ?_
          rotate_left 1
          · intro w hSw; (try dsimp only at hSw); go_simp; try with_reducible rfl
          try simp only [Act.put, List.getElem_toArray, List.getElem_cons_succ, List.getElem_cons_zero, List.setIfInBounds_toArray, List.set_cons_zero, List.set_cons_succ]
          refine wpAnyH_take (i := 22) (v := ?_) rfl (by kernel_rfl) (by kernel_rfl) (by kernel_rfl) (fun _ _ _ h => h) (Or.inl ⟨by rfl, ?_⟩) (by assumption) ?_
          rotate_left 1
          · intro w hSw; (try dsimp only at hSw); go_simp; try with_reducible rfl
          try simp only [Act.put, List.getElem_toArray, List.getElem_cons_succ, List.getElem_cons_zero, List.setIfInBounds_toArray, List.set_cons_zero, List.set_cons_succ]
          refine wpAnyH_take (i := 23) (v := ?_) rfl (by kernel_rfl) (by kernel_rfl) (by kernel_rfl) (fun _ _ _ h => h) (Or.inl ⟨by rfl, ?_⟩) (by assumption) ?_
          rotate_left 1
          · intro w hSw; (try dsimp only at hSw); go_simp; try with_reducible rfl
          try simp only [Act.put, List.getElem_toArray, List.getElem_cons_succ, List.getElem_cons_zero, List.setIfInBounds_toArray, List.set_cons_zero, List.set_cons_succ]
          refine wpAnyH_take (i := 24) (v := ?_) rfl (by kernel_rfl) (by kernel_rfl) (by kernel_rfl) (fun _ _ _ h => h) (Or.inl ⟨by rfl, ?_⟩) (by assumption) ?_
          rotate_left 1
          · intro w hSw; (try dsimp only at hSw); go_simp; try with_reducible rfl
          try simp only [Act.put, List.getElem_toArray, List.getElem_cons_succ, List.getElem_cons_zero, List.setIfInBounds_toArray, List.set_cons_zero, List.set_cons_succ]
          refine wpAnyH_take (i := 25) (v := ?_) rfl (by kernel_rfl) (by kernel_rfl) (by kernel_rfl) (fun _ _ _ h => h) (Or.inl ⟨by rfl, ?_⟩) (by assumption) ?_
          rotate_left 1
          · intro w hSw; (try dsimp only at hSw); go_simp; try with_reducible rfl
          try simp only [Act.put, List.getElem_toArray, List.getElem_cons_succ, List.getElem_cons_zero, List.setIfInBounds_toArray, List.set_cons_zero, List.set_cons_succ]
          refine wpAnyH_take (i := 26) (v := ?_) rfl (by kernel_rfl) (by kernel_rfl) (by kernel_rfl) (fun _ _ _ h => h) (Or.inl ⟨by rfl, ?_⟩) (by assumption) ?_
          rotate_left 1
          · intro w hSw; (try dsimp only at hSw); go_simp; try with_reducible rfl
          try simp only [Act.put, List.getElem_toArray, List.getElem_cons_succ, List.getElem_cons_zero, List.setIfInBounds_toArray, List.set_cons_zero, List.set_cons_succ]
          refine wpAnyH_take (i := 27) (v := undef) rfl (by kernel_rfl) (by kernel_rfl) (by kernel_rfl) (fun _ _ _ h => h) (Or.inr ⟨by rfl, rfl⟩) (by assumption) ?_
          try simp only [Act.put, List.getElem_toArray, List.getElem_cons_succ, List.getElem_cons_zero, List.setIfInBounds_toArray, List.set_cons_zero, List.set_cons_succ]
          refine wpAnyH_take (i := 28) (v := undef) rfl (by kernel_rfl) (by kernel_rfl) (by kernel_rfl) (fun _ _ _ h => h) (Or.inr ⟨by rfl, rfl⟩) (by assumption) ?_
          try simp only [Act.put, List.getElem_toArray, List.getElem_cons_succ, List.getElem_cons_zero, List.setIfInBounds_toArray, List.set_cons_zero, List.set_cons_succ]
          refine wpAnyH_take (i := 29) (v := undef) rfl (by kernel_rfl) (by kernel_rfl) (by kernel_rfl) (fun _ _ _ h => h) (Or.inr ⟨by rfl, rfl⟩) (by assumption) ?_
          try simp only [Act.put, List.getElem_toArray, List.getElem_cons_succ, List.getElem_cons_zero, List.setIfInBounds_toArray, List.set_cons_zero, List.set_cons_succ]
          refine wpAnyH_take (i := 30) (v := undef) rfl (by kernel_rfl) (by kernel_rfl) (by kernel_rfl) (fun _ _ _ h => h) (Or.inr ⟨by rfl, rfl⟩) (by assumption) ?_
          try simp only [Act.put, List.getElem_toArray, List.getElem_cons_succ, List.getElem_cons_zero, List.setIfInBounds_toArray, List.set_cons_zero, List.set_cons_succ]
          refine wpAnyH_take (i := 31) (v := undef) rfl (by kernel_rfl) (by kernel_rfl) (by kernel_rfl) (fun _ _ _ h => h) (Or.inr ⟨by rfl, rfl⟩) (by assumption) ?_
          try simp only [Act.put, List.getElem_toArray, List.getElem_cons_succ, List.getElem_cons_zero, List.setIfInBounds_toArray, List.set_cons_zero, List.set_cons_succ]
          refine wpAnyH_take (i := 32) (v := undef) rfl (by kernel_rfl) (by kernel_rfl) (by kernel_rfl) (fun _ _ _ h => h) (Or.inr ⟨by rfl, rfl⟩) (by assumption) ?_
          try simp only [Act.put, List.getElem_toArray, List.getElem_cons_succ, List.getElem_cons_zero, List.setIfInBounds_toArray, List.set_cons_zero, List.set_cons_succ]
          refine wpAnyH_take (i := 33) (v := undef) rfl (by kernel_rfl) (by kernel_rfl) (by kernel_rfl) (fun _ _ _ h => h) (Or.inr ⟨by rfl, rfl⟩) (by assumption) ?_
          try simp only [Act.put, List.getElem_toArray, List.getElem_cons_succ, List.getElem_cons_zero, List.setIfInBounds_toArray, List.set_cons_zero, List.set_cons_succ]
          refine wpAnyH_take (i := 34) (v := undef) rfl (by kernel_rfl) (by kernel_rfl) (by kernel_rfl) (fun _ _ _ h => h) (Or.inr ⟨by rfl, rfl⟩) (by assumption) ?_
          try simp only [Act.put, List.getElem_toArray, List.getElem_cons_succ, List.getElem_cons_zero, List.setIfInBounds_toArray, List.set_cons_zero, List.set_cons_succ]
          refine wpAnyH_take (i := 35) (v := undef) rfl (by kernel_rfl) (by kernel_rfl) (by kernel_rfl) (fun _ _ _ h => h) (Or.inr ⟨by rfl, rfl⟩) (by assumption) ?_
          try simp only [Act.put, List.getElem_toArray, List.getElem_cons_succ, List.getElem_cons_zero, List.setIfInBounds_toArray, List.set_cons_zero, List.set_cons_succ]
          refine wpAnyH_take (i := 36) (v := undef) rfl (by kernel_rfl) (by kernel_rfl) (by kernel_rfl) (fun _ _ _ h => h) (Or.inr ⟨by rfl, rfl⟩) (by assumption) ?_
          try simp only [Act.put, List.getElem_toArray, List.getElem_cons_succ, List.getElem_cons_zero, List.setIfInBounds_toArray, List.set_cons_zero, List.set_cons_succ]
          refine wpAnyH_take (i := 37) (v := ?_) rfl (by kernel_rfl) (by kernel_rfl) (by kernel_rfl) (fun _ _ _ h => h) (Or.inl ⟨by rfl, ?_⟩) (by assumption) ?_
          rotate_left 1
          · intro w hSw; (try dsimp only at hSw); go_simp; try with_reducible rfl
          try simp only [Act.put, List.getElem_toArray, List.getElem_cons_succ, List.getElem_cons_zero, List.setIfInBounds_toArray, List.set_cons_zero, List.set_cons_succ]
          refine wpAnyH_take (i := 38) (v := ?_) rfl (by kernel_rfl) (by kernel_rfl) (by kernel_rfl) (fun _ _ _ h => h) (Or.inl ⟨by rfl, ?_⟩) (by assumption) ?_
          rotate_left 1
          · intro w hSw; (try dsimp only at hSw); go_simp; try with_reducible rfl
          try simp only [Act.put, List.getElem_toArray, List.getElem_cons_succ, List.getElem_cons_zero, List.setIfInBounds_toArray, List.set_cons_zero, List.set_cons_succ]
          refine wpAnyH_done (by kernel_rfl) ?_ _
          clear q2 q3 hHeld
          go_wp2
          go_loopg [15, 16] k (fun gk o jv wq => ∃ o' j' : Nat, j' ≤ k ∧ k - j' ≤ gk ∧ o = .int .i64 o' ∧ jv = .int .i64 j' ∧ OneOf i p j' o' ∧ Below w6.heap.size w6 wq)
          case atStart => exact ⟨0, 0, Nat.zero_le _, by omega, rfl, rfl, Or.inl rfl, b0⟩
          case round =>
            rename World => wq
            obtain ⟨o, j, hj, hgk, rfl, rfl, hone, hbq⟩ := hrel
            have HG2 := hideIt hgk
            have HO := hideIt hone
            clear hgk hone b0 hb
            by_cases hjk : j < k
            · have hji : (j : Int) < (k : Int) := by omega
              have hj0 : (0 : Int) ≤ (j : Int) := by omega
              obtain ⟨X, hX⟩ : ∃ X, Sw[j]? = some X := ⟨_, List.getElem?_eq_getElem (by omega)⟩
              obtain ⟨Y, hY⟩ : ∃ Y, Sn[j]? = some Y := ⟨_, List.getElem?_eq_getElem (by omega)⟩
              have m1 := (BW6.call hbq).cell hmi (j := 6) (by decide)
              have m2 := (BN.call hbq).cell hni (j := 6) (by decide)
              obtain ⟨ad1, rfl, g1, p0, p1, p2⟩ := nd_get (hSw.call hbq).row hX
              obtain ⟨ad2, rfl, g2, r0, r1, r2⟩ := nd_get (hSn.call hbq).row hY
              have hq1 := run_neq_nd X Y
              have hd := Nd.same_dec X Y
              obtain ⟨tb, htb⟩ : ∃ tb, X.same Y = tb := ⟨_, rfl⟩
              rw [htb] at hq1 hd
              have HX1 := hideIt hX
              have HY1 := hideIt hY
              have HD := hideIt hd
              obtain ⟨X0, X1, X2⟩ := X
              obtain ⟨Y0, Y1, Y2⟩ := Y
              simp only [Nd.val] at hq1 p0 p1 p2 r0 r1 r2
              clear hX hY hd htb
              cases tb with
              | true =>
                go_upto_region 24 with (first
                  | (go_at_call 14; refine (height15_any (hT6.call hbq) (by omega)).mono ?_; rintro e w9 ⟨rfl, rfl⟩)
                  | fail)
                go_quiet (fail)
                go_wp2
                go_roundg (k - (j + 1))
                case measure => have := HG2.out; omega
                case rel => exact ⟨o, j + 1, by omega, Nat.le_refl _, rfl, by go_num, HO.out.next, below_drewN hbq _⟩
              | false =>
                have hsb : sib (i / 2 ^ j) = p / 2 ^ j := by
                  by_cases h : sib (i / 2 ^ j) = p / 2 ^ j
                  · exact h
                  · exfalso
                    have h2 := HSID.out j hjk h
                    rw [HX1.out, HY1.out] at h2
                    injection h2 with h2
                    exact of_decide_eq_false HD.out.symm h2.symm
                obtain ⟨rfl, hone2⟩ := HO.out.hit hsb
                have HO2 := hideIt hone2
                clear hone2
                have f1 : IntKind.u64.wrap (j : Int) = (j : Int) := by rw [IntKind.wrap_u64]; omega
                have f2 : (j : Int) ≤ 64 := by omega
                have f3 : min j 64 = j := by omega
                obtain ⟨ij, hij⟩ : ∃ ij, i / 2 ^ j = ij := ⟨_, rfl⟩
                obtain ⟨pj, hpj⟩ : ∃ pj, p / 2 ^ j = pj := ⟨_, rfl⟩
                rw [hij, hpj] at hsb
                have hijl : ij < 128 := by have : ij ≤ i := by rw [← hij]; exact Nat.div_le_self _ _
                                           omega
                have f4 : (i : Int) / 2 ^ j = (ij : Int) := by rw [← hij]; norm_cast
                have f5 : (p : Int) / 2 ^ j = (pj : Int) := by rw [← hpj]; norm_cast
                have f6 : bits .xor .i64 (ij : Int) 1 = (pj : Int) := by rw [xor1_i64 ij hijl, hsb]
                have f7 : (((pj : Nat) : Int) != (pj : Int)) = false := by simp
                clear hij hpj hsb hijl
                go_upto_region 24 with (first
                  | (go_at_call 14; refine (height15_any (hT6.call hbq) (by omega)).mono ?_; rintro e w9 ⟨rfl, rfl⟩)
                  | fail)
                go_quiet (fail)
                go_wp2
                go_roundg (k - (j + 1))
                case measure => have := HG2.out; omega
                case rel => exact ⟨1, j + 1, by omega, Nat.le_refl _, by first | rfl | go_num, by go_num, HO2.out, below_drewN hbq _⟩
            · have e : j = k := by omega
              subst e
              have hjj : ¬ (j : Int) < (j : Int) := by omega
              have ho : ¬ (1 : Int) < (o : Int) := by rcases HO.out with h | ⟨h, -⟩ <;> omega
              go_wp2_with (first
                | (go_at_call 14; refine (height15_any (hT6.call hbq) (by omega)).mono ?_; rintro e w9 ⟨rfl, rfl⟩)
                | fail)
              go_roundg (N - (i + 1))
              case measure => have := HG.out; omega
              case rel => exact ⟨i + 1, by omega, Nat.le_refl _, by go_num, hbq⟩
        · have hyz : z = y := by
            rw [HXO.out i hip, hy] at hz
            injection hz with hz
            exact hz.symm
          subst hyz
          have q2 : ((i : Int) != (p : Int)) = true := bne_iff_ne.2 (by omega)
          have q3 : (((k : Nat) : Int) != (k : Int)) = false := by simp
          have hqx := fun (u : World) => (show (binOp .neq 36 z.val z.val).run Tryd.prog u = .ok (.bool false) u by rw [run_neq_lf, (Lf.same_iff _ _).2 rfl]; rfl)
          obtain ⟨ad, rfl, -, -, -, -, -, -⟩ := lf_get hR6 hy
          have HY := hideIt hy
          obtain ⟨yp, yi, ys, yh, yl⟩ := z
          simp only [Lf.val] at hqx
          have hS : ∀ u, Below w6.heap.size w6 u → (u.cell? ⟨gn, i * 7, none⟩ = some (.bool yp) ∧ u.cell? ⟨gn, i * 7 + 1, none⟩ = some (.string yi) ∧ u.cell? ⟨gn, i * 7 + 2, none⟩ = some (.string ys) ∧ u.cell? ⟨gn, i * 7 + 3, none⟩ = some (.int .u64 yh) ∧ u.cell? ⟨gn, i * 7 + 4, none⟩ = some (.int .u64 yl) ∧ u.cell? ⟨gn, i * 7 + 6, none⟩ = some (.slice B2 k e2) ∧ gn < u.heap.size) ∧ (u.cell? ⟨gw, i * 7 + 6, none⟩ = some (.slice B1 k e1) ∧ gw < u.heap.size) ∧
              (u.cell? (ad.add (i * 5)) = some (.bool yp) ∧ u.cell? ⟨(ad.add (i * 5)).block, (ad.add (i * 5)).off + 1, none⟩ = some (.string yi) ∧ u.cell? ⟨(ad.add (i * 5)).block, (ad.add (i * 5)).off + 2, none⟩ = some (.string ys) ∧ u.cell? ⟨(ad.add (i * 5)).block, (ad.add (i * 5)).off + 3, none⟩ = some (.int .u64 yh) ∧ u.cell? ⟨(ad.add (i * 5)).block, (ad.add (i * 5)).off + 4, none⟩ = some (.int .u64 yl) ∧ (ad.add (i * 5)).block < u.heap.size) := fun u hu => by
            have C1 := BW6.call hu
            have C2 := BN.call hu
            obtain ⟨ad', e, r1, r2, r3, r4, r5, r6⟩ := lf_get (hR6.on hu) HY.out
            injection e with e
            subst e
            exact ⟨⟨C2.cell hni (j := 0) (by decide), C2.cell hni (j := 1) (by decide), C2.cell hni (j := 2) (by decide), C2.cell hni (j := 3) (by decide), C2.cell hni (j := 4) (by decide), C2.cell hni (j := 6) (by decide), C2.inside⟩, ⟨C1.cell hmi (j := 6) (by decide), C1.inside⟩, r2, r3, r4, r5, r6, r1⟩
          clear hy
          go_upto_region 18 with fail
          refine wp_region_held_drew (S := fun u => (u.cell? ⟨gn, i * 7, none⟩ = some (.bool yp) ∧ u.cell? ⟨gn, i * 7 + 1, none⟩ = some (.string yi) ∧ u.cell? ⟨gn, i * 7 + 2, none⟩ = some (.string ys) ∧ u.cell? ⟨gn, i * 7 + 3, none⟩ = some (.int .u64 yh) ∧ u.cell? ⟨gn, i * 7 + 4, none⟩ = some (.int .u64 yl) ∧ u.cell? ⟨gn, i * 7 + 6, none⟩ = some (.slice B2 k e2) ∧ gn < u.heap.size) ∧ (u.cell? ⟨gw, i * 7 + 6, none⟩ = some (.slice B1 k e1) ∧ gw < u.heap.size) ∧
              (u.cell? (ad.add (i * 5)) = some (.bool yp) ∧ u.cell? ⟨(ad.add (i * 5)).block, (ad.add (i * 5)).off + 1, none⟩ = some (.string yi) ∧ u.cell? ⟨(ad.add (i * 5)).block, (ad.add (i * 5)).off + 2, none⟩ = some (.string ys) ∧ u.cell? ⟨(ad.add (i * 5)).block, (ad.add (i * 5)).off + 3, none⟩ = some (.int .u64 yh) ∧ u.cell? ⟨(ad.add (i * 5)).block, (ad.add (i * 5)).off + 4, none⟩ = some (.int .u64 yl) ∧ (ad.add (i * 5)).block < u.heap.size)) (by kernel_rfl) (hS _ b0) (fun hHeld => ?_)
          generalize wo.drew = We at *
          refine wpAnyH_take (i := 0) (v := ?_) rfl (by kernel_rfl) (by kernel_rfl) (by kernel_rfl) (fun _ _ _ h => h) (Or.inl ⟨by rfl, ?_⟩) (by assumption) ?_
          rotate_left 1
          · intro w hSw; (try dsimp only at hSw); go_simp; try with_reducible rfl
          try simp only [Act.put, List.getElem_toArray, List.getElem_cons_succ, List.getElem_cons_zero, List.setIfInBounds_toArray, List.set_cons_zero, List.set_cons_succ]
          refine wpAnyH_take (i := 1) (v := ?_) rfl (by kernel_rfl) (by kernel_rfl) (by kernel_rfl) (fun _ _ _ h => h) (Or.inl ⟨by rfl, ?_⟩) (by assumption) ?_
          rotate_left 1
          · intro w hSw; (try dsimp only at hSw); go_simp; try with_reducible rfl
          try simp only [Act.put, List.getElem_toArray, List.getElem_cons_succ, List.getElem_cons_zero, List.setIfInBounds_toArray, List.set_cons_zero, List.set_cons_succ]
          refine wpAnyH_take (i := 2) (v := ?_) rfl (by kernel_rfl) (by kernel_rfl) (by kernel_rfl) (fun _ _ _ h => h) (Or.inl ⟨by rfl, ?_⟩) (by assumption) ?_
          rotate_left 1
          · intro w hSw; (try dsimp only at hSw); go_simp; try with_reducible rfl
          try simp only [Act.put, List.getElem_toArray, List.getElem_cons_succ, List.getElem_cons_zero, List.setIfInBounds_toArray, List.set_cons_zero, List.set_cons_succ]
          refine wpAnyH_take (i := 3) (v := ?_) rfl (by kernel_rfl) (by kernel_rfl) (by kernel_rfl) (fun _ _ _ h => h) (Or.inl ⟨by rfl, ?_⟩) (by assumption) ?_
          rotate_left 1
          · intro w hSw; (try dsimp only at hSw); go_simp; try with_reducible rfl
          try simp only [Act.put, List.getElem_toArray, List.getElem_cons_succ, List.getElem_cons_zero, List.setIfInBounds_toArray, List.set_cons_zero, List.set_cons_succ]
          refine wpAnyH_take (i := 4) (v := ?_) rfl (by kernel_rfl) (by kernel_rfl) (by kernel_rfl) (fun _ _ _ h => h) (Or.inl ⟨by rfl, ?_⟩) (by assumption) ?_
          rotate_left 1
          · intro w hSw; (try dsimp only at hSw); go_simp; try with_reducible rfl
          try simp only [Act.put, List.getElem_toArray, List.getElem_cons_succ, List.getElem_cons_zero, List.setIfInBounds_toArray, List.set_cons_zero, List.set_cons_succ]
          refine wpAnyH_take (i := 5) (v := ?_) rfl (by kernel_rfl) (by kernel_rfl) (by kernel_rfl) (fun _ _ _ h => h) (Or.inl ⟨by rfl, ?_⟩) (by assumption) ?_
          rotate_left 1
          · intro w hSw; (try dsimp only at hSw); go_simp; try with_reducible rfl
          try simp only [Act.put, List.getElem_toArray, List.getElem_cons_succ, List.getElem_cons_zero, List.setIfInBounds_toArray, List.set_cons_zero, List.set_cons_succ]
          refine wpAnyH_take (i := 6) (v := ?_) rfl (by kernel_rfl) (by kernel_rfl) (by kernel_rfl) (fun _ _ _ h => h) (Or.inl ⟨by rfl, ?_⟩) (by assumption) ?_
          rotate_left 1
          · intro w hSw; (try dsimp only at hSw); go_simp; try with_reducible rfl
          try simp only [Act.put, List.getElem_toArray, List.getElem_cons_succ, List.getElem_cons_zero, List.setIfInBounds_toArray, List.set_cons_zero, List.set_cons_succ]
          refine wpAnyH_take (i := 7) (v := ?_) rfl (by kernel_rfl) (by kernel_rfl) (by kernel_rfl) (fun _ _ _ h => h) (Or.inl ⟨by rfl, ?_⟩) (by assumption) ?_
          rotate_left 1
          · intro w hSw; (try dsimp only at hSw); go_simp; try with_reducible rfl
          try simp only [Act.put, List.getElem_toArray, List.getElem_cons_succ, List.getElem_cons_zero, List.setIfInBounds_toArray, List.set_cons_zero, List.set_cons_succ]
          refine wpAnyH_ready (rs := [8]) (by kernel_rfl) (by simp) (AllReadyH.cons rfl (fun K hK => ?_) AllReadyH.nil)
          go_simp
          go_at_call 14
          refine (height15_any (hT6.call b0) (by omega)).mono ?_
          rintro e v1 ⟨rfl, rfl⟩
          try simp only []
          refine hK.out _ _ (hS _ b0) (fun hHeld => ?_)
          clear hK K
          try simp only [Act.put, List.getElem_toArray, List.getElem_cons_succ, List.getElem_cons_zero, List.setIfInBounds_toArray, List.set_cons_zero, List.set_cons_succ]
          refine wpAnyH_take (i := 9) (v := ?_) rfl (by kernel_rfl) (by kernel_rfl) (by kernel_rfl) (fun _ _ _ h => h) (Or.inl ⟨by rfl, ?_⟩) (by assumption) ?_
          rotate_left 1
          · intro w hSw; (try dsimp only at hSw); go_simp; try with_reducible rfl
          try simp only [Act.put, List.getElem_toArray, List.getElem_cons_succ, List.getElem_cons_zero, List.setIfInBounds_toArray, List.set_cons_zero, List.set_cons_succ]
          refine wpAnyH_take (i := 10) (v := ?_) rfl (by kernel_rfl) (by kernel_rfl) (by kernel_rfl) (fun _ _ _ h => h) (Or.inl ⟨by rfl, ?_⟩) (by assumption) ?_
          rotate_left 1
          · intro w hSw; (try dsimp only at hSw); go_simp; try with_reducible rfl
          try simp only [Act.put, List.getElem_toArray, List.getElem_cons_succ, List.getElem_cons_zero, List.setIfInBounds_toArray, List.set_cons_zero, List.set_cons_succ]
          refine wpAnyH_take (i := 11) (v := ?_) rfl (by kernel_rfl) (by kernel_rfl) (by kernel_rfl) (fun _ _ _ h => h) (Or.inl ⟨by rfl, ?_⟩) (by assumption) ?_
          rotate_left 1
          · intro w hSw; (try dsimp only at hSw); go_simp; try with_reducible rfl
          try simp only [Act.put, List.getElem_toArray, List.getElem_cons_succ, List.getElem_cons_zero, List.setIfInBounds_toArray, List.set_cons_zero, List.set_cons_succ]
          refine wpAnyH_take (i := 12) (v := ?_) rfl (by kernel_rfl) (by kernel_rfl) (by kernel_rfl) (fun _ _ _ h => h) (Or.inl ⟨by rfl, ?_⟩) (by assumption) ?_
          rotate_left 1
          · intro w hSw; (try dsimp only at hSw); go_simp; try with_reducible rfl
          try simp only [Act.put, List.getElem_toArray, List.getElem_cons_succ, List.getElem_cons_zero, List.setIfInBounds_toArray, List.set_cons_zero, List.set_cons_succ]
          refine wpAnyH_take (i := 13) (v := ?_) rfl (by kernel_rfl) (by kernel_rfl) (by kernel_rfl) (fun _ _ _ h => h) (Or.inl ⟨by rfl, ?_⟩) (by assumption) ?_
          rotate_left 1
          · intro w hSw; (try dsimp only at hSw); go_simp; try with_reducible rfl
          try simp only [Act.put, List.getElem_toArray, List.getElem_cons_succ, List.getElem_cons_zero, List.setIfInBounds_toArray, List.set_cons_zero, List.set_cons_succ]
          refine wpAnyH_take (i := 14) (v := ?_) rfl (by kernel_rfl) (by kernel_rfl) (by kernel_rfl) (fun _ _ _ h => h) (Or.inl ⟨by rfl, ?_⟩) (by assumption) ?_
          rotate_left 1
          · intro w hSw; (try dsimp only at hSw); go_simp; try with_reducible rfl
          try simp only [Act.put, List.getElem_toArray, List.getElem_cons_succ, List.getElem_cons_zero, List.setIfInBounds_toArray, List.set_cons_zero, List.set_cons_succ]
          refine wpAnyH_take (i := 15) (v := ?_) rfl (by kernel_rfl) (by kernel_rfl) (by kernel_rfl) (fun _ _ _ h => h) (Or.inl ⟨by rfl, ?_⟩) (by assumption) ?_
          rotate_left 1
          · intro w hSw; (try dsimp only at hSw); go_simp; try with_reducible rfl
          try simp only [Act.put, List.getElem_toArray, List.getElem_cons_succ, List.getElem_cons_zero, List.setIfInBounds_toArray, List.set_cons_zero, List.set_cons_succ]
          refine wpAnyH_take (i := 16) (v := ?_) rfl (by kernel_rfl) (by kernel_rfl) (by kernel_rfl) (fun _ _ _ h => h) (Or.inl ⟨by rfl, ?_⟩) (by assumption) ?_
          rotate_left 1
          · intro w hSw; (try dsimp only at hSw); go_simp; try with_reducible rfl
          try simp only [Act.put, List.getElem_toArray, List.getElem_cons_succ, List.getElem_cons_zero, List.setIfInBounds_toArray, List.set_cons_zero, List.set_cons_succ]
          refine wpAnyH_take (i := 17) (v := ?_) rfl (by kernel_rfl) (by kernel_rfl) (by kernel_rfl) (fun _ _ _ h => h) (Or.inl ⟨by rfl, ?_⟩) (by assumption) ?_
          rotate_left 1
          · intro w hSw; (try dsimp only at hSw); go_simp; try with_reducible rfl
          try simp only [Act.put, List.getElem_toArray, List.getElem_cons_succ, List.getElem_cons_zero, List.setIfInBounds_toArray, List.set_cons_zero, List.set_cons_succ]
          refine wpAnyH_take (i := 18) (v := ?_) rfl (by kernel_rfl) (by kernel_rfl) (by kernel_rfl) (fun _ _ _ h => h) (Or.inl ⟨by rfl, ?_⟩) (by assumption) ?_
          rotate_left 1
          · intro w hSw; (try dsimp only at hSw); go_simp; try with_reducible rfl
          try simp only [Act.put, List.getElem_toArray, List.getElem_cons_succ, List.getElem_cons_zero, List.setIfInBounds_toArray, List.set_cons_zero, List.set_cons_succ]
          refine wpAnyH_ready (rs := [19]) (by kernel_rfl) (by simp) (AllReadyH.cons rfl (fun K hK => ?_) AllReadyH.nil)
          go_simp
          go_at_call 14
          refine (height15_any (hT6.call b0) (by omega)).mono ?_
          rintro e v1 ⟨rfl, rfl⟩
          try simp only []
          refine hK.out _ _ (hS _ b0) (fun hHeld => ?_)
          clear hK K
          try simp only [Act.put, List.getElem_toArray, List.getElem_cons_succ, List.getElem_cons_zero, List.setIfInBounds_toArray, List.set_cons_zero, List.set_cons_succ]
          refine wpAnyH_take (i := 20) (v := ?_) rfl (by kernel_rfl) (by kernel_rfl) (by kernel_rfl) (fun _ _ _ h => h) (Or.inl ⟨by rfl, ?_⟩) (by assumption) ?_
          rotate_left 1
          · intro w hSw; (try dsimp only at hSw); go_simp; try with_reducible rfl
          try simp only [Act.put, List.getElem_toArray, List.getElem_cons_succ, List.getElem_cons_zero, List.setIfInBounds_toArray, List.set_cons_zero, List.set_cons_succ]
          refine wpAnyH_take (i := 21) (v := ?_) rfl (by kernel_rfl) (by kernel_rfl) (by kernel_rfl) (fun _ _ _ h => h) (Or.inl ⟨by rfl, ?_⟩) (by assumption) ?_
          rotate_left 1
          · intro w hSw; (try dsimp only at hSw); go_simp; try with_reducible rfl
          try simp only [Act.put, List.getElem_toArray, List.getElem_cons_succ, List.getElem_cons_zero, List.setIfInBounds_toArray, List.set_cons_zero, List.set_cons_succ]
          refine wpAnyH_take (i := 22) (v := ?_) rfl (by kernel_rfl) (by kernel_rfl) (by kernel_rfl) (fun _ _ _ h => h) (Or.inl ⟨by rfl, ?_⟩) (by assumption) ?_
          rotate_left 1
          · intro w hSw; (try dsimp only at hSw); go_simp; try with_reducible rfl
          try simp only [Act.put, List.getElem_toArray, List.getElem_cons_succ, List.getElem_cons_zero, List.setIfInBounds_toArray, List.set_cons_zero, List.set_cons_succ]
          refine wpAnyH_take (i := 23) (v := ?_) rfl (by kernel_rfl) (by kernel_rfl) (by kernel_rfl) (fun _ _ _ h => h) (Or.inl ⟨by rfl, ?_⟩) (by assumption) ?_
          rotate_left 1
          · intro w hSw; (try dsimp only at hSw); go_simp; try with_reducible rfl
          try simp only [Act.put, List.getElem_toArray, List.getElem_cons_succ, List.getElem_cons_zero, List.setIfInBounds_toArray, List.set_cons_zero, List.set_cons_succ]
          refine wpAnyH_take (i := 24) (v := ?_) rfl (by kernel_rfl) (by kernel_rfl) (by kernel_rfl) (fun _ _ _ h => h) (Or.inl ⟨by rfl, ?_⟩) (by assumption) ?_
          rotate_left 1
          · intro w hSw; (try dsimp only at hSw); go_simp; try with_reducible rfl
          try simp only [Act.put, List.getElem_toArray, List.getElem_cons_succ, List.getElem_cons_zero, List.setIfInBounds_toArray, List.set_cons_zero, List.set_cons_succ]
          refine wpAnyH_take (i := 25) (v := ?_) rfl (by kernel_rfl) (by kernel_rfl) (by kernel_rfl) (fun _ _ _ h => h) (Or.inl ⟨by rfl, ?_⟩) (by assumption) ?_
          rotate_left 1
          · intro w hSw; (try dsimp only at hSw); go_simp; try with_reducible rfl
          try simp only [Act.put, List.getElem_toArray, List.getElem_cons_succ, List.getElem_cons_zero, List.setIfInBounds_toArray, List.set_cons_zero, List.set_cons_succ]
          refine wpAnyH_take (i := 26) (v := ?_) rfl (by kernel_rfl) (by kernel_rfl) (by kernel_rfl) (fun _ _ _ h => h) (Or.inl ⟨by rfl, ?_⟩) (by assumption) ?_
          rotate_left 1
          · intro w hSw; (try dsimp only at hSw); go_simp; try with_reducible rfl
          try simp only [Act.put, List.getElem_toArray, List.getElem_cons_succ, List.getElem_cons_zero, List.setIfInBounds_toArray, List.set_cons_zero, List.set_cons_succ]
          refine wpAnyH_take (i := 27) (v := ?_) rfl (by kernel_rfl) (by kernel_rfl) (by kernel_rfl) (fun _ _ _ h => h) (Or.inl ⟨by rfl, ?_⟩) (by assumption) ?_
          rotate_left 1
          · intro w hSw; (try dsimp only at hSw); go_simp; try with_reducible rfl
          try simp only [Act.put, List.getElem_toArray, List.getElem_cons_succ, List.getElem_cons_zero, List.setIfInBounds_toArray, List.set_cons_zero, List.set_cons_succ]
          refine wpAnyH_take (i := 28) (v := ?_) rfl (by kernel_rfl) (by kernel_rfl) (by kernel_rfl) (fun _ _ _ h => h) (Or.inl ⟨by rfl, ?_⟩) (by assumption) ?_
          rotate_left 1
          · intro w hSw; (try dsimp only at hSw); go_simp; try with_reducible rfl
          try simp only [Act.put, List.getElem_toArray, List.getElem_cons_succ, List.getElem_cons_zero, List.setIfInBounds_toArray, List.set_cons_zero, List.set_cons_succ]
          refine wpAnyH_take (i := 29) (v := ?_) rfl (by kernel_rfl) (by kernel_rfl) (by kernel_rfl) (fun _ _ _ h => h) (Or.inl ⟨by rfl, ?_⟩) (by assumption) ?_
          rotate_left 1
          · intro w hSw; (try dsimp only at hSw); go_simp; try with_reducible rfl
          try simp only [Act.put, List.getElem_toArray, List.getElem_cons_succ, List.getElem_cons_zero, List.setIfInBounds_toArray, List.set_cons_zero, List.set_cons_succ]
          refine wpAnyH_take (i := 30) (v := ?_) rfl (by kernel_rfl) (by kernel_rfl) (by kernel_rfl) (fun _ _ _ h => h) (Or.inl ⟨by rfl, ?_⟩) (by assumption) ?_
          rotate_left 1
          · intro w hSw; (try dsimp only at hSw); go_simp; try with_reducible rfl
          try simp only [Act.put, List.getElem_toArray, List.getElem_cons_succ, List.getElem_cons_zero, List.setIfInBounds_toArray, List.set_cons_zero, List.set_cons_succ]
          refine wpAnyH_take (i := 31) (v := ?_) rfl (by kernel_rfl) (by kernel_rfl) (by kernel_rfl) (fun _ _ _ h => h) (Or.inl ⟨by rfl, ?_⟩) (by assumption) ?_
          rotate_left 1
          · intro w hSw; (try dsimp only at hSw); go_simp; try with_reducible rfl
          try simp only [Act.put, List.getElem_toArray, List.getElem_cons_succ, List.getElem_cons_zero, List.setIfInBounds_toArray, List.set_cons_zero, List.set_cons_succ]
          refine wpAnyH_take (i := 32) (v := ?_) rfl (by kernel_rfl) (by kernel_rfl) (by kernel_rfl) (fun _ _ _ h => h) (Or.inl ⟨by rfl, ?_⟩) (by assumption) ?_
          rotate_left 1
          · intro w hSw; (try dsimp only at hSw); go_simp; try with_reducible rfl
          try simp only [Act.put, List.getElem_toArray, List.getElem_cons_succ, List.getElem_cons_zero, List.setIfInBounds_toArray, List.set_cons_zero, List.set_cons_succ]
          refine wpAnyH_take (i := 33) (v := ?_) rfl (by kernel_rfl) (by kernel_rfl) (by kernel_rfl) (fun _ _ _ h => h) (Or.inl ⟨by rfl, ?_⟩) (by assumption) ?_
          rotate_left 1
          · intro w hSw; (try dsimp only at hSw); go_simp; try with_reducible rfl
          try simp only [Act.put, List.getElem_toArray, List.getElem_cons_succ, List.getElem_cons_zero, List.setIfInBounds_toArray, List.set_cons_zero, List.set_cons_succ]
          refine wpAnyH_take (i := 34) (v := ?_) rfl (by kernel_rfl) (by kernel_rfl) (by kernel_rfl) (fun _ _ _ h => h) (Or.inl ⟨by rfl, ?_⟩) (by assumption) ?_
          rotate_left 1
          · intro w hSw; (try dsimp only at hSw); go_simp; try with_reducible rfl
          try simp only [Act.put, List.getElem_toArray, List.getElem_cons_succ, List.getElem_cons_zero, List.setIfInBounds_toArray, List.set_cons_zero, List.set_cons_succ]
          refine wpAnyH_take (i := 35) (v := ?_) rfl (by kernel_rfl) (by kernel_rfl) (by kernel_rfl) (fun _ _ _ h => h) (Or.inl ⟨by rfl, ?_⟩) (by assumption) ?_
          rotate_left 1
          · intro w hSw; (try dsimp only at hSw); go_simp; try with_reducible rfl
          try simp only [Act.put, List.getElem_toArray, List.getElem_cons_succ, List.getElem_cons_zero, List.setIfInBounds_toArray, List.set_cons_zero, List.set_cons_succ]
          refine wpAnyH_take (i := 36) (v := ?_) rfl (by kernel_rfl) (by kernel_rfl) (by kernel_rfl) (fun _ _ _ h => h) (Or.inl ⟨by rfl, ?_⟩) (by assumption) ?_
          rotate_left 1
          · intro w hSw; (try dsimp only at hSw); go_simp; try with_reducible rfl
          try simp only [Act.put, List.getElem_toArray, List.getElem_cons_succ, List.getElem_cons_zero, List.setIfInBounds_toArray, List.set_cons_zero, List.set_cons_succ]
          refine wpAnyH_take (i := 37) (v := ?_) rfl (by kernel_rfl) (by kernel_rfl) (by kernel_rfl) (fun _ _ _ h => h) (Or.inl ⟨by rfl, ?_⟩) (by assumption) ?_
          rotate_left 1
          · intro w hSw; (try dsimp only at hSw); go_simp; try with_reducible rfl
          try simp only [Act.put, List.getElem_toArray, List.getElem_cons_succ, List.getElem_cons_zero, List.setIfInBounds_toArray, List.set_cons_zero, List.set_cons_succ]
          refine wpAnyH_take (i := 38) (v := ?_) rfl (by kernel_rfl) (by kernel_rfl) (by kernel_rfl) (fun _ _ _ h => h) (Or.inl ⟨by rfl, ?_⟩) (by assumption) ?_
          rotate_left 1
          · intro w hSw; (try dsimp only at hSw); go_simp; try with_reducible rfl
          try simp only [Act.put, List.getElem_toArray, List.getElem_cons_succ, List.getElem_cons_zero, List.setIfInBounds_toArray, List.set_cons_zero, List.set_cons_succ]
          refine wpAnyH_done (by kernel_rfl) ?_ _
          clear q2 q3 hip hHeld hqx
          go_wp2
          go_loopg [15, 16] k (fun gk o jv wq => ∃ o' j' : Nat, j' ≤ k ∧ k - j' ≤ gk ∧ o = .int .i64 o' ∧ jv = .int .i64 j' ∧ OneOf i p j' o' ∧ Below w6.heap.size w6 wq)
          case atStart => exact ⟨0, 0, Nat.zero_le _, by omega, rfl, rfl, Or.inl rfl, b0⟩
          case round =>
            rename World => wq
            obtain ⟨o, j, hj, hgk, rfl, rfl, hone, hbq⟩ := hrel
            have HG2 := hideIt hgk
            have HO := hideIt hone
            clear hgk hone b0 hb
            by_cases hjk : j < k
            · have hji : (j : Int) < (k : Int) := by omega
              have hj0 : (0 : Int) ≤ (j : Int) := by omega
              obtain ⟨X, hX⟩ : ∃ X, Sw[j]? = some X := ⟨_, List.getElem?_eq_getElem (by omega)⟩
              obtain ⟨Y, hY⟩ : ∃ Y, Sn[j]? = some Y := ⟨_, List.getElem?_eq_getElem (by omega)⟩
              have m1 := (BW6.call hbq).cell hmi (j := 6) (by decide)
              have m2 := (BN.call hbq).cell hni (j := 6) (by decide)
              obtain ⟨ad1, rfl, g1, p0, p1, p2⟩ := nd_get (hSw.call hbq).row hX
              obtain ⟨ad2, rfl, g2, r0, r1, r2⟩ := nd_get (hSn.call hbq).row hY
              have hq1 := run_neq_nd X Y
              have hd := Nd.same_dec X Y
              obtain ⟨tb, htb⟩ : ∃ tb, X.same Y = tb := ⟨_, rfl⟩
              rw [htb] at hq1 hd
              have HX1 := hideIt hX
              have HY1 := hideIt hY
              have HD := hideIt hd
              obtain ⟨X0, X1, X2⟩ := X
              obtain ⟨Y0, Y1, Y2⟩ := Y
              simp only [Nd.val] at hq1 p0 p1 p2 r0 r1 r2
              clear hX hY hd htb
              cases tb with
              | true =>
                go_upto_region 24 with (first
                  | (go_at_call 14; refine (height15_any (hT6.call hbq) (by omega)).mono ?_; rintro e w9 ⟨rfl, rfl⟩)
                  | fail)
                go_quiet (fail)
                go_wp2
                go_roundg (k - (j + 1))
                case measure => have := HG2.out; omega
                case rel => exact ⟨o, j + 1, by omega, Nat.le_refl _, rfl, by go_num, HO.out.next, below_drewN hbq _⟩
              | false =>
                have hsb : sib (i / 2 ^ j) = p / 2 ^ j := by
                  by_cases h : sib (i / 2 ^ j) = p / 2 ^ j
                  · exact h
                  · exfalso
                    have h2 := HSID.out j hjk h
                    rw [HX1.out, HY1.out] at h2
                    injection h2 with h2
                    exact of_decide_eq_false HD.out.symm h2.symm
                obtain ⟨rfl, hone2⟩ := HO.out.hit hsb
                have HO2 := hideIt hone2
                clear hone2
                have f1 : IntKind.u64.wrap (j : Int) = (j : Int) := by rw [IntKind.wrap_u64]; omega
                have f2 : (j : Int) ≤ 64 := by omega
                have f3 : min j 64 = j := by omega
                obtain ⟨ij, hij⟩ : ∃ ij, i / 2 ^ j = ij := ⟨_, rfl⟩
                obtain ⟨pj, hpj⟩ : ∃ pj, p / 2 ^ j = pj := ⟨_, rfl⟩
                rw [hij, hpj] at hsb
                have hijl : ij < 128 := by have : ij ≤ i := by rw [← hij]; exact Nat.div_le_self _ _
                                           omega
                have f4 : (i : Int) / 2 ^ j = (ij : Int) := by rw [← hij]; norm_cast
                have f5 : (p : Int) / 2 ^ j = (pj : Int) := by rw [← hpj]; norm_cast
                have f6 : bits .xor .i64 (ij : Int) 1 = (pj : Int) := by rw [xor1_i64 ij hijl, hsb]
                have f7 : (((pj : Nat) : Int) != (pj : Int)) = false := by simp
                clear hij hpj hsb hijl
                go_upto_region 24 with (first
                  | (go_at_call 14; refine (height15_any (hT6.call hbq) (by omega)).mono ?_; rintro e w9 ⟨rfl, rfl⟩)
                  | fail)
                go_quiet (fail)
                go_wp2
                go_roundg (k - (j + 1))
                case measure => have := HG2.out; omega
                case rel => exact ⟨1, j + 1, by omega, Nat.le_refl _, by first | rfl | go_num, by go_num, HO2.out, below_drewN hbq _⟩
            · have e : j = k := by omega
              subst e
              have hjj : ¬ (j : Int) < (j : Int) := by omega
              have ho : ¬ (1 : Int) < (o : Int) := by rcases HO.out with h | ⟨h, -⟩ <;> omega
              go_wp2_with (first
                | (go_at_call 14; refine (height15_any (hT6.call hbq) (by omega)).mono ?_; rintro e w9 ⟨rfl, rfl⟩)
                | fail)
              go_roundg (N - (i + 1))
              case measure => have := HG.out; omega
              case rel => exact ⟨i + 1, by omega, Nat.le_refl _, by go_num, hbq⟩
      · have e : i = N := by omega
        subst e
        have hii : ¬ (i : Int) < (i : Int) := by omega
        go_wp2
        go_ret
        exact ⟨rfl, chain hb6 hb⟩
end Go.Proofs.YtjndabnegmecmaaDoor
