/-
  The law ProofOf: of any leaves, any position has the proof that the chapter says, or its error; so have all; what is told is the caller's own. Conditions: none.
-/
import Derived.Test.YtjndabnegmecmaaGreatDoorR16Of
import Derived.Test.YtjndabnegmecmaaGreatDoorU16Sam
namespace Go.Proofs.YtjndabnegmecmaaGreatDoor
set_option linter.unusedVariables false
set_option linter.unusedSimpArgs false
set_option maxRecDepth 10000
open Go.ChangeShapes Go.WideShapes Go.ChangeAt Go.RowKit

theorem log_fewO {n : Int} {l : List Lf} {k : Nat} (h : FairT n l k) (hl : l.length ≤ 70) : k ≤ 6 := by
  by_cases hk : k ≤ 6
  · exact hk
  · have h1 : 2 ^ 7 ≤ 2 ^ k := Nat.pow_le_pow_right (by decide) (by omega)
    rw [← h.len] at h1
    omega
/-- Sides whose digests are spoilt one by one: the block is as wide as they are. -/
def WdN (W : World) (lo : Nat) (A : Option Addr) (K : Nat) : Prop := K = 0 ∨ ∃ g, A = some ⟨g, 0, none⟩ ∧ lo ≤ g ∧ ∃ cur : Array Value, Box W g 47 cur ∧ K * 3 ≤ cur.size
theorem WdN.of {W : World} {lo : Nat} {A : Option Addr} {l : List Nd} (h : SdAt W lo A l) : WdN W lo A l.length := by
  rcases h with rfl | ⟨g, rfl, hg, -, cur, rest, hb, he⟩
  · exact Or.inl rfl
  · refine Or.inr ⟨g, rfl, hg, cur, hb, ?_⟩
    have := congrArg List.length he
    rw [List.length_append, ndS.flat_len, Array.length_toList] at this
    have e : l.length * ndS.k = l.length * 3 := rfl
    omega
theorem WdN.call {W W' : World} {lo : Nat} {A : Option Addr} {K : Nat} (h : WdN W lo A K) (hb : Below W.heap.size W W') : WdN W' lo A K := by
  rcases h with h | ⟨g, h1, h2, cur, h3, h4⟩
  · exact Or.inl h
  · exact Or.inr ⟨g, h1, h2, cur, h3.call hb, h4⟩
theorem WdN.more {W : World} {lo lo' : Nat} {A : Option Addr} {K : Nat} (h : WdN W lo A K) (hl : lo' ≤ lo) : WdN W lo' A K := by
  rcases h with h | ⟨g, h1, h2, h3⟩
  · exact Or.inl h
  · exact Or.inr ⟨g, h1, Nat.le_trans hl h2, h3⟩
set_option maxRecDepth 100000 in
set_option maxHeartbeats 8000000 in
theorem proofOf_fair (n : Int) (A : Option Addr) (c : Nat) (l : List Lf) (pos : Nat) (hpos : pos < 18446744073709551616) (hc : l.length ≤ c) (hcm : c ≤ 9223372036854775807) (hg : greatLf l = false) (hF : FairT n l (Nat.log2 l.length))
    (w : World) (hR : lfS.Row w w.heap.size A l) (hK : Tab w) (hU : TabU w) :
    Calls Tryz.prog 3 #[.int .i64 n, .slice A l.length c, .int .u64 pos] w (Tells (.bool true) w.heap.size w) := by
  obtain ⟨hl70, hsz⟩ := greatLf_no hg
  have hk := log_fewO hF hl70
  have cG := fun u hu => great15_any A c l (by omega) (fun x hx => ⟨by have := hsz x hx; omega, by have := hsz x hx; omega⟩) u hu
  rw [hg] at cG
  obtain ⟨k, hkk⟩ : ∃ k, Nat.log2 l.length = k := ⟨_, rfl⟩
  rw [hkk] at hF hk
  clear hkk
  have c1 := fun u hR hT hV => new15_fair n A c l u hF hR hT hV
  have c2 := fun u hR => rnew15_fair n A c l u hF hk hR
  have hlen := hF.len
  have HF := hideIt hF
  have hboth : ∃ (x : Lf) (q : Int) (T : List Nd) (E : Int), T.length ≤ 100 ∧
      (∀ u (t : TrG), TrAt u t n l k → Calls Tryz.prog 7 #[.pointer (some ⟨t.g, 0, none⟩), .int .u64 pos] u (fun e w' => Below u.heap.size u w' ∧ ∃ A c, e = .returned (.tuple #[.agg (enV x q A T.length c), .int .i64 E]) ∧ SdAt w' u.heap.size A T)) ∧
      (∀ u g gl d, RTr u g gl d n l → Calls Tryz.prog 8 #[.pointer (some ⟨g, 0, none⟩), .int .u64 pos] u (fun e w' => Below u.heap.size u w' ∧ ∃ A c, e = .returned (.tuple #[.agg (enV x q A T.length c), .int .i64 E]) ∧ ndS.Row w' w'.heap.size A T)) := by
    by_cases hp : pos < 2 ^ k
    · obtain ⟨x, hx⟩ : ∃ x, l[pos]? = some x := ⟨_, List.getElem?_eq_getElem (by rw [hlen]; exact hp)⟩
      have hTl := sibs_len n (l.map (nodeOf n)) pos k
      refine ⟨x, pos, sibsN n (l.map (nodeOf n)) pos k, 0, by omega, fun u t hu => ?_, fun u g gl d hu => ?_⟩
      · rw [hTl]
        exact (of16_in hu hF pos hp hx).mono fun e w' ⟨h1, A, c, h2, h3, _⟩ => ⟨h1, A, c, h2, h3⟩
      · rw [hTl]
        exact rof16_in hu hF hk pos hp hx
    · refine ⟨Lf.zero, 0, [], 2, by simp, fun u t hu => ?_, fun u g gl d hu => ?_⟩
      · exact (of16_out hu hF pos hpos hp).mono fun e w' ⟨h1, h2⟩ => ⟨h2, none, 0, h1, Or.inl rfl⟩
      · exact (rof16_out hu (by omega) pos hpos (by rw [hlen]; exact hp)).mono fun e w' ⟨h1, h2⟩ => ⟨h2, none, 0, h1, Sh.Row.nil _ _ _ _⟩
  obtain ⟨x, q, T, E, hT100, cO, cR⟩ := hboth
  have cS := fun A' c' B' d' u h1 h2 => rsame16_any x x q q A' B' c' d' T T (by omega) (by omega) u h1 h2
  rw [sameE_self] at cS
  obtain ⟨K, hKT⟩ : ∃ K, T.length = K := ⟨_, rfl⟩
  rw [hKT] at cO cR cS hT100
  have HKT := hideIt hKT
  obtain ⟨N, hN⟩ : ∃ N, l.length = N := ⟨_, rfl⟩
  rw [hN] at cG c1 c2 hlen hl70 hc ⊢
  have HN := hideIt hN
  have HL := hideIt hlen
  obtain ⟨xp, xi, xs, xh, xl⟩ := x
  clear hg hF hN hlen hKT
  have H0 := Has.start w
  go_enter Tryz.func3, Tryz.ntmps3
  go_upto_region 7 with (first
    | (go_at_call 4; refine (cG _ hR).mono ?_; rintro e w2 ⟨rfl, rfl⟩)
    | (go_at_call 5; refine (c1 _ hR hK hU).mono ?_; rintro e w3 ⟨b3, t, rfl, hT3, hq3⟩; have K3 := H0.call b3)
    | (go_at_call 6; refine (c2 _ (hR.on K3.below)).mono ?_; rintro e w4 ⟨b4, gr, gl, dr, rfl, hr4, -, -⟩; have K4 := K3.call b4)
    | fail)
  have hT4 := hT3.call b4
  have hKw := K4.below
  clear cG c1 c2 hT3 hq3 K3 K4 b3 b4 H0
  go_wp2
  go_loopg [11] 2 (fun gk i wr => ∃ m : Nat, m ≤ 2 ∧ 2 - m ≤ gk ∧ i = .int .i64 m ∧ Below w4.heap.size w4 wr)
  case atStart => exact ⟨0, Nat.zero_le _, by omega, rfl, Below.refl _ _⟩
  case round =>
    obtain ⟨m, hm, hgk, rfl, hb⟩ := hrel
    rename World => wo
    have HG := hideIt hgk
    clear hgk
    by_cases hlt : m < 2
    · have hmi : (m : Int) < 2 := by omega
      have hTr := hT4.call hb
      have hRr := hr4.call hb
      have J0 := Has.start wo
      go_upto_region 11 with (first
        | (go_at_call 7; refine (cO _ _ hTr).mono ?_; rintro e w5 ⟨b5, A5, c5, rfl, hSd⟩; have J1 := (J0.call b5).add 40 (enV ⟨xp, xi, xs, xh, xl⟩ q A5 K c5); have L5 := chainA (Below.refl w5.heap.size w5) (.cells (enV ⟨xp, xi, xs, xh, xl⟩ q A5 K c5) 40))
        | fail)
      have hSd5 := hSd.call L5
      obtain ⟨g12, hg12⟩ : ∃ g, w5.heap.size = g := ⟨_, rfl⟩
      rw [hg12] at J1 ⊢
      change Code.wp _ _ _ _ (w5.alloc (.cells (enV ⟨xp, xi, xs, xh, xl⟩ q A5 K c5) 40))
      generalize w5.alloc (.cells (enV ⟨xp, xi, xs, xh, xl⟩ q A5 K c5) 40) = W5 at *
      clear b5 hg12 L5 hSd J0
      go_upto_region 12 with (first
        | (go_at_call 8; refine (cR _ _ _ _ (hRr.call J1.below)).mono ?_; rintro e w6 ⟨b6, A6, c6, rfl, hB6⟩; have J2 := (J1.call b6).add 40 (enV ⟨xp, xi, xs, xh, xl⟩ q A6 K c6); have L6 := chainA b6 (.cells (enV ⟨xp, xi, xs, xh, xl⟩ q A6 K c6) 40); have L6b := chainA (Below.refl w6.heap.size w6) (.cells (enV ⟨xp, xi, xs, xh, xl⟩ q A6 K c6) 40))
        | fail)
      have hSd6 := hSd5.call L6
      have hB7 := hB6.on L6b
      obtain ⟨g14, hg14⟩ : ∃ g, w6.heap.size = g := ⟨_, rfl⟩
      rw [hg14] at J2 ⊢
      change Code.wp _ _ _ _ (w6.alloc (.cells (enV ⟨xp, xi, xs, xh, xl⟩ q A6 K c6) 40))
      generalize w6.alloc (.cells (enV ⟨xp, xi, xs, xh, xl⟩ q A6 K c6) 40) = W6 at *
      clear b6 hg14 L6 L6b hB6 J1 hSd5
      obtain ⟨⟨x0, x1, x2, x3, x4, x5, x6⟩, xin⟩ := (J2.box 1).seven
      obtain ⟨⟨y0, y1, y2, y3, y4, y5, y6⟩, yin⟩ := (J2.box 0).seven
      simp only at x0 x1 x2 x3 x4 y0 y1 y2 y3 y4
      go_wp2_with (first
        | (go_at_call 9; refine (cS _ _ _ _ _ hSd6.row hB7).mono ?_; rintro e w7 ⟨rfl, b7⟩)
        | fail)
      have J3 := (J2.tail).call b7
      have hW7 := (WdN.of hSd6).call b7
      rw [HKT.out] at hW7
      clear x0 x1 x2 x3 x4 x5 x6 xin y0 y1 y2 y3 y4 y5 y6 yin hSd6 hB7 J2
      go_loopg [16] K (fun gk i wq => ∃ j : Nat, j ≤ K ∧ K - j ≤ gk ∧ i = .int .i64 j ∧ Has wo [(g12, 40, enV ⟨xp, xi, xs, xh, xl⟩ q A5 K c5)] wq ∧ WdN wq wo.heap.size A5 K)
      case atStart => exact ⟨0, Nat.zero_le _, by omega, rfl, J3, hW7⟩
      case round =>
        obtain ⟨j, hj, hgk, rfl, J, hW⟩ := hrel
        have HG2 := hideIt hgk
        clear hgk J3 hW7
        obtain ⟨⟨x0, x1, x2, x3, x4, x5, x6⟩, xin⟩ := (J.box 0).seven
        simp only at x0 x1 x2 x3 x4
        by_cases hlt2 : j < K
        · have hji : (j : Int) < (K : Int) := by omega
          rcases hW with h | ⟨gs, rfl, hgs, cur, hbx, hcs⟩
          · exfalso; omega
          have hne : g12 ≠ gs := (J.box 0).type_ne hbx (by decide)
          obtain ⟨v, hv⟩ : ∃ v, wr.cell? ⟨gs, j * 3, none⟩ = some v := ⟨cur[j * 3]'(by omega), by rw [hbx.read, Array.getElem?_eq_getElem]⟩
          have hfz := hbx.free (j * 3)
          have hin := hbx.inside
          have J4 := J.set_ (p := ⟨gs, j * 3, none⟩) hgs (fun x hx => by obtain rfl := List.mem_singleton.1 hx; exact hne) (.string ⟨#[63]⟩)
          have hb4 := hbx.wrote (j * 3) (.string ⟨#[63]⟩)
          have hcs2 : K * 3 ≤ (cur.setIfInBounds (j * 3) (.string ⟨#[63]⟩)).size := by simpa using hcs
          go_wp2
          go_roundg (K - (j + 1))
          case measure => have := HG2.out; omega
          case rel => exact ⟨j + 1, by omega, Nat.le_refl _, by go_num, J4, Or.inr ⟨gs, rfl, hgs, _, hb4, hcs2⟩⟩
        · have e : j = K := by omega
          subst e
          have hji : ¬ (j : Int) < (j : Int) := by omega
          go_wp2
          go_roundg (2 - (m + 1))
          case measure => have := HG.out; omega
          case rel => exact ⟨m + 1, by omega, Nat.le_refl _, by go_num, chain hb J.below⟩
    · have e : m = 2 := by omega
      subst e
      have cA := all16_tree (hT4.call hb) HF.out
      rw [HN.out] at cA
      have hro := hr4.call hb
      have hKo := chain hKw hb
      clear hT4 hr4 hKw cO cR cS
      go_upto_region 19 with (first
        | (go_at_call 10; refine cA.mono ?_; rintro e w8 ⟨b8, gx, cx, ms, rfl, hgx, hcx, BX, hml, hok⟩)
        | fail)
      have hr8 := hro.call b8
      have hK8 := chain hKo b8
      clear hro hKo b8 cA hb
      have q0 : (((N : Nat) : Int) != (N : Int)) = false := by simp
      go_wp2
      go_loopg [18] N (fun gk i wq => ∃ p : Nat, p ≤ N ∧ N - p ≤ gk ∧ i = .int .i64 p ∧ Below w8.heap.size w8 wq)
      case atStart => exact ⟨0, Nat.zero_le _, by omega, rfl, Below.refl _ _⟩
      case round =>
        obtain ⟨p, hp, hgk, rfl, hb⟩ := hrel
        have HG2 := hideIt hgk
        clear hgk
        by_cases hltp : p < N
        · obtain ⟨y, hy⟩ : ∃ y, l[p]? = some y := ⟨_, List.getElem?_eq_getElem (by rw [HN.out]; exact hltp)⟩
          have hp2 : p < 2 ^ k := by rw [← HL.out]; exact hltp
          have cR := rof16_in (hr8.call hb) HF.out hk p hp2 hy
          obtain ⟨A7, c7, hms, hSd⟩ := hok.at_ (by rw [hml, HN.out]) hy
          have hsl : (sdsOf n l k p).length = k := sibs_len _ _ _ _
          rw [hsl] at hms
          obtain ⟨S, hS0⟩ : ∃ S, sdsOf n l k p = S := ⟨_, rfl⟩
          have cR : Calls Tryz.prog 8 #[.pointer (some ⟨gr, 0, none⟩), .int .u64 p] wr (fun e w' => Below wr.heap.size wr w' ∧ ∃ A c, e = .returned (.tuple #[.agg (enV y p A k c), .int .i64 0]) ∧ ndS.Row w' w'.heap.size A S) := by rw [← hS0]; exact cR
          rw [hS0] at hSd hsl
          have cS := fun A' c' B' d' u h1 h2 => rsame16_any y y p p A' B' c' d' S S (by omega) (by omega) u h1 h2
          rw [sameE_self, hsl] at cS
          clear hS0
          obtain ⟨yp, yi, ys, yh, yl⟩ := y
          have hpi : (p : Int) < (N : Int) := by omega
          have hpu : IntKind.u64.wrap (p : Int) = (p : Int) := by rw [IntKind.wrap_u64]; omega
          have J0 := Has.start wr
          go_upto_region 25 with (first
            | (go_at_call 8; refine cR.mono ?_; rintro e w9 ⟨b9, A9, c9, rfl, hB9⟩; have J1 := (J0.call b9).add 40 (enV ⟨yp, yi, ys, yh, yl⟩ p A9 k c9); have L9 := chainA (Below.refl w9.heap.size w9) (.cells (enV ⟨yp, yi, ys, yh, yl⟩ p A9 k c9) 40))
            | fail)
          have hB := hB9.on L9
          obtain ⟨g19, hg19⟩ : ∃ g, w9.heap.size = g := ⟨_, rfl⟩
          rw [hg19] at J1 ⊢
          change Code.wp _ _ _ _ (w9.alloc (.cells (enV ⟨yp, yi, ys, yh, yl⟩ p A9 k c9) 40))
          generalize w9.alloc (.cells (enV ⟨yp, yi, ys, yh, yl⟩ p A9 k c9) 40) = W9 at *
          clear b9 hg19 L9 hB9 J0 cR
          have hb9 := chain hb J1.below
          have hS : ∀ u, Below W9.heap.size W9 u → ((u.cell? ⟨gx, p * 7, none⟩ = some (.bool yp) ∧ u.cell? ⟨gx, p * 7 + 1, none⟩ = some (.string yi) ∧ u.cell? ⟨gx, p * 7 + 2, none⟩ = some (.string ys) ∧ u.cell? ⟨gx, p * 7 + 3, none⟩ = some (.int .u64 yh) ∧ u.cell? ⟨gx, p * 7 + 4, none⟩ = some (.int .u64 yl) ∧ u.cell? ⟨gx, p * 7 + 5, none⟩ = some (.int .u64 p) ∧ u.cell? ⟨gx, p * 7 + 6, none⟩ = some (.slice A7 k c7)) ∧ gx < u.heap.size) ∧
          ((u.cell? ⟨g19, 0, none⟩ = some (.bool yp) ∧ u.cell? ⟨g19, 1, none⟩ = some (.string yi) ∧ u.cell? ⟨g19, 2, none⟩ = some (.string ys) ∧ u.cell? ⟨g19, 3, none⟩ = some (.int .u64 yh) ∧ u.cell? ⟨g19, 4, none⟩ = some (.int .u64 yl) ∧ u.cell? ⟨g19, 5, none⟩ = some (.int .u64 p) ∧ u.cell? ⟨g19, 6, none⟩ = some (.slice A9 k c9)) ∧ g19 < u.heap.size) := fun u hu => by
            have B := BX.call (chain hb9 hu)
            have K1 := J1.call hu
            exact ⟨⟨⟨B.cell hms (j := 0) (by decide), B.cell hms (j := 1) (by decide), B.cell hms (j := 2) (by decide), B.cell hms (j := 3) (by decide), B.cell hms (j := 4) (by decide), B.cell hms (j := 5) (by decide), B.cell hms (j := 6) (by decide)⟩, B.inside⟩, (K1.box 0).seven⟩
          have b0 := (Below.refl W9.heap.size W9).drew
          refine wp_region_held_drew (S := fun u => ((u.cell? ⟨gx, p * 7, none⟩ = some (.bool yp) ∧ u.cell? ⟨gx, p * 7 + 1, none⟩ = some (.string yi) ∧ u.cell? ⟨gx, p * 7 + 2, none⟩ = some (.string ys) ∧ u.cell? ⟨gx, p * 7 + 3, none⟩ = some (.int .u64 yh) ∧ u.cell? ⟨gx, p * 7 + 4, none⟩ = some (.int .u64 yl) ∧ u.cell? ⟨gx, p * 7 + 5, none⟩ = some (.int .u64 p) ∧ u.cell? ⟨gx, p * 7 + 6, none⟩ = some (.slice A7 k c7)) ∧ gx < u.heap.size) ∧
          ((u.cell? ⟨g19, 0, none⟩ = some (.bool yp) ∧ u.cell? ⟨g19, 1, none⟩ = some (.string yi) ∧ u.cell? ⟨g19, 2, none⟩ = some (.string ys) ∧ u.cell? ⟨g19, 3, none⟩ = some (.int .u64 yh) ∧ u.cell? ⟨g19, 4, none⟩ = some (.int .u64 yl) ∧ u.cell? ⟨g19, 5, none⟩ = some (.int .u64 p) ∧ u.cell? ⟨g19, 6, none⟩ = some (.slice A9 k c9)) ∧ g19 < u.heap.size)) (by kernel_rfl) (hS _ b0) (fun hHeld => ?_)
          generalize W9.drew = Wd at *
          refine wpAnyH_take (i := 0) (v := ?_) rfl (by kernel_rfl) (by kernel_rfl) (by kernel_rfl) (fun _ _ _ h => h) (Or.inl ⟨by rfl, ?_⟩) (by assumption) ?_
          rotate_left 1
          · intro w hSw; (try dsimp only at hSw); go_simp; try with_reducible rfl
          try simp only [Act.put, List.getElem_toArray, List.getElem_cons_succ, List.getElem_cons_zero, List.setIfInBounds_toArray, List.set_cons_zero, List.set_cons_succ]
          refine wpAnyH_take (i := 1) (v := ?_) rfl (by kernel_rfl) (by kernel_rfl) (by kernel_rfl) (fun _ _ _ h => h) (Or.inl ⟨by rfl, ?_⟩) (by assumption) ?_
          rotate_left 1
          · intro w hSw; (try dsimp only at hSw); go_simp; try with_reducible rfl
          try simp only [Act.put, List.getElem_toArray, List.getElem_cons_succ, List.getElem_cons_zero, List.setIfInBounds_toArray, List.set_cons_zero, List.set_cons_succ]
          refine wpAnyH_take (i := 2) (v := ?_) rfl (by kernel_rfl) (by kernel_rfl) (by kernel_rfl) (fun _ _ _ h => h) (Or.inl ⟨by rfl, ?_⟩) (by assumption) ?_
          rotate_left 1
          · intro w hSw; (try dsimp only at hSw); go_simp; try with_reducible rfl
          try simp only [Act.put, List.getElem_toArray, List.getElem_cons_succ, List.getElem_cons_zero, List.setIfInBounds_toArray, List.set_cons_zero, List.set_cons_succ]
          refine wpAnyH_take (i := 3) (v := ?_) rfl (by kernel_rfl) (by kernel_rfl) (by kernel_rfl) (fun _ _ _ h => h) (Or.inl ⟨by rfl, ?_⟩) (by assumption) ?_
          rotate_left 1
          · intro w hSw; (try dsimp only at hSw); go_simp; try with_reducible rfl
          try simp only [Act.put, List.getElem_toArray, List.getElem_cons_succ, List.getElem_cons_zero, List.setIfInBounds_toArray, List.set_cons_zero, List.set_cons_succ]
          refine wpAnyH_take (i := 4) (v := ?_) rfl (by kernel_rfl) (by kernel_rfl) (by kernel_rfl) (fun _ _ _ h => h) (Or.inl ⟨by rfl, ?_⟩) (by assumption) ?_
          rotate_left 1
          · intro w hSw; (try dsimp only at hSw); go_simp; try with_reducible rfl
          try simp only [Act.put, List.getElem_toArray, List.getElem_cons_succ, List.getElem_cons_zero, List.setIfInBounds_toArray, List.set_cons_zero, List.set_cons_succ]
          refine wpAnyH_ready (rs := [5]) (by kernel_rfl) (by simp) (AllReadyH.cons rfl (fun K hK => ?_) AllReadyH.nil)
          go_simp
          go_at_call 9
          refine (cS _ _ _ _ _ (hSd.call (chain hb9 b0)).row (hB.on b0)).mono ?_
          rintro e w10 ⟨rfl, b10⟩
          have b1 := chain b0 b10
          try simp only []
          refine hK.out _ _ (hS _ b1) (fun hHeld => ?_)
          clear hK K
          try simp only [Act.put, List.getElem_toArray, List.getElem_cons_succ, List.getElem_cons_zero, List.setIfInBounds_toArray, List.set_cons_zero, List.set_cons_succ]
          refine wpAnyH_take (i := 6) (v := ?_) rfl (by kernel_rfl) (by kernel_rfl) (by kernel_rfl) (fun _ _ _ h => h) (Or.inl ⟨by rfl, ?_⟩) (by assumption) ?_
          rotate_left 1
          · intro w hSw; (try dsimp only at hSw); go_simp; try with_reducible rfl
          try simp only [Act.put, List.getElem_toArray, List.getElem_cons_succ, List.getElem_cons_zero, List.setIfInBounds_toArray, List.set_cons_zero, List.set_cons_succ]
          refine wpAnyH_done (by kernel_rfl) ?_ _
          go_wp2
          go_roundg (N - (p + 1))
          case measure => have := HG2.out; omega
          case rel => exact ⟨p + 1, by omega, Nat.le_refl _, by go_num, chain hb9 b1⟩
        · have e : p = N := by omega
          subst e
          have hpi : ¬ (p : Int) < (p : Int) := by omega
          go_wp2
          go_ret
          exact ⟨rfl, chain hK8 hb⟩
end Go.Proofs.YtjndabnegmecmaaGreatDoor
