/- Several of my texts, laid as one. -/
import Derived.Test.YtjndabnegmecmaaDoorM15Fns
import Derived.Deep.RegionHeld3
/-
  Package tree: the level of the leaves' nodes.
-/
namespace Go.Proofs.YtjndabnegmecmaaDoor
set_option linter.unusedVariables false
set_option linter.unusedSimpArgs false
set_option maxRecDepth 10000
open Go.RowKit
attribute [local go_sem] Oper.semAt_some

def ndR : El ndS := ⟨64, 46, .agg #[.string ⟨#[]⟩, .int .u64 0, .int .u64 0], 32, Tryd.underlying64, by kernel_rfl, rfl, by decide⟩
theorem ndR_app1 (w : World) (base : Nat) (v : Value) (n : Nat) (ys : List Nd) (hown : w.ownsRow base 46 3 v n (ndS.flat ys)) (x : Nd) (hm : n ≤ 100000000) (hb : base ≤ w.heap.size) :
    ∃ v' w', (∀ ty, (Builtin.append_ #[64, 64] ty #[v, .slice (some ⟨w.heap.size, 0, none⟩) 1 1]).run Tryd.prog (w.alloc (.cells (ndB x.hash x.h x.l) 46)) = .ok v' w') ∧
      w'.ownsRow base 46 3 v' (n + 1) (ndS.flat (ys ++ [x])) ∧ (w.alloc (.cells (ndB x.hash x.h x.l) 46)).grownBy w' v.ownBlock ∧ Below base w w' := ndR.app1 w base v n ys hown x _ rfl hm hb
theorem own_other {W : World} {b k n g : Nat} {T : TypeId} {v : Value} {xs : List Value} (h : W.ownsRow b T k v n xs) (hg : W.heap.size ≤ g ∨ g < b) : some g ≠ v.ownBlock := fun e => by
  have := h.lt g e.symm
  omega
theorem own_slice {W : World} {b k n : Nat} {T : TypeId} {v : Value} {xs : List Value} (h : W.ownsRow b T k v n xs) : ∃ A c, v = .slice A n c := by
  rcases h.2 with ⟨h1, h2⟩ | ⟨g, cap, cur, hv, -⟩
  · exact ⟨none, 0, by rw [h1, h2]⟩
  · exact ⟨_, _, hv⟩
set_option maxRecDepth 100000 in
set_option maxHeartbeats 8000000 in
theorem ground15_any (n : Int) (A : Option Addr) (c : Nat) (l : List Lf) (hm : l.length ≤ 1000000) (hx : ∀ x ∈ l, (x.id.size ≤ 1000000 ∧ x.salt.size ≤ 1000000) ∧ Word x.h ∧ Word x.l) (w : World) (hR : lfS.Row w w.heap.size A l) (hK : Tab w) (hU : TabU w) :
    Calls Tryd.prog 20 #[.int .i64 n, .slice A l.length c] w (fun e w' => ∃ v, e = .returned (.agg #[v, .int .i64 n]) ∧ w'.ownsRow (w.heap.size + 2) 46 3 v l.length (ndS.flat (l.map (nodeOf n))) ∧ Below w.heap.size w w') := by
  obtain ⟨N, hN⟩ : ∃ N, l.length = N := ⟨_, rfl⟩
  rw [hN] at hm ⊢
  have HN := hideIt hN
  clear hN
  have hK0 := hK
  have hU0 := hU
  clear hK
  obtain ⟨h, hh⟩ : ∃ h, w.heap.size = h := ⟨_, rfl⟩
  have H0 := ((Has.start w).addAt 66 #[.slice none 0 0, .int .i64 0] hh).addAt 66 #[.slice none 0 0, .int .i64 n] (g := h + 1) (by simp [hh])
  have hs0 : ((w.alloc (.cells #[.slice none 0 0, .int .i64 0] 66)).alloc (.cells #[.slice none 0 0, .int .i64 n] 66)).heap.size = h + 2 := by simp [hh]
  go_enter Tryd.func20, Tryd.ntmps20
  go_upto_region 2 with fail
  change Code.wp _ _ _ _ ((w.alloc (.cells #[.slice none 0 0, .int .i64 0] 66)).alloc (.cells #[.slice none 0 0, .int .i64 n] 66))
  generalize (w.alloc (.cells #[.slice none 0 0, .int .i64 0] 66)).alloc (.cells #[.slice none 0 0, .int .i64 n] 66) = W0 at *
  have HS0 := hideIt hs0
  have HH := hideIt hh
  clear hs0 hh
  go_wp2
  go_loopg [12] N (fun gk i wr => ∃ (k : Nat) (v : Value), k ≤ N ∧ N - k ≤ gk ∧ i = .int .i64 k ∧ Has w [(h + 1, 66, #[v, .int .i64 n]), (h, 66, #[.slice none 0 0, .int .i64 0])] wr ∧ wr.ownsRow (h + 2) 46 3 v k (ndS.flat ((l.map (nodeOf n)).take k)))
  case atStart => exact ⟨0, _, Nat.zero_le _, by omega, rfl, H0, by rw [List.take_zero]; exact World.ownsRow_nil _ _ _ _⟩
  case round =>
    obtain ⟨k, v, hk, hgk, rfl, H, hown⟩ := hrel
    have HG := hideIt hgk
    clear hgk H0
    by_cases hlt : k < N
    · obtain ⟨x, hx0⟩ : ∃ r, l[k]? = some r := ⟨_, List.getElem?_eq_getElem (by rw [HN.out]; omega)⟩
      have htk : (l.map (nodeOf n)).take (k + 1) = (l.map (nodeOf n)).take k ++ [nodeOf n x] := by rw [List.take_add_one, List.getElem?_map, hx0]; rfl
      obtain ⟨⟨h1, h2⟩, h3, h4⟩ := hx x (List.mem_of_getElem? hx0)
      have cN := fun u hu hv => leafNode_any n x h1 h2 h3 h4 u hu hv
      obtain ⟨⟨js, jh, jl⟩, hJ⟩ : ∃ V, nodeOf n x = V := ⟨_, rfl⟩
      rw [hJ] at cN htk
      obtain ⟨ad, rfl, g1, p0, p1, p2, p3, p4⟩ := lf_get (hR.on H.below) hx0
      obtain ⟨xp, xi, xs, xh, xl⟩ := x
      simp only [Nd.val, Lf.val] at cN p0 p1 p2 p3 p4
      have HTK := hideIt htk
      have hlti : (k : Int) < (N : Int) := by omega
      clear hx0 htk hJ h1 h2 h3 h4
      go_upto_region 5 with fail
      have O1 := hown.alloc (.cells (lfB xp xi xs xh xl) 36)
      have X1 := Box.made wr 36 (lfB xp xi xs xh xl)
      have H1 := H.past (.cells (lfB xp xi xs xh xl) 36)
      have hsz : h + 2 ≤ wr.heap.size := by have := (H.box 0).inside; omega
      change Code.wp _ _ _ _ (wr.alloc (.cells (lfB xp xi xs xh xl) 36))
      obtain ⟨g, hg⟩ : ∃ g, wr.heap.size = g := ⟨_, rfl⟩
      have hgg : (wr.alloc (.cells (lfB xp xi xs xh xl) 36)).heap.size = g + 1 := by simp [hg]
      rw [hg] at X1 hsz ⊢
      have hob : ∀ r, v.ownBlock = some r → r < g := fun r hr => by have := hown.lt r hr; omega
      generalize wr.alloc (.cells (lfB xp xi xs xh xl) 36) = W1 at *
      have hsz1 : h + 2 ≤ W1.heap.size := by omega
      have hK1 := hK0.call H1.below
      have hU1 := hU0.call H1.below
      have F1 := H1.box 0
      have HGG := hideIt hgg
      clear p0 p1 p2 p3 p4 g1 hg hown hgg
      have hS : ∀ u, Below W1.heap.size W1 u → (u.cell? ⟨g, 0, none⟩ = some (.bool xp) ∧ u.cell? ⟨g, 1, none⟩ = some (.string xi) ∧ u.cell? ⟨g, 2, none⟩ = some (.string xs) ∧ u.cell? ⟨g, 3, none⟩ = some (.int .u64 xh) ∧ u.cell? ⟨g, 4, none⟩ = some (.int .u64 xl)) ∧ g < u.heap.size := fun u hu =>
        ⟨(X1.call hu).five0.1, (X1.call hu).inside⟩
      have b0 := (Below.refl W1.heap.size W1).drew
      refine wp_region_held_drew (S := fun u => (u.cell? ⟨g, 0, none⟩ = some (.bool xp) ∧ u.cell? ⟨g, 1, none⟩ = some (.string xi) ∧ u.cell? ⟨g, 2, none⟩ = some (.string xs) ∧ u.cell? ⟨g, 3, none⟩ = some (.int .u64 xh) ∧ u.cell? ⟨g, 4, none⟩ = some (.int .u64 xl)) ∧ g < u.heap.size) (by kernel_rfl) (hS _ b0) (fun hHeld => ?_)
      obtain ⟨y0, y1, yf0, yf1, yin⟩ := (F1.call b0).two
      refine wpAnyH_take (i := 0) (v := ?_) rfl (by kernel_rfl) (by kernel_rfl) (by kernel_rfl) (fun _ _ _ h => h) (Or.inl ⟨by rfl, ?_⟩) (by assumption) ?_
      rotate_left 1
      · intro w hSw; (try dsimp only at hSw); go_simp; try with_reducible rfl
      try simp only [Act.put, List.getElem_toArray, List.getElem_cons_succ, List.getElem_cons_zero, List.setIfInBounds_toArray, List.set_cons_zero, List.set_cons_succ]
      refine wpAnyH_take (i := 2) (v := ?_) rfl (by kernel_rfl) (by kernel_rfl) (by kernel_rfl) (fun _ _ _ h => h) (Or.inl ⟨by rfl, ?_⟩) (by assumption) ?_
      rotate_left 1
      · intro w hSw; (try dsimp only at hSw); go_simp; try with_reducible rfl
      try simp only [Act.put, List.getElem_toArray, List.getElem_cons_succ, List.getElem_cons_zero, List.setIfInBounds_toArray, List.set_cons_zero, List.set_cons_succ]
      refine wpAnyH_take (i := 3) (v := ?_) rfl (by kernel_rfl) (by kernel_rfl) (by kernel_rfl) (fun _ _ _ h => h) (Or.inl ⟨by rfl, ?_⟩) (by assumption) ?_
      rotate_left 1
      · intro w hSw; (try dsimp only at hSw); go_simp; try with_reducible rfl
      try simp only [Act.put, List.getElem_toArray, List.getElem_cons_succ, List.getElem_cons_zero, List.setIfInBounds_toArray, List.set_cons_zero, List.set_cons_succ]
      refine wpAnyH_ready (rs := [1, 4]) (by kernel_rfl) (by simp) (AllReadyH.cons rfl (fun K hK => ?_) (AllReadyH.cons rfl (fun K hK => ?_) AllReadyH.nil))
      · go_simp
        refine hK.out _ _ (hS _ b0) (fun hHeld => ?_)
        clear hK K
        try simp only [Act.put, List.getElem_toArray, List.getElem_cons_succ, List.getElem_cons_zero, List.setIfInBounds_toArray, List.set_cons_zero, List.set_cons_succ]
        refine wpAnyH_ready (rs := [4]) (by kernel_rfl) (by simp) (AllReadyH.cons rfl (fun K hK => ?_) AllReadyH.nil)
        go_simp
        clear y0 y1 yf0 yf1 yin
        go_at_call 13
        refine (cN _ (hK1.call b0) (hU1.call b0)).mono ?_
        rintro e w3 ⟨rfl, b3⟩
        have b4 := chain b0 b3
        have b5 := chainA b4 (.cells (ndB js jh jl) 46)
        obtain ⟨y0, y1, yf0, yf1, yin⟩ := (F1.call b4).two
        obtain ⟨z0, z1, zf0, zf1, zin⟩ := (F1.call b5).two
        try simp only []
        refine hK.out _ _ (hS _ b4) (fun hHeld => ?_)
        clear hK K
        try simp only [Act.put, List.getElem_toArray, List.getElem_cons_succ, List.getElem_cons_zero, List.setIfInBounds_toArray, List.set_cons_zero, List.set_cons_succ]
        refine wpAnyH_ready (rs := [5]) (by kernel_rfl) (by simp) (AllReadyH.cons rfl (fun K hK => ?_) AllReadyH.nil)
        go_simp
        refine hK.out _ _ (hS _ b5) (fun hHeld => ?_)
        clear hK K
        try simp only [Act.put, List.getElem_toArray, List.getElem_cons_succ, List.getElem_cons_zero, List.setIfInBounds_toArray, List.set_cons_zero, List.set_cons_succ]
        have O3 := own_below O1 b4
        obtain ⟨v', w6, hrun, o6, gr6, b6⟩ := ndR_app1 w3 (h + 2) v k ((l.map (nodeOf n)).take k) O3 ⟨js, jh, jl⟩ (by omega) (Nat.le_trans hsz1 b4.size)
        obtain ⟨A6, c6, rfl⟩ := own_slice o6
        have X6 : Box w6 g 36 (lfB xp xi xs xh xl) := (X1.call b5).grown gr6 (fun e => by have := hob g e.symm; omega)
        have F6 : Has w [(h + 1, 66, #[v, .int .i64 n]), (h, 66, #[.slice none 0 0, .int .i64 0])] w6 := ⟨fun x hx => by
          have hb := (H1.call b4).1 x hx
          simp only [List.mem_cons, List.not_mem_nil, or_false] at hx
          rcases hx with rfl | rfl
          · exact hb.below b6 (by show h + 1 < h + 2; omega)
          · exact hb.below b6 (by show h < h + 2; omega), (H1.call b4).below.trans (b6.mono (by rw [HH.out]; omega))⟩
        refine wpAnyH_ready (rs := [6]) (by kernel_rfl) (by simp) (AllReadyH.cons rfl (fun K hK => ?_) AllReadyH.nil)
        refine gen_step rfl _ _ _ rfl _ _ rfl rfl _ w6 hrun ?_
        refine hK.out _ _ (⟨X6.five0.1, X6.inside⟩) (fun hHeld => ?_)
        clear hK K
        try simp only [Act.put, List.getElem_toArray, List.getElem_cons_succ, List.getElem_cons_zero, List.setIfInBounds_toArray, List.set_cons_zero, List.set_cons_succ]
        refine wpAnyH_take (i := 7) (v := ?_) rfl (by kernel_rfl) (by kernel_rfl) (by kernel_rfl) (fun _ _ _ h => h) (Or.inl ⟨by rfl, ?_⟩) (by assumption) ?_
        rotate_left 1
        · intro w hSw; (try dsimp only at hSw); go_simp; try with_reducible rfl
        try simp only [Act.put, List.getElem_toArray, List.getElem_cons_succ, List.getElem_cons_zero, List.setIfInBounds_toArray, List.set_cons_zero, List.set_cons_succ]
        clear y0 y1 yf0 yf1 yin z0 z1 zf0 zf1 zin
        obtain ⟨y0, y1, yf0, yf1, yin⟩ := (F6.box 0).two
        refine wpAnyH_ready (rs := [8]) (by kernel_rfl) (by simp) (AllReadyH.cons rfl (fun K hK => ?_) AllReadyH.nil)
        go_simp
        have E := F6.wrote (by rw [HH.out]; omega) (fun x hx => by
          simp only [List.mem_cons, List.not_mem_nil, or_false] at hx
          rcases hx with rfl
          show h ≠ h + 1
          omega) 0 (.slice A6 (k + 1) c6)
        have o7 := own_apart o6 (p := ⟨h + 1, 0, none⟩) (fun e => by have := o6.lt _ e; simp only at this; omega) (.slice A6 (k + 1) c6)
        have X7 := X6.apart (p := ⟨h + 1, 0, none⟩) (by show g ≠ h + 1; omega) (.slice A6 (k + 1) c6)
        generalize World.setCell w6 _ _ = W9 at *
        refine hK.out _ _ (⟨X7.five0.1, X7.inside⟩) (fun hHeld => ?_)
        clear hK K
        try simp only [Act.put, List.getElem_toArray, List.getElem_cons_succ, List.getElem_cons_zero, List.setIfInBounds_toArray, List.set_cons_zero, List.set_cons_succ]
        refine wpAnyH_done (by kernel_rfl) ?_ _
        clear y0 y1 yf0 yf1 yin
        go_wp2
        go_roundg (N - (k + 1))
        case measure => have := HG.out; omega
        case rel => exact ⟨k + 1, _, by omega, Nat.le_refl _, by go_num, E, by rw [HTK.out]; exact o7⟩
      · go_simp
        clear y0 y1 yf0 yf1 yin
        go_at_call 13
        refine (cN _ (hK1.call b0) (hU1.call b0)).mono ?_
        rintro e w3 ⟨rfl, b3⟩
        have b4 := chain b0 b3
        have b5 := chainA b4 (.cells (ndB js jh jl) 46)
        obtain ⟨y0, y1, yf0, yf1, yin⟩ := (F1.call b4).two
        obtain ⟨z0, z1, zf0, zf1, zin⟩ := (F1.call b5).two
        try simp only []
        refine hK.out _ _ (hS _ b4) (fun hHeld => ?_)
        clear hK K
        try simp only [Act.put, List.getElem_toArray, List.getElem_cons_succ, List.getElem_cons_zero, List.setIfInBounds_toArray, List.set_cons_zero, List.set_cons_succ]
        refine wpAnyH_ready (rs := [1, 5]) (by kernel_rfl) (by simp) (AllReadyH.cons rfl (fun K hK => ?_) (AllReadyH.cons rfl (fun K hK => ?_) AllReadyH.nil))
        · go_simp
          refine hK.out _ _ (hS _ b4) (fun hHeld => ?_)
          clear hK K
          try simp only [Act.put, List.getElem_toArray, List.getElem_cons_succ, List.getElem_cons_zero, List.setIfInBounds_toArray, List.set_cons_zero, List.set_cons_succ]
          refine wpAnyH_ready (rs := [5]) (by kernel_rfl) (by simp) (AllReadyH.cons rfl (fun K hK => ?_) AllReadyH.nil)
          go_simp
          refine hK.out _ _ (hS _ b5) (fun hHeld => ?_)
          clear hK K
          try simp only [Act.put, List.getElem_toArray, List.getElem_cons_succ, List.getElem_cons_zero, List.setIfInBounds_toArray, List.set_cons_zero, List.set_cons_succ]
          have O3 := own_below O1 b4
          obtain ⟨v', w6, hrun, o6, gr6, b6⟩ := ndR_app1 w3 (h + 2) v k ((l.map (nodeOf n)).take k) O3 ⟨js, jh, jl⟩ (by omega) (Nat.le_trans hsz1 b4.size)
          obtain ⟨A6, c6, rfl⟩ := own_slice o6
          have X6 : Box w6 g 36 (lfB xp xi xs xh xl) := (X1.call b5).grown gr6 (fun e => by have := hob g e.symm; omega)
          have F6 : Has w [(h + 1, 66, #[v, .int .i64 n]), (h, 66, #[.slice none 0 0, .int .i64 0])] w6 := ⟨fun x hx => by
            have hb := (H1.call b4).1 x hx
            simp only [List.mem_cons, List.not_mem_nil, or_false] at hx
            rcases hx with rfl | rfl
            · exact hb.below b6 (by show h + 1 < h + 2; omega)
            · exact hb.below b6 (by show h < h + 2; omega), (H1.call b4).below.trans (b6.mono (by rw [HH.out]; omega))⟩
          refine wpAnyH_ready (rs := [6]) (by kernel_rfl) (by simp) (AllReadyH.cons rfl (fun K hK => ?_) AllReadyH.nil)
          refine gen_step rfl _ _ _ rfl _ _ rfl rfl _ w6 hrun ?_
          refine hK.out _ _ (⟨X6.five0.1, X6.inside⟩) (fun hHeld => ?_)
          clear hK K
          try simp only [Act.put, List.getElem_toArray, List.getElem_cons_succ, List.getElem_cons_zero, List.setIfInBounds_toArray, List.set_cons_zero, List.set_cons_succ]
          refine wpAnyH_take (i := 7) (v := ?_) rfl (by kernel_rfl) (by kernel_rfl) (by kernel_rfl) (fun _ _ _ h => h) (Or.inl ⟨by rfl, ?_⟩) (by assumption) ?_
          rotate_left 1
          · intro w hSw; (try dsimp only at hSw); go_simp; try with_reducible rfl
          try simp only [Act.put, List.getElem_toArray, List.getElem_cons_succ, List.getElem_cons_zero, List.setIfInBounds_toArray, List.set_cons_zero, List.set_cons_succ]
          clear y0 y1 yf0 yf1 yin z0 z1 zf0 zf1 zin
          obtain ⟨y0, y1, yf0, yf1, yin⟩ := (F6.box 0).two
          refine wpAnyH_ready (rs := [8]) (by kernel_rfl) (by simp) (AllReadyH.cons rfl (fun K hK => ?_) AllReadyH.nil)
          go_simp
          have E := F6.wrote (by rw [HH.out]; omega) (fun x hx => by
            simp only [List.mem_cons, List.not_mem_nil, or_false] at hx
            rcases hx with rfl
            show h ≠ h + 1
            omega) 0 (.slice A6 (k + 1) c6)
          have o7 := own_apart o6 (p := ⟨h + 1, 0, none⟩) (fun e => by have := o6.lt _ e; simp only at this; omega) (.slice A6 (k + 1) c6)
          have X7 := X6.apart (p := ⟨h + 1, 0, none⟩) (by show g ≠ h + 1; omega) (.slice A6 (k + 1) c6)
          generalize World.setCell w6 _ _ = W9 at *
          refine hK.out _ _ (⟨X7.five0.1, X7.inside⟩) (fun hHeld => ?_)
          clear hK K
          try simp only [Act.put, List.getElem_toArray, List.getElem_cons_succ, List.getElem_cons_zero, List.setIfInBounds_toArray, List.set_cons_zero, List.set_cons_succ]
          refine wpAnyH_done (by kernel_rfl) ?_ _
          clear y0 y1 yf0 yf1 yin
          go_wp2
          go_roundg (N - (k + 1))
          case measure => have := HG.out; omega
          case rel => exact ⟨k + 1, _, by omega, Nat.le_refl _, by go_num, E, by rw [HTK.out]; exact o7⟩
        · go_simp
          refine hK.out _ _ (hS _ b5) (fun hHeld => ?_)
          clear hK K
          try simp only [Act.put, List.getElem_toArray, List.getElem_cons_succ, List.getElem_cons_zero, List.setIfInBounds_toArray, List.set_cons_zero, List.set_cons_succ]
          refine wpAnyH_ready (rs := [1]) (by kernel_rfl) (by simp) (AllReadyH.cons rfl (fun K hK => ?_) AllReadyH.nil)
          go_simp
          refine hK.out _ _ (hS _ b5) (fun hHeld => ?_)
          clear hK K
          try simp only [Act.put, List.getElem_toArray, List.getElem_cons_succ, List.getElem_cons_zero, List.setIfInBounds_toArray, List.set_cons_zero, List.set_cons_succ]
          have O3 := own_below O1 b4
          obtain ⟨v', w6, hrun, o6, gr6, b6⟩ := ndR_app1 w3 (h + 2) v k ((l.map (nodeOf n)).take k) O3 ⟨js, jh, jl⟩ (by omega) (Nat.le_trans hsz1 b4.size)
          obtain ⟨A6, c6, rfl⟩ := own_slice o6
          have X6 : Box w6 g 36 (lfB xp xi xs xh xl) := (X1.call b5).grown gr6 (fun e => by have := hob g e.symm; omega)
          have F6 : Has w [(h + 1, 66, #[v, .int .i64 n]), (h, 66, #[.slice none 0 0, .int .i64 0])] w6 := ⟨fun x hx => by
            have hb := (H1.call b4).1 x hx
            simp only [List.mem_cons, List.not_mem_nil, or_false] at hx
            rcases hx with rfl | rfl
            · exact hb.below b6 (by show h + 1 < h + 2; omega)
            · exact hb.below b6 (by show h < h + 2; omega), (H1.call b4).below.trans (b6.mono (by rw [HH.out]; omega))⟩
          refine wpAnyH_ready (rs := [6]) (by kernel_rfl) (by simp) (AllReadyH.cons rfl (fun K hK => ?_) AllReadyH.nil)
          refine gen_step rfl _ _ _ rfl _ _ rfl rfl _ w6 hrun ?_
          refine hK.out _ _ (⟨X6.five0.1, X6.inside⟩) (fun hHeld => ?_)
          clear hK K
          try simp only [Act.put, List.getElem_toArray, List.getElem_cons_succ, List.getElem_cons_zero, List.setIfInBounds_toArray, List.set_cons_zero, List.set_cons_succ]
          refine wpAnyH_take (i := 7) (v := ?_) rfl (by kernel_rfl) (by kernel_rfl) (by kernel_rfl) (fun _ _ _ h => h) (Or.inl ⟨by rfl, ?_⟩) (by assumption) ?_
          rotate_left 1
          · intro w hSw; (try dsimp only at hSw); go_simp; try with_reducible rfl
          try simp only [Act.put, List.getElem_toArray, List.getElem_cons_succ, List.getElem_cons_zero, List.setIfInBounds_toArray, List.set_cons_zero, List.set_cons_succ]
          clear y0 y1 yf0 yf1 yin z0 z1 zf0 zf1 zin
          obtain ⟨y0, y1, yf0, yf1, yin⟩ := (F6.box 0).two
          refine wpAnyH_ready (rs := [8]) (by kernel_rfl) (by simp) (AllReadyH.cons rfl (fun K hK => ?_) AllReadyH.nil)
          go_simp
          have E := F6.wrote (by rw [HH.out]; omega) (fun x hx => by
            simp only [List.mem_cons, List.not_mem_nil, or_false] at hx
            rcases hx with rfl
            show h ≠ h + 1
            omega) 0 (.slice A6 (k + 1) c6)
          have o7 := own_apart o6 (p := ⟨h + 1, 0, none⟩) (fun e => by have := o6.lt _ e; simp only at this; omega) (.slice A6 (k + 1) c6)
          have X7 := X6.apart (p := ⟨h + 1, 0, none⟩) (by show g ≠ h + 1; omega) (.slice A6 (k + 1) c6)
          generalize World.setCell w6 _ _ = W9 at *
          refine hK.out _ _ (⟨X7.five0.1, X7.inside⟩) (fun hHeld => ?_)
          clear hK K
          try simp only [Act.put, List.getElem_toArray, List.getElem_cons_succ, List.getElem_cons_zero, List.setIfInBounds_toArray, List.set_cons_zero, List.set_cons_succ]
          refine wpAnyH_done (by kernel_rfl) ?_ _
          clear y0 y1 yf0 yf1 yin
          go_wp2
          go_roundg (N - (k + 1))
          case measure => have := HG.out; omega
          case rel => exact ⟨k + 1, _, by omega, Nat.le_refl _, by go_num, E, by rw [HTK.out]; exact o7⟩
    · have e : k = N := by omega
      subst e
      have hlti : ¬ ((k : Int) < (k : Int)) := by omega
      rw [List.take_of_length_le (by rw [List.length_map, HN.out]; exact Nat.le_refl _)] at hown
      obtain ⟨Av, cv, rfl⟩ := own_slice hown
      obtain ⟨y0, y1, yf0, yf1, yin⟩ := (H.box 0).two
      obtain ⟨z0, z1, zf0, zf1, zin⟩ := (H.box 1).two
      go_wp2
      have hw1 : w.heap.size ≤ h := Nat.le_of_eq HH.out
      have hne : ∀ x ∈ ([(h + 1, 66, #[.slice Av k cv, .int .i64 n])] : List Blk), x.1 ≠ h := fun x hx => by
        obtain rfl := List.mem_singleton.1 hx
        show h + 1 ≠ h
        omega
      have E := (H.swap.wrote hw1 hne 0 (.slice Av k cv)).wrote hw1 hne 1 (.int .i64 n)
      have o7 := own_apart (own_apart hown (p := ⟨h, 0, none⟩) (fun e => by have := hown.lt _ e; simp only at this; omega) (.slice Av k cv)) (p := ⟨h, 1, none⟩) (fun e => by have := hown.lt _ e; simp only at this; omega) (.int .i64 n)
      generalize World.setCell (World.setCell wr _ _) _ _ = W9 at *
      obtain ⟨r0, r1, -, -, -⟩ := Box.two (show Box W9 h 66 #[.slice Av k cv, .int .i64 n] from E.box 0)
      exact bodyPost_ret (v := .agg #[.slice Av k cv, .int .i64 n]) (by simp [results, Tryd.results20, go_sem, r0, r1]) rfl ⟨_, rfl, by rw [HH.out]; exact o7, E.below⟩
end Go.Proofs.YtjndabnegmecmaaDoor
/-
  Package tree: the level above one.
-/
namespace Go.Proofs.YtjndabnegmecmaaDoor
set_option linter.unusedVariables false
set_option linter.unusedSimpArgs false
set_option maxRecDepth 10000
open Go.RowKit

theorem okP_iff (n : Int) {m : Nat} {l : List Nd} (hm : l.length = m + m) : okP n (pairsK l) = true ↔ ∀ (j : Nat) x y, l[j + j]? = some x → l[j + j + 1]? = some y → (joinS n x y).2 = 0 := by
  rw [okP, List.all_eq_true]
  constructor
  · intro h j x y hx hy
    exact of_decide_eq_true (h _ (List.mem_of_getElem? (pairsK_at j l x y hx hy)))
  · intro h p hp
    obtain ⟨j, hj⟩ := List.getElem?_of_mem hp
    have hjm : j < m := by have := (List.getElem?_eq_some_iff.1 hj).1; rw [pairsK_len m l hm] at this; exact this
    obtain ⟨x, hx⟩ : ∃ x, l[j + j]? = some x := ⟨_, List.getElem?_eq_getElem (show j + j < l.length by omega)⟩
    obtain ⟨y, hy⟩ : ∃ y, l[j + j + 1]? = some y := ⟨_, List.getElem?_eq_getElem (show j + j + 1 < l.length by omega)⟩
    have := pairsK_at j l x y hx hy
    rw [hj] at this
    injection this with this
    subst this
    exact decide_eq_true (h j x y hx hy)
theorem sib_even (k : Nat) : sib (k + k) = k + k + 1 := by unfold sib; rw [if_neg (by omega)]
theorem climb_even (n : Int) (a b : Nd) (k : Nat) : climbS n a (k + k) [b] = if (joinS n a b).2 = 0 then ((joinS n a b).1, 0) else (Nd.zero, 10) := by
  have h : ¬ (k + k) % 2 = 1 := by omega
  rw [climb_one, if_neg h, if_neg h]
set_option maxRecDepth 100000 in
set_option maxHeartbeats 8000000 in
theorem above15_any (n : Int) (hmw : mayW n = true) (A : Option Addr) (c m : Nat) (l : List Nd) (hm : l.length = m + m) (hmx : m ≤ 100000) (hx : ∀ x ∈ l, x.of n = true ∧ x.halved) (w : World) (hR : ndS.Row w w.heap.size A l) (hT : Tab w) :
    Calls Tryd.prog 21 #[.agg #[.slice A l.length c, .int .i64 n]] w (fun e w' => Below w.heap.size w w' ∧
      ((okP n (pairsK l) = true ∧ ∃ v, e = .returned (.tuple #[.agg #[v, .int .i64 n], .int .i64 0]) ∧ w'.ownsRow (w.heap.size + 3) 46 3 v m (ndS.flat (pairL n l))) ∨
       (okP n (pairsK l) = false ∧ e = .returned (.tuple #[.agg #[.slice none 0 0, .int .i64 0], .int .i64 10])))) := by
  have hok := okP_iff n hm
  have hpl := pairL_len n m l hm
  have hlen : l.length ≤ 1000000 := by omega
  obtain ⟨V, hV⟩ : ∃ V, okP n (pairsK l) = V := ⟨_, rfl⟩
  rw [hV] at hok ⊢
  have HOK := hideIt hok
  clear hok hV
  obtain ⟨N, hN⟩ : ∃ N, l.length = N := ⟨_, rfl⟩
  have cOv := fun p hp hs nd hn hh u hu ht => over15_any n A c l hlen hmw hx p hp hs nd hn hh u hu ht
  rw [hN] at hm cOv hlen ⊢
  have HN := hideIt hN
  have HM := hideIt hm
  clear hN hm
  obtain ⟨h, hh⟩ : ∃ h, w.heap.size = h := ⟨_, rfl⟩
  have H0 := (((Has.start w).addAt 66 #[.slice A N c, .int .i64 n] hh).addAt 66 #[.slice none 0 0, .int .i64 0] (g := h + 1) (by simp [hh])).addAt 66 #[.slice none 0 0, .int .i64 n] (g := h + 2) (by simp [hh])
  have H00 := ((Has.start w).addAt 66 #[.slice A N c, .int .i64 n] hh).addAt 66 #[.slice none 0 0, .int .i64 0] (g := h + 1) (by simp [hh])
  go_enter Tryd.func21, Tryd.ntmps21
  go_upto_region 1 with fail
  obtain ⟨a0, a1, -, -, ain⟩ := (H00.box 1).two
  change Code.wp _ _ _ _ ((w.alloc (.cells #[.slice A N c, .int .i64 n] 66)).alloc (.cells #[.slice none 0 0, .int .i64 0] 66))
  clear H00
  go_upto_region 2 with fail
  clear a0 a1 ain
  have hs0 : (((w.alloc (.cells #[.slice A N c, .int .i64 n] 66)).alloc (.cells #[.slice none 0 0, .int .i64 0] 66)).alloc (.cells #[.slice none 0 0, .int .i64 n] 66)).heap.size = h + 3 := by simp [hh]
  change Code.wp _ _ _ _ (((w.alloc (.cells #[.slice A N c, .int .i64 n] 66)).alloc (.cells #[.slice none 0 0, .int .i64 0] 66)).alloc (.cells #[.slice none 0 0, .int .i64 n] 66))
  generalize ((w.alloc (.cells #[.slice A N c, .int .i64 n] 66)).alloc (.cells #[.slice none 0 0, .int .i64 0] 66)).alloc (.cells #[.slice none 0 0, .int .i64 n] 66) = W0 at *
  have HS0 := hideIt hs0
  have HH := hideIt hh
  clear hs0 hh
  go_wp2
  go_loopg [5] m (fun gk i wr => ∃ (k j : Nat) (v : Value), k ≤ m ∧ m - k ≤ gk ∧ i = .int .i64 j ∧ j = k + k ∧ (∀ (j : Nat) x y, j < k → l[j + j]? = some x → l[j + j + 1]? = some y → (joinS n x y).2 = 0) ∧
      Has w [(h + 2, 66, #[v, .int .i64 n]), (h + 1, 66, #[.slice none 0 0, .int .i64 0]), (h, 66, #[.slice A N c, .int .i64 n])] wr ∧ wr.ownsRow (h + 3) 46 3 v k (ndS.flat ((pairL n l).take k)))
  case atStart => exact ⟨0, 0, _, Nat.zero_le _, by omega, rfl, rfl, fun j x y hj => absurd hj (Nat.not_lt_zero _), H0, by rw [List.take_zero]; exact World.ownsRow_nil _ _ _ _⟩
  case round =>
    obtain ⟨k, j, v, hk, hgk, rfl, hj, hall, H, hown⟩ := hrel
    have HG := hideIt hgk
    have HA := hideIt hall
    have HJ := hideIt hj
    clear hgk H0 hall hj
    obtain ⟨a0, a1, af0, af1, ain⟩ := (H.box 2).two
    by_cases hlt : k < m
    · obtain ⟨a, ha⟩ : ∃ r, l[k + k]? = some r := ⟨_, List.getElem?_eq_getElem (by rw [HN.out, HM.out]; omega)⟩
      obtain ⟨b, hb⟩ : ∃ r, l[k + k + 1]? = some r := ⟨_, List.getElem?_eq_getElem (by rw [HN.out, HM.out]; omega)⟩
      have hp := pairL_at n k l a b ha hb
      have htk : (pairL n l).take (k + 1) = (pairL n l).take k ++ [(joinS n a b).1] := by rw [List.take_add_one, hp]; rfl
      obtain ⟨hao, hah⟩ := hx a (List.mem_of_getElem? ha)
      have cO := fun u hu ht => cOv (k + k) (by omega) (by rw [sib_even, HM.out]; omega) a hao hah u hu ht
      have eS : sibN l (k + k) = b := by rw [sibN, sib_even, List.getD_eq_getElem?_getD, hb]; rfl
      rw [eS, climb_even] at cO
      rw [← HJ.out] at cO
      obtain ⟨ad, rfl, g1, p0, p1, p2⟩ := nd_get (hR.on H.below) (i := j) (by rw [HJ.out]; exact ha)
      obtain ⟨⟨⟨js, jh, jl⟩, je⟩, hJ⟩ : ∃ V, joinS n a b = V := ⟨_, rfl⟩
      have HAB := hideIt (show ∀ x y, l[k + k]? = some x → l[k + k + 1]? = some y → joinS n x y = (⟨js, jh, jl⟩, je) from fun x y hx hy => by
        rw [ha] at hx
        rw [hb] at hy
        injection hx with hx
        injection hy with hy
        rw [← hx, ← hy, hJ])
      rw [hJ] at cO htk
      obtain ⟨as_, ah, al⟩ := a
      simp only [Nd.val] at cO p0 p1 p2
      have HTK := hideIt htk
      have HAX := hideIt ha
      have HBX := hideIt hb
      have hji : (j : Int) < (N : Int) := by have := HM.out; have := HJ.out; omega
      have hjn : j < N := by have := HM.out; have := HJ.out; omega
      have hjw : IntKind.u64.wrap (j : Int) = (j : Int) := by rw [IntKind.wrap_u64]; have := HJ.out; omega
      have hR4 := fun u (hb : Below wr.heap.size wr u) => hR.on (chain H.below hb)
      have hT4 := fun u (hb : Below wr.heap.size wr u) => hT.call (chain H.below hb)
      clear ha hb hp htk hJ eS hao hah
      have hgin := (H.box 0).inside
      by_cases hz : je = 0
      · subst hz
        rw [if_pos rfl] at cO
        simp only at cO
        go_upto_region 5 with fail
        go_cut [6, 7] (fun s6 s7 wx => ∃ g, s6 = .pointer (some ⟨g, 0, none⟩) ∧ s7 = .int .i64 0 ∧ Box wx g 46 (ndB js jh jl) ∧ Below wr.heap.size wr wx)
        case first =>
          go_region_held3 (fun w' => Below wr.heap.size wr w' ∧ (w'.cell? (ad.add (j * 3)) = some (.string as_) ∧ w'.cell? ⟨(ad.add (j * 3)).block, (ad.add (j * 3)).off + 1, none⟩ = some (.int .u64 ah) ∧ w'.cell? ⟨(ad.add (j * 3)).block, (ad.add (j * 3)).off + 2, none⟩ = some (.int .u64 al)) ∧
              (w'.cell? ⟨h, 0, none⟩ = some (.slice (some ad) N c) ∧ w'.cell? ⟨h, 1, none⟩ = some (.int .i64 n)))
            (exact (fun (hb : Below wr.heap.size wr _) => ⟨hb, ⟨(hb.cell (p := ad.add (j * 3)) g1).trans p0, (hb.cell (p := ⟨(ad.add (j * 3)).block, (ad.add (j * 3)).off + 1, none⟩) g1).trans p1, (hb.cell (p := ⟨(ad.add (j * 3)).block, (ad.add (j * 3)).off + 2, none⟩) g1).trans p2⟩,
                (hb.cell (p := ⟨h, 0, none⟩) ain).trans a0, (hb.cell (p := ⟨h, 1, none⟩) ain).trans a1⟩)
              (by repeat (first
                | exact Below.refl _ _
                | exact chain (by repeat (first | exact Below.refl _ _ | apply Below.drew | refine Below.alloc ?_ (by simp) _)) hb3
                | apply Below.drew
                | refine Below.alloc ?_ (by first | exact Nat.le_refl _ | (have := hb3.size; simp at this ⊢; omega)) _
                | refine Below.setCell ?_ (by first | exact Nat.le_refl _ | (have := hb3.size; simp at this ⊢; omega)) _)))
            (first
              | (go_at_call 47; ((with_reducible refine (cO _ (hR4 _ (by repeat (first | exact Below.refl _ _ | apply Below.drew | refine Below.alloc ?_ (by simp) _))) (hT4 _ (by repeat (first | exact Below.refl _ _ | apply Below.drew | refine Below.alloc ?_ (by simp) _)))).mono ?_); rintro e w3 ⟨rfl, hb3⟩)
                 first
                   | (have G3 := ((Box.made wr 46 (ndB ⟨#[]⟩ 0 0)).draw).call hb3
                      obtain ⟨k1, k2, k3, k4, k5, k6, k7⟩ := G3.three)
                   | (have G3 := (Box.made wr.drew 46 (ndB ⟨#[]⟩ 0 0)).call hb3
                      obtain ⟨k1, k2, k3, k4, k5, k6, k7⟩ := G3.three)
                   | skip))
          all_goals go_wp2_with fail
          all_goals go_meet
          · exact ⟨_, rfl, rfl, Box.made _ _ _, by
              repeat (first
                | exact Below.refl _ _
                | exact chain (by repeat (first | exact Below.refl _ _ | apply Below.drew | refine Below.alloc ?_ (by simp) _)) hb3
                | apply Below.drew
                | refine Below.alloc ?_ (by first | exact Nat.le_refl _ | (have := hb3.size; simp at this ⊢; omega)) _)⟩
          · exact ⟨_, rfl, rfl, ((G3.wrote 0 _).wrote 1 _).wrote 2 _, by
              repeat (first
                | exact Below.refl _ _
                | exact chain (by repeat (first | exact Below.refl _ _ | apply Below.drew | refine Below.alloc ?_ (by simp) _)) hb3
                | apply Below.drew
                | refine Below.setCell ?_ (by first | exact Nat.le_refl _ | (have := hb3.size; simp at this ⊢; omega)) _)⟩
        case rest =>
          obtain ⟨g, rfl, rfl, hbx, hbl⟩ := hcut
          rename World => W5
          obtain ⟨Av, cv, rfl⟩ := own_slice hown
          have H2 := H.call hbl
          have own2 := own_below hown hbl
          obtain ⟨x0, x1, x2, -, -, -, xi⟩ := hbx.three
          obtain ⟨y0, y1, yf0, yf1, yin⟩ := (H2.box 0).two
          obtain ⟨v', w6, hrun, o6, gr6, b6⟩ := ndR_app1 W5 (h + 3) _ k ((pairL n l).take k) own2 ⟨js, jh, jl⟩ (by omega) (by have := (H2.box 0).inside; omega)
          obtain ⟨A6, c6, rfl⟩ := own_slice o6
          have H6 : Has w [(h + 2, 66, #[.slice Av k cv, .int .i64 n]), (h + 1, 66, #[.slice none 0 0, .int .i64 0]), (h, 66, #[.slice (some ad) N c, .int .i64 n])] w6 := ⟨fun x hx => by
            have hb := H2.1 x hx
            simp only [List.mem_cons, List.not_mem_nil, or_false] at hx
            rcases hx with rfl | rfl | rfl
            · exact hb.below b6 (by show h + 2 < h + 3; omega)
            · exact hb.below b6 (by show h + 1 < h + 3; omega)
            · exact hb.below b6 (by show h < h + 3; omega), H2.below.trans (b6.mono (by rw [HH.out]; omega))⟩
          obtain ⟨z0, z1, zf0, zf1, zin⟩ := (H6.box 0).two
          have e2 : IntKind.i64.wrap ((j : Int) + 2) = ((j + 2 : Nat) : Int) := by rw [IntKind.wrap_i64]; have := HJ.out; omega
          obtain ⟨j2, hj2⟩ : ∃ j2, j + 2 = j2 := ⟨_, rfl⟩
          rw [hj2] at e2
          have HJ2 := hideIt hj2
          clear p0 p1 p2 cO cOv hR4 hT4 hj2 a0 a1
          go_wp2_with (first
            | (at_builtin; refine gen_run rfl _ _ _ rfl _ _ rfl rfl _ w6 hrun ?_)
            | fail)
          have E := H6.wrote (by rw [HH.out]; omega) (fun x hx => by
            simp only [List.mem_cons, List.not_mem_nil, or_false] at hx
            rcases hx with rfl | rfl <;> simp only <;> omega) 0 (.slice A6 (k + 1) c6)
          have o7 := own_apart o6 (p := ⟨h + 2, 0, none⟩) (fun e => by have := o6.lt _ e; simp only at this; omega) (.slice A6 (k + 1) c6)
          go_roundg (m - (k + 1))
          case measure => have := HG.out; omega
          case rel => exact ⟨k + 1, j2, _, by omega, Nat.le_refl _, rfl, by have := HJ.out; have := HJ2.out; omega, fun i x y hi hx hy => by
              by_cases e : i = k
              · subst e
                rw [HAB.out x y hx hy]
              · exact HA.out i x y (by omega) hx hy, E, by rw [HTK.out]; exact o7⟩
      · rw [if_neg hz] at cO
        simp only [Nd.zero] at cO
        go_upto_region 5 with fail
        go_cut [6, 7] (fun s6 s7 wx => ∃ g, s6 = .pointer (some ⟨g, 0, none⟩) ∧ s7 = .int .i64 10 ∧ Box wx g 46 (ndB ⟨#[]⟩ 0 0) ∧ Below wr.heap.size wr wx)
        case first =>
          go_region_held3 (fun w' => Below wr.heap.size wr w' ∧ (w'.cell? (ad.add (j * 3)) = some (.string as_) ∧ w'.cell? ⟨(ad.add (j * 3)).block, (ad.add (j * 3)).off + 1, none⟩ = some (.int .u64 ah) ∧ w'.cell? ⟨(ad.add (j * 3)).block, (ad.add (j * 3)).off + 2, none⟩ = some (.int .u64 al)) ∧
              (w'.cell? ⟨h, 0, none⟩ = some (.slice (some ad) N c) ∧ w'.cell? ⟨h, 1, none⟩ = some (.int .i64 n)))
            (exact (fun (hb : Below wr.heap.size wr _) => ⟨hb, ⟨(hb.cell (p := ad.add (j * 3)) g1).trans p0, (hb.cell (p := ⟨(ad.add (j * 3)).block, (ad.add (j * 3)).off + 1, none⟩) g1).trans p1, (hb.cell (p := ⟨(ad.add (j * 3)).block, (ad.add (j * 3)).off + 2, none⟩) g1).trans p2⟩,
                (hb.cell (p := ⟨h, 0, none⟩) ain).trans a0, (hb.cell (p := ⟨h, 1, none⟩) ain).trans a1⟩)
              (by repeat (first
                | exact Below.refl _ _
                | exact chain (by repeat (first | exact Below.refl _ _ | apply Below.drew | refine Below.alloc ?_ (by simp) _)) hb3
                | apply Below.drew
                | refine Below.alloc ?_ (by first | exact Nat.le_refl _ | (have := hb3.size; simp at this ⊢; omega)) _
                | refine Below.setCell ?_ (by first | exact Nat.le_refl _ | (have := hb3.size; simp at this ⊢; omega)) _)))
            (first
              | (go_at_call 47; ((with_reducible refine (cO _ (hR4 _ (by repeat (first | exact Below.refl _ _ | apply Below.drew | refine Below.alloc ?_ (by simp) _))) (hT4 _ (by repeat (first | exact Below.refl _ _ | apply Below.drew | refine Below.alloc ?_ (by simp) _)))).mono ?_); rintro e w3 ⟨rfl, hb3⟩)
                 first
                   | (have G3 := ((Box.made wr 46 (ndB ⟨#[]⟩ 0 0)).draw).call hb3
                      obtain ⟨k1, k2, k3, k4, k5, k6, k7⟩ := G3.three)
                   | (have G3 := (Box.made wr.drew 46 (ndB ⟨#[]⟩ 0 0)).call hb3
                      obtain ⟨k1, k2, k3, k4, k5, k6, k7⟩ := G3.three)
                   | skip))
          all_goals go_wp2_with fail
          all_goals go_meet
          · exact ⟨_, rfl, rfl, Box.made _ _ _, by
              repeat (first
                | exact Below.refl _ _
                | exact chain (by repeat (first | exact Below.refl _ _ | apply Below.drew | refine Below.alloc ?_ (by simp) _)) hb3
                | apply Below.drew
                | refine Below.alloc ?_ (by first | exact Nat.le_refl _ | (have := hb3.size; simp at this ⊢; omega)) _)⟩
          · exact ⟨_, rfl, rfl, ((G3.wrote 0 _).wrote 1 _).wrote 2 _, by
              repeat (first
                | exact Below.refl _ _
                | exact chain (by repeat (first | exact Below.refl _ _ | apply Below.drew | refine Below.alloc ?_ (by simp) _)) hb3
                | apply Below.drew
                | refine Below.setCell ?_ (by first | exact Nat.le_refl _ | (have := hb3.size; simp at this ⊢; omega)) _)⟩
        case rest =>
          obtain ⟨g, rfl, rfl, hbx, hbl⟩ := hcut
          rename World => W5
          have hno : V = false := by
            cases V with
            | false => rfl
            | true =>
              have := (HOK.out.1 rfl) k _ b HAX.out HBX.out
              rw [HAB.out _ b HAX.out HBX.out] at this
              exact absurd this hz
          subst hno
          have H2 := H.call hbl
          obtain ⟨y0, y1, yf0, yf1, yin⟩ := (H2.box 1).two
          clear p0 p1 p2 cO cOv hR4 hT4 a0 a1
          go_wp2
          have hw1 : w.heap.size ≤ h + 1 := by rw [HH.out]; omega
          have K2 : Has w [(h + 1, 66, #[.slice none 0 0, .int .i64 0])] W5 := ⟨fun x hx => by obtain rfl := List.mem_singleton.1 hx; exact H2.box 1, H2.below⟩
          have E := (K2.wrote hw1 (fun x hx => by simp at hx) 0 (.slice none 0 0)).wrote hw1 (fun x hx => by simp at hx) 1 (.int .i64 0)
          generalize World.setCell (World.setCell W5 _ _) _ _ = W9 at *
          obtain ⟨r0, r1, -, -, -⟩ := Box.two (show Box W9 (h + 1) 66 #[.slice none 0 0, .int .i64 0] from E.box 0)
          exact bodyPost_ret (v := .tuple #[.agg #[.slice none 0 0, .int .i64 0], .int .i64 10]) (by simp [results, Tryd.results21, go_sem, r0, r1]) rfl ⟨E.below, rfl⟩
    · have e : k = m := by omega
      subst e
      have hyes : V = true := HOK.out.2 fun i x y hx hy => HA.out i x y (by have := (List.getElem?_eq_some_iff.1 hx).1; rw [HN.out, HM.out] at this; omega) hx hy
      subst hyes
      rw [List.take_of_length_le (by omega)] at hown
      obtain ⟨Av, cv, rfl⟩ := own_slice hown
      obtain ⟨y0, y1, yf0, yf1, yin⟩ := (H.box 0).two
      obtain ⟨z0, z1, zf0, zf1, zin⟩ := (H.box 1).two
      have hji : ¬ (j : Int) < (N : Int) := by have := HM.out; have := HJ.out; omega
      have hjn : ¬ j < N := by have := HM.out; have := HJ.out; omega
      go_wp2
      have hw1 : w.heap.size ≤ h + 1 := by rw [HH.out]; omega
      have K2 : Has w [(h + 1, 66, #[.slice none 0 0, .int .i64 0])] wr := ⟨fun x hx => by obtain rfl := List.mem_singleton.1 hx; exact H.box 1, H.below⟩
      have E := (K2.wrote hw1 (fun x hx => by simp at hx) 0 (.slice Av k cv)).wrote hw1 (fun x hx => by simp at hx) 1 (.int .i64 n)
      have o7 := own_apart (own_apart hown (p := ⟨h + 1, 0, none⟩) (fun e => by have := hown.lt _ e; simp only at this; omega) (.slice Av k cv)) (p := ⟨h + 1, 1, none⟩) (fun e => by have := hown.lt _ e; simp only at this; omega) (.int .i64 n)
      generalize World.setCell (World.setCell wr _ _) _ _ = W9 at *
      obtain ⟨r0, r1, -, -, -⟩ := Box.two (show Box W9 (h + 1) 66 #[.slice Av k cv, .int .i64 n] from E.box 0)
      exact bodyPost_ret (v := .tuple #[.agg #[.slice Av k cv, .int .i64 n], .int .i64 0]) (by simp [results, Tryd.results21, go_sem, r0, r1]) rfl ⟨E.below, _, rfl, by rw [HH.out]; exact o7⟩
end Go.Proofs.YtjndabnegmecmaaDoor
/-
  Package tree: a tree of leaves is built, level by level.
-/
namespace Go.Proofs.YtjndabnegmecmaaDoor
set_option linter.unusedVariables false
set_option linter.unusedSimpArgs false
set_option maxRecDepth 10000
open Go.RowKit

def lvE : El lvS := ⟨68, 66, .agg #[.slice none 0 0, .int .i64 0], 32, Tryd.underlying68, by kernel_rfl, rfl, by decide⟩
abbrev lvB (b n c : Nat) (w : Int) : Array Value := #[.slice (some ⟨b, 0, none⟩) n c, .int .i64 w]
theorem lv_app1 (w : World) (base : Nat) (v : Value) (n : Nat) (ys : List LvP) (hown : w.ownsRow base 66 2 v n (lvS.flat ys)) (b m c : Nat) (x : Int) (hm : n ≤ 100000000) (hb : base ≤ w.heap.size) :
    ∃ v' w', (∀ ty, (Builtin.append_ #[68, 68] ty #[v, .slice (some ⟨w.heap.size, 0, none⟩) 1 1]).run Tryd.prog (w.alloc (.cells (lvB b m c x) 66)) = .ok v' w') ∧
      w'.ownsRow base 66 2 v' (n + 1) (lvS.flat (ys ++ [⟨b, m, c, x⟩])) ∧ (w.alloc (.cells (lvB b m c x) 66)).grownBy w' v.ownBlock ∧ Below base w w' := lvE.app1 w base v n ys hown ⟨b, m, c, x⟩ _ rfl hm hb
theorem own_type {W : World} {b k n g : Nat} {T T' : TypeId} {v : Value} {xs : List Value} {cur : Array Value} (h : W.ownsRow b T k v n xs) (hb : Box W g T' cur) (ht : T ≠ T') : some g ≠ v.ownBlock := fun e => by
  rcases h.2 with ⟨h1, h2⟩ | ⟨g', cap, cur', hv, hg, hh, -⟩
  · rw [h1] at e; cases e
  · rw [hv] at e
    injection e with e
    simp only at e
    subst e
    unfold Box at hb
    rw [hh] at hb
    injection hb with hb
    injection hb with e1 e2 e3
    exact ht e2
theorem Sh.Blk.grown {α : Type} {S : Sh α} {W W' : World} {b k n g : Nat} {T T' : TypeId} {v : Value} {xs : List Value} {l : List α} (h : S.Blk W T' g l) (ho : W.ownsRow b T k v n xs) (ht : T ≠ T') (hg : W.grownBy W' v.ownBlock) : S.Blk W' T' g l := by
  obtain ⟨cur, rest, hb, he⟩ := h
  exact ⟨cur, rest, hb.grown hg (own_type ho hb ht), he⟩
/-- The levels so far, each in a block of its own. -/
def LvAll (W : World) (lo : Nat) (w : Int) (ns : List Nd) (k : Nat) (ls : List LvP) : Prop :=
  (∀ (i : Nat) v, ls[i]? = some v → v.w = w ∧ v.n = 2 ^ (k - i) ∧ v.n ≤ v.c ∧ ndS.Blk W 46 v.b (upN w i ns) ∧ lo ≤ v.b) ∧ (∀ (i j : Nat) u v, ls[i]? = some u → ls[j]? = some v → u.b = v.b → i = j)
section
variable {W W' : World} {lo k : Nat} {w : Int} {ns : List Nd} {ls : List LvP}
theorem LvAll.keep (h : LvAll W lo w ns k ls) (e : ∀ (i : Nat) v, ls[i]? = some v → W'.heap[v.b]? = W.heap[v.b]?) : LvAll W' lo w ns k ls :=
  ⟨fun i v hv => by obtain ⟨h1, h2, h3, h4, h5⟩ := h.1 i v hv; exact ⟨h1, h2, h3, h4.keep (e i v hv), h5⟩, h.2⟩
theorem LvAll.call (h : LvAll W lo w ns k ls) (hb : Below W.heap.size W W') : LvAll W' lo w ns k ls := h.keep fun i v hv => hb.block _ (h.1 i v hv).2.2.2.1.inside
theorem LvAll.grown {b m n : Nat} {T : TypeId} {v : Value} {xs : List Value} (h : LvAll W lo w ns k ls) (ho : W.ownsRow b T m v n xs) (ht : T ≠ 46) (hg : W.grownBy W' v.ownBlock) : LvAll W' lo w ns k ls :=
  ⟨fun i u hu => by obtain ⟨h1, h2, h3, h4, h5⟩ := h.1 i u hu; exact ⟨h1, h2, h3, h4.grown ho ht hg, h5⟩, h.2⟩
theorem LvAll.set_ {g : Nat} {T : TypeId} {cs : Array Value} (h : LvAll W lo w ns k ls) (hb : Box W g T cs) (ht : 46 ≠ T) (i : Nat) (u : Value) : LvAll (W.setCell ⟨g, i, none⟩ u) lo w ns k ls :=
  h.keep fun j v hv => Below.heap_setCell W _ u v.b (by
    obtain ⟨cur, rest, hx, -⟩ := (h.1 j v hv).2.2.2.1
    exact hx.type_ne hb ht)
theorem LvAll.one {b n c : Nat} (hb : ndS.Blk W 46 b ns) (hlo : lo ≤ b) (hn : n = 2 ^ k) (hc : n ≤ c) : LvAll W lo w ns k [⟨b, n, c, w⟩] := by
  refine ⟨fun i v hv => ?_, fun i j u v hu hv _ => ?_⟩
  · match i, hv with
    | 0, hv =>
      obtain rfl : LvP.mk b n c w = v := by simpa using hv
      exact ⟨rfl, hn, hc, hb, hlo⟩
  · have h1 := (List.getElem?_eq_some_iff.1 hu).1
    have h2 := (List.getElem?_eq_some_iff.1 hv).1
    simp only [List.length_cons, List.length_nil] at h1 h2
    omega
theorem LvAll.snoc {b n c : Nat} (h : LvAll W lo w ns k ls) (hb : ndS.Blk W 46 b (upN w ls.length ns)) (hlo : lo ≤ b) (hn : n = 2 ^ (k - ls.length)) (hc : n ≤ c) (hnew : ∀ (i : Nat) v, ls[i]? = some v → v.b ≠ b) : LvAll W lo w ns k (ls ++ [⟨b, n, c, w⟩]) := by
  have get : ∀ (i : Nat) v, (ls ++ [LvP.mk b n c w])[i]? = some v → ls[i]? = some v ∨ (i = ls.length ∧ v = ⟨b, n, c, w⟩) := fun i v hv => by
    by_cases hi : i < ls.length
    · rw [List.getElem?_append_left hi] at hv; exact Or.inl hv
    · rw [List.getElem?_append_right (by omega)] at hv
      have h1 := (List.getElem?_eq_some_iff.1 hv).1
      simp only [List.length_cons, List.length_nil] at h1
      have e : i = ls.length := by omega
      subst e
      rw [Nat.sub_self] at hv
      exact Or.inr ⟨rfl, by simpa using hv.symm⟩
  refine ⟨fun i v hv => ?_, fun i j u v hu hv e => ?_⟩
  · rcases get i v hv with hv | ⟨rfl, rfl⟩
    · exact h.1 i v hv
    · exact ⟨rfl, hn, hc, hb, hlo⟩
  · rcases get i u hu with hu | ⟨rfl, rfl⟩ <;> rcases get j v hv with hv | ⟨rfl, rfl⟩
    · exact h.2 i j u v hu hv e
    · exact absurd e (hnew i u hu)
    · exact absurd e.symm (hnew j v hv)
    · rfl
end
set_option maxRecDepth 100000 in
set_option maxHeartbeats 4000000 in
theorem new15_bad (n : Int) (A : Option Addr) (c : Nat) (l : List Lf) (hl : l.length ≤ 9223372036854775807) (hs : ∀ x ∈ l, x.id.size ≤ 9223372036854775807 ∧ x.salt.size ≤ 9223372036854775807) (E : Int) (hE : wrongT n l = E) (h0 : E ≠ 0)
    (w : World) (hR : lfS.Row w w.heap.size A l) (hU : TabU w) :
    Calls Tryd.prog 8 #[.int .i64 n, .slice A l.length c] w (Tells (.tuple #[.pointer none, .int .i64 E]) w.heap.size w) := by
  have cW := fun u hu hv => wrong15_any n A c l hl hs u hu hv
  rw [hE] at cW
  have q0 : (E != 0) = true := bne_iff_ne.2 h0
  clear hE
  go_enter Tryd.func8, Tryd.ntmps8
  go_wp2_with (first | (go_at_call 19; refine (cW _ hR hU).mono ?_; rintro e w1 ⟨rfl, j1⟩) | fail)
  refine bodyPost_ret (results_tmp2 rfl _ _ _) rfl ?_
  exact ⟨rfl, j1⟩
theorem mayN_pow : ∀ k : Nat, k < 11 → mayN (2 ^ k) = true := by decide +kernel
theorem room_one {l : List Nd} (h : l.length = 1) (hh : ∀ x ∈ l, x.halved) : room (sumN l) = true := by
  obtain ⟨x, rfl⟩ := List.length_eq_one_iff.1 h
  have := Nd.sum_fine (hh x (by simp))
  simp only [sumN]
  exact room_iff.2 (by omega)
/-- What holds behind so many levels. -/
def NewI (w : World) (n : Int) (ns : List Nd) (k b7 : Nat) (j : Nat) (v8 : Value) (wr : World) : Prop :=
  ∃ (b c : Nat) (ls : List LvP), Has w [(b7, 66, lvB b (2 ^ (k - j)) c n)] wr ∧ wr.ownsRow (b7 + 1) 66 2 v8 (j + 1) (lvS.flat ls) ∧ ls.length = j + 1 ∧ ls[j]? = some ⟨b, 2 ^ (k - j), c, n⟩ ∧ LvAll wr w.heap.size n ns k ls ∧
    (∀ x ∈ upN n j ns, x.of n = true ∧ x.halved) ∧ sumN (upN n j ns) = sumN ns
set_option maxRecDepth 100000 in
set_option maxHeartbeats 8000000 in
theorem new15_any (n : Int) (A : Option Addr) (c : Nat) (l : List Lf) (k : Nat) (hmw : mayW n = true) (hlen : l.length = 2 ^ k) (hk : k ≤ 10) (hall : ∀ x ∈ l, x.may = true ∧ Word x.h ∧ Word x.l)
    (w : World) (hR : lfS.Row w w.heap.size A l) (hK : Tab w) (hU : TabU w) :
    Calls Tryd.prog 8 #[.int .i64 n, .slice A l.length c] w (fun e w' => Below w.heap.size w w' ∧
      ((room (sumN (l.map (nodeOf n))) = true ∧ ∃ q : TrG, e = .returned (.tuple #[.pointer (some ⟨q.g, 0, none⟩), .int .i64 0]) ∧ TrAt w' q n l k ∧ q.within w.heap.size w'.heap.size) ∨
       (room (sumN (l.map (nodeOf n))) = false ∧ e = .returned (.tuple #[.pointer none, .int .i64 10])))) := by
  have hpk : 2 ^ k ≤ 1024 := Nat.pow_le_pow_right (by decide) hk
  have hsz : ∀ x ∈ l, x.id.size ≤ 96 ∧ x.salt.size ≤ 32 := fun x hx => mayT_sizes (hall x hx).1
  have cW := fun u hu hv => wrong15_any n A c l (by omega) (fun x hx => ⟨by have := hsz x hx; omega, by have := hsz x hx; omega⟩) u hu hv
  have hW0 : wrongT n l = 0 := by
    rw [wrongT, if_pos hmw, hlen, mayN_pow k (by omega), if_pos rfl, if_pos (List.all_eq_true.2 fun x hx => (hall x hx).1)]
  rw [hW0] at cW
  have cG := fun u hu hv hw => ground15_any n A c l (by omega) (fun x hx => ⟨⟨by have := hsz x hx; omega, by have := hsz x hx; omega⟩, (hall x hx).2⟩) u hu hv hw
  have cT := fun u hu => twinLf_any A c l (by omega) (fun x hx => ⟨by have := hsz x hx; omega, by have := hsz x hx; omega⟩) u hu
  obtain ⟨hh, ho⟩ := nodes_fine hmw hall
  have hnl : (l.map (nodeOf n)).length = l.length := List.length_map _
  have HNS : ∃ ns, l.map (nodeOf n) = ns := ⟨_, rfl⟩
  obtain ⟨ns, hns⟩ := HNS
  rw [hns] at cG hh ho hnl ⊢
  have HNS := hideIt hns
  obtain ⟨N, hN⟩ : ∃ N, l.length = N := ⟨_, rfl⟩
  rw [hN] at cW cG cT hnl hlen ⊢
  have HN := hideIt hN
  have HL := hideIt hlen
  have HNL := hideIt hnl
  obtain ⟨R, hRm⟩ : ∃ R, room (sumN ns) = R := ⟨_, rfl⟩
  rw [hRm]
  have HRM := hideIt hRm
  clear hns hN hlen hnl hW0 hRm
  have hne0 : ns ≠ [] := fun e => by
    have h := HNL.out
    rw [e, HL.out, List.length_nil] at h
    have := Nat.two_pow_pos k
    omega
  go_enter Tryd.func8, Tryd.ntmps8
  go_upto_region 5 with (first
    | (go_at_call 19; refine (cW _ hR hU).mono ?_; rintro e w1 ⟨rfl, b1⟩)
    | (go_at_call 20; refine (cG _ (hR.on b1) (hK.call b1) (hU.call b1)).mono ?_; rintro e w2 ⟨v2, rfl, o2, b2⟩; obtain ⟨Av2, cv2, rfl⟩ := own_slice o2)
    | fail)
  rw [← HNL.out] at o2
  obtain ⟨g2, c2, hv2, hg2, hc2, B2⟩ := Sh.Blk.of_own (S := ndS) o2 hne0
  rw [HNL.out] at hv2 hc2
  injection hv2 with hv2 _ hv3
  subst hv2 hv3
  have b12 := chain b1 b2
  obtain ⟨b7, hb7⟩ : ∃ g, w2.heap.size = g := ⟨_, rfl⟩
  have hw7 : w.heap.size ≤ b7 := by rw [← hb7]; exact b12.size
  have K3 := ((Has.start w).call b12).addAt 66 (lvB g2 N cv2 n) hb7
  have B3 := B2.call (chainA (Below.refl w2.heap.size w2) (.cells (lvB g2 N cv2 n) 66))
  have hs3 : (w2.alloc (.cells (lvB g2 N cv2 n) 66)).heap.size = b7 + 1 := by simp [hb7]
  rw [hb7]
  change Code.wp _ _ _ _ (w2.alloc (.cells (lvB g2 N cv2 n) 66))
  generalize w2.alloc (.cells (lvB g2 N cv2 n) 66) = W3 at *
  have hgw2 : w.heap.size ≤ g2 := by have := b1.size; omega
  clear b12 b2 b1 o2 hb7 cW cG B2 hg2
  obtain ⟨x0, x1, -, -, xin⟩ := (K3.box 0).two
  have K4 := K3.past (.cells (lvB g2 N cv2 n) 66)
  have B4 := B3.call (chainA (Below.refl W3.heap.size W3) (.cells (lvB g2 N cv2 n) 66))
  have o4 := World.ownsRow_lit (base := b7 + 1) (e := 66) (size := 2) W3 (lvB g2 N cv2 n) 1 (Nat.le_of_eq hs3.symm) (by unfold maxLen; omega) rfl
  rw [hs3] at o4
  go_upto_region 6 with fail
  change Code.wp _ _ _ _ (W3.alloc (.cells (lvB g2 N cv2 n) 66))
  generalize W3.alloc (.cells (lvB g2 N cv2 n) 66) = W4 at *
  clear x0 x1 xin K3 B3 hs3
  have I4 : NewI w n ns k b7 0 (.slice (some ⟨b7 + 1, 0, none⟩) 1 1) W4 :=
    ⟨g2, cv2, [⟨g2, N, cv2, n⟩], by rw [Nat.sub_zero, ← HL.out]; exact K4, o4, rfl, by rw [Nat.sub_zero, ← HL.out]; rfl, LvAll.one B4 hgw2 HL.out hc2, fun x hx => ⟨ho x hx, hh x hx⟩, rfl⟩
  clear K4 B4 o4 hc2 hgw2
  go_loopg [8] k (fun gk v8 wr => ∃ j : Nat, j ≤ k ∧ k - j ≤ gk ∧ NewI w n ns k b7 j v8 wr)
  case atStart => exact ⟨0, Nat.zero_le _, by omega, I4⟩
  case round =>
    obtain ⟨j, hj, hgk, b, cb, ls, H, own8, hll, hlast, hLv, hgood, hsum⟩ := hrel
    have HG := hideIt hgk
    have HLL := hideIt hll
    have HLA := hideIt hlast
    have HSM := hideIt hsum
    clear hgk I4 hll hlast hsum
    obtain ⟨y0, y1, yf0, yf1, yin⟩ := (H.box 0).two
    obtain ⟨-, -, hcb, hBj, -⟩ := hLv.1 j _ HLA.out
    simp only at hcb hBj
    have hul := upN_len n (k := k) (by rw [HNL.out, HL.out]) j hj
    by_cases hlt : j < k
    · obtain ⟨m, hm⟩ : ∃ m, 2 ^ (k - (j + 1)) = m := ⟨_, rfl⟩
      have hm1 : 1 ≤ m := by rw [← hm]; exact Nat.two_pow_pos _
      have hmle : m ≤ 1024 := by rw [← hm]; exact Nat.le_trans (Nat.pow_le_pow_right (by decide) (by omega)) (Nat.pow_le_pow_right (by decide) hk)
      have hM : 2 ^ (k - j) = m + m := by rw [← hm, show k - j = k - (j + 1) + 1 by omega, pow_two]
      have hM2 := hul.trans hM
      have cA := fun u hu hv => above15_any n hmw (some ⟨b, 0, none⟩) cb m (upN n j ns) hM2 (by omega) hgood u hu hv
      have hfine := pairs_fine hmw m (upN n j ns) hM2 (fun x hx => (hgood x hx).2)
      have hnone := pairs_none (w := n) m (upN n j ns) hM2 (fun x hx => (hgood x hx).2)
      rw [HSM.out] at hfine hnone
      rw [hul] at cA
      obtain ⟨M, hMM⟩ : ∃ M, 2 ^ (k - j) = M := ⟨_, rfl⟩
      rw [hMM] at cA H y0 hcb hM
      have HMM := hideIt hMM
      have HM := hideIt hM
      have HMS := hideIt hm
      have h1M : (1 : Int) < (M : Int) := by omega
      have h1N : 1 < M := by omega
      have hRj := hBj.row
      have hTj := hK.call H.below
      clear hul hM hMM hm
      cases hok : okP n (pairsK (upN n j ns)) with
      | false =>
        rw [hok] at cA
        have hno := hnone hok
        rw [HRM.out] at hno
        subst hno
        clear hfine hnone hok
        go_wp2_with (first
          | (go_at_call 21; refine (cA _ hRj hTj).mono ?_; rintro e w5 ⟨b5, ⟨h0, -⟩ | ⟨-, rfl⟩⟩; exact absurd h0 (by decide))
          | fail)
        refine bodyPost_ret (results_tmp2 rfl _ _ _) rfl ?_
        exact ⟨chainA (chain H.below b5) _, rfl⟩
      | true =>
        rw [hok] at cA
        obtain ⟨f1, f2, f3⟩ := hfine hok
        have F3 := hideIt f3
        clear hfine hnone hok f3
        go_upto_region 8 with (first
          | (go_at_call 21; refine (cA _ hRj hTj).mono ?_; rintro e w5 ⟨b5, ⟨-, v5, rfl, o5⟩ | ⟨h0, -⟩⟩; rotate_left 1; exact absurd h0 (by decide); obtain ⟨Av5, cv5, rfl⟩ := own_slice o5)
          | fail)
        have hl1 := (upN_len n (k := k) (by rw [HNL.out, HL.out]) (j + 1) (by omega)).trans HMS.out
        have o6 : w5.ownsRow (wr.heap.size + 3) 46 3 (.slice Av5 m cv5) (upN n (j + 1) ns).length (ndS.flat (upN n (j + 1) ns)) := by rw [hl1]; exact o5
        obtain ⟨g5, c5, hv5, hg5, hc5, B5⟩ := Sh.Blk.of_own (S := ndS) o6 (fun e => by rw [e, List.length_nil] at hl1; omega)
        rw [hl1] at hv5 hc5
        injection hv5 with hv5 _ hv6
        subst hv5 hv6
        have K5 := (H.call b5)
        have own5 := own_below own8 b5
        have L5 := hLv.call b5
        have hvb : ∀ (i : Nat) v, ls[i]? = some v → v.b < wr.heap.size := fun i v hv => (hLv.1 i v hv).2.2.2.1.inside
        have hob : ∀ r, u8.ownBlock = some r → r < wr.heap.size := fun r hr => (own8.lt r hr).2
        clear o5 o6 cA hRj hTj hBj hLv own8 y0 y1 yf0 yf1 yin
        obtain ⟨b9, hb9⟩ : ∃ g, w5.heap.size = g := ⟨_, rfl⟩
        have h79 : b7 < b9 := by rw [← hb9]; exact (K5.box 0).inside
        have K6 := K5.addAt 66 (lvB g5 m cv5 n) hb9
        have own6 := own5.alloc (.cells (lvB g5 m cv5 n) 66)
        have L6 := L5.call (chainA (Below.refl w5.heap.size w5) (.cells (lvB g5 m cv5 n) 66))
        have B6 := B5.call (chainA (Below.refl w5.heap.size w5) (.cells (lvB g5 m cv5 n) 66))
        have hwr := H.size
        have hr9 : wr.heap.size ≤ b9 := by rw [← hb9]; exact b5.size
        rw [hb9]
        change Code.wp _ _ _ _ (w5.alloc (.cells (lvB g5 m cv5 n) 66))
        have hs6 : (w5.alloc (.cells (lvB g5 m cv5 n) 66)).heap.size = b9 + 1 := by simp [hb9]
        generalize w5.alloc (.cells (lvB g5 m cv5 n) 66) = W6 at *
        have hb76 : b7 + 1 ≤ W6.heap.size := by omega
        obtain ⟨v8, w8, hrun, o8, gr8, b8⟩ := lv_app1 W6 (b7 + 1) u8 (j + 1) ls own6 g5 m cv5 n (by omega) hb76
        obtain ⟨A8, c8, rfl⟩ := own_slice o8
        have own7 := own6.alloc (.cells (lvB g5 m cv5 n) 66)
        have L8 := (L6.call (chainA (Below.refl W6.heap.size W6) (.cells (lvB g5 m cv5 n) 66))).grown own7 (by decide) gr8
        have B8 := (B6.call (chainA (Below.refl W6.heap.size W6) (.cells (lvB g5 m cv5 n) 66))).grown own7 (by decide) gr8
        have X9 := ((K6.box 0).past (.cells (lvB g5 m cv5 n) 66)).grown gr8 (fun e => by have := hob b9 e.symm; omega)
        have X7 := (K6.box 1).below b8 (by omega)
        have hBw : Below w.heap.size w w8 := K6.below.trans (b8.mono (by omega))
        obtain ⟨x0, x1, xf0, xf1, xin⟩ := (K6.box 0).two
        obtain ⟨y0, y1, yf0, yf1, yin⟩ := X9.two
        obtain ⟨z0, z1, zf0, zf1, zin⟩ := X7.two
        clear K5 own5 L5 B5 L6 B6 own6 own7 hs6 hb9
        go_wp2_with (first
          | (at_builtin; refine gen_run rfl _ _ _ rfl _ _ rfl rfl _ w8 hrun ?_)
          | fail)
        have E : Has w [(b7, 66, lvB g5 m cv5 n)] _ := ((show Has w [(b7, 66, lvB b M cb n)] w8 from ⟨fun x hx => by obtain rfl := List.mem_singleton.1 hx; exact X7, hBw⟩).wrote hw7 (fun x hx => by simp at hx) 0 (.slice (some ⟨g5, 0, none⟩) m cv5)).wrote hw7 (fun x hx => by simp at hx) 1 (.int .i64 n)
        have o9 := own_apart (own_apart o8 (p := ⟨b7, 0, none⟩) (fun e => by have := o8.lt _ e; simp only at this; omega) (.slice (some ⟨g5, 0, none⟩) m cv5)) (p := ⟨b7, 1, none⟩) (fun e => by have := o8.lt _ e; simp only at this; omega) (.int .i64 n)
        have X71 := X7.wrote 0 (.slice (some ⟨g5, 0, none⟩) m cv5)
        have L9 := (L8.set_ X7 (by decide) 0 (.slice (some ⟨g5, 0, none⟩) m cv5)).set_ X71 (by decide) 1 (.int .i64 n)
        have B9 : ndS.Blk ((w8.setCell ⟨b7, 0, none⟩ (.slice (some ⟨g5, 0, none⟩) m cv5)).setCell ⟨b7, 1, none⟩ (.int .i64 n)) 46 g5 (upN n (j + 1) ns) := by
          obtain ⟨cur, rest, hx, he⟩ := B8
          have hne := hx.type_ne X7 (by decide)
          exact ⟨cur, rest, (hx.apart (p := ⟨b7, 0, none⟩) hne _).apart (p := ⟨b7, 1, none⟩) hne _, he⟩
        generalize World.setCell (World.setCell w8 _ _) _ _ = W9 at *
        go_roundg (k - (j + 1))
        case measure => have := HG.out; omega
        case rel => exact ⟨j + 1, by omega, Nat.le_refl _, g5, cv5, ls ++ [⟨g5, m, cv5, n⟩], by rw [HMS.out]; exact E, o9, by rw [List.length_append, HLL.out]; rfl,
            by rw [HMS.out, List.getElem?_append_right (by rw [HLL.out]; exact Nat.le_refl _), HLL.out, Nat.sub_self]; rfl,
            L9.snoc (by rw [HLL.out]; exact B9) (by omega) (by rw [HLL.out, HMS.out]) hc5 (fun i v hv e => by have := hvb i v hv; omega), fun x hx => ⟨f2 x hx, f1 x hx⟩, F3.out⟩
    · have e : j = k := by omega
      subst e
      rw [Nat.sub_self, Nat.pow_zero] at y0 hul
      have hyes : R = true := by rw [← HRM.out, ← HSM.out]; exact room_one hul (fun x hx => (hgood x hx).2)
      subst hyes
      rw [← HLL.out] at own8
      obtain ⟨gv, cv, rfl, hgv, hcv, Bv⟩ := Sh.Blk.of_own (S := lvS) own8 (fun e => by have := HLL.out; rw [e, List.length_nil] at this; omega)
      have hRw := hR.on H.below
      rw [HLL.out]
      go_wp2_with (first
        | (go_at_call 22; refine (cT _ hRw).mono ?_; rintro e w5 ⟨b5, g5, rfl, hg5, B5⟩)
        | fail)
      refine bodyPost_ret (results_tmp2 rfl _ _ _) rfl ?_
      have hb6 := chainA (Below.refl w5.heap.size w5) (.cells #[.slice (some ⟨g5, 0, none⟩) N N, .slice (some ⟨gv, 0, none⟩) (j + 1) cv] 75)
      have L5 := (hLv.call b5).call hb6
      have hwr := H.size
      have hw5 := b5.size
      have hT : TrAt (w5.alloc (.cells #[.slice (some ⟨g5, 0, none⟩) N N, .slice (some ⟨gv, 0, none⟩) (j + 1) cv] 75)) ⟨w5.heap.size, g5, N, gv, cv, ls⟩ n l j :=
        ⟨by rw [HN.out]; exact Box.made _ _ _, B5.call hb6, (Bv.call b5).call hb6, HLL.out, by rw [HLL.out] at hcv; exact hcv, fun i v hv => by rw [HNS.out]; exact ⟨(L5.1 i v hv).1, (L5.1 i v hv).2.1, (L5.1 i v hv).2.2.1, (L5.1 i v hv).2.2.2.1⟩, L5.2⟩
      have hin := hT.inside
      exact ⟨chainA (chain H.below b5) _, ⟨w5.heap.size, g5, N, gv, cv, ls⟩, rfl, hT, ⟨by show w.heap.size ≤ w5.heap.size; omega, hin.1.2⟩, ⟨by show w.heap.size ≤ g5; omega, hin.2.1.2⟩, ⟨by show w.heap.size ≤ gv; omega, hin.2.2.1.2⟩, fun i v hv => ⟨(L5.1 i v hv).2.2.2.2, (hin.2.2.2 i v hv).2⟩⟩
end Go.Proofs.YtjndabnegmecmaaDoor
