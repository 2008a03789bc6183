/-
  What is digested on an entry's way, walked: the law's texts.
-/
import Derived.Test.YtkecekfapiegjaaDoorM17Opn
namespace Go.Proofs.YtkecekfapiegjaaDoor
set_option linter.unusedVariables false
set_option linter.unusedSimpArgs false
set_option maxRecDepth 10000
open Go.RowKit

/-- A text's cell; rows of them. -/
def tS : Sh ByteArray where
  cells x := [.string x]
  k := 1
  len _ := rfl
  pos := by decide
  one x u hu := by
    simp only [List.mem_cons, List.not_mem_nil, or_false] at hu
    subst hu
    rfl
def tE : El tS := ⟨67, 9, .string ⟨#[]⟩, 16, Tryd.underlying67, by kernel_rfl, rfl, by decide⟩
theorem t_get {w : World} {B : Nat} {A : Option Addr} {xs : List ByteArray} (h : tS.Row w B A xs) {i : Nat} {x : ByteArray} (hx : xs[i]? = some x) : ∃ ad, A = some ad ∧ (ad.add i).block < B ∧ w.cell? (ad.add i) = some (.string x) := by
  obtain ⟨ad, e, hl, hc⟩ := h i x hx
  have h0 := hc 0 (.string x) rfl
  rw [show i * tS.k = i from Nat.mul_one i] at h0
  exact ⟨ad, e, by rw [gen_block]; exact hl, h0⟩
theorem t_app1 (w : World) (base : Nat) (v : Value) (n : Nat) (ys : List ByteArray) (hown : w.ownsRow base 9 1 v n (tS.flat ys)) (x : ByteArray) (hm : n ≤ 100000000) (hb : base ≤ w.heap.size) :
    ∃ v' w', (∀ ty, (Builtin.append_ #[67, 67] ty #[v, .slice (some ⟨w.heap.size, 0, none⟩) 1 1]).run Tryd.prog (w.alloc (.cells #[.string x] 9)) = .ok v' w') ∧
      w'.ownsRow base 9 1 v' (n + 1) (tS.flat (ys ++ [x])) ∧ (w.alloc (.cells #[.string x] 9)).grownBy w' v.ownBlock ∧ Below base w w' := tE.app1 w base v n ys hown x _ rfl hm hb
theorem Box.grown17 {W W' : World} {g b k n : Nat} {t T : TypeId} {v : Value} {cs : Array Value} {xs : List Value} (z : Box W g t cs) (ho : W.ownsRow b T k v n xs) (hT : t ≠ T) (hg : W.grownBy W' v.ownBlock) : Box W' g t cs :=
  (hg.block g z.inside (own_ty ho z hT)).trans z
theorem own_apart17 {W : World} {g b k n : Nat} {t T : TypeId} {v : Value} {cs : Array Value} {xs : List Value} (ho : W.ownsRow b T k v n xs) (z : Box W g t cs) (hT : t ≠ T) (i : Nat) (u : Value) : (W.setCell ⟨g, i, none⟩ u).ownsRow b T k v n xs :=
  own_apart ho (fun e => own_ty ho z hT e.symm) u
theorem and_bit17 (q : Nat) (hq : q < 18446744073709551616) : bits .and .u64 (q : Int) 1 = ((q % 2 : Nat) : Int) := by
  rw [show (1 : Int) = ((1 : Nat) : Int) from rfl, u64_and_nat q 1 hq (by decide), Nat.and_one_is_mod]
/-- Two sums, by halves. -/
theorem sum_carry {ah al bh bl : Int} (a1 : Word ah) (a0 : Word al) (b1 : Word bh) (b0 : Word bl) (hr : room (nv ah al + nv bh bl) = true) :
    IntKind.u64.wrap (al + bl) = rl (nv ah al + nv bh bl) ∧ IntKind.u64.wrap (ah + bh) = ah + bh ∧ (rl (nv ah al + nv bh bl) < al → rh (nv ah al + nv bh bl) = ah + bh + 1 ∧ IntKind.u64.wrap (ah + bh + 1) = ah + bh + 1) ∧ (¬ rl (nv ah al + nv bh bl) < al → rh (nv ah al + nv bh bl) = ah + bh) := by
  have hr2 := room_iff.1 hr
  rw [rl_yes hr, rh_yes hr]
  unfold nv at *
  simp only [IntKind.wrap_u64]
  have h1 := a1.1
  have h2 := a1.2
  have h3 := a0.1
  have h4 := a0.2
  have h5 := b1.1
  have h6 := b1.2
  have h7 := b0.1
  have h8 := b0.2
  refine ⟨by omega, by omega, fun h => ⟨by omega, by omega⟩, fun h => by omega⟩
theorem range_txt (f : Nat → ByteArray) (k : Nat) : (List.range (k + 1)).map f ++ [f (k + 1)] = (List.range (k + 1 + 1)).map f := by
  rw [List.range_succ (n := k + 1), List.map_append]
  rfl
/-- What texts tells. -/
structure TxtP (w : World) (F : Nat → ByteArray) (N : Nat) (e : Ending) (w' : World) : Prop where
  below : Below w.heap.size w w'
  rows : ∃ A' c', e = .returned (.slice A' (N + 1) c') ∧ tS.Row w' w'.heap.size A' ((List.range (N + 1)).map F)
theorem put_three17 {W : World} {g : Nat} {T : TypeId} {a b c : Value} (z : Box W g T #[a, b, c]) (s : ByteArray) (h l : Int) :
    Box (World.setCell (World.setCell (World.setCell W ⟨g, 0, none⟩ (.string s)) ⟨g, 1, none⟩ (.int .u64 h)) ⟨g, 2, none⟩ (.int .u64 l)) g T (ndB s h l) ∧
      Off (One g) W (World.setCell (World.setCell (World.setCell W ⟨g, 0, none⟩ (.string s)) ⟨g, 1, none⟩ (.int .u64 h)) ⟨g, 2, none⟩ (.int .u64 l)) :=
  ⟨((z.wrote 0 (.string s)).wrote 1 (.int .u64 h)).wrote 2 (.int .u64 l),
    (((Off.refl (One g) W).set_ (p := ⟨g, 0, none⟩) (Or.inl rfl) (.string s)).set_ (p := ⟨g, 1, none⟩) (Or.inl rfl) (.int .u64 h)).set_ (p := ⟨g, 2, none⟩) (Or.inl rfl) (.int .u64 l)⟩
theorem Off.own17 {W W' : World} {g b k n : Nat} {T : TypeId} {v : Value} {xs : List Value} (o : Off (One g) W W') (ho : W.ownsRow b T k v n xs) (hne : ∀ j, v.ownBlock = some j → j ≠ g) : W'.ownsRow b T k v n xs := by
  refine ⟨ho.1, ?_⟩
  rcases ho.2 with h | ⟨j, cap, cur, hv, h1, h2, h3⟩
  · exact Or.inl h
  · refine Or.inr ⟨j, cap, cur, hv, h1, ?_, h3⟩
    exact (o.block j (ho.lt j (by rw [hv]; rfl)).2 (fun e => hne j (by rw [hv]; rfl) e)).trans h2
theorem put_cell17 {W : World} {g : Nat} {T : TypeId} {cs : Array Value} (z : Box W g T cs) (i : Nat) (v : Value) :
    Box (W.setCell ⟨g, i, none⟩ v) g T (cs.setIfInBounds i v) ∧ Off (One g) W (W.setCell ⟨g, i, none⟩ v) := ⟨z.wrote i v, (Off.refl (One g) W).set_ (p := ⟨g, i, none⟩) (Or.inl rfl) v⟩
set_option maxRecDepth 100000 in
set_option maxHeartbeats 8000000 in
theorem texts17_any (n : Int) (x : Lf) (p : Nat) (hp : p < 18446744073709551616) (A : Option Addr) (c : Nat) (l : List Nd) (hl : l.length ≤ 63) (hm : mayW n = true) (hx : x.may = true) (hxw : Word x.h ∧ Word x.l) (hy : ∀ y ∈ l, y.halved) (ho : ∀ y ∈ l, y.of n = true)
    (h0 : (climbS n (nodeOf n x) p l).2 = 0) (w : World) (hR : ndS.Row w w.heap.size A l) (hK : Tab w) (hU : TabU w) :
    Calls Tryd.prog 26 #[.int .i64 n, .agg (enV x p A l.length c)] w (fun e w' => TxtP w (txtN n x p l) l.length e w') := by
  have hsz := mayT_sizes hx
  have cT := fun u hu => leafText_any x (by omega) (by omega) hxw.1 hxw.2 u hu
  have cN := fun u hu hv => leafNode_any n x (by omega) (by omega) hxw.1 hxw.2 u hu hv
  have hfine := way_fine hm hx hxw hy h0
  have hnext := fun i hi => way_next h0 (i := i) hi
  have e0 : wayN n x p l 0 = nodeOf n x := by rw [wayN, List.take_zero]; rfl
  have t0 : txtN n x p l 0 = x.text := rfl
  rw [← e0] at cN
  rw [← t0] at cT
  have hstep : ∀ i, txtN n x p l (i + 1) = ndText (lftN p i (wayN n x p l i) (ndAt l i)) (rgtN p i (wayN n x p l i) (ndAt l i)) := fun i => rfl
  obtain ⟨F, hF⟩ : ∃ F, txtN n x p l = F := ⟨_, rfl⟩
  rw [hF] at cT hstep ⊢
  obtain ⟨Y, hY⟩ : ∃ Y, wayN n x p l = Y := ⟨_, rfl⟩
  rw [hY] at cN hfine hnext hstep
  clear hF hY e0 t0 h0 hsz hx hxw
  have HF := hideIt hfine
  have HS := hideIt hstep
  have HX := hideIt hnext
  have HO := hideIt ho
  have HH := hideIt hy
  clear hfine hstep hnext ho hy
  obtain ⟨N, hN⟩ : ∃ N, l.length = N := ⟨_, rfl⟩
  rw [hN] at hl ⊢
  have HN := hideIt hN
  clear hN
  obtain ⟨xp, xi, xs, xh, xl⟩ := x
  obtain ⟨ge, hge⟩ : ∃ g, w.heap.size = g := ⟨_, rfl⟩
  have J0 := (Has.start w).addAt 39 (enV ⟨xp, xi, xs, xh, xl⟩ p A N c) (g := ge) hge
  obtain ⟨⟨x0, x1, x2, x3, x4, x5, x6⟩, xin⟩ := (J0.box 0).seven
  simp only at x0 x1 x2 x3 x4
  simp only [Lf.val] at cT cN
  go_enter Tryd.func26, Tryd.ntmps26
  go_upto_region 1 with fail
  change Code.wp _ _ _ _ (w.alloc (.cells (enV ⟨xp, xi, xs, xh, xl⟩ p A N c) 39))
  generalize w.alloc (.cells (enV ⟨xp, xi, xs, xh, xl⟩ p A N c) 39) = W0 at *
  go_upto_region 2 with (first
    | (go_at_call 49; refine (cT _ (hU.call J0.below)).mono ?_; rintro e w1 ⟨rfl, b1⟩; have J1 := J0.call b1)
    | fail)
  clear x0 x1 x2 x3 x4 x5 x6 xin cT
  have hw1 : w.heap.size ≤ w1.heap.size := J1.size
  have own1 : (w1.alloc (.cells #[.string (F 0)] 9)).ownsRow w.heap.size 9 1 (.slice (some ⟨w1.heap.size, 0, none⟩) 1 1) 1 (tS.flat ((List.range (0 + 1)).map F)) := World.ownsRow_lit w1 #[.string (F 0)] 1 hw1 (by decide) rfl
  have J2 := J1.past (.cells #[.string (F 0)] 9)
  change Code.wp _ _ _ _ (w1.alloc (.cells #[.string (F 0)] 9))
  generalize w1.alloc (.cells #[.string (F 0)] 9) = W2 at *
  obtain ⟨⟨x0, x1, x2, x3, x4, x5, x6⟩, xin⟩ := (J2.box 0).seven
  simp only at x0 x1 x2 x3 x4
  simp only [Nd.val] at cN
  go_upto_region 3 with (first
    | (go_at_call 36; refine (cN _ (hK.call J2.below) (hU.call J2.below)).mono ?_; rintro e w3 ⟨rfl, b3⟩; have J3 := J2.call b3; have own3 := own_below own1 b3)
    | fail)
  obtain ⟨gn, hgn⟩ : ∃ g, w3.heap.size = g := ⟨_, rfl⟩
  have hlo : w.heap.size ≤ gn := by rw [← hgn]; exact J3.size
  have hgl : ge < gn := by rw [← hgn]; exact (J3.box 0).inside
  have K3 := J3.addAt 49 (ndB (Y 0).hash (Y 0).h (Y 0).l) (g := gn) hgn
  have own4 := own3.alloc (.cells (ndB (Y 0).hash (Y 0).h (Y 0).l) 49)
  rw [hgn]
  change Code.wp _ _ _ _ (w3.alloc (.cells (ndB (Y 0).hash (Y 0).h (Y 0).l) 49))
  generalize w3.alloc (.cells (ndB (Y 0).hash (Y 0).h (Y 0).l) 49) = W3 at *
  clear x0 x1 x2 x3 x4 x5 x6 xin J0 J1 J2 J3 own1 own3 b1 b3 cN hgn
  have hgn2 : ∀ y ∈ [((ge : Nat), 39, enV ⟨xp, xi, xs, xh, xl⟩ p A N c)], y.1 ≠ gn := fun y hy => by
    obtain rfl := List.mem_singleton.1 hy
    simp only
    omega
  go_wp2
  go_loopg [5, 7] N (fun gk s5 s7 wr => ∃ k : Nat, k ≤ N ∧ N - k ≤ gk ∧ s7 = .int .i64 k ∧ wr.ownsRow w.heap.size 9 1 s5 (k + 1) (tS.flat ((List.range (k + 1)).map F)) ∧ Has w [(gn, 49, (ndB (Y k).hash (Y k).h (Y k).l)), (ge, 39, enV ⟨xp, xi, xs, xh, xl⟩ p A N c)] wr)
  case atStart => exact ⟨0, Nat.zero_le _, by omega, rfl, own4, K3⟩
  case round =>
    obtain ⟨k, hk, hgk, rfl, hown, J⟩ := hrel
    have HG := hideIt hgk
    clear hgk K3 own4
    obtain ⟨⟨x0, x1, x2, x3, x4, x5, x6⟩, xin⟩ := (J.box 1).seven
    simp only at x0 x1 x2 x3 x4
    by_cases hlt : k < N
    · have hki : (k : Int) < (N : Int) := by omega
      have hk64 : (k : Int) < 64 := by omega
      obtain ⟨z, hz⟩ : ∃ z, l[k]? = some z := ⟨_, List.getElem?_eq_getElem (by rw [HN.out]; exact hlt)⟩
      have ez := ndAt_some hz
      obtain ⟨f1, f2⟩ := HF.out k (by rw [HN.out]; omega)
      obtain ⟨n1, n2⟩ := HX.out k (by rw [HN.out]; exact hlt)
      have s1 := HS.out k
      have z1 := HO.out z (List.mem_of_getElem? hz)
      have z2 := HH.out z (List.mem_of_getElem? hz)
      rw [ez] at n1 n2 s1
      obtain ⟨M, hM⟩ : ∃ M, Y k = M := ⟨_, rfl⟩
      rw [hM] at J f1 f2 n1 n2 s1
      obtain ⟨Z, hZ⟩ : ∃ Z, F (k + 1) = Z := ⟨_, rfl⟩
      rw [hZ] at s1
      have HZ := hideIt hZ
      obtain ⟨M2, hM2⟩ : ∃ M2, Y (k + 1) = M2 := ⟨_, rfl⟩
      rw [hM2] at n2
      have HM2 := hideIt hM2
      clear hM hZ hM2 ez
      obtain ⟨ad, rfl, g1, p0, p1, p2⟩ := nd_get (hR.on J.below) hz
      have hRw := hR.on J.below
      have hRz : ∀ u, Below wr.heap.size wr u → u.cell? (ad.add (k * 3)) = some (.string z.hash) ∧ u.cell? ⟨(ad.add (k * 3)).block, (ad.add (k * 3)).off + 1, none⟩ = some (.int .u64 z.h) ∧ u.cell? ⟨(ad.add (k * 3)).block, (ad.add (k * 3)).off + 2, none⟩ = some (.int .u64 z.l) ∧ (ad.add (k * 3)).block < u.heap.size := fun u hu => by
        obtain ⟨ad', e, q1, q2, q3, q4⟩ := nd_get (hRw.on hu) hz
        injection e with e
        subst e
        exact ⟨q2, q3, q4, q1⟩
      obtain ⟨Q, hQ⟩ : ∃ Q, p / 2 ^ k = Q := ⟨_, rfl⟩
      have hQ2 : Q < 18446744073709551616 := by rw [← hQ]; exact Nat.lt_of_le_of_lt (Nat.div_le_self _ _) hp
      have hQi : (p : Int) / 2 ^ k = (Q : Int) := by rw [← hQ]; norm_cast
      have hku : IntKind.u64.wrap (k : Int) = (k : Int) := by rw [IntKind.wrap_u64]; omega
      rw [lftN, rgtN, hQ] at n1 n2 s1
      clear hz hRw p0 p1 p2 hQ
      go_upto_region 6 with fail
      have hS : ∀ u, Below wr.heap.size wr u → ((u.cell? ⟨gn, 0, none⟩ = some (.string M.hash) ∧ u.cell? ⟨gn, 1, none⟩ = some (.int .u64 M.h) ∧ u.cell? ⟨gn, 2, none⟩ = some (.int .u64 M.l) ∧ gn < u.heap.size) ∧ (u.cell? ⟨ge, 6, none⟩ = some (.slice (some ad) N c) ∧ ge < u.heap.size) ∧ (u.cell? (ad.add (k * 3)) = some (.string z.hash) ∧ u.cell? ⟨(ad.add (k * 3)).block, (ad.add (k * 3)).off + 1, none⟩ = some (.int .u64 z.h) ∧ u.cell? ⟨(ad.add (k * 3)).block, (ad.add (k * 3)).off + 2, none⟩ = some (.int .u64 z.l) ∧ (ad.add (k * 3)).block < u.heap.size)) := fun u hu => by
        have B := (J.call hu).box 0
        have E := (J.call hu).box 1
        exact ⟨⟨B.read 0, B.read 1, B.read 2, B.inside⟩, ⟨E.read 6, E.inside⟩, hRz u hu⟩
      go_cut [8, 9] (fun s8 s9 wx => ∃ a b : Nat, s8 = .pointer (some ⟨a, 0, none⟩) ∧ s9 = .pointer (some ⟨b, 0, none⟩) ∧ Below wr.heap.size wr wx ∧ Box wx a 49 (ndB M.hash M.h M.l) ∧ Box wx b 49 (ndB z.hash z.h z.l) ∧ wr.heap.size ≤ a ∧ wr.heap.size ≤ b ∧ a ≠ b)
      case first =>
        obtain ⟨n0, hn0⟩ : ∃ n, wr.heap.size = n := ⟨_, rfl⟩
        have b0 := (Below.refl wr.heap.size wr).drew
        have hs0 : wr.drew.heap.size = n0 := hn0
        refine wp_region_held_drew (S := fun u => ((u.cell? ⟨gn, 0, none⟩ = some (.string M.hash) ∧ u.cell? ⟨gn, 1, none⟩ = some (.int .u64 M.h) ∧ u.cell? ⟨gn, 2, none⟩ = some (.int .u64 M.l) ∧ gn < u.heap.size) ∧ (u.cell? ⟨ge, 6, none⟩ = some (.slice (some ad) N c) ∧ ge < u.heap.size) ∧ (u.cell? (ad.add (k * 3)) = some (.string z.hash) ∧ u.cell? ⟨(ad.add (k * 3)).block, (ad.add (k * 3)).off + 1, none⟩ = some (.int .u64 z.h) ∧ u.cell? ⟨(ad.add (k * 3)).block, (ad.add (k * 3)).off + 2, none⟩ = some (.int .u64 z.l) ∧ (ad.add (k * 3)).block < u.heap.size))) (by kernel_rfl) (hS _ b0) (fun hHeld => ?_)
        generalize wr.drew = V0 at *
        refine wpAnyH_take (i := 0) (v := ?_) rfl (by kernel_rfl) (by kernel_rfl) (by kernel_rfl) (fun _ _ _ h => h) (Or.inl ⟨by rfl, ?_⟩) (by assumption) ?_
        rotate_left 1
        · intro w hSw; (try dsimp only at hSw); go_simp; try with_reducible rfl
        try simp only [Act.put, List.getElem_toArray, List.getElem_cons_succ, List.getElem_cons_zero, List.setIfInBounds_toArray, List.set_cons_zero, List.set_cons_succ]
        refine wpAnyH_take (i := 1) (v := ?_) rfl (by kernel_rfl) (by kernel_rfl) (by kernel_rfl) (fun _ _ _ h => h) (Or.inl ⟨by rfl, ?_⟩) (by assumption) ?_
        rotate_left 1
        · intro w hSw; (try dsimp only at hSw); go_simp; try with_reducible rfl
        try simp only [Act.put, List.getElem_toArray, List.getElem_cons_succ, List.getElem_cons_zero, List.setIfInBounds_toArray, List.set_cons_zero, List.set_cons_succ]
        refine wpAnyH_take (i := 2) (v := ?_) rfl (by kernel_rfl) (by kernel_rfl) (by kernel_rfl) (fun _ _ _ h => h) (Or.inl ⟨by rfl, ?_⟩) (by assumption) ?_
        rotate_left 1
        · intro w hSw; (try dsimp only at hSw); go_simp; try with_reducible rfl
        try simp only [Act.put, List.getElem_toArray, List.getElem_cons_succ, List.getElem_cons_zero, List.setIfInBounds_toArray, List.set_cons_zero, List.set_cons_succ]
        refine wpAnyH_take (i := 3) (v := ?_) rfl (by kernel_rfl) (by kernel_rfl) (by kernel_rfl) (fun _ _ _ h => h) (Or.inl ⟨by rfl, ?_⟩) (by assumption) ?_
        rotate_left 1
        · intro w hSw; (try dsimp only at hSw); go_simp; try with_reducible rfl
        try simp only [Act.put, List.getElem_toArray, List.getElem_cons_succ, List.getElem_cons_zero, List.setIfInBounds_toArray, List.set_cons_zero, List.set_cons_succ]
        refine wpAnyH_take (i := 4) (v := ?_) rfl (by kernel_rfl) (by kernel_rfl) (by kernel_rfl) (fun _ _ _ h => h) (Or.inl ⟨by rfl, ?_⟩) (by assumption) ?_
        rotate_left 1
        · intro w hSw; (try dsimp only at hSw); go_simp; try with_reducible rfl
        try simp only [Act.put, List.getElem_toArray, List.getElem_cons_succ, List.getElem_cons_zero, List.setIfInBounds_toArray, List.set_cons_zero, List.set_cons_succ]
        refine wpAnyH_take (i := 5) (v := ?_) rfl (by kernel_rfl) (by kernel_rfl) (by kernel_rfl) (fun _ _ _ h => h) (Or.inl ⟨by rfl, ?_⟩) (by assumption) ?_
        rotate_left 1
        · intro w hSw; (try dsimp only at hSw); go_simp; try with_reducible rfl
        try simp only [Act.put, List.getElem_toArray, List.getElem_cons_succ, List.getElem_cons_zero, List.setIfInBounds_toArray, List.set_cons_zero, List.set_cons_succ]
        refine wpAnyH_take (i := 6) (v := ?_) rfl (by kernel_rfl) (by kernel_rfl) (by kernel_rfl) (fun _ _ _ h => h) (Or.inl ⟨by rfl, ?_⟩) (by assumption) ?_
        rotate_left 1
        · intro w hSw; (try dsimp only at hSw); go_simp; try with_reducible rfl
        try simp only [Act.put, List.getElem_toArray, List.getElem_cons_succ, List.getElem_cons_zero, List.setIfInBounds_toArray, List.set_cons_zero, List.set_cons_succ]
        refine wpAnyH_ready (rs := [7, 8]) (by kernel_rfl) (by simp) (AllReadyH.cons rfl (fun K hK => ?_) (AllReadyH.cons rfl (fun K hK => ?_) AllReadyH.nil))
        · go_simp
          have b1 := chainA b0 (.cells (ndB ⟨#[]⟩ 0 0) 49)
          have z8 := Box.madeAt hs0 49 (ndB ⟨#[]⟩ 0 0)
          have hz0 : (World.alloc V0 (.cells (ndB ⟨#[]⟩ 0 0) 49)).heap.size = n0 + (0 + 1) := by simp [hs0]
          try rw [hs0]
          change K _ (World.alloc V0 (.cells (ndB ⟨#[]⟩ 0 0) 49))
          generalize World.alloc V0 (.cells (ndB ⟨#[]⟩ 0 0) 49) = V1 at *
          refine hK.out _ _ (hS _ b1) (fun hHeld => ?_)
          clear hK K
          try simp only [Act.put, List.getElem_toArray, List.getElem_cons_succ, List.getElem_cons_zero, List.setIfInBounds_toArray, List.set_cons_zero, List.set_cons_succ]
          have hs1 : V1.heap.size = n0 + 1 := hz0
          refine wpAnyH_ready (rs := [8]) (by kernel_rfl) (by simp) (AllReadyH.cons rfl (fun K hK => ?_) AllReadyH.nil)
          go_simp
          have z8 := z8.past (.cells (ndB ⟨#[]⟩ 0 0) 49)
          have b2 := chainA b1 (.cells (ndB ⟨#[]⟩ 0 0) 49)
          have z9 := Box.madeAt hs1 49 (ndB ⟨#[]⟩ 0 0)
          have hz1 : (World.alloc V1 (.cells (ndB ⟨#[]⟩ 0 0) 49)).heap.size = n0 + (1 + 1) := by simp [hs1]
          try rw [hs1]
          change K _ (World.alloc V1 (.cells (ndB ⟨#[]⟩ 0 0) 49))
          generalize World.alloc V1 (.cells (ndB ⟨#[]⟩ 0 0) 49) = V2 at *
          refine hK.out _ _ (hS _ b2) (fun hHeld => ?_)
          clear hK K
          try simp only [Act.put, List.getElem_toArray, List.getElem_cons_succ, List.getElem_cons_zero, List.setIfInBounds_toArray, List.set_cons_zero, List.set_cons_succ]
          obtain ⟨⟨v0, v1, v2⟩, f0, f1, f2, vin⟩ := z8.three0
          refine wpAnyH_ready (rs := [9]) (by kernel_rfl) (by simp) (AllReadyH.cons rfl (fun K hK => ?_) AllReadyH.nil)
          go_simp
          obtain ⟨z8, o8⟩ := put_three17 z8 M.hash M.h M.l
          have z9 := o8.box z9 (fun e => by have e := (show _ = _ from e); omega)
          have b5 := b2.trans (o8.below (B := wr.heap.size) (fun i hi => by rw [show i = _ from hi]; omega) b2.size)
          generalize World.setCell (World.setCell (World.setCell V2 _ _) _ _) _ _ = V5 at *
          refine hK.out _ _ (hS _ b5) (fun hHeld => ?_)
          clear hK K
          try simp only [Act.put, List.getElem_toArray, List.getElem_cons_succ, List.getElem_cons_zero, List.setIfInBounds_toArray, List.set_cons_zero, List.set_cons_succ]
          clear v0 v1 v2 f0 f1 f2 vin
          obtain ⟨⟨v0, v1, v2⟩, f0, f1, f2, vin⟩ := z9.three0
          refine wpAnyH_ready (rs := [10]) (by kernel_rfl) (by simp) (AllReadyH.cons rfl (fun K hK => ?_) AllReadyH.nil)
          go_simp
          obtain ⟨z9, o9⟩ := put_three17 z9 z.hash z.h z.l
          have z8 := o9.box z8 (fun e => by have e := (show _ = _ from e); omega)
          have b6 := b5.trans (o9.below (B := wr.heap.size) (fun i hi => by rw [show i = _ from hi]; omega) b5.size)
          generalize World.setCell (World.setCell (World.setCell V5 _ _) _ _) _ _ = V6 at *
          refine hK.out _ _ (hS _ b6) (fun hHeld => ?_)
          clear hK K
          try simp only [Act.put, List.getElem_toArray, List.getElem_cons_succ, List.getElem_cons_zero, List.setIfInBounds_toArray, List.set_cons_zero, List.set_cons_succ]
          refine wpAnyH_done (by kernel_rfl) ?_ _
          go_wp2
          go_meet
          exact ⟨_, _, rfl, rfl, b6, z8, z9, by omega, by omega, by omega⟩
        · go_simp
          have b1 := chainA b0 (.cells (ndB ⟨#[]⟩ 0 0) 49)
          have z9 := Box.madeAt hs0 49 (ndB ⟨#[]⟩ 0 0)
          have hz0 : (World.alloc V0 (.cells (ndB ⟨#[]⟩ 0 0) 49)).heap.size = n0 + (0 + 1) := by simp [hs0]
          try rw [hs0]
          change K _ (World.alloc V0 (.cells (ndB ⟨#[]⟩ 0 0) 49))
          generalize World.alloc V0 (.cells (ndB ⟨#[]⟩ 0 0) 49) = V1 at *
          refine hK.out _ _ (hS _ b1) (fun hHeld => ?_)
          clear hK K
          try simp only [Act.put, List.getElem_toArray, List.getElem_cons_succ, List.getElem_cons_zero, List.setIfInBounds_toArray, List.set_cons_zero, List.set_cons_succ]
          have hs1 : V1.heap.size = n0 + 1 := hz0
          refine wpAnyH_ready (rs := [7]) (by kernel_rfl) (by simp) (AllReadyH.cons rfl (fun K hK => ?_) AllReadyH.nil)
          go_simp
          have z9 := z9.past (.cells (ndB ⟨#[]⟩ 0 0) 49)
          have b2 := chainA b1 (.cells (ndB ⟨#[]⟩ 0 0) 49)
          have z8 := Box.madeAt hs1 49 (ndB ⟨#[]⟩ 0 0)
          have hz1 : (World.alloc V1 (.cells (ndB ⟨#[]⟩ 0 0) 49)).heap.size = n0 + (1 + 1) := by simp [hs1]
          try rw [hs1]
          change K _ (World.alloc V1 (.cells (ndB ⟨#[]⟩ 0 0) 49))
          generalize World.alloc V1 (.cells (ndB ⟨#[]⟩ 0 0) 49) = V2 at *
          refine hK.out _ _ (hS _ b2) (fun hHeld => ?_)
          clear hK K
          try simp only [Act.put, List.getElem_toArray, List.getElem_cons_succ, List.getElem_cons_zero, List.setIfInBounds_toArray, List.set_cons_zero, List.set_cons_succ]
          obtain ⟨⟨v0, v1, v2⟩, f0, f1, f2, vin⟩ := z8.three0
          refine wpAnyH_ready (rs := [9]) (by kernel_rfl) (by simp) (AllReadyH.cons rfl (fun K hK => ?_) AllReadyH.nil)
          go_simp
          obtain ⟨z8, o8⟩ := put_three17 z8 M.hash M.h M.l
          have z9 := o8.box z9 (fun e => by have e := (show _ = _ from e); omega)
          have b5 := b2.trans (o8.below (B := wr.heap.size) (fun i hi => by rw [show i = _ from hi]; omega) b2.size)
          generalize World.setCell (World.setCell (World.setCell V2 _ _) _ _) _ _ = V5 at *
          refine hK.out _ _ (hS _ b5) (fun hHeld => ?_)
          clear hK K
          try simp only [Act.put, List.getElem_toArray, List.getElem_cons_succ, List.getElem_cons_zero, List.setIfInBounds_toArray, List.set_cons_zero, List.set_cons_succ]
          clear v0 v1 v2 f0 f1 f2 vin
          obtain ⟨⟨v0, v1, v2⟩, f0, f1, f2, vin⟩ := z9.three0
          refine wpAnyH_ready (rs := [10]) (by kernel_rfl) (by simp) (AllReadyH.cons rfl (fun K hK => ?_) AllReadyH.nil)
          go_simp
          obtain ⟨z9, o9⟩ := put_three17 z9 z.hash z.h z.l
          have z8 := o9.box z8 (fun e => by have e := (show _ = _ from e); omega)
          have b6 := b5.trans (o9.below (B := wr.heap.size) (fun i hi => by rw [show i = _ from hi]; omega) b5.size)
          generalize World.setCell (World.setCell (World.setCell V5 _ _) _ _) _ _ = V6 at *
          refine hK.out _ _ (hS _ b6) (fun hHeld => ?_)
          clear hK K
          try simp only [Act.put, List.getElem_toArray, List.getElem_cons_succ, List.getElem_cons_zero, List.setIfInBounds_toArray, List.set_cons_zero, List.set_cons_succ]
          refine wpAnyH_done (by kernel_rfl) ?_ _
          go_wp2
          go_meet
          exact ⟨_, _, rfl, rfl, b6, z8, z9, by omega, by omega, by omega⟩
      case rest =>
        obtain ⟨ga, gb, rfl, rfl, bX, zA, zB, l1, l2, d1⟩ := hcut
        have hgin := (J.box 0).inside
        have hlwA : ∀ j, u5.ownBlock = some j → j ≠ ga := fun j hj => by have := (hown.lt j hj).2; omega
        have hlwB : ∀ j, u5.ownBlock = some j → j ≠ gb := fun j hj => by have := (hown.lt j hj).2; omega
        have hown := own_below hown bX
        have JX := J.call bX
        have hwr : w.heap.size ≤ wr.heap.size := J.size
        have L0 := JX.below
        have zN := JX.box 0
        have zE := JX.box 1
        have hge2 : ge < gn := hgl
        clear hS hRz J JX bX x0 x1 x2 x3 x4 x5 x6 xin
        by_cases hb : Q % 2 = 1
        · rw [if_pos hb, if_pos hb] at n1 n2 s1
          have hab : bits .and .u64 (Q : Int) 1 = 1 := by rw [and_bit17 Q hQ2, hb]; rfl
          obtain ⟨⟨a0, a1, a2⟩, af0, af1, af2, ain⟩ := zA.three0
          obtain ⟨⟨b0, b1, b2⟩, bf0, bf1, bf2, bin⟩ := zB.three0
          obtain ⟨⟨e0, e1, e2, e3, e4, e5, e6⟩, ein⟩ := zE.seven
          go_upto_region 9 with fail
          obtain ⟨zA, oA⟩ := put_three17 zA z.hash z.h z.l
          have zB := oA.box zB (fun e => by have e := (show _ = _ from e); omega)
          have zN := oA.box zN (fun e => by have e := (show _ = _ from e); omega)
          have zE := oA.box zE (fun e => by have e := (show _ = _ from e); omega)
          have hown := oA.own17 hown hlwA
          have L0 := L0.trans (oA.below (B := w.heap.size) (fun i hi => by rw [show i = _ from hi]; omega) L0.size)
          obtain ⟨zB, oB⟩ := put_three17 zB M.hash M.h M.l
          have zA := oB.box zA (fun e => by have e := (show _ = _ from e); omega)
          have zN := oB.box zN (fun e => by have e := (show _ = _ from e); omega)
          have zE := oB.box zE (fun e => by have e := (show _ = _ from e); omega)
          have hown := oB.own17 hown hlwB
          have L0 := L0.trans (oB.below (B := w.heap.size) (fun i hi => by rw [show i = _ from hi]; omega) L0.size)
          clear oA oB a0 a1 a2 af0 af1 af2 ain b0 b1 b2 bf0 bf1 bf2 bin e0 e1 e2 e3 e4 e5 e6 ein
          generalize World.setCell (World.setCell (World.setCell (World.setCell (World.setCell (World.setCell _ _ _) _ _) _ _) _ _) _ _) _ _ = V at *
          have sL := of_size z1
          have sR := of_size f1
          have eM : M2 = ⟨dgB n Z, rh (z.sum + M.sum), rl (z.sum + M.sum)⟩ := by rw [n2, joinS, if_pos n1, s1]
          have zsz : Z.size ≤ 1000 := by rw [s1, ndText_size]; omega
          have cX := fun u => nodeText_any z M (by omega) (by omega) z2.1 z2.2 f2.1 f2.2 u
          rw [← s1] at cX
          have cD := fun u hu => digestT_any n Z (by omega) u hu
          obtain ⟨k1, k2, k3, k4⟩ := sum_carry z2.1 z2.2 f2.1 f2.2 n1
          have eS : nv z.h z.l + nv M.h M.l = z.sum + M.sum := rfl
          rw [eS] at k1 k3 k4
          obtain ⟨lo, hlo2⟩ : ∃ lo, rl (z.sum + M.sum) = lo := ⟨_, rfl⟩
          obtain ⟨hi, hhi2⟩ : ∃ hi, rh (z.sum + M.sum) = hi := ⟨_, rfl⟩
          rw [hlo2] at k1 k3 k4 eM
          rw [hhi2] at k3 k4 eM
          clear hlo2 hhi2 n1 n2 s1 eS hab hQi hQ2 hku
          simp only [Nd.val] at cX
          have zAc : (V.cell? ⟨ga, 0, none⟩ = some (.string z.hash) ∧ V.cell? ⟨ga, 1, none⟩ = some (.int .u64 z.h) ∧ V.cell? ⟨ga, 2, none⟩ = some (.int .u64 z.l)) ∧ ga < V.heap.size := ⟨⟨zA.read 0, zA.read 1, zA.read 2⟩, zA.inside⟩
          have zBc : (V.cell? ⟨gb, 0, none⟩ = some (.string M.hash) ∧ V.cell? ⟨gb, 1, none⟩ = some (.int .u64 M.h) ∧ V.cell? ⟨gb, 2, none⟩ = some (.int .u64 M.l)) ∧ gb < V.heap.size := ⟨⟨zB.read 0, zB.read 1, zB.read 2⟩, zB.inside⟩
          obtain ⟨⟨a0, a1, a2⟩, ain⟩ := zAc
          obtain ⟨⟨b0, b1, b2⟩, bin⟩ := zBc
          go_upto_region 10 with (first
            | (go_at_call 50; refine (cX _).mono ?_; rintro e w5 ⟨rfl, b5⟩)
            | fail)
          clear a0 a1 a2 ain b0 b1 b2 bin cX
          have zA := zA.call b5
          have zB := zB.call b5
          have zN := zN.call b5
          have zE := zE.call b5
          have hown := own_below hown b5
          have L0 := chain L0 b5
          obtain ⟨v', w6, hrun, own6, hgr, b6⟩ := t_app1 w5 w.heap.size u5 (k + 1) _ hown Z (by omega) L0.size
          have zA := (zA.past (.cells #[.string Z] 9)).grown17 (hown.alloc _) (by decide) hgr
          have zB := (zB.past (.cells #[.string Z] 9)).grown17 (hown.alloc _) (by decide) hgr
          have zN := (zN.past (.cells #[.string Z] 9)).grown17 (hown.alloc _) (by decide) hgr
          have zE := (zE.past (.cells #[.string Z] 9)).grown17 (hown.alloc _) (by decide) hgr
          have L0 := L0.trans b6
          go_upto_region 11 with (first
            | (at_builtin; refine gen_run rfl _ _ _ rfl _ _ rfl rfl _ w6 hrun ?_)
            | fail)
          clear hrun hgr hown b5 b6 hlwA hlwB
          have hKx := hK.call L0
          go_upto_region 12 with (first
            | (go_at_call 27; refine (cD _ hKx).mono ?_; rintro e w7 ⟨rfl, b7⟩; have zN := zN.call b7; have n0 := zN.read 0; have nf := zN.free 0; have nin := zN.inside)
            | fail)
          have zA := zA.call b7
          have zB := zB.call b7
          have zE := zE.call b7
          have own6 := own_below own6 b7
          have L0 := chain L0 b7
          have own6 := own_apart17 own6 zN (by decide) 0 (.string (dgB n Z))
          obtain ⟨zN, oN⟩ := put_cell17 zN 0 (.string (dgB n Z))
          have zA := oN.box zA (fun e => by have e := (show _ = _ from e); omega)
          have zB := oN.box zB (fun e => by have e := (show _ = _ from e); omega)
          have zE := oN.box zE (fun e => by have e := (show _ = _ from e); omega)
          have L0 := L0.trans (oN.below (B := w.heap.size) (fun i hi => by rw [show i = _ from hi]; omega) L0.size)
          change Code.wp _ _ _ _ (World.setCell w7 ⟨gn, 0, none⟩ (.string (dgB n Z)))
          generalize World.setCell w7 ⟨gn, 0, none⟩ (.string (dgB n Z)) = V7 at *
          have zN : Box V7 gn 49 (ndB (dgB n Z) M.h M.l) := zN
          clear oN
          clear b7 cD hKx
          have a0 := zA.inside
          have a1 : (V7).cell? ⟨ga, 1, none⟩ = some _ := zA.read 1
          have a2 : (V7).cell? ⟨ga, 2, none⟩ = some _ := zA.read 2
          have b0 := zB.inside
          have b1 : (V7).cell? ⟨gb, 1, none⟩ = some _ := zB.read 1
          have b2 : (V7).cell? ⟨gb, 2, none⟩ = some _ := zB.read 2
          have n0 := zN.inside
          have n1 : (V7).cell? ⟨gn, 1, none⟩ = some _ := zN.read 1
          have n2 : (V7).cell? ⟨gn, 2, none⟩ = some _ := zN.read 2
          have m0 := zN.free 0
          have m1 := zN.free 1
          have m2 := zN.free 2
          go_upto_region 13 with fail
          have own6 := own_apart17 own6 zN (by decide) 2 (.int .u64 lo)
          obtain ⟨zN, oN⟩ := put_cell17 zN 2 (.int .u64 lo)
          have zA := oN.box zA (fun e => by have e := (show _ = _ from e); omega)
          have zB := oN.box zB (fun e => by have e := (show _ = _ from e); omega)
          have zE := oN.box zE (fun e => by have e := (show _ = _ from e); omega)
          have L0 := L0.trans (oN.below (B := w.heap.size) (fun i hi => by rw [show i = _ from hi]; omega) L0.size)
          change Code.wp _ _ _ _ (World.setCell V7 ⟨gn, 2, none⟩ (.int .u64 lo))
          generalize World.setCell V7 ⟨gn, 2, none⟩ (.int .u64 lo) = V8 at *
          have zN : Box V8 gn 49 (ndB (dgB n Z) M.h lo) := zN
          clear oN
          clear a0 a1 a2 b0 b1 b2 n0 n1 n2 m0 m1 m2
          have a0 := zA.inside
          have a1 : (V8).cell? ⟨ga, 1, none⟩ = some _ := zA.read 1
          have a2 : (V8).cell? ⟨ga, 2, none⟩ = some _ := zA.read 2
          have b0 := zB.inside
          have b1 : (V8).cell? ⟨gb, 1, none⟩ = some _ := zB.read 1
          have b2 : (V8).cell? ⟨gb, 2, none⟩ = some _ := zB.read 2
          have n0 := zN.inside
          have n1 : (V8).cell? ⟨gn, 1, none⟩ = some _ := zN.read 1
          have n2 : (V8).cell? ⟨gn, 2, none⟩ = some _ := zN.read 2
          have m0 := zN.free 0
          have m1 := zN.free 1
          have m2 := zN.free 2
          go_upto_region 14 with fail
          have own6 := own_apart17 own6 zN (by decide) 1 (.int .u64 (z.h + M.h))
          obtain ⟨zN, oN⟩ := put_cell17 zN 1 (.int .u64 (z.h + M.h))
          have zA := oN.box zA (fun e => by have e := (show _ = _ from e); omega)
          have zB := oN.box zB (fun e => by have e := (show _ = _ from e); omega)
          have zE := oN.box zE (fun e => by have e := (show _ = _ from e); omega)
          have L0 := L0.trans (oN.below (B := w.heap.size) (fun i hi => by rw [show i = _ from hi]; omega) L0.size)
          change Code.wp _ _ _ _ (World.setCell V8 ⟨gn, 1, none⟩ (.int .u64 (z.h + M.h)))
          generalize World.setCell V8 ⟨gn, 1, none⟩ (.int .u64 (z.h + M.h)) = V9 at *
          have zN : Box V9 gn 49 (ndB (dgB n Z) (z.h + M.h) lo) := zN
          clear oN
          clear a0 a1 a2 b0 b1 b2 n0 n1 n2 m0 m1 m2
          have a0 := zA.inside
          have a1 : (V9).cell? ⟨ga, 1, none⟩ = some _ := zA.read 1
          have a2 : (V9).cell? ⟨ga, 2, none⟩ = some _ := zA.read 2
          have b0 := zB.inside
          have b1 : (V9).cell? ⟨gb, 1, none⟩ = some _ := zB.read 1
          have b2 : (V9).cell? ⟨gb, 2, none⟩ = some _ := zB.read 2
          have n0 := zN.inside
          have n1 : (V9).cell? ⟨gn, 1, none⟩ = some _ := zN.read 1
          have n2 : (V9).cell? ⟨gn, 2, none⟩ = some _ := zN.read 2
          have m0 := zN.free 0
          have m1 := zN.free 1
          have m2 := zN.free 2
          by_cases hc : lo < z.l
          · obtain ⟨k5, k6⟩ := k3 (by omega)
            go_upto_region 5 with fail
            have own6 := own_apart17 own6 zN (by decide) 1 (.int .u64 (z.h + M.h + 1))
            obtain ⟨zN, oN⟩ := put_cell17 zN 1 (.int .u64 (z.h + M.h + 1))
            have zA := oN.box zA (fun e => by have e := (show _ = _ from e); omega)
            have zB := oN.box zB (fun e => by have e := (show _ = _ from e); omega)
            have zE := oN.box zE (fun e => by have e := (show _ = _ from e); omega)
            have L0 := L0.trans (oN.below (B := w.heap.size) (fun i hi => by rw [show i = _ from hi]; omega) L0.size)
            change Code.wp _ _ _ _ (World.setCell V9 ⟨gn, 1, none⟩ (.int .u64 (z.h + M.h + 1)))
            generalize World.setCell V9 ⟨gn, 1, none⟩ (.int .u64 (z.h + M.h + 1)) = V10 at *
            have zN : Box V10 gn 49 (ndB (dgB n Z) (z.h + M.h + 1) lo) := zN
            clear oN
            rw [← k5] at zN
            have JF : Has w [(gn, 49, (ndB M2.hash M2.h M2.l)), (ge, 39, enV ⟨xp, xi, xs, xh, xl⟩ p (some ad) N c)] V10 := ⟨fun y hy => by
              simp only [List.mem_cons, List.not_mem_nil, or_false] at hy
              rcases hy with rfl | rfl
              · rw [eM]; exact zN
              · exact zE, L0⟩
            clear a0 a1 a2 b0 b1 b2 n0 n1 n2 m0 m1 m2 zN zE zA zB
            go_wp2
            go_roundg (N - (k + 1))
            case measure => have := HG.out; omega
            case rel => exact ⟨k + 1, by omega, Nat.le_refl _, by go_num, by rw [← range_txt, HZ.out]; exact own6, by rw [HM2.out]; exact JF⟩
          · have k5 := k4 (by omega)
            go_upto_region 5 with fail
            rw [← k5] at zN
            have JF : Has w [(gn, 49, (ndB M2.hash M2.h M2.l)), (ge, 39, enV ⟨xp, xi, xs, xh, xl⟩ p (some ad) N c)] V9 := ⟨fun y hy => by
              simp only [List.mem_cons, List.not_mem_nil, or_false] at hy
              rcases hy with rfl | rfl
              · rw [eM]; exact zN
              · exact zE, L0⟩
            clear a0 a1 a2 b0 b1 b2 n0 n1 n2 m0 m1 m2 zN zE zA zB
            go_wp2
            go_roundg (N - (k + 1))
            case measure => have := HG.out; omega
            case rel => exact ⟨k + 1, by omega, Nat.le_refl _, by go_num, by rw [← range_txt, HZ.out]; exact own6, by rw [HM2.out]; exact JF⟩
        · rw [if_neg hb, if_neg hb] at n1 n2 s1
          have hb0 : Q % 2 = 0 := by omega
          have hab : bits .and .u64 (Q : Int) 1 = 0 := by rw [and_bit17 Q hQ2, hb0]; rfl
          obtain ⟨⟨e0, e1, e2, e3, e4, e5, e6⟩, ein⟩ := zE.seven
          go_upto_region 9 with fail
          clear e0 e1 e2 e3 e4 e5 e6 ein
          generalize wc = V at *
          have sL := of_size f1
          have sR := of_size z1
          have eM : M2 = ⟨dgB n Z, rh (M.sum + z.sum), rl (M.sum + z.sum)⟩ := by rw [n2, joinS, if_pos n1, s1]
          have zsz : Z.size ≤ 1000 := by rw [s1, ndText_size]; omega
          have cX := fun u => nodeText_any M z (by omega) (by omega) f2.1 f2.2 z2.1 z2.2 u
          rw [← s1] at cX
          have cD := fun u hu => digestT_any n Z (by omega) u hu
          obtain ⟨k1, k2, k3, k4⟩ := sum_carry f2.1 f2.2 z2.1 z2.2 n1
          have eS : nv M.h M.l + nv z.h z.l = M.sum + z.sum := rfl
          rw [eS] at k1 k3 k4
          obtain ⟨lo, hlo2⟩ : ∃ lo, rl (M.sum + z.sum) = lo := ⟨_, rfl⟩
          obtain ⟨hi, hhi2⟩ : ∃ hi, rh (M.sum + z.sum) = hi := ⟨_, rfl⟩
          rw [hlo2] at k1 k3 k4 eM
          rw [hhi2] at k3 k4 eM
          clear hlo2 hhi2 n1 n2 s1 eS hab hQi hQ2 hku
          simp only [Nd.val] at cX
          have zAc : (V.cell? ⟨ga, 0, none⟩ = some (.string M.hash) ∧ V.cell? ⟨ga, 1, none⟩ = some (.int .u64 M.h) ∧ V.cell? ⟨ga, 2, none⟩ = some (.int .u64 M.l)) ∧ ga < V.heap.size := ⟨⟨zA.read 0, zA.read 1, zA.read 2⟩, zA.inside⟩
          have zBc : (V.cell? ⟨gb, 0, none⟩ = some (.string z.hash) ∧ V.cell? ⟨gb, 1, none⟩ = some (.int .u64 z.h) ∧ V.cell? ⟨gb, 2, none⟩ = some (.int .u64 z.l)) ∧ gb < V.heap.size := ⟨⟨zB.read 0, zB.read 1, zB.read 2⟩, zB.inside⟩
          obtain ⟨⟨a0, a1, a2⟩, ain⟩ := zAc
          obtain ⟨⟨b0, b1, b2⟩, bin⟩ := zBc
          go_upto_region 10 with (first
            | (go_at_call 50; refine (cX _).mono ?_; rintro e w5 ⟨rfl, b5⟩)
            | fail)
          clear a0 a1 a2 ain b0 b1 b2 bin cX
          have zA := zA.call b5
          have zB := zB.call b5
          have zN := zN.call b5
          have zE := zE.call b5
          have hown := own_below hown b5
          have L0 := chain L0 b5
          obtain ⟨v', w6, hrun, own6, hgr, b6⟩ := t_app1 w5 w.heap.size u5 (k + 1) _ hown Z (by omega) L0.size
          have zA := (zA.past (.cells #[.string Z] 9)).grown17 (hown.alloc _) (by decide) hgr
          have zB := (zB.past (.cells #[.string Z] 9)).grown17 (hown.alloc _) (by decide) hgr
          have zN := (zN.past (.cells #[.string Z] 9)).grown17 (hown.alloc _) (by decide) hgr
          have zE := (zE.past (.cells #[.string Z] 9)).grown17 (hown.alloc _) (by decide) hgr
          have L0 := L0.trans b6
          go_upto_region 11 with (first
            | (at_builtin; refine gen_run rfl _ _ _ rfl _ _ rfl rfl _ w6 hrun ?_)
            | fail)
          clear hrun hgr hown b5 b6 hlwA hlwB
          have hKx := hK.call L0
          go_upto_region 12 with (first
            | (go_at_call 27; refine (cD _ hKx).mono ?_; rintro e w7 ⟨rfl, b7⟩; have zN := zN.call b7; have n0 := zN.read 0; have nf := zN.free 0; have nin := zN.inside)
            | fail)
          have zA := zA.call b7
          have zB := zB.call b7
          have zE := zE.call b7
          have own6 := own_below own6 b7
          have L0 := chain L0 b7
          have own6 := own_apart17 own6 zN (by decide) 0 (.string (dgB n Z))
          obtain ⟨zN, oN⟩ := put_cell17 zN 0 (.string (dgB n Z))
          have zA := oN.box zA (fun e => by have e := (show _ = _ from e); omega)
          have zB := oN.box zB (fun e => by have e := (show _ = _ from e); omega)
          have zE := oN.box zE (fun e => by have e := (show _ = _ from e); omega)
          have L0 := L0.trans (oN.below (B := w.heap.size) (fun i hi => by rw [show i = _ from hi]; omega) L0.size)
          change Code.wp _ _ _ _ (World.setCell w7 ⟨gn, 0, none⟩ (.string (dgB n Z)))
          generalize World.setCell w7 ⟨gn, 0, none⟩ (.string (dgB n Z)) = V7 at *
          have zN : Box V7 gn 49 (ndB (dgB n Z) M.h M.l) := zN
          clear oN
          clear b7 cD hKx
          have a0 := zA.inside
          have a1 : (V7).cell? ⟨ga, 1, none⟩ = some _ := zA.read 1
          have a2 : (V7).cell? ⟨ga, 2, none⟩ = some _ := zA.read 2
          have b0 := zB.inside
          have b1 : (V7).cell? ⟨gb, 1, none⟩ = some _ := zB.read 1
          have b2 : (V7).cell? ⟨gb, 2, none⟩ = some _ := zB.read 2
          have n0 := zN.inside
          have n1 : (V7).cell? ⟨gn, 1, none⟩ = some _ := zN.read 1
          have n2 : (V7).cell? ⟨gn, 2, none⟩ = some _ := zN.read 2
          have m0 := zN.free 0
          have m1 := zN.free 1
          have m2 := zN.free 2
          go_upto_region 13 with fail
          have own6 := own_apart17 own6 zN (by decide) 2 (.int .u64 lo)
          obtain ⟨zN, oN⟩ := put_cell17 zN 2 (.int .u64 lo)
          have zA := oN.box zA (fun e => by have e := (show _ = _ from e); omega)
          have zB := oN.box zB (fun e => by have e := (show _ = _ from e); omega)
          have zE := oN.box zE (fun e => by have e := (show _ = _ from e); omega)
          have L0 := L0.trans (oN.below (B := w.heap.size) (fun i hi => by rw [show i = _ from hi]; omega) L0.size)
          change Code.wp _ _ _ _ (World.setCell V7 ⟨gn, 2, none⟩ (.int .u64 lo))
          generalize World.setCell V7 ⟨gn, 2, none⟩ (.int .u64 lo) = V8 at *
          have zN : Box V8 gn 49 (ndB (dgB n Z) M.h lo) := zN
          clear oN
          clear a0 a1 a2 b0 b1 b2 n0 n1 n2 m0 m1 m2
          have a0 := zA.inside
          have a1 : (V8).cell? ⟨ga, 1, none⟩ = some _ := zA.read 1
          have a2 : (V8).cell? ⟨ga, 2, none⟩ = some _ := zA.read 2
          have b0 := zB.inside
          have b1 : (V8).cell? ⟨gb, 1, none⟩ = some _ := zB.read 1
          have b2 : (V8).cell? ⟨gb, 2, none⟩ = some _ := zB.read 2
          have n0 := zN.inside
          have n1 : (V8).cell? ⟨gn, 1, none⟩ = some _ := zN.read 1
          have n2 : (V8).cell? ⟨gn, 2, none⟩ = some _ := zN.read 2
          have m0 := zN.free 0
          have m1 := zN.free 1
          have m2 := zN.free 2
          go_upto_region 14 with fail
          have own6 := own_apart17 own6 zN (by decide) 1 (.int .u64 (M.h + z.h))
          obtain ⟨zN, oN⟩ := put_cell17 zN 1 (.int .u64 (M.h + z.h))
          have zA := oN.box zA (fun e => by have e := (show _ = _ from e); omega)
          have zB := oN.box zB (fun e => by have e := (show _ = _ from e); omega)
          have zE := oN.box zE (fun e => by have e := (show _ = _ from e); omega)
          have L0 := L0.trans (oN.below (B := w.heap.size) (fun i hi => by rw [show i = _ from hi]; omega) L0.size)
          change Code.wp _ _ _ _ (World.setCell V8 ⟨gn, 1, none⟩ (.int .u64 (M.h + z.h)))
          generalize World.setCell V8 ⟨gn, 1, none⟩ (.int .u64 (M.h + z.h)) = V9 at *
          have zN : Box V9 gn 49 (ndB (dgB n Z) (M.h + z.h) lo) := zN
          clear oN
          clear a0 a1 a2 b0 b1 b2 n0 n1 n2 m0 m1 m2
          have a0 := zA.inside
          have a1 : (V9).cell? ⟨ga, 1, none⟩ = some _ := zA.read 1
          have a2 : (V9).cell? ⟨ga, 2, none⟩ = some _ := zA.read 2
          have b0 := zB.inside
          have b1 : (V9).cell? ⟨gb, 1, none⟩ = some _ := zB.read 1
          have b2 : (V9).cell? ⟨gb, 2, none⟩ = some _ := zB.read 2
          have n0 := zN.inside
          have n1 : (V9).cell? ⟨gn, 1, none⟩ = some _ := zN.read 1
          have n2 : (V9).cell? ⟨gn, 2, none⟩ = some _ := zN.read 2
          have m0 := zN.free 0
          have m1 := zN.free 1
          have m2 := zN.free 2
          by_cases hc : lo < M.l
          · obtain ⟨k5, k6⟩ := k3 (by omega)
            go_upto_region 5 with fail
            have own6 := own_apart17 own6 zN (by decide) 1 (.int .u64 (M.h + z.h + 1))
            obtain ⟨zN, oN⟩ := put_cell17 zN 1 (.int .u64 (M.h + z.h + 1))
            have zA := oN.box zA (fun e => by have e := (show _ = _ from e); omega)
            have zB := oN.box zB (fun e => by have e := (show _ = _ from e); omega)
            have zE := oN.box zE (fun e => by have e := (show _ = _ from e); omega)
            have L0 := L0.trans (oN.below (B := w.heap.size) (fun i hi => by rw [show i = _ from hi]; omega) L0.size)
            change Code.wp _ _ _ _ (World.setCell V9 ⟨gn, 1, none⟩ (.int .u64 (M.h + z.h + 1)))
            generalize World.setCell V9 ⟨gn, 1, none⟩ (.int .u64 (M.h + z.h + 1)) = V10 at *
            have zN : Box V10 gn 49 (ndB (dgB n Z) (M.h + z.h + 1) lo) := zN
            clear oN
            rw [← k5] at zN
            have JF : Has w [(gn, 49, (ndB M2.hash M2.h M2.l)), (ge, 39, enV ⟨xp, xi, xs, xh, xl⟩ p (some ad) N c)] V10 := ⟨fun y hy => by
              simp only [List.mem_cons, List.not_mem_nil, or_false] at hy
              rcases hy with rfl | rfl
              · rw [eM]; exact zN
              · exact zE, L0⟩
            clear a0 a1 a2 b0 b1 b2 n0 n1 n2 m0 m1 m2 zN zE zA zB
            go_wp2
            go_roundg (N - (k + 1))
            case measure => have := HG.out; omega
            case rel => exact ⟨k + 1, by omega, Nat.le_refl _, by go_num, by rw [← range_txt, HZ.out]; exact own6, by rw [HM2.out]; exact JF⟩
          · have k5 := k4 (by omega)
            go_upto_region 5 with fail
            rw [← k5] at zN
            have JF : Has w [(gn, 49, (ndB M2.hash M2.h M2.l)), (ge, 39, enV ⟨xp, xi, xs, xh, xl⟩ p (some ad) N c)] V9 := ⟨fun y hy => by
              simp only [List.mem_cons, List.not_mem_nil, or_false] at hy
              rcases hy with rfl | rfl
              · rw [eM]; exact zN
              · exact zE, L0⟩
            clear a0 a1 a2 b0 b1 b2 n0 n1 n2 m0 m1 m2 zN zE zA zB
            go_wp2
            go_roundg (N - (k + 1))
            case measure => have := HG.out; omega
            case rel => exact ⟨k + 1, by omega, Nat.le_refl _, by go_num, by rw [← range_txt, HZ.out]; exact own6, by rw [HM2.out]; exact JF⟩
    · have e : k = N := by omega
      subst e
      have hki : ¬ (k : Int) < (k : Int) := by omega
      obtain ⟨A', c', hv, -, hrow⟩ := Sh.own_row (S := tS) (l := (List.range (k + 1)).map F) (by rw [List.length_map, List.length_range]; exact hown)
      rw [List.length_map, List.length_range] at hv
      subst hv
      go_wp2
      go_ret
      exact ⟨by first | exact J.below | (rw [← hge]; exact J.below), A', c', rfl, hrow⟩
end Go.Proofs.YtkecekfapiegjaaDoor
