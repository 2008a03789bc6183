/-
  The law VerifyTells: whether any entries hold under any root, each and all, and whether the root may be, is what the chapter says. Conditions: none.
-/
import Derived.Test.YtkecekfapiegjaaDoorM17Opn
import Derived.Test.YtkecekfapiegjaaDoorM17Ref
namespace Go.Proofs.YtkecekfapiegjaaDoor
set_option linter.unusedVariables false
set_option linter.unusedSimpArgs false
set_option maxRecDepth 10000
open Go.ChangeShapes Go.WideShapes Go.ChangeAt Go.RowKit

/-- What Check tells of each entry of a row. -/
def rowV (r : RtP) (ms : List EnM) (S : Nat → List Nd) (i : Nat) : Int := match ms[i]? with
  | some m => checkE r m.lf m.pos.toNat (S i)
  | none => 0
/-- The first that isn't nought from a place on. -/
def FromV (V : Nat → Int) (N k p : Nat) (E : Int) : Prop := k ≤ p ∧ p ≤ N ∧ (∀ j, k ≤ j → j < p → V j = 0) ∧ ((p = N ∧ E = 0) ∨ (p < N ∧ V p ≠ 0 ∧ E = V p))
theorem row_check {r : RtP} {ms : List EnM} {S : Nat → List Nd} {W : World} (hE : EnsAt W ms S) (hlong : ∀ (i : Nat) m, ms[i]? = some m → longE m.lf (S i) = false) (hK : Tab W) (hU : TabU W) {i : Nat} {m : EnM} (hm : ms[i]? = some m) (u : World) (hb : Below W.heap.size W u) :
    Calls Tryd.prog 13 #[r.val, .agg (enV m.lf m.pos m.A m.n m.c)] u (Tells (.int .i64 (rowV r ms S i)) u.heap.size u) := by
  obtain ⟨h1, h2, h3, h4, h5, h6⟩ := hE i m hm
  obtain ⟨g1, -, g3, g4⟩ := longE_no (hlong i m hm)
  have e : rowV r ms S i = checkE r m.lf m.pos.toNat (S i) := by rw [rowV, hm]
  have hp := h2.1
  have hp2 := h2.2
  have := check17_any r m.lf m.pos.toNat (by omega) m.A m.c (S i) (by omega) ⟨by omega, by omega⟩ h1.2 (fun y hy => (h5 y hy).2) u (h6.on hb) (hK.call hb) (hU.call hb)
  rw [← h3, show ((m.pos.toNat : Nat) : Int) = m.pos by omega] at this
  rw [e]
  exact this
theorem rrow_check {r : RtP} {ms : List EnM} {S : Nat → List Nd} {W : World} (hE : EnsAt W ms S) (hlong : ∀ (i : Nat) m, ms[i]? = some m → longE m.lf (S i) = false) {i : Nat} {m : EnM} (hm : ms[i]? = some m) (u : World) (hb : Below W.heap.size W u) :
    Calls Tryd.prog 12 #[r.val, .agg (enV m.lf m.pos m.A m.n m.c)] u (Tells (.int .i64 (rowV r ms S i)) u.heap.size u) := by
  obtain ⟨h1, h2, h3, h4, h5, h6⟩ := hE i m hm
  obtain ⟨g1, -, g3, g4⟩ := longE_no (hlong i m hm)
  have e : rowV r ms S i = checkE r m.lf m.pos.toNat (S i) := by rw [rowV, hm]
  have hp := h2.1
  have hp2 := h2.2
  have := rcheck17_any r m.lf m.pos.toNat (by omega) m.A m.c (S i) (by omega) ⟨by omega, by omega⟩ h1.2 (fun y hy => (h5 y hy).2) u (h6.on hb)
  rw [← h3, show ((m.pos.toNat : Nat) : Int) = m.pos by omega] at this
  rw [e]
  exact this
set_option maxRecDepth 100000 in
set_option maxHeartbeats 8000000 in
theorem verifyTells_any (r : RtP) (hr : r.fine17) (A : Option Addr) (c : Nat) (ms : List EnM) (S : Nat → List Nd) (hl : ms.length ≤ 9223372036854775807) (w : World) (hR : enS.Row w w.heap.size A ms) (hE : EnsAt w ms S) (hK : Tab w) (hU : TabU w) :
    Calls Tryd.prog 3 #[r.val, .slice A ms.length c] w (Tells (.bool true) w.heap.size w) := by
  have cL := fun u hR hE => long17_any r hr.1 A c ms S hl u hR hE
  have cM := fun u => may17_any r u
  have rM := fun u => rmay17_any r u
  have cV := fun (hs : ms.length ≤ 40) (hlong : ∀ (i : Nat) m, ms[i]? = some m → longE m.lf (S i) = false) u hb => all17_any r A c ms (by omega) (rowV r ms S) u (hR.on hb) (fun i m v hm hv => row_check hE hlong hK hU hm v (chain hb hv))
  have cC := fun (hlong : ∀ (i : Nat) m, ms[i]? = some m → longE m.lf (S i) = false) i m (hm : ms[i]? = some m) u hb => row_check (r := r) hE hlong hK hU hm u hb
  have rC := fun (hlong : ∀ (i : Nat) m, ms[i]? = some m → longE m.lf (S i) = false) i m (hm : ms[i]? = some m) u hb => rrow_check (r := r) hE hlong hm u hb
  have hlong : ∀ e, LongP r ms S e → e = .returned (.bool true) ∨ e = .returned (.bool false) ∧ ms.length ≤ 40 ∧ (∀ (i : Nat) m, ms[i]? = some m → longE m.lf (S i) = false) := fun e h => by
    rcases h with h | ⟨h, h1, -, h2⟩
    · exact Or.inl h
    · exact Or.inr ⟨h, h1, h2⟩
  generalize rowV r ms S = V at *
  generalize mayR r = M at *
  obtain ⟨N, hN⟩ : ∃ N, ms.length = N := ⟨_, rfl⟩
  rw [hN] at cL cV hl ⊢
  simp only [hN] at hlong
  have HN := hideIt hN
  clear hN hr
  obtain ⟨rs, rh', rl', rn⟩ := r
  obtain ⟨ge, hge⟩ : ∃ g, w.heap.size = g := ⟨_, rfl⟩
  have J0 := (Has.start w).addAt 26 (rtB rs rh' rl' rn) (g := ge) hge
  simp only [RtP.val] at cL cM rM cV cC rC
  show Calls _ _ #[.agg (rtB rs rh' rl' rn), _] _ _
  go_enter Tryd.func3, Tryd.ntmps3
  go_upto_region 1 with fail
  change Code.wp _ _ _ _ (w.alloc (.cells (rtB rs rh' rl' rn) 26))
  generalize w.alloc (.cells (rtB rs rh' rl' rn) 26) = W0 at *
  obtain ⟨⟨y0, y1, y2, y3⟩, -, yin⟩ := (J0.box 0).four4
  have cL := cL W0 (hR.on J0.below) (hE.on J0.below)
  go_upto_region 3 with (first
    | (go_at_call 9; refine cL.mono ?_; rintro e w1 ⟨b1, hP⟩; have J1 := J0.call b1; rcases hlong _ hP with rfl | ⟨rfl, hs, hno⟩)
    | fail)
  · go_ret
    exact ⟨rfl, by first | exact J1.below | (rw [← hge]; exact J1.below)⟩
  · have cV := cV hs hno
    have cC := cC hno
    have rC := rC hno
    clear y0 y1 y2 y3 yin cL hlong b1 hP hno J0 hE
    have hS : ∀ u, Below w1.heap.size w1 u → (u.cell? ⟨ge, 0, none⟩ = some (.string rs) ∧ u.cell? ⟨ge, 1, none⟩ = some (.int .u64 rh') ∧ u.cell? ⟨ge, 2, none⟩ = some (.int .u64 rl') ∧ u.cell? ⟨ge, 3, none⟩ = some (.int .i64 rn)) ∧ ge < u.heap.size := fun u hu => ⟨((J1.call hu).box 0).four4.1, ((J1.call hu).box 0).inside⟩
    have b0 := (Below.refl w1.heap.size w1).drew
    refine wp_region_held_drew (S := fun u => (u.cell? ⟨ge, 0, none⟩ = some (.string rs) ∧ u.cell? ⟨ge, 1, none⟩ = some (.int .u64 rh') ∧ u.cell? ⟨ge, 2, none⟩ = some (.int .u64 rl') ∧ u.cell? ⟨ge, 3, none⟩ = some (.int .i64 rn)) ∧ ge < u.heap.size) (by kernel_rfl) (hS _ b0) (fun hHeld => ?_)
    generalize w1.drew = Wd at *
    refine wpAnyH_take (i := 0) (v := ?_) rfl (by kernel_rfl) (by kernel_rfl) (by kernel_rfl) (fun _ _ _ h => h) (Or.inl ⟨by rfl, ?_⟩) (by assumption) ?_
    rotate_left 1
    · intro w hSw; (try dsimp only at hSw); go_simp; try with_reducible rfl
    try simp only [Act.put, List.getElem_toArray, List.getElem_cons_succ, List.getElem_cons_zero, List.setIfInBounds_toArray, List.set_cons_zero, List.set_cons_succ]
    refine wpAnyH_take (i := 2) (v := ?_) rfl (by kernel_rfl) (by kernel_rfl) (by kernel_rfl) (fun _ _ _ h => h) (Or.inl ⟨by rfl, ?_⟩) (by assumption) ?_
    rotate_left 1
    · intro w hSw; (try dsimp only at hSw); go_simp; try with_reducible rfl
    try simp only [Act.put, List.getElem_toArray, List.getElem_cons_succ, List.getElem_cons_zero, List.setIfInBounds_toArray, List.set_cons_zero, List.set_cons_succ]
    refine wpAnyH_ready (rs := [1]) (by kernel_rfl) (by simp) (AllReadyH.cons rfl (fun K hK => ?_) AllReadyH.nil)
    go_simp
    go_at_call 10
    refine (cM _).mono ?_
    rintro e w2 ⟨rfl, b2⟩
    have b3 := chain b0 b2
    try simp only []
    refine hK.out _ _ (hS _ b3) (fun hHeld => ?_)
    clear hK K
    try simp only [Act.put, List.getElem_toArray, List.getElem_cons_succ, List.getElem_cons_zero, List.setIfInBounds_toArray, List.set_cons_zero, List.set_cons_succ]
    refine wpAnyH_ready (rs := [3]) (by kernel_rfl) (by simp) (AllReadyH.cons rfl (fun K hK => ?_) AllReadyH.nil)
    go_simp
    go_at_call 11
    refine (rM _).mono ?_
    rintro e w3 ⟨rfl, b4⟩
    have b5 := chain b3 b4
    try simp only []
    refine hK.out _ _ (hS _ b5) (fun hHeld => ?_)
    clear hK K
    try simp only [Act.put, List.getElem_toArray, List.getElem_cons_succ, List.getElem_cons_zero, List.setIfInBounds_toArray, List.set_cons_zero, List.set_cons_succ]
    refine wpAnyH_take (i := 4) (v := ?_) rfl (by kernel_rfl) (by kernel_rfl) (by kernel_rfl) (fun _ _ _ h => h) (Or.inl ⟨by rfl, ?_⟩) (by assumption) ?_
    rotate_left 1
    · intro w hSw; (try dsimp only at hSw); go_simp; try with_reducible rfl
    try simp only [Act.put, List.getElem_toArray, List.getElem_cons_succ, List.getElem_cons_zero, List.setIfInBounds_toArray, List.set_cons_zero, List.set_cons_succ]
    refine wpAnyH_done (by kernel_rfl) ?_ _
    have J2 := J1.call b5
    have qM : (M != M) = false := by simp
    clear hS b0 b2 b3 b4 b5 hHeld cM rM J1
    go_wp2
    go_loopg [5, 6, 7] N (fun gk s5 s6 s7 wr => ∃ k p E, k ≤ N ∧ k ≤ gk ∧ s5 = .int .i64 (p : Nat) ∧ s6 = .int .i64 E ∧ s7 = .int .i64 (((k : Nat) : Int) - 1) ∧ FromV V N k p E ∧ Has w [(ge, 26, rtB rs rh' rl' rn)] wr)
    case atStart => exact ⟨N, N, 0, Nat.le_refl _, Nat.le_refl _, rfl, rfl, by go_num, ⟨Nat.le_refl _, Nat.le_refl _, fun j h1 h2 => by omega, Or.inl ⟨rfl, rfl⟩⟩, J2⟩
    case round =>
      obtain ⟨k, p, E, hk, hgk, rfl, rfl, rfl, hfv, J⟩ := hrel
      have HG := hideIt hgk
      have HF := hideIt hfv
      clear hgk hfv J2
      by_cases hlt : 0 < k
      · obtain ⟨j, rfl⟩ : ∃ j, k = j + 1 := ⟨k - 1, by omega⟩
        have ej : (((j + 1 : Nat) : Int) - 1) = (j : Int) := by omega
        rw [ej]
        clear ej
        obtain ⟨m, hm⟩ : ∃ m, ms[j]? = some m := ⟨_, List.getElem?_eq_getElem (by rw [HN.out]; omega)⟩
        have cCj := cC j m hm
        have rCj := rC j m hm
        obtain ⟨X, hX⟩ : ∃ X, V j = X := ⟨_, rfl⟩
        rw [hX] at cCj rCj
        have HX := hideIt hX
        clear hX
        obtain ⟨ad, rfl, -⟩ := en_get (hR.on J.below) hm
        have hRow := hR.on J.below
        obtain ⟨⟨mp, mi, mss, mh, ml⟩, mq, mA, mn, mc⟩ := m
        have hji : (j : Int) < (N : Int) := by omega
        have hS : ∀ u, Below wr.heap.size wr u → ((u.cell? ⟨ge, 0, none⟩ = some (.string rs) ∧ u.cell? ⟨ge, 1, none⟩ = some (.int .u64 rh') ∧ u.cell? ⟨ge, 2, none⟩ = some (.int .u64 rl') ∧ u.cell? ⟨ge, 3, none⟩ = some (.int .i64 rn)) ∧ ge < u.heap.size) ∧ ((u.cell? (ad.add (j * 7)) = some (.bool mp) ∧ u.cell? ⟨(ad.add (j * 7)).block, (ad.add (j * 7)).off + 1, none⟩ = some (.string mi) ∧ u.cell? ⟨(ad.add (j * 7)).block, (ad.add (j * 7)).off + 2, none⟩ = some (.string mss) ∧ u.cell? ⟨(ad.add (j * 7)).block, (ad.add (j * 7)).off + 3, none⟩ = some (.int .u64 mh) ∧ u.cell? ⟨(ad.add (j * 7)).block, (ad.add (j * 7)).off + 4, none⟩ = some (.int .u64 ml) ∧ u.cell? ⟨(ad.add (j * 7)).block, (ad.add (j * 7)).off + 5, none⟩ = some (.int .u64 mq) ∧ u.cell? ⟨(ad.add (j * 7)).block, (ad.add (j * 7)).off + 6, none⟩ = some (.slice mA mn mc)) ∧ (ad.add (j * 7)).block < u.heap.size) := fun u hu => by
          obtain ⟨ad', e, q1, q2⟩ := en_get (hRow.on hu) hm
          injection e with e
          subst e
          exact ⟨⟨((J.call hu).box 0).four4.1, ((J.call hu).box 0).inside⟩, q2, q1⟩
        go_upto_region 9 with fail
        have b0 := (Below.refl wr.heap.size wr).drew
        refine wp_region_held_drew (S := fun u => ((u.cell? ⟨ge, 0, none⟩ = some (.string rs) ∧ u.cell? ⟨ge, 1, none⟩ = some (.int .u64 rh') ∧ u.cell? ⟨ge, 2, none⟩ = some (.int .u64 rl') ∧ u.cell? ⟨ge, 3, none⟩ = some (.int .i64 rn)) ∧ ge < u.heap.size) ∧ ((u.cell? (ad.add (j * 7)) = some (.bool mp) ∧ u.cell? ⟨(ad.add (j * 7)).block, (ad.add (j * 7)).off + 1, none⟩ = some (.string mi) ∧ u.cell? ⟨(ad.add (j * 7)).block, (ad.add (j * 7)).off + 2, none⟩ = some (.string mss) ∧ u.cell? ⟨(ad.add (j * 7)).block, (ad.add (j * 7)).off + 3, none⟩ = some (.int .u64 mh) ∧ u.cell? ⟨(ad.add (j * 7)).block, (ad.add (j * 7)).off + 4, none⟩ = some (.int .u64 ml) ∧ u.cell? ⟨(ad.add (j * 7)).block, (ad.add (j * 7)).off + 5, none⟩ = some (.int .u64 mq) ∧ u.cell? ⟨(ad.add (j * 7)).block, (ad.add (j * 7)).off + 6, none⟩ = some (.slice mA mn mc)) ∧ (ad.add (j * 7)).block < u.heap.size)) (by kernel_rfl) (hS _ b0) (fun hHeld => ?_)
        generalize wr.drew = Wd at *
        refine wpAnyH_take (i := 0) (v := ?_) rfl (by kernel_rfl) (by kernel_rfl) (by kernel_rfl) (fun _ _ _ h => h) (Or.inl ⟨by rfl, ?_⟩) (by assumption) ?_
        rotate_left 1
        · intro w hSw; (try dsimp only at hSw); go_simp; try with_reducible rfl
        try simp only [Act.put, List.getElem_toArray, List.getElem_cons_succ, List.getElem_cons_zero, List.setIfInBounds_toArray, List.set_cons_zero, List.set_cons_succ]
        refine wpAnyH_take (i := 1) (v := ?_) rfl (by kernel_rfl) (by kernel_rfl) (by kernel_rfl) (fun _ _ _ h => h) (Or.inl ⟨by rfl, ?_⟩) (by assumption) ?_
        rotate_left 1
        · intro w hSw; (try dsimp only at hSw); go_simp; try with_reducible rfl
        try simp only [Act.put, List.getElem_toArray, List.getElem_cons_succ, List.getElem_cons_zero, List.setIfInBounds_toArray, List.set_cons_zero, List.set_cons_succ]
        refine wpAnyH_take (i := 2) (v := ?_) rfl (by kernel_rfl) (by kernel_rfl) (by kernel_rfl) (fun _ _ _ h => h) (Or.inl ⟨by rfl, ?_⟩) (by assumption) ?_
        rotate_left 1
        · intro w hSw; (try dsimp only at hSw); go_simp; try with_reducible rfl
        try simp only [Act.put, List.getElem_toArray, List.getElem_cons_succ, List.getElem_cons_zero, List.setIfInBounds_toArray, List.set_cons_zero, List.set_cons_succ]
        refine wpAnyH_take (i := 3) (v := ?_) rfl (by kernel_rfl) (by kernel_rfl) (by kernel_rfl) (fun _ _ _ h => h) (Or.inl ⟨by rfl, ?_⟩) (by assumption) ?_
        rotate_left 1
        · intro w hSw; (try dsimp only at hSw); go_simp; try with_reducible rfl
        try simp only [Act.put, List.getElem_toArray, List.getElem_cons_succ, List.getElem_cons_zero, List.setIfInBounds_toArray, List.set_cons_zero, List.set_cons_succ]
        refine wpAnyH_take (i := 4) (v := ?_) rfl (by kernel_rfl) (by kernel_rfl) (by kernel_rfl) (fun _ _ _ h => h) (Or.inl ⟨by rfl, ?_⟩) (by assumption) ?_
        rotate_left 1
        · intro w hSw; (try dsimp only at hSw); go_simp; try with_reducible rfl
        try simp only [Act.put, List.getElem_toArray, List.getElem_cons_succ, List.getElem_cons_zero, List.setIfInBounds_toArray, List.set_cons_zero, List.set_cons_succ]
        refine wpAnyH_ready (rs := [5]) (by kernel_rfl) (by simp) (AllReadyH.cons rfl (fun K hK => ?_) AllReadyH.nil)
        go_simp
        go_at_call 12
        refine (rCj _ (chain J.below b0)).mono ?_
        rintro e w4 ⟨rfl, b4⟩
        have b1 := chain b0 b4
        try simp only []
        refine hK.out _ _ (hS _ b1) (fun hHeld => ?_)
        clear hK K
        try simp only [Act.put, List.getElem_toArray, List.getElem_cons_succ, List.getElem_cons_zero, List.setIfInBounds_toArray, List.set_cons_zero, List.set_cons_succ]
        refine wpAnyH_take (i := 6) (v := ?_) rfl (by kernel_rfl) (by kernel_rfl) (by kernel_rfl) (fun _ _ _ h => h) (Or.inl ⟨by rfl, ?_⟩) (by assumption) ?_
        rotate_left 1
        · intro w hSw; (try dsimp only at hSw); go_simp; try with_reducible rfl
        try simp only [Act.put, List.getElem_toArray, List.getElem_cons_succ, List.getElem_cons_zero, List.setIfInBounds_toArray, List.set_cons_zero, List.set_cons_succ]
        refine wpAnyH_done (by kernel_rfl) ?_ _
        go_upto_region 10 with fail
        have b2 := chain b1 (Below.refl w4.heap.size w4).drew
        refine wp_region_held_drew (S := fun u => ((u.cell? ⟨ge, 0, none⟩ = some (.string rs) ∧ u.cell? ⟨ge, 1, none⟩ = some (.int .u64 rh') ∧ u.cell? ⟨ge, 2, none⟩ = some (.int .u64 rl') ∧ u.cell? ⟨ge, 3, none⟩ = some (.int .i64 rn)) ∧ ge < u.heap.size) ∧ ((u.cell? (ad.add (j * 7)) = some (.bool mp) ∧ u.cell? ⟨(ad.add (j * 7)).block, (ad.add (j * 7)).off + 1, none⟩ = some (.string mi) ∧ u.cell? ⟨(ad.add (j * 7)).block, (ad.add (j * 7)).off + 2, none⟩ = some (.string mss) ∧ u.cell? ⟨(ad.add (j * 7)).block, (ad.add (j * 7)).off + 3, none⟩ = some (.int .u64 mh) ∧ u.cell? ⟨(ad.add (j * 7)).block, (ad.add (j * 7)).off + 4, none⟩ = some (.int .u64 ml) ∧ u.cell? ⟨(ad.add (j * 7)).block, (ad.add (j * 7)).off + 5, none⟩ = some (.int .u64 mq) ∧ u.cell? ⟨(ad.add (j * 7)).block, (ad.add (j * 7)).off + 6, none⟩ = some (.slice mA mn mc)) ∧ (ad.add (j * 7)).block < u.heap.size)) (by kernel_rfl) (hS _ b2) (fun hHeld => ?_)
        generalize w4.drew = We at *
        refine wpAnyH_take (i := 0) (v := ?_) rfl (by kernel_rfl) (by kernel_rfl) (by kernel_rfl) (fun _ _ _ h => h) (Or.inl ⟨by rfl, ?_⟩) (by assumption) ?_
        rotate_left 1
        · intro w hSw; (try dsimp only at hSw); go_simp; try with_reducible rfl
        try simp only [Act.put, List.getElem_toArray, List.getElem_cons_succ, List.getElem_cons_zero, List.setIfInBounds_toArray, List.set_cons_zero, List.set_cons_succ]
        refine wpAnyH_take (i := 1) (v := ?_) rfl (by kernel_rfl) (by kernel_rfl) (by kernel_rfl) (fun _ _ _ h => h) (Or.inl ⟨by rfl, ?_⟩) (by assumption) ?_
        rotate_left 1
        · intro w hSw; (try dsimp only at hSw); go_simp; try with_reducible rfl
        try simp only [Act.put, List.getElem_toArray, List.getElem_cons_succ, List.getElem_cons_zero, List.setIfInBounds_toArray, List.set_cons_zero, List.set_cons_succ]
        refine wpAnyH_take (i := 2) (v := ?_) rfl (by kernel_rfl) (by kernel_rfl) (by kernel_rfl) (fun _ _ _ h => h) (Or.inl ⟨by rfl, ?_⟩) (by assumption) ?_
        rotate_left 1
        · intro w hSw; (try dsimp only at hSw); go_simp; try with_reducible rfl
        try simp only [Act.put, List.getElem_toArray, List.getElem_cons_succ, List.getElem_cons_zero, List.setIfInBounds_toArray, List.set_cons_zero, List.set_cons_succ]
        refine wpAnyH_take (i := 3) (v := ?_) rfl (by kernel_rfl) (by kernel_rfl) (by kernel_rfl) (fun _ _ _ h => h) (Or.inl ⟨by rfl, ?_⟩) (by assumption) ?_
        rotate_left 1
        · intro w hSw; (try dsimp only at hSw); go_simp; try with_reducible rfl
        try simp only [Act.put, List.getElem_toArray, List.getElem_cons_succ, List.getElem_cons_zero, List.setIfInBounds_toArray, List.set_cons_zero, List.set_cons_succ]
        refine wpAnyH_take (i := 4) (v := ?_) rfl (by kernel_rfl) (by kernel_rfl) (by kernel_rfl) (fun _ _ _ h => h) (Or.inl ⟨by rfl, ?_⟩) (by assumption) ?_
        rotate_left 1
        · intro w hSw; (try dsimp only at hSw); go_simp; try with_reducible rfl
        try simp only [Act.put, List.getElem_toArray, List.getElem_cons_succ, List.getElem_cons_zero, List.setIfInBounds_toArray, List.set_cons_zero, List.set_cons_succ]
        refine wpAnyH_take (i := 6) (v := ?_) rfl (by kernel_rfl) (by kernel_rfl) (by kernel_rfl) (fun _ _ _ h => h) (Or.inl ⟨by rfl, ?_⟩) (by assumption) ?_
        rotate_left 1
        · intro w hSw; (try dsimp only at hSw); go_simp; try with_reducible rfl
        try simp only [Act.put, List.getElem_toArray, List.getElem_cons_succ, List.getElem_cons_zero, List.setIfInBounds_toArray, List.set_cons_zero, List.set_cons_succ]
        refine wpAnyH_ready (rs := [5]) (by kernel_rfl) (by simp) (AllReadyH.cons rfl (fun K hK => ?_) AllReadyH.nil)
        go_simp
        go_at_call 13
        refine (cCj _ (chain J.below b2)).mono ?_
        rintro e w5 ⟨rfl, b5⟩
        have b3 := chain b2 b5
        try simp only []
        refine hK.out _ _ (hS _ b3) (fun hHeld => ?_)
        clear hK K
        try simp only [Act.put, List.getElem_toArray, List.getElem_cons_succ, List.getElem_cons_zero, List.setIfInBounds_toArray, List.set_cons_zero, List.set_cons_succ]
        refine wpAnyH_take (i := 7) (v := ?_) rfl (by kernel_rfl) (by kernel_rfl) (by kernel_rfl) (fun _ _ _ h => h) (Or.inl ⟨by rfl, ?_⟩) (by assumption) ?_
        rotate_left 1
        · intro w hSw; (try dsimp only at hSw); go_simp; try with_reducible rfl
        try simp only [Act.put, List.getElem_toArray, List.getElem_cons_succ, List.getElem_cons_zero, List.setIfInBounds_toArray, List.set_cons_zero, List.set_cons_succ]
        refine wpAnyH_done (by kernel_rfl) ?_ _
        have JJ := J.call b3
        have qX : (X != X) = false := by simp
        clear hS cCj rCj hRow b0 b1 b2 b3 b4 b5
        by_cases hz : X = 0
        · subst hz
          go_wp2
          go_roundg j
          case measure => have := HG.out; omega
          case rel => exact ⟨j, p, E, by omega, Nat.le_refl _, rfl, rfl, by go_num, by
              obtain ⟨f1, f2, f3, f4⟩ := HF.out
              exact ⟨by omega, f2, fun i h1 h2 => by
                by_cases e : i = j
                · rw [e]; exact HX.out
                · exact f3 i (by omega) h2, f4⟩, JJ⟩
        · have q0 : (X != 0) = true := bne_iff_ne.2 hz
          go_wp2
          go_roundg j
          case measure => have := HG.out; omega
          case rel => exact ⟨j, j, X, by omega, Nat.le_refl _, rfl, rfl, by go_num, ⟨Nat.le_refl _, by omega, fun i h1 h2 => by omega, Or.inr ⟨by omega, by rw [HX.out]; exact hz, HX.out.symm⟩⟩, JJ⟩
      · obtain rfl : k = 0 := by omega
        obtain ⟨-, f2, f3, f4⟩ := HF.out
        have hfirst : FirstV V N p E := ⟨f2, fun j hj => f3 j (Nat.zero_le _) hj, f4⟩
        have hfst : ∀ k' E', FirstV V N k' E' → p = k' ∧ E = E' := fun k' E' h => hfirst.once h
        obtain ⟨⟨y0, y1, y2, y3⟩, -, yin⟩ := (J.box 0).four4
        have cA := cV _ J.below
        clear f2 f3 f4 HF hfirst cC rC cV
        go_wp2_with (first
          | (go_at_call 14; refine cA.mono ?_; rintro e w9 ⟨b9, k9, E9, rfl, hfv⟩; obtain ⟨rfl, rfl⟩ := hfst _ _ hfv)
          | fail)
        go_ret
        exact ⟨rfl, by first | exact (J.call b9).below | (rw [← hge]; exact (J.call b9).below)⟩
theorem verifyTells_core (H : Type) (enc : TypeId × Value → H) (W : World) (base : Nat) (args : Array Value) (ds gs : List (DataW H)) (before : List MemPlace)
    (hval : ∀ (j : Nat) t v, Tryd.f3.params[j]? = some t → args[j]? = some v → Value.okWide Tryd.prog W .any base t v)
    (hW : DataW.Whole enc Tryd.prog Tryd.f3.params.toList Rows.verifyTellsSpec.vars false W args.toList ds gs before) (hT : Tab W ∧ TabU W) :
    gs = [] ∧ ds.length = 2 ∧ Calls Tryd.prog 3 args W (Tells (.bool true) W.heap.size W) := by
  obtain ⟨p, q, hA, hV, -, -, -⟩ := hW
  obtain ⟨rfl, rfl⟩ := trodVars_none hV
  have hA : DataW.TrodAll enc Tryd.prog W 0 (fun _ => true) true Tryd.f3.params.toList args.toList ds p := hA
  rw [Tryd.params3] at hA hval
  obtain ⟨v0, vs0, d0, ds0, p0, ps0, e0, rfl, -, h0, hA⟩ := trodAll_cons hA
  obtain ⟨v1, vs1, d1, ds1, p1, ps1, rfl, rfl, -, h1, hA⟩ := trodAll_cons hA
  obtain ⟨rfl, rfl, rfl⟩ := trodAll_nil hA
  obtain rfl : args = #[v0, v1] := Array.ext' e0
  obtain ⟨r, rfl, hr⟩ := open_root17 (hval 0 26 v0 rfl rfl) h0
  obtain ⟨A, c, ms, S, rfl, hl, hR, hE⟩ := open_entries17 (hval 1 27 v1 rfl rfl) h1
  exact ⟨rfl, rfl, verifyTells_any r hr A c ms S hl W hR hE hT.1 hT.2⟩
end Go.Proofs.YtkecekfapiegjaaDoor
