/-
  Package row's Parse, Text, Of, walked.
-/
import Derived.Test.YtfnbehijnmbhjaaDoorU10Cut
import Derived.Test.YtfnbehijnmbhjaaDoorU7Id
import Derived.Test.YtfnbehijnmbhjaaDoorU5Clone
import Derived.Test.YtfnbehijnmbhjaaDoorM2Dec
import Derived.Test.YtfnbehijnmbhjaaDoorW1Has
namespace Go.Proofs.YtfnbehijnmbhjaaDoor
set_option linter.unusedVariables false
set_option linter.unusedSimpArgs false
set_option maxRecDepth 10000
open Go.RowKit Go.Lib

/-- A row's cells, as a block's. -/
def rwB (i : ByteArray) (h l : Int) : Array Value := #[.string i, .int .u64 h, .int .u64 l]
theorem Box.put3 {w : World} {g : Nat} {t : TypeId} {a b c : Value} (h : Box w g t #[a, b, c]) (x y z : Value) :
    Box (((w.setCell ⟨g, 0, none⟩ x).setCell ⟨g, 1, none⟩ y).setCell ⟨g, 2, none⟩ z) g t #[x, y, z] := ((h.wrote 0 x).wrote 1 y).wrote 2 z
theorem below_put3 {B : Nat} {w W : World} {g : Nat} (h : Below B w W) (hg : B ≤ g) (x y z : Value) :
    Below B w (((W.setCell ⟨g, 0, none⟩ x).setCell ⟨g, 1, none⟩ y).setCell ⟨g, 2, none⟩ z) :=
  ((h.setCell (p := ⟨g, 0, none⟩) hg x).setCell (p := ⟨g, 1, none⟩) hg y).setCell (p := ⟨g, 2, none⟩) hg z

set_option maxRecDepth 100000 in
set_option maxHeartbeats 2000000 in
theorem rowparse_any (s : ByteArray) (hs : s.size ≤ 1000000) (w : World) (hT : TabU w) :
    Calls Tryd.prog 10 #[.string s] w (Tells (.tuple #[(parR s.data.toList).1.val, .int .i64 (parR s.data.toList).2]) w.heap.size w) := by
  have H0 := (Has.start w).add 26 (rwB ⟨#[]⟩ 0 0)
  cases hc : cutL s.data.toList with
  | none =>
    have cC := fun u => cutB_none s hc u
    rw [parR_none hc]
    clear hc
    go_enter Tryd.func10, Tryd.ntmps10
    go_upto_region 1 with fail
    change Code.wp _ _ _ _ (w.alloc (.cells (rwB ⟨#[]⟩ 0 0) 26))
    generalize w.alloc (.cells (rwB ⟨#[]⟩ 0 0) 26) = W at *
    obtain ⟨y0, y1, y2, g0, g1, g2, hin1⟩ := (H0.box 0).three
    go_wp2_with (first
      | (go_at_call 27; refine (cC _).mono ?_; rintro e w1 ⟨rfl, rfl⟩)
      | fail)
    have BX := (H0.box 0).put3 (.string ⟨#[]⟩) (.int .u64 0) (.int .u64 0)
    have LX := below_put3 (g := w.heap.size) H0.below (Nat.le_refl _) (.string ⟨#[]⟩) (.int .u64 0) (.int .u64 0)
    generalize World.setCell (World.setCell (World.setCell _ _ _) _ _) _ _ = X at *
    obtain ⟨x0, x1, x2, -, -, -, hgx⟩ := BX.three
    exact bodyPost_ret (v := .tuple #[Rw.zero.val, .int .i64 100]) (by simp [results, Tryd.results10, go_sem, Rw.val, Rw.zero, x0, x1, x2]) rfl ⟨rfl, LX⟩
  | some p =>
    obtain ⟨a, b⟩ := p
    have cC := fun u => cutB_some s a b hc (by omega) u
    have hab := (cutL_some _ _ _).1 hc
    have hsz : a.length ≤ s.size ∧ b.length ≤ s.size := by rw [← ba_size, hab.1, List.length_append, List.length_cons]; omega
    have cI := fun u hu => mayId_any (bA a) (by rw [bA_size]; omega) u hu
    have cP := fun u => parse_any (bA b) (by rw [bA_size]; omega) u
    have cK := fun u => clone_any (bA a) (by rw [bA_size]; omega) u
    simp only [bA_list] at cI
    unfold ParseTells at cP
    simp only [bA_list] at cP
    clear hab
    cases hi : isId a with
    | false =>
      rw [parR_id hc hi]
      rw [hi] at cI
      clear hc hi
      go_enter Tryd.func10, Tryd.ntmps10
      go_upto_region 1 with fail
      change Code.wp _ _ _ _ (w.alloc (.cells (rwB ⟨#[]⟩ 0 0) 26))
      generalize w.alloc (.cells (rwB ⟨#[]⟩ 0 0) 26) = W at *
      go_upto_region 5 with (first
        | (go_at_call 27; refine (cC _).mono ?_; rintro e w1 ⟨rfl, j1⟩; have H1 := H0.call j1)
        | (go_at_call 24; refine (cI _ (hT.call H1.below)).mono ?_; rintro e w2 ⟨rfl, j2⟩; have H2 := H1.call j2)
        | fail)
      obtain ⟨y0, y1, y2, g0, g1, g2, hin1⟩ := (H2.box 0).three
      go_wp2
      have BX := (H2.box 0).put3 (.string ⟨#[]⟩) (.int .u64 0) (.int .u64 0)
      have LX := below_put3 (g := w.heap.size) H2.below (Nat.le_refl _) (.string ⟨#[]⟩) (.int .u64 0) (.int .u64 0)
      generalize World.setCell (World.setCell (World.setCell _ _ _) _ _) _ _ = X at *
      obtain ⟨x0, x1, x2, -, -, -, hgx⟩ := BX.three
      exact bodyPost_ret (v := .tuple #[Rw.zero.val, .int .i64 101]) (by simp [results, Tryd.results10, go_sem, Rw.val, Rw.zero, x0, x1, x2]) rfl ⟨rfl, LX⟩
    | true =>
      rw [hi] at cI
      by_cases hb : parE b = 0
      · rw [parR_ok hc hi hb]
        rw [hb] at cP
        clear hc hi hb
        generalize parH b = ph at *
        generalize parL b = pl at *
        go_enter Tryd.func10, Tryd.ntmps10
        go_upto_region 1 with fail
        change Code.wp _ _ _ _ (w.alloc (.cells (rwB ⟨#[]⟩ 0 0) 26))
        generalize w.alloc (.cells (rwB ⟨#[]⟩ 0 0) 26) = W at *
        go_upto_region 9 with (first
          | (go_at_call 27; refine (cC _).mono ?_; rintro e w1 ⟨rfl, j1⟩; have H1 := H0.call j1)
          | (go_at_call 24; refine (cI _ (hT.call H1.below)).mono ?_; rintro e w2 ⟨rfl, j2⟩; have H2 := H1.call j2)
          | (go_at_call 28; refine (cP _).mono ?_; rintro e w3 ⟨rfl, j3⟩; have H3 := H2.call j3)
          | fail)
        have H4 := H3.add 24 #[.int .u64 ph, .int .u64 pl]
        have hlt : w.heap.size < w3.heap.size := (H3.box 0).inside
        obtain ⟨g, hg⟩ : ∃ g, w3.heap.size = g := ⟨_, rfl⟩
        rw [hg] at H4 hlt ⊢
        generalize w3.alloc _ = W4 at *
        have fct : ∀ u, Box u g 24 #[.int .u64 ph, .int .u64 pl] → u.cell? ⟨g, 0, none⟩ = some (.int .u64 ph) ∧ u.cell? ⟨g, 1, none⟩ = some (.int .u64 pl) ∧ g < u.heap.size := fun u h => ⟨h.read 0, h.read 1, h.inside⟩
        have f4 := fct _ (H4.drew.box 0)
        refine wp_region_held_drew (S := fun u => u.cell? ⟨g, 0, none⟩ = some (.int .u64 ph) ∧ u.cell? ⟨g, 1, none⟩ = some (.int .u64 pl) ∧ g < u.heap.size) (by kernel_rfl) f4 (fun hHeld => ?_)
        refine wpAnyH_take (i := 0) (v := ?_) rfl (by kernel_rfl) (by kernel_rfl) (by kernel_rfl) (fun _ _ _ h => h) (Or.inl ⟨by rfl, ?_⟩) (by assumption) ?_
        rotate_left 1
        · intro w hSw; (try dsimp only at hSw); go_simp; try with_reducible rfl
        try simp only [Act.put, List.getElem_toArray, List.getElem_cons_succ, List.getElem_cons_zero, List.setIfInBounds_toArray, List.set_cons_zero, List.set_cons_succ]
        refine wpAnyH_take (i := 2) (v := ?_) rfl (by kernel_rfl) (by kernel_rfl) (by kernel_rfl) (fun _ _ _ h => h) (Or.inl ⟨by rfl, ?_⟩) (by assumption) ?_
        rotate_left 1
        · intro w hSw; (try dsimp only at hSw); go_simp; try with_reducible rfl
        try simp only [Act.put, List.getElem_toArray, List.getElem_cons_succ, List.getElem_cons_zero, List.setIfInBounds_toArray, List.set_cons_zero, List.set_cons_succ]
        refine wpAnyH_ready (rs := [1]) (by kernel_rfl) (by simp) (AllReadyH.cons rfl (fun K hK => ?_) AllReadyH.nil)
        go_simp
        go_at_call 29
        refine (cK W4.drew).mono ?_
        rintro e w5 ⟨rfl, j5⟩
        have H5 := H4.drew.call j5
        have f5 := fct _ (H5.box 0)
        try simp only []
        refine hK.out _ _ (f5) (fun hHeld => ?_)
        clear hK K
        try simp only [Act.put, List.getElem_toArray, List.getElem_cons_succ, List.getElem_cons_zero, List.setIfInBounds_toArray, List.set_cons_zero, List.set_cons_succ]
        refine wpAnyH_take (i := 3) (v := ?_) rfl (by kernel_rfl) (by kernel_rfl) (by kernel_rfl) (fun _ _ _ h => h) (Or.inl ⟨by rfl, ?_⟩) (by assumption) ?_
        rotate_left 1
        · intro w hSw; (try dsimp only at hSw); go_simp; try with_reducible rfl
        try simp only [Act.put, List.getElem_toArray, List.getElem_cons_succ, List.getElem_cons_zero, List.setIfInBounds_toArray, List.set_cons_zero, List.set_cons_succ]
        obtain ⟨y0, y1, y2, g0, g1, g2, hin1⟩ := (H5.box 1).three
        refine wpAnyH_ready (rs := [4]) (by kernel_rfl) (by simp) (AllReadyH.cons rfl (fun K hK => ?_) AllReadyH.nil)
        go_simp
        have BX := (H5.box 1).put3 (.string (bA a)) (.int .u64 ph) (.int .u64 pl)
        have B6 := (((H5.box 0).apart (p := ⟨w.heap.size, 0, none⟩) (by dsimp only; omega) (.string (bA a))).apart (p := ⟨w.heap.size, 1, none⟩) (by dsimp only; omega) (.int .u64 ph)).apart (p := ⟨w.heap.size, 2, none⟩) (by dsimp only; omega) (.int .u64 pl)
        have LX := below_put3 (g := w.heap.size) H5.below (Nat.le_refl _) (.string (bA a)) (.int .u64 ph) (.int .u64 pl)
        generalize World.setCell (World.setCell (World.setCell _ _ _) _ _) _ _ = X at *
        have f6 := fct _ B6
        refine hK.out _ _ (f6) (fun hHeld => ?_)
        clear hK K
        try simp only [Act.put, List.getElem_toArray, List.getElem_cons_succ, List.getElem_cons_zero, List.setIfInBounds_toArray, List.set_cons_zero, List.set_cons_succ]
        refine wpAnyH_take (i := 5) (v := ?_) rfl (by kernel_rfl) (by kernel_rfl) (by kernel_rfl) (fun _ _ _ h => h) (Or.inl ⟨by rfl, ?_⟩) (by assumption) ?_
        rotate_left 1
        · intro w hSw; (try dsimp only at hSw); go_simp; try with_reducible rfl
        try simp only [Act.put, List.getElem_toArray, List.getElem_cons_succ, List.getElem_cons_zero, List.setIfInBounds_toArray, List.set_cons_zero, List.set_cons_succ]
        refine wpAnyH_done (by kernel_rfl) ?_ _
        go_wp2
        obtain ⟨x0, x1, x2, -, -, -, hgx⟩ := BX.three
        exact bodyPost_ret (v := .tuple #[Rw.val ⟨bA a, ph, pl⟩, .int .i64 0]) (by simp [results, Tryd.results10, go_sem, Rw.val, x0, x1, x2]) rfl ⟨rfl, LX⟩
      · rw [parR_am hc hi hb]
        obtain ⟨pe, hpe⟩ : ∃ pe, parE b = pe := ⟨_, rfl⟩
        rw [hpe] at hb cP
        clear hc hi hpe
        generalize parH b = ph at *
        generalize parL b = pl at *
        go_enter Tryd.func10, Tryd.ntmps10
        go_upto_region 1 with fail
        change Code.wp _ _ _ _ (w.alloc (.cells (rwB ⟨#[]⟩ 0 0) 26))
        generalize w.alloc (.cells (rwB ⟨#[]⟩ 0 0) 26) = W at *
        go_upto_region 8 with (first
          | (go_at_call 27; refine (cC _).mono ?_; rintro e w1 ⟨rfl, j1⟩; have H1 := H0.call j1)
          | (go_at_call 24; refine (cI _ (hT.call H1.below)).mono ?_; rintro e w2 ⟨rfl, j2⟩; have H2 := H1.call j2)
          | (go_at_call 28; refine (cP _).mono ?_; rintro e w3 ⟨rfl, j3⟩; have H3 := H2.call j3)
          | fail)
        have H4 := H3.past (.cells #[.int .u64 ph, .int .u64 pl] 24)
        generalize w3.alloc _ = W4 at *
        obtain ⟨y0, y1, y2, g0, g1, g2, hin1⟩ := (H4.box 0).three
        go_wp2
        have BX := (H4.box 0).put3 (.string ⟨#[]⟩) (.int .u64 0) (.int .u64 0)
        have LX := below_put3 (g := w.heap.size) H4.below (Nat.le_refl _) (.string ⟨#[]⟩) (.int .u64 0) (.int .u64 0)
        generalize World.setCell (World.setCell (World.setCell _ _ _) _ _) _ _ = X at *
        obtain ⟨x0, x1, x2, -, -, -, hgx⟩ := BX.three
        exact bodyPost_ret (v := .tuple #[Rw.zero.val, .int .i64 102]) (by simp [results, Tryd.results10, go_sem, Rw.val, Rw.zero, x0, x1, x2]) rfl ⟨rfl, LX⟩
end Go.Proofs.YtfnbehijnmbhjaaDoor
