/-
  Package row's Text and Of, walked.
-/
import Derived.Test.YtfnbehijnmbhjaaDoorU10Row
import Derived.Laws.Concat
namespace Go.Proofs.YtfnbehijnmbhjaaDoor
set_option linter.unusedVariables false
set_option linter.unusedSimpArgs false
set_option maxRecDepth 10000
open Go.RowKit Go.Lib

theorem textR_str (i : ByteArray) (h l : Int) : (i ++ ⟨#[32]⟩) ++ str (decL (nv h l).toNat) = bA (textR ⟨i, h, l⟩) := by
  apply ba_ext
  rw [bA_list, ByteArray.data_append, ByteArray.data_append, Array.toList_append, Array.toList_append, str_data]
  simp [textR]
theorem dec_len {h l : Int} (a1 : Word h) (a0 : Word l) : (decL (nv h l).toNat).length ≤ 39 := decL_39 (by have := nv_word a1 a0; omega)

set_option maxRecDepth 100000 in
set_option maxHeartbeats 2000000 in
theorem rowtext_any (x : Rw) (hx : x.ok) (hs : x.id.size ≤ 1000000) (w : World) (hT : TabU w) : Calls Tryd.prog 12 #[x.val] w (Tells (.tuple #[.string (tolR x).1, .int .i64 (tolR x).2]) w.heap.size w) := by
  obtain ⟨i, h, l⟩ := x
  obtain ⟨a1, a0⟩ := hx
  have cI := fun u hu => mayId_any i (by simp only at hs; omega) u hu
  have cT := fun u => text_any h l a1 a0 u
  have hd := dec_len a1 a0
  simp only at hs a1 a0
  have H0 := (Has.start w).add 26 (rwB i h l)
  have ev : Rw.val ⟨i, h, l⟩ = .agg (rwB i h l) := rfl
  obtain ⟨A, hA⟩ : ∃ A, i ++ ⟨#[32]⟩ = A := ⟨_, rfl⟩
  obtain ⟨T, hT2⟩ : ∃ T, str (decL (nv h l).toNat) = T := ⟨_, rfl⟩
  obtain ⟨Z, hZ⟩ : ∃ Z, bA (textR ⟨i, h, l⟩) = Z := ⟨_, rfl⟩
  have hs1 : A.size = i.size + 1 := by rw [← hA, ByteArray.size_append]; rfl
  have hs2 : T.size ≤ 39 := by rw [← hT2, str_size]; exact hd
  have hZ2 : A ++ T = Z := by rw [← hA, ← hT2, ← hZ, textR_str]
  have hc1 : ∀ u : World, (Op.stringOp .add i ⟨#[32]⟩).run Tryd.prog u = .ok (.string A) u := fun u => by rw [← hA]; exact run_string_add_sum u _ _ (by show i.size + 1 ≤ _; omega)
  have hc2 : ∀ u : World, (Op.stringOp .add A T).run Tryd.prog u = .ok (.string Z) u := fun u => by rw [← hZ2]; exact run_string_add_sum u _ _ (by omega)
  have et1 : isId i.data.toList = true → tolR ⟨i, h, l⟩ = (Z, 0) := fun k => by unfold tolR; rw [hZ]; exact if_pos k
  have et2 : ¬ isId i.data.toList = true → tolR ⟨i, h, l⟩ = (⟨#[]⟩, 101) := fun k => if_neg k
  rw [ev]
  rw [hT2] at cT
  clear ev hA hT2 hZ hZ2 hd a1 a0
  by_cases hi : isId i.data.toList = true
  · rw [et1 hi]
    rw [hi] at cI
    clear hi et1 et2
    go_enter Tryd.func12, Tryd.ntmps12
    go_upto_region 1 with fail
    change Code.wp _ _ _ _ (w.alloc (.cells (rwB i h l) 26))
    generalize w.alloc (.cells (rwB i h l) 26) = W at *
    obtain ⟨y0, y1, y2, g0, g1, g2, hin1⟩ := (H0.box 0).three
    go_upto_region 3 with (first
      | (go_at_call 24; refine (cI _ (hT.call H0.below)).mono ?_; rintro e w1 ⟨rfl, j1⟩; have H1 := H0.call j1)
      | fail)
    clear y0 y1 y2 g0 g1 g2 hin1
    have fct : ∀ u, Has w [(w.heap.size, 26, rwB i h l)] u → Has w [(w.heap.size, 26, rwB i h l)] u ∧ (u.cell? ⟨w.heap.size, 0, none⟩ = some (.string i) ∧ u.cell? ⟨w.heap.size, 1, none⟩ = some (.int .u64 h) ∧ u.cell? ⟨w.heap.size, 2, none⟩ = some (.int .u64 l) ∧ w.heap.size < u.heap.size) :=
      fun u k => ⟨k, (k.box 0).read 0, (k.box 0).read 1, (k.box 0).read 2, (k.box 0).inside⟩
    have f2 := fct _ (Has.drew H1)
    refine wp_region_held_drew (S := fun u => Has w [(w.heap.size, 26, rwB i h l)] u ∧ (u.cell? ⟨w.heap.size, 0, none⟩ = some (.string i) ∧ u.cell? ⟨w.heap.size, 1, none⟩ = some (.int .u64 h) ∧ u.cell? ⟨w.heap.size, 2, none⟩ = some (.int .u64 l) ∧ w.heap.size < u.heap.size)) (by kernel_rfl) f2 (fun hHeld => ?_)
    refine wpAnyH_take (i := 0) (v := ?_) rfl (by kernel_rfl) (by kernel_rfl) (by kernel_rfl) (fun _ _ _ h => h) (Or.inl ⟨by rfl, ?_⟩) (by assumption) ?_
    rotate_left 1
    · intro w hSw; (try dsimp only at hSw); go_simp; try with_reducible rfl
    try simp only [Act.put, List.getElem_toArray, List.getElem_cons_succ, List.getElem_cons_zero, List.setIfInBounds_toArray, List.set_cons_zero, List.set_cons_succ]
    refine wpAnyH_take (i := 1) (v := ?_) rfl (by kernel_rfl) (by kernel_rfl) (by kernel_rfl) (fun _ _ _ h => h) (Or.inl ⟨by rfl, ?_⟩) (by assumption) ?_
    rotate_left 1
    · intro w hSw; (try dsimp only at hSw); go_simp; try with_reducible rfl
    try simp only [Act.put, List.getElem_toArray, List.getElem_cons_succ, List.getElem_cons_zero, List.setIfInBounds_toArray, List.set_cons_zero, List.set_cons_succ]
    refine wpAnyH_take (i := 2) (v := ?_) rfl (by kernel_rfl) (by kernel_rfl) (by kernel_rfl) (fun _ _ _ h => h) (Or.inl ⟨by rfl, ?_⟩) (by assumption) ?_
    rotate_left 1
    · intro w hSw; (try dsimp only at hSw); go_simp; try with_reducible rfl
    try simp only [Act.put, List.getElem_toArray, List.getElem_cons_succ, List.getElem_cons_zero, List.setIfInBounds_toArray, List.set_cons_zero, List.set_cons_succ]
    refine wpAnyH_take (i := 3) (v := ?_) rfl (by kernel_rfl) (by kernel_rfl) (by kernel_rfl) (fun _ _ _ h => h) (Or.inl ⟨by rfl, ?_⟩) (by assumption) ?_
    rotate_left 1
    · intro w hSw; (try dsimp only at hSw); go_simp; try with_reducible rfl
    try simp only [Act.put, List.getElem_toArray, List.getElem_cons_succ, List.getElem_cons_zero, List.setIfInBounds_toArray, List.set_cons_zero, List.set_cons_succ]
    refine wpAnyH_take (i := 4) (v := ?_) rfl (by kernel_rfl) (by kernel_rfl) (by kernel_rfl) (fun _ _ _ h => h) (Or.inl ⟨by rfl, ?_⟩) (by assumption) ?_
    rotate_left 1
    · intro w hSw; (try dsimp only at hSw); go_simp; try with_reducible rfl
    try simp only [Act.put, List.getElem_toArray, List.getElem_cons_succ, List.getElem_cons_zero, List.setIfInBounds_toArray, List.set_cons_zero, List.set_cons_succ]
    refine wpAnyH_ready (rs := [5]) (by kernel_rfl) (by simp) (AllReadyH.cons rfl (fun K hK => ?_) AllReadyH.nil)
    go_simp
    go_at_call 32
    refine (cT _).mono ?_
    rintro e w3 ⟨rfl, j3⟩
    have f3 := fct _ (f2.1.call j3)
    try simp only []
    refine hK.out _ _ (f3) (fun hHeld => ?_)
    clear hK K
    try simp only [Act.put, List.getElem_toArray, List.getElem_cons_succ, List.getElem_cons_zero, List.setIfInBounds_toArray, List.set_cons_zero, List.set_cons_succ]
    refine wpAnyH_take (i := 6) (v := ?_) rfl (by kernel_rfl) (by kernel_rfl) (by kernel_rfl) (fun _ _ _ h => h) (Or.inl ⟨by rfl, ?_⟩) (by assumption) ?_
    rotate_left 1
    · intro w hSw; (try dsimp only at hSw); go_simp; try with_reducible rfl
    try simp only [Act.put, List.getElem_toArray, List.getElem_cons_succ, List.getElem_cons_zero, List.setIfInBounds_toArray, List.set_cons_zero, List.set_cons_succ]
    refine wpAnyH_take (i := 7) (v := ?_) rfl (by kernel_rfl) (by kernel_rfl) (by kernel_rfl) (fun _ _ _ h => h) (Or.inl ⟨by rfl, ?_⟩) (by assumption) ?_
    rotate_left 1
    · intro w hSw; (try dsimp only at hSw); go_simp; try with_reducible rfl
    try simp only [Act.put, List.getElem_toArray, List.getElem_cons_succ, List.getElem_cons_zero, List.setIfInBounds_toArray, List.set_cons_zero, List.set_cons_succ]
    refine wpAnyH_take (i := 8) (v := ?_) rfl (by kernel_rfl) (by kernel_rfl) (by kernel_rfl) (fun _ _ _ h => h) (Or.inl ⟨by rfl, ?_⟩) (by assumption) ?_
    rotate_left 1
    · intro w hSw; (try dsimp only at hSw); go_simp; try with_reducible rfl
    try simp only [Act.put, List.getElem_toArray, List.getElem_cons_succ, List.getElem_cons_zero, List.setIfInBounds_toArray, List.set_cons_zero, List.set_cons_succ]
    refine wpAnyH_done (by kernel_rfl) ?_ _
    go_wp2
    go_ret2
    exact ⟨rfl, f3.1.below⟩
  · rw [et2 hi]
    rw [Bool.not_eq_true] at hi
    rw [hi] at cI
    clear hi et1 et2
    go_enter Tryd.func12, Tryd.ntmps12
    go_upto_region 1 with fail
    change Code.wp _ _ _ _ (w.alloc (.cells (rwB i h l) 26))
    generalize w.alloc (.cells (rwB i h l) 26) = W at *
    obtain ⟨y0, y1, y2, g0, g1, g2, hin1⟩ := (H0.box 0).three
    go_wp2_with (first
      | (go_at_call 24; refine (cI _ (hT.call H0.below)).mono ?_; rintro e w1 ⟨rfl, j1⟩; have H1 := H0.call j1)
      | fail)
    go_ret2
    exact ⟨rfl, H1.below⟩

/-- A line's cells, as a block's. -/
def lnB (n : Int) (s : ByteArray) (k e : Int) : Array Value := #[.int .i64 n, .string s, .int .u8 k, .int .i64 e]
theorem Box.four0 {w : World} {g : Nat} {t : TypeId} {x y z v : Value} (h : Box w g t #[x, y, z, v]) :
    w.cell? ⟨g, 0, none⟩ = some x ∧ w.cell? ⟨g, 1, none⟩ = some y ∧ w.cell? ⟨g, 2, none⟩ = some z ∧ w.cell? ⟨g, 3, none⟩ = some v ∧ g < w.heap.size := ⟨h.read 0, h.read 1, h.read 2, h.read 3, h.inside⟩

set_option maxRecDepth 100000 in
set_option maxHeartbeats 2000000 in
theorem rowof_any (n : Int) (s : ByteArray) (k e : Int) (hs : s.size ≤ 1000000) (w : World) (hT : TabU w) :
    Calls Tryd.prog 14 #[.agg #[.int .i64 n, .string s, .int .u8 k, .int .i64 e]] w (Tells (.tuple #[(ofR s.data.toList k e).1.val, .bool (ofR s.data.toList k e).2.1, .int .i64 (ofR s.data.toList k e).2.2]) w.heap.size w) := by
  have H0 := ((Has.start w).add 38 (lnB n s k e)).add 26 (rwB ⟨#[]⟩ 0 0)
  have hsz : (w.alloc (.cells (lnB n s k e) 38)).heap.size = w.heap.size + 1 := by simp
  rw [hsz] at H0
  change Calls Tryd.prog 14 #[.agg (lnB n s k e)] w _
  have cP := fun u hu => rowparse_any s hs u hu
  by_cases hk : e ≠ 0 ∨ k ≠ 2
  · have er : ofR s.data.toList k e = (Rw.zero, false, e) := if_pos hk
    rw [er]
    clear er cP
    have hk2 : ¬ e = 0 ∨ (e = 0 ∧ ¬ k = 2) := by omega
    clear hk
    go_enter Tryd.func14, Tryd.ntmps14
    go_upto_region 1 with fail
    change Code.wp _ _ _ _ ((w.alloc (.cells (lnB n s k e) 38)).alloc (.cells (rwB ⟨#[]⟩ 0 0) 26))
    generalize World.alloc (World.alloc w _) _ = W at *
    clear hsz
    have fct : ∀ u, Has w [(w.heap.size, 38, lnB n s k e)] u → (u.cell? ⟨w.heap.size, 3, none⟩ = some (.int .i64 e) ∧ w.heap.size < u.heap.size) := fun u q => ⟨(q.box 0).read 3, (q.box 0).inside⟩
    have f1 := fct _ H0.tail.drew
    obtain ⟨y0, y1, y2, y3, hin0⟩ := (H0.box 1).four0
    obtain ⟨z0, z1, z2, g0, g1, g2, hin1⟩ := (H0.box 0).three
    have BX := (H0.drew.box 0).put3 (.string ⟨#[]⟩) (.int .u64 0) (.int .u64 0)
    have LX := below_put3 (g := w.heap.size + 1) H0.drew.below (by omega) (.string ⟨#[]⟩) (.int .u64 0) (.int .u64 0)
    have fX : ∀ u, u = ((World.setCell (World.setCell (World.setCell W.drew ⟨w.heap.size + 1, 0, none⟩ (.string ⟨#[]⟩)) ⟨w.heap.size + 1, 1, none⟩ (.int .u64 0)) ⟨w.heap.size + 1, 2, none⟩ (.int .u64 0))) → (u.cell? ⟨w.heap.size, 3, none⟩ = some (.int .i64 e) ∧ w.heap.size < u.heap.size) := fun u hu => by
      subst hu
      exact fct _ (((H0.tail.drew.set_ (p := ⟨w.heap.size + 1, 0, none⟩) (by dsimp only; omega) (by simp) _).set_ (p := ⟨w.heap.size + 1, 1, none⟩) (by dsimp only; omega) (by simp) _).set_ (p := ⟨w.heap.size + 1, 2, none⟩) (by dsimp only; omega) (by simp) _)
    rcases hk2 with hk2 | ⟨rfl, hk2⟩
    · skip
      go_upto_region 2 with fail
      clear z0 z1 z2 g0 g1 g2 hin1
      obtain ⟨z0, z1, z2, g0, g1, g2, hin1⟩ := (H0.drew.box 0).three
      clear y0 y1 y2 y3 fct
      refine wp_region_held_drew (S := fun u => u.cell? ⟨w.heap.size, 3, none⟩ = some (.int .i64 e) ∧ w.heap.size < u.heap.size) (by kernel_rfl) f1 (fun hHeld => ?_)
      generalize W.drew = V at *
      refine wpAnyH_take (i := 0) (v := ?_) rfl (by kernel_rfl) (by kernel_rfl) (by kernel_rfl) (fun _ _ _ h => h) (Or.inl ⟨by rfl, ?_⟩) (by assumption) ?_
      rotate_left 1
      · intro w hSw; (try dsimp only at hSw); go_simp; try with_reducible rfl
      try simp only [Act.put, List.getElem_toArray, List.getElem_cons_succ, List.getElem_cons_zero, List.setIfInBounds_toArray, List.set_cons_zero, List.set_cons_succ]
      refine wpAnyH_take (i := 1) (v := ?_) rfl (by kernel_rfl) (by kernel_rfl) (by kernel_rfl) (fun _ _ _ h => h) (Or.inl ⟨by rfl, ?_⟩) (by assumption) ?_
      rotate_left 1
      · intro w hSw; (try dsimp only at hSw); go_simp; try with_reducible rfl
      try simp only [Act.put, List.getElem_toArray, List.getElem_cons_succ, List.getElem_cons_zero, List.setIfInBounds_toArray, List.set_cons_zero, List.set_cons_succ]
      refine wpAnyH_take (i := 2) (v := ?_) rfl (by kernel_rfl) (by kernel_rfl) (by kernel_rfl) (fun _ _ _ h => h) (Or.inl ⟨by rfl, ?_⟩) (by assumption) ?_
      rotate_left 1
      · intro w hSw; (try dsimp only at hSw); go_simp; try with_reducible rfl
      try simp only [Act.put, List.getElem_toArray, List.getElem_cons_succ, List.getElem_cons_zero, List.setIfInBounds_toArray, List.set_cons_zero, List.set_cons_succ]
      refine wpAnyH_ready (rs := [3]) (by kernel_rfl) (by simp) (AllReadyH.cons rfl (fun K hK => ?_) AllReadyH.nil)
      go_simp
      refine hK.out _ _ (fX _ rfl) (fun hHeld => ?_)
      clear hK K
      try simp only [Act.put, List.getElem_toArray, List.getElem_cons_succ, List.getElem_cons_zero, List.setIfInBounds_toArray, List.set_cons_zero, List.set_cons_succ]
      refine wpAnyH_take (i := 4) (v := ?_) rfl (by kernel_rfl) (by kernel_rfl) (by kernel_rfl) (fun _ _ _ h => h) (Or.inl ⟨by rfl, ?_⟩) (by assumption) ?_
      rotate_left 1
      · intro w hSw; (try dsimp only at hSw); go_simp; try with_reducible rfl
      try simp only [Act.put, List.getElem_toArray, List.getElem_cons_succ, List.getElem_cons_zero, List.setIfInBounds_toArray, List.set_cons_zero, List.set_cons_succ]
      refine wpAnyH_take (i := 5) (v := ?_) rfl (by kernel_rfl) (by kernel_rfl) (by kernel_rfl) (fun _ _ _ h => h) (Or.inl ⟨by rfl, ?_⟩) (by assumption) ?_
      rotate_left 1
      · intro w hSw; (try dsimp only at hSw); go_simp; try with_reducible rfl
      try simp only [Act.put, List.getElem_toArray, List.getElem_cons_succ, List.getElem_cons_zero, List.setIfInBounds_toArray, List.set_cons_zero, List.set_cons_succ]
      refine wpAnyH_done (by kernel_rfl) ?_ _
      generalize World.setCell (World.setCell (World.setCell _ _ _) _ _) _ _ = X at *
      go_wp2
      obtain ⟨x0, x1, x2, -, -, -, hgx⟩ := BX.three
      exact bodyPost_ret (v := .tuple #[Rw.zero.val, .bool false, .int .i64 _]) (by simp [results, Tryd.results14, go_sem, Rw.val, Rw.zero, x0, x1, x2]) rfl ⟨rfl, LX⟩
    · skip
      go_upto_region 2 with fail
      clear z0 z1 z2 g0 g1 g2 hin1
      obtain ⟨z0, z1, z2, g0, g1, g2, hin1⟩ := (H0.drew.box 0).three
      clear y0 y1 y2 y3 fct
      refine wp_region_held_drew (S := fun u => u.cell? ⟨w.heap.size, 3, none⟩ = some (.int .i64 0) ∧ w.heap.size < u.heap.size) (by kernel_rfl) f1 (fun hHeld => ?_)
      generalize W.drew = V at *
      refine wpAnyH_take (i := 0) (v := ?_) rfl (by kernel_rfl) (by kernel_rfl) (by kernel_rfl) (fun _ _ _ h => h) (Or.inl ⟨by rfl, ?_⟩) (by assumption) ?_
      rotate_left 1
      · intro w hSw; (try dsimp only at hSw); go_simp; try with_reducible rfl
      try simp only [Act.put, List.getElem_toArray, List.getElem_cons_succ, List.getElem_cons_zero, List.setIfInBounds_toArray, List.set_cons_zero, List.set_cons_succ]
      refine wpAnyH_take (i := 1) (v := ?_) rfl (by kernel_rfl) (by kernel_rfl) (by kernel_rfl) (fun _ _ _ h => h) (Or.inl ⟨by rfl, ?_⟩) (by assumption) ?_
      rotate_left 1
      · intro w hSw; (try dsimp only at hSw); go_simp; try with_reducible rfl
      try simp only [Act.put, List.getElem_toArray, List.getElem_cons_succ, List.getElem_cons_zero, List.setIfInBounds_toArray, List.set_cons_zero, List.set_cons_succ]
      refine wpAnyH_take (i := 2) (v := ?_) rfl (by kernel_rfl) (by kernel_rfl) (by kernel_rfl) (fun _ _ _ h => h) (Or.inl ⟨by rfl, ?_⟩) (by assumption) ?_
      rotate_left 1
      · intro w hSw; (try dsimp only at hSw); go_simp; try with_reducible rfl
      try simp only [Act.put, List.getElem_toArray, List.getElem_cons_succ, List.getElem_cons_zero, List.setIfInBounds_toArray, List.set_cons_zero, List.set_cons_succ]
      refine wpAnyH_ready (rs := [3]) (by kernel_rfl) (by simp) (AllReadyH.cons rfl (fun K hK => ?_) AllReadyH.nil)
      go_simp
      refine hK.out _ _ (fX _ rfl) (fun hHeld => ?_)
      clear hK K
      try simp only [Act.put, List.getElem_toArray, List.getElem_cons_succ, List.getElem_cons_zero, List.setIfInBounds_toArray, List.set_cons_zero, List.set_cons_succ]
      refine wpAnyH_take (i := 4) (v := ?_) rfl (by kernel_rfl) (by kernel_rfl) (by kernel_rfl) (fun _ _ _ h => h) (Or.inl ⟨by rfl, ?_⟩) (by assumption) ?_
      rotate_left 1
      · intro w hSw; (try dsimp only at hSw); go_simp; try with_reducible rfl
      try simp only [Act.put, List.getElem_toArray, List.getElem_cons_succ, List.getElem_cons_zero, List.setIfInBounds_toArray, List.set_cons_zero, List.set_cons_succ]
      refine wpAnyH_take (i := 5) (v := ?_) rfl (by kernel_rfl) (by kernel_rfl) (by kernel_rfl) (fun _ _ _ h => h) (Or.inl ⟨by rfl, ?_⟩) (by assumption) ?_
      rotate_left 1
      · intro w hSw; (try dsimp only at hSw); go_simp; try with_reducible rfl
      try simp only [Act.put, List.getElem_toArray, List.getElem_cons_succ, List.getElem_cons_zero, List.setIfInBounds_toArray, List.set_cons_zero, List.set_cons_succ]
      refine wpAnyH_done (by kernel_rfl) ?_ _
      generalize World.setCell (World.setCell (World.setCell _ _ _) _ _) _ _ = X at *
      go_wp2
      obtain ⟨x0, x1, x2, -, -, -, hgx⟩ := BX.three
      exact bodyPost_ret (v := .tuple #[Rw.zero.val, .bool false, .int .i64 _]) (by simp [results, Tryd.results14, go_sem, Rw.val, Rw.zero, x0, x1, x2]) rfl ⟨rfl, LX⟩
  · have er : ofR s.data.toList k e = ((parR s.data.toList).1, decide ((parR s.data.toList).2 = 0), ((parR s.data.toList).2 : Int)) := if_neg hk
    rw [er]
    obtain ⟨rfl, rfl⟩ : e = 0 ∧ k = 2 := by omega
    clear er hk
    generalize parR s.data.toList = q at *
    obtain ⟨⟨i, h, l⟩, z⟩ := q
    simp only [Rw.val] at cP ⊢
    have hz : ((z : Int) == 0) = decide (z = 0) := by rw [Bool.eq_iff_iff]; simp
    generalize decide (z = 0) = zb at *
    go_enter Tryd.func14, Tryd.ntmps14
    go_upto_region 1 with fail
    change Code.wp _ _ _ _ ((w.alloc (.cells (lnB n s 2 0) 38)).alloc (.cells (rwB ⟨#[]⟩ 0 0) 26))
    generalize World.alloc (World.alloc w _) _ = W at *
    clear hsz
    obtain ⟨y0, y1, y2, y3, hin0⟩ := (H0.box 1).four0
    obtain ⟨z0, z1, z2, g0, g1, g2, hin1⟩ := (H0.box 0).three
    go_upto_region 3 with fail
    clear z0 z1 z2 g0 g1 g2
    go_upto_region 4 with (first
      | (go_at_call 10; refine (cP _ (hT.call H0.below)).mono ?_; rintro e w1 ⟨rfl, j1⟩; have H1 := H0.call j1; obtain ⟨z0, z1, z2, g0, g1, g2, hin2⟩ := (H1.box 0).three)
      | fail)
    go_wp2
    have BX := ((H1.box 0).put3 (.string i) (.int .u64 h) (.int .u64 l)).put3 (.string i) (.int .u64 h) (.int .u64 l)
    have LX := below_put3 (g := w.heap.size + 1) (below_put3 (g := w.heap.size + 1) H1.below (by omega) (.string i) (.int .u64 h) (.int .u64 l)) (by omega) (.string i) (.int .u64 h) (.int .u64 l)
    generalize World.setCell (World.setCell (World.setCell (World.setCell (World.setCell (World.setCell _ _ _) _ _) _ _) _ _) _ _) _ _ = X at *
    obtain ⟨x0, x1, x2, -, -, -, hgx⟩ := BX.three
    exact bodyPost_ret (v := .tuple #[.agg #[.string i, .int .u64 h, .int .u64 l], .bool zb, .int .i64 z]) (by simp [results, Tryd.results14, go_sem, x0, x1, x2]) rfl ⟨rfl, LX⟩
end Go.Proofs.YtfnbehijnmbhjaaDoor
