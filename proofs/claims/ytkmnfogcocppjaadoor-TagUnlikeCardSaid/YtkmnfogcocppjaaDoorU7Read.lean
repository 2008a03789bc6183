/-
  Package tag's Read, walked: the leaf whose text it is.
-/
import Derived.Test.YtkmnfogcocppjaaDoorU7Leaf
import Derived.Test.YtkmnfogcocppjaaDoorU5Clone
namespace Go.Proofs.YtkmnfogcocppjaaDoor
set_option linter.unusedVariables false
set_option linter.unusedSimpArgs false
set_option maxRecDepth 10000
open Go.RowKit

set_option maxHeartbeats 2000000 in
theorem cut_any (s : ByteArray) (hs : s.size ≤ 1000000) (w : World) : Calls Tryd.prog 39 #[.string s] w (Tells (.tuple #[.string (cutA s), .string (cutB s)]) w.heap.size w) := by
  by_cases h0 : s.size = 0
  · have e := ba_nil h0
    subst e
    have ea : cutA ⟨#[]⟩ = ⟨#[]⟩ := by unfold cutA; exact if_pos (Or.inl rfl)
    have eb : cutB ⟨#[]⟩ = ⟨#[]⟩ := by unfold cutB; exact if_pos (Or.inl rfl)
    rw [ea, eb]
    go_enter Tryd.func39, Tryd.ntmps39
    go_wp2
    go_ret2
    exact ⟨rfl, Below.refl _ _⟩
  · obtain ⟨hE1, hE2⟩ := ne_nil h0
    have hp : 0 < s.size := by omega
    have hf := ba_first hp
    have ea : cutA s = if s.size ≤ (s.data.toList.getD 0 0).toNat then ⟨#[]⟩ else s.extract 1 (1 + (s.data.toList.getD 0 0).toNat) := by
      unfold cutA
      by_cases hc : s.size ≤ (s.data.toList.getD 0 0).toNat
      · rw [if_pos (Or.inr hc), if_pos hc]
      · rw [if_neg (by omega), if_neg hc]
    have eb : cutB s = if s.size ≤ (s.data.toList.getD 0 0).toNat then ⟨#[]⟩ else s.extract (1 + (s.data.toList.getD 0 0).toNat) s.size := by
      unfold cutB
      by_cases hc : s.size ≤ (s.data.toList.getD 0 0).toNat
      · rw [if_pos (Or.inr hc), if_pos hc]
      · rw [if_neg (by omega), if_neg hc]
    rw [ea, eb]
    generalize s.data.toList.getD 0 0 = x at *
    have hx := x.toNat_lt
    clear ea eb
    have hpi : (0 : Int) < (s.size : Int) := by omega
    by_cases hc : (s.size : Int) ≤ (x.toNat : Int)
    · rw [if_pos (by omega), if_pos (by omega)]
      go_enter Tryd.func39, Tryd.ntmps39
      go_wp2
      go_ret2
      exact ⟨rfl, Below.refl _ _⟩
    · rw [if_neg (by omega), if_neg (by omega)]
      go_enter Tryd.func39, Tryd.ntmps39
      go_upto_region 4 with fail
      go_quiet (fail)
      go_wp2
      go_ret2
      exact ⟨rfl, below_drewN (Below.refl _ _) _⟩

/-- What a reading tells. -/
def rdL (t : ByteArray) : Lf := match rd t with | some x => x | none => Lf.zero
def rdV (t : ByteArray) : Value := .tuple #[(rdL t).val, .bool (rd t).isSome]

theorem first_byte (t : ByteArray) (h : 0 < t.size) : t.extract 0 1 = ⟨#[t.data.toList.getD 0 0]⟩ := by
  apply ba_ext
  have hl : 0 < t.data.toList.length := by rw [ba_size]; exact h
  rw [ext_toList, List.drop_zero]
  match hm : t.data.toList, hl with
  | a :: r, _ => rfl
theorem rd_else (t : ByteArray) (h0 : 0 < t.size) (h : (cand t).text ≠ t) : rd t = none := by
  unfold rd
  rw [if_neg (by omega), if_neg h]
theorem rd_then (t : ByteArray) (h0 : 0 < t.size) (h : (cand t).text = t) : rd t = some (cand t) := by
  unfold rd
  rw [if_neg (by omega), if_pos h]
theorem rd_nil : rd ⟨#[]⟩ = none := by
  unfold rd
  exact if_pos rfl

theorem cutA_size (s : ByteArray) : (cutA s).size ≤ s.size := by
  unfold cutA
  split
  · exact Nat.zero_le _
  · rw [ByteArray.size_extract]; omega
theorem cutB_size (s : ByteArray) : (cutB s).size ≤ s.size := by
  unfold cutB
  split
  · exact Nat.zero_le _
  · rw [ByteArray.size_extract]; omega

set_option maxHeartbeats 4000000 in
theorem read_any (t : ByteArray) (ht : t.size ≤ 1000000) (w : World) (hT : TabU w) : Calls Tryd.prog 11 #[.string t] w (Tells (rdV t) w.heap.size w) := by
  by_cases h0 : t.size = 0
  · have e := ba_nil h0
    subst e
    have er : rdV ⟨#[]⟩ = .tuple #[Lf.zero.val, .bool false] := by unfold rdV rdL; rw [rd_nil]; rfl
    rw [er]
    have B0 := Box.made w 26 (lfB false ⟨#[]⟩ ⟨#[]⟩ 0 0)
    have L0 : Below w.heap.size w (w.alloc (.cells (lfB false ⟨#[]⟩ ⟨#[]⟩ 0 0) 26)) := by repeat (first | exact Below.refl _ _ | apply Below.drew | apply below_drewN | refine Below.alloc ?_ (by simp; try omega) _ | refine Below.setCell ?_ (by simp; try omega) _)
    go_enter Tryd.func11, Tryd.ntmps11
    go_upto_region 1 with fail
    change Code.wp _ _ _ _ (w.alloc (.cells (lfB false ⟨#[]⟩ ⟨#[]⟩ 0 0) 26))
    generalize w.alloc (.cells (lfB false ⟨#[]⟩ ⟨#[]⟩ 0 0) 26) = W at *
    obtain ⟨⟨y0, y1, y2, y3, y4⟩, ⟨g0, g1, g2, g3, g4⟩, hin1⟩ := B0.five0
    go_wp2
    have BX := B0.put5 (.bool false) (.string ⟨#[]⟩) (.string ⟨#[]⟩) (.int .u64 0) (.int .u64 0)
    have LX := below_put5 (g := w.heap.size) L0 (by omega) (.bool false) (.string ⟨#[]⟩) (.string ⟨#[]⟩) (.int .u64 0) (.int .u64 0)
    generalize World.setCell (World.setCell (World.setCell (World.setCell (World.setCell W _ _) _ _) _ _) _ _) _ _ = X at *
    obtain ⟨⟨x0, x1, x2, x3, x4⟩, -, hgx⟩ := BX.five0
    exact bodyPost_ret (v := .tuple #[Lf.zero.val, .bool false]) (by simp [results, Tryd.results11, go_sem, Lf.val, Lf.zero, x0, x1, x2, x3, x4]) rfl ⟨rfl, LX⟩
  · have hp : 0 < t.size := by omega
    have hpi : (0 : Int) < (t.size : Int) := by omega
    have hp1 : (1 : Int) ≤ (t.size : Int) := by omega
    obtain ⟨hE1, hE2⟩ := ne_nil h0
    have hF := first_byte t hp
    have hc0 : t.data.toList.getD 0 0 = 0 → cand t = ⟨false, cutA (t.extract 1 t.size), cutA (cutB (t.extract 1 t.size)), fromH (cutB (cutB (t.extract 1 t.size))), fromL (cutB (cutB (t.extract 1 t.size)))⟩ := fun h => if_pos h
    have hc2 : t.data.toList.getD 0 0 = 2 → cand t = ⟨true, ⟨#[]⟩, cutA (t.extract 1 t.size), 0, 0⟩ := fun h => (if_neg (by rw [h]; decide)).trans (if_pos h)
    have hcx : t.data.toList.getD 0 0 ≠ 0 → t.data.toList.getD 0 0 ≠ 2 → cand t = ⟨false, ⟨#[]⟩, ⟨#[]⟩, fromH (t.extract 1 t.size), fromL (t.extract 1 t.size)⟩ := fun h k => (if_neg h).trans (if_neg k)
    have zr : (t.extract 1 t.size).size ≤ t.size := by rw [ByteArray.size_extract]; omega
    have hcw := cand_words t
    have hce := rd_else t hp
    have hct := rd_then t hp
    generalize t.data.toList.getD 0 0 = b at *
    obtain ⟨r, hr⟩ : ∃ r, t.extract 1 t.size = r := ⟨_, rfl⟩
    have hr' : t.extract 1 t.size = r := hr
    rw [hr] at hc0 hc2 hcx zr
    have H0 : In2 w ((w.alloc (.cells (lfB false ⟨#[]⟩ ⟨#[]⟩ 0 0) 26)).alloc (.cells (lfB (b == 2) ⟨#[]⟩ ⟨#[]⟩ 0 0) 26)) (b == 2) ⟨#[]⟩ ⟨#[]⟩ 0 0 :=
      ((Has.start w).add 26 (lfB false ⟨#[]⟩ ⟨#[]⟩ 0 0)).addAt 26 (lfB (b == 2) ⟨#[]⟩ ⟨#[]⟩ 0 0) (by simp)
    go_enter Tryd.func11, Tryd.ntmps11
    go_upto_region 3 with fail
    have B0 := Box.made w 26 (lfB false ⟨#[]⟩ ⟨#[]⟩ 0 0)
    have L0 : Below w.heap.size w (w.alloc (.cells (lfB false ⟨#[]⟩ ⟨#[]⟩ 0 0) 26)) := by repeat (first | exact Below.refl _ _ | apply Below.drew | apply below_drewN | refine Below.alloc ?_ (by simp; try omega) _ | refine Below.setCell ?_ (by simp; try omega) _)
    change Code.wp _ _ _ _ (w.alloc (.cells (lfB false ⟨#[]⟩ ⟨#[]⟩ 0 0) 26))
    have f0 : Below w.heap.size w (w.alloc (.cells (lfB false ⟨#[]⟩ ⟨#[]⟩ 0 0) 26)).drew := L0.drew
    refine wp_region_held_drew (S := fun u => Below w.heap.size w u) (by kernel_rfl) f0 (fun hHeld => ?_)
    refine wpAnyH_take (i := 0) (v := ?_) rfl (by kernel_rfl) (by kernel_rfl) (by kernel_rfl) (fun _ _ _ h => h) (Or.inl ⟨by rfl, ?_⟩) (by assumption) ?_
    rotate_left 1
    · intro w hSw; (try dsimp only at hSw); go_simp; try with_reducible rfl
    try simp only [Act.put, List.getElem_toArray, List.getElem_cons_succ, List.getElem_cons_zero, List.setIfInBounds_toArray, List.set_cons_zero, List.set_cons_succ]
    refine wpAnyH_take (i := 1) (v := ?_) rfl (by kernel_rfl) (by kernel_rfl) (by kernel_rfl) (fun _ _ _ h => h) (Or.inl ⟨by rfl, ?_⟩) (by assumption) ?_
    rotate_left 1
    · intro w hSw; (try dsimp only at hSw); go_simp; try with_reducible rfl
    try simp only [Act.put, List.getElem_toArray, List.getElem_cons_succ, List.getElem_cons_zero, List.setIfInBounds_toArray, List.set_cons_zero, List.set_cons_succ]
    refine wpAnyH_take (i := 2) (v := ?_) rfl (by kernel_rfl) (by kernel_rfl) (by kernel_rfl) (fun _ _ _ h => h) (Or.inl ⟨by rfl, ?_⟩) (by assumption) ?_
    rotate_left 1
    · intro w hSw; (try dsimp only at hSw); go_simp; try with_reducible rfl
    try simp only [Act.put, List.getElem_toArray, List.getElem_cons_succ, List.getElem_cons_zero, List.setIfInBounds_toArray, List.set_cons_zero, List.set_cons_succ]
    refine wpAnyH_take (i := 3) (v := ?_) rfl (by kernel_rfl) (by kernel_rfl) (by kernel_rfl) (fun _ _ _ h => h) (Or.inl ⟨by rfl, ?_⟩) (by assumption) ?_
    rotate_left 1
    · intro w hSw; (try dsimp only at hSw); go_simp; try with_reducible rfl
    try simp only [Act.put, List.getElem_toArray, List.getElem_cons_succ, List.getElem_cons_zero, List.setIfInBounds_toArray, List.set_cons_zero, List.set_cons_succ]
    refine wpAnyH_take (i := 4) (v := ?_) rfl (by kernel_rfl) (by kernel_rfl) (by kernel_rfl) (fun _ _ _ h => h) (Or.inl ⟨by rfl, ?_⟩) (by assumption) ?_
    rotate_left 1
    · intro w hSw; (try dsimp only at hSw); go_simp; try with_reducible rfl
    try simp only [Act.put, List.getElem_toArray, List.getElem_cons_succ, List.getElem_cons_zero, List.setIfInBounds_toArray, List.set_cons_zero, List.set_cons_succ]
    refine wpAnyH_take (i := 5) (v := ?_) rfl (by kernel_rfl) (by kernel_rfl) (by kernel_rfl) (fun _ _ _ h => h) (Or.inl ⟨by rfl, ?_⟩) (by assumption) ?_
    rotate_left 1
    · intro w hSw; (try dsimp only at hSw); go_simp; try with_reducible rfl
    try simp only [Act.put, List.getElem_toArray, List.getElem_cons_succ, List.getElem_cons_zero, List.setIfInBounds_toArray, List.set_cons_zero, List.set_cons_succ]
    have H1 : In2 w ((w.alloc (.cells (lfB false ⟨#[]⟩ ⟨#[]⟩ 0 0) 26)).alloc (.cells (lfB false ⟨#[]⟩ ⟨#[]⟩ 0 0) 26)).drew false ⟨#[]⟩ ⟨#[]⟩ 0 0 :=
      (((Has.start w).add 26 (lfB false ⟨#[]⟩ ⟨#[]⟩ 0 0)).addAt 26 (lfB false ⟨#[]⟩ ⟨#[]⟩ 0 0) (by simp)).drew
    clear H0
    refine wpAnyH_ready (rs := [6]) (by kernel_rfl) (by simp) (AllReadyH.cons rfl (fun K hK => ?_) AllReadyH.nil)
    go_simp
    change K _ ((w.alloc (.cells (lfB false ⟨#[]⟩ ⟨#[]⟩ 0 0) 26)).alloc (.cells (lfB false ⟨#[]⟩ ⟨#[]⟩ 0 0) 26)).drew
    generalize ((w.alloc (.cells (lfB false ⟨#[]⟩ ⟨#[]⟩ 0 0) 26)).alloc (.cells (lfB false ⟨#[]⟩ ⟨#[]⟩ 0 0) 26)).drew = W1 at *
    refine hK.out _ _ (H1.below) (fun hHeld => ?_)
    clear hK K
    try simp only [Act.put, List.getElem_toArray, List.getElem_cons_succ, List.getElem_cons_zero, List.setIfInBounds_toArray, List.set_cons_zero, List.set_cons_succ]
    obtain ⟨⟨y0, y1, y2, y3, y4⟩, ⟨g0, g1, g2, g3, g4⟩, hin1⟩ := (Has.box H1 0).five0
    refine wpAnyH_ready (rs := [7]) (by kernel_rfl) (by simp) (AllReadyH.cons rfl (fun K hK => ?_) AllReadyH.nil)
    go_simp
    have H2 := H1.put (b == 2) ⟨#[]⟩ ⟨#[]⟩ 0 0
    generalize World.setCell (World.setCell (World.setCell (World.setCell (World.setCell W1 _ _) _ _) _ _) _ _) _ _ = W2 at *
    refine hK.out _ _ (H2.below) (fun hHeld => ?_)
    clear hK K
    try simp only [Act.put, List.getElem_toArray, List.getElem_cons_succ, List.getElem_cons_zero, List.setIfInBounds_toArray, List.set_cons_zero, List.set_cons_succ]
    refine wpAnyH_take (i := 8) (v := ?_) rfl (by kernel_rfl) (by kernel_rfl) (by kernel_rfl) (fun _ _ _ h => h) (Or.inl ⟨by rfl, ?_⟩) (by assumption) ?_
    rotate_left 1
    · intro w hSw; (try dsimp only at hSw); go_simp; try with_reducible rfl
    try simp only [Act.put, List.getElem_toArray, List.getElem_cons_succ, List.getElem_cons_zero, List.setIfInBounds_toArray, List.set_cons_zero, List.set_cons_succ]
    refine wpAnyH_done (by kernel_rfl) ?_ _
    clear y0 y1 y2 y3 y4 g0 g1 g2 g3 g4 hin1 H1 f0 L0 B0
    have c1 := fun u => cut_any r (by omega) u
    have zA := cutA_size r
    have zB := cutB_size r
    have c2 := fun u => cut_any (cutB r) (by omega) u
    have zA2 := cutA_size (cutB r)
    have zB2 := cutB_size (cutB r)
    have cF1 := fun u => from_any (cutB (cutB r)) (by omega) u
    have cF2 := fun u => from_any r (by omega) u
    rcases (show b = 0 ∨ b = 2 ∨ (b ≠ 0 ∧ b ≠ 2) by by_cases h : b = 0 <;> by_cases k : b = 2 <;> simp [h, k]) with hb | hb | ⟨hb0, hb2⟩
    · have hcd := hc0 hb
      clear hc0 hc2 hcx hr hr'
      subst hb
      rw [show ((0 : UInt8) == 2) = false by decide] at H2
      generalize cutA r = A at *
      generalize cutB r = B at *
      go_upto_region 9 with (first
        | (go_at_call_of 39 (Value.string r); refine (c1 _).mono ?_; rintro e w3 ⟨rfl, b3⟩
           have H3 := H2.call b3
           obtain ⟨⟨y0, y1, y2, y3, y4⟩, ⟨g0, g1, g2, g3, g4⟩, hin3⟩ := (Has.box H3 0).five0)
        | (go_at_call_of 39 (Value.string B); refine (c2 _).mono ?_; rintro e w4 ⟨rfl, b4⟩
           have H4 := (H3.id A).call b4
           clear y0 y1 y2 y3 y4 g0 g1 g2 g3 g4 hin3
           obtain ⟨⟨y0, y1, y2, y3, y4⟩, ⟨g0, g1, g2, g3, g4⟩, hin3⟩ := (Has.box H4 0).five0)
        | fail)
      have H5 := H4.salt (cutA B)
      generalize World.setCell w4 _ _ = W5 at *
      clear y0 y1 y2 y3 y4 g0 g1 g2 g3 g4 hin3 c1 c2 b3 b4 H4 H3 H2 cF2
      obtain ⟨⟨y0, y1, y2, y3, y4⟩, ⟨g0, g1, g2, g3, g4⟩, hin3⟩ := (Has.box H5 0).five0
      go_upto_region 11 with (first
        | (go_at_call 40; refine (cF1 _).mono ?_; rintro e w6 ⟨rfl, b6⟩
           have H6 := H5.call b6
           clear y0 y1 y2 y3 y4 g0 g1 g2 g3 g4 hin3
           obtain ⟨⟨y0, y1, y2, y3, y4⟩, ⟨g0, g1, g2, g3, g4⟩, hin3⟩ := (Has.box H6 0).five0)
        | fail)
      have H7 := H6.bal (fromH (cutB B)) (fromL (cutB B))
      generalize World.setCell (World.setCell w6 _ _) _ _ = W7 at *
      clear y0 y1 y2 y3 y4 g0 g1 g2 g3 g4 hin3 H6 H5 b6 cF1
      have H8 : In2 w W7 (cand t).pad (cand t).id (cand t).salt (cand t).h (cand t).l := by rw [hcd]; exact H7
      have z8 : (cand t).id.size ≤ 1000000 ∧ (cand t).salt.size ≤ 1000000 := by rw [hcd]; simp only; omega
      clear H7 hcd
      generalize fromH (cutB B) = m1 at *
      generalize fromL (cutB B) = m2 at *
      generalize fromE (cutB B) = m3 at *
      generalize cutA B = A2 at *
      generalize cutB B = B2 at *
      obtain ⟨x, hx⟩ : ∃ x, cand t = x := ⟨_, rfl⟩
      rw [hx] at H8 z8 hcw hce hct
      have cT := fun u hu => leafText_any x z8.1 z8.2 hcw.1 hcw.2 u hu
      have TU := hT.call (Has.below H8)
      obtain ⟨X, hX⟩ : ∃ X, x.text = X := ⟨_, rfl⟩
      rw [hX] at cT hce hct
      clear hx hX
      have cT2 : ∀ u, TabU u → Calls Tryd.prog 19 #[.agg #[.bool x.pad, .string x.id, .string x.salt, .int .u64 x.h, .int .u64 x.l]] u (Tells (.string X) u.heap.size u) := cT
      clear cT
      obtain ⟨⟨y0, y1, y2, y3, y4⟩, ⟨g0, g1, g2, g3, g4⟩, hin3⟩ := (Has.box H8 0).five0
      by_cases hX : X = t
      · have er := hideIt (show rdV t = .tuple #[x.val, .bool true] by unfold rdV rdL; rw [hct hX]; rfl)
        rw [hX] at cT2
        clear hce hct hX
        go_upto_region 13 with (first
          | (go_at_call 19; refine (cT2 _ TU).mono ?_; rintro e w9 ⟨rfl, b9⟩)
          | fail)
        clear y0 y1 y2 y3 y4 g0 g1 g2 g3 g4 hin3
        have H9 : In2 w w9.drew x.pad x.id x.salt x.h x.l := Has.drew (H8.call b9)
        have cl1 := fun u => clone_any x.id (by omega) u
        have cl2 := fun u => clone_any x.salt (by omega) u
        have fct : ∀ u, In2 w u x.pad x.id x.salt x.h x.l → In2 w u x.pad x.id x.salt x.h x.l ∧ (u.cell? ⟨w.heap.size + 1, 0, none⟩ = some (.bool x.pad) ∧ u.cell? ⟨w.heap.size + 1, 1, none⟩ = some (.string x.id) ∧ u.cell? ⟨w.heap.size + 1, 2, none⟩ = some (.string x.salt) ∧ u.cell? ⟨w.heap.size + 1, 3, none⟩ = some (.int .u64 x.h) ∧ u.cell? ⟨w.heap.size + 1, 4, none⟩ = some (.int .u64 x.l)) :=
          fun u h => ⟨h, (Has.box h 0).five0.1⟩
        have f9 := fct _ H9
        refine wp_region_held_drew (S := fun u => In2 w u x.pad x.id x.salt x.h x.l ∧ (u.cell? ⟨w.heap.size + 1, 0, none⟩ = some (.bool x.pad) ∧ u.cell? ⟨w.heap.size + 1, 1, none⟩ = some (.string x.id) ∧ u.cell? ⟨w.heap.size + 1, 2, none⟩ = some (.string x.salt) ∧ u.cell? ⟨w.heap.size + 1, 3, none⟩ = some (.int .u64 x.h) ∧ u.cell? ⟨w.heap.size + 1, 4, none⟩ = some (.int .u64 x.l))) (by kernel_rfl) f9 (fun hHeld => ?_)
        refine wpAnyH_take (i := 0) (v := ?_) rfl (by kernel_rfl) (by kernel_rfl) (by kernel_rfl) (fun _ _ _ h => h) (Or.inl ⟨by rfl, ?_⟩) (by assumption) ?_
        rotate_left 1
        · intro w hSw; (try dsimp only at hSw); go_simp; try with_reducible rfl
        try simp only [Act.put, List.getElem_toArray, List.getElem_cons_succ, List.getElem_cons_zero, List.setIfInBounds_toArray, List.set_cons_zero, List.set_cons_succ]
        refine wpAnyH_take (i := 1) (v := ?_) rfl (by kernel_rfl) (by kernel_rfl) (by kernel_rfl) (fun _ _ _ h => h) (Or.inl ⟨by rfl, ?_⟩) (by assumption) ?_
        rotate_left 1
        · intro w hSw; (try dsimp only at hSw); go_simp; try with_reducible rfl
        try simp only [Act.put, List.getElem_toArray, List.getElem_cons_succ, List.getElem_cons_zero, List.setIfInBounds_toArray, List.set_cons_zero, List.set_cons_succ]
        refine wpAnyH_take (i := 3) (v := ?_) rfl (by kernel_rfl) (by kernel_rfl) (by kernel_rfl) (fun _ _ _ h => h) (Or.inl ⟨by rfl, ?_⟩) (by assumption) ?_
        rotate_left 1
        · intro w hSw; (try dsimp only at hSw); go_simp; try with_reducible rfl
        try simp only [Act.put, List.getElem_toArray, List.getElem_cons_succ, List.getElem_cons_zero, List.setIfInBounds_toArray, List.set_cons_zero, List.set_cons_succ]
        refine wpAnyH_take (i := 4) (v := ?_) rfl (by kernel_rfl) (by kernel_rfl) (by kernel_rfl) (fun _ _ _ h => h) (Or.inl ⟨by rfl, ?_⟩) (by assumption) ?_
        rotate_left 1
        · intro w hSw; (try dsimp only at hSw); go_simp; try with_reducible rfl
        try simp only [Act.put, List.getElem_toArray, List.getElem_cons_succ, List.getElem_cons_zero, List.setIfInBounds_toArray, List.set_cons_zero, List.set_cons_succ]
        refine wpAnyH_ready (rs := [2]) (by kernel_rfl) (by simp) (AllReadyH.cons rfl (fun K hK => ?_) AllReadyH.nil)
        go_simp
        go_at_call 41
        refine (cl1 w9.drew).mono ?_
        rintro e w10 ⟨rfl, b10⟩
        have f10 := fct _ (H9.call b10)
        try simp only []
        refine hK.out _ _ (f10) (fun hHeld => ?_)
        clear hK K
        try simp only [Act.put, List.getElem_toArray, List.getElem_cons_succ, List.getElem_cons_zero, List.setIfInBounds_toArray, List.set_cons_zero, List.set_cons_succ]
        refine wpAnyH_take (i := 6) (v := ?_) rfl (by kernel_rfl) (by kernel_rfl) (by kernel_rfl) (fun _ _ _ h => h) (Or.inl ⟨by rfl, ?_⟩) (by assumption) ?_
        rotate_left 1
        · intro w hSw; (try dsimp only at hSw); go_simp; try with_reducible rfl
        try simp only [Act.put, List.getElem_toArray, List.getElem_cons_succ, List.getElem_cons_zero, List.setIfInBounds_toArray, List.set_cons_zero, List.set_cons_succ]
        refine wpAnyH_ready (rs := [5]) (by kernel_rfl) (by simp) (AllReadyH.cons rfl (fun K hK => ?_) AllReadyH.nil)
        go_simp
        go_at_call 41
        refine (cl2 w10).mono ?_
        rintro e w11 ⟨rfl, b11⟩
        have f11 := fct _ (In2.call f10.1 b11)
        try simp only []
        refine hK.out _ _ (f11) (fun hHeld => ?_)
        clear hK K
        try simp only [Act.put, List.getElem_toArray, List.getElem_cons_succ, List.getElem_cons_zero, List.setIfInBounds_toArray, List.set_cons_zero, List.set_cons_succ]
        obtain ⟨⟨y0, y1, y2, y3, y4⟩, ⟨g0, g1, g2, g3, g4⟩, hin3⟩ := (Has.box f11.1 0).five0
        refine wpAnyH_ready (rs := [7]) (by kernel_rfl) (by simp) (AllReadyH.cons rfl (fun K hK => ?_) AllReadyH.nil)
        go_simp
        have f12 := fct _ (In2.id f11.1 x.id)
        generalize World.setCell w11 _ _ = w12 at *
        refine hK.out _ _ (f12) (fun hHeld => ?_)
        clear hK K
        try simp only [Act.put, List.getElem_toArray, List.getElem_cons_succ, List.getElem_cons_zero, List.setIfInBounds_toArray, List.set_cons_zero, List.set_cons_succ]
        refine wpAnyH_take (i := 8) (v := ?_) rfl (by kernel_rfl) (by kernel_rfl) (by kernel_rfl) (fun _ _ _ h => h) (Or.inl ⟨by rfl, ?_⟩) (by assumption) ?_
        rotate_left 1
        · intro w hSw; (try dsimp only at hSw); go_simp; try with_reducible rfl
        try simp only [Act.put, List.getElem_toArray, List.getElem_cons_succ, List.getElem_cons_zero, List.setIfInBounds_toArray, List.set_cons_zero, List.set_cons_succ]
        clear y0 y1 y2 y3 y4 g0 g1 g2 g3 g4 hin3
        obtain ⟨⟨y0, y1, y2, y3, y4⟩, ⟨g0, g1, g2, g3, g4⟩, hin3⟩ := (Has.box f12.1 0).five0
        refine wpAnyH_ready (rs := [9]) (by kernel_rfl) (by simp) (AllReadyH.cons rfl (fun K hK => ?_) AllReadyH.nil)
        go_simp
        have f13 := fct _ (In2.salt f12.1 x.salt)
        generalize World.setCell w12 _ _ = w13 at *
        refine hK.out _ _ (f13) (fun hHeld => ?_)
        clear hK K
        try simp only [Act.put, List.getElem_toArray, List.getElem_cons_succ, List.getElem_cons_zero, List.setIfInBounds_toArray, List.set_cons_zero, List.set_cons_succ]
        refine wpAnyH_done (by kernel_rfl) ?_ _
        clear y0 y1 y2 y3 y4 g0 g1 g2 g3 g4 hin3
        have H13 := f13.1
        clear f9 f10 f11 f12 f13 fct cl1 cl2 b9 H9 H8
        obtain ⟨⟨y0, y1, y2, y3, y4⟩, -, hin3⟩ := (Has.box H13 0).five0
        obtain ⟨⟨p0, p1, p2, p3, p4⟩, ⟨g0, g1, g2, g3, g4⟩, hin4⟩ := (Has.box H13 1).five0
        go_wp2
        obtain ⟨BX, LX⟩ := H13.told x
        generalize World.setCell (World.setCell (World.setCell (World.setCell (World.setCell w13 _ _) _ _) _ _) _ _) _ _ = Z at *
        obtain ⟨⟨x0, x1, x2, x3, x4⟩, -, hgx⟩ := BX.five0
        exact bodyPost_ret (v := .tuple #[x.val, .bool true]) (by simp [results, Tryd.results11, go_sem, Lf.val, x0, x1, x2, x3, x4]) rfl ⟨by rw [er.out], LX⟩
      · have er := hideIt (show rdV t = .tuple #[Lf.zero.val, .bool false] by unfold rdV rdL; rw [hce hX]; rfl)
        have hne : (X.toList == t.toList) = false := by rw [same_str7]; exact decide_eq_false hX
        clear hce hct
        go_upto_region 12 with (first
          | (go_at_call 19; refine (cT2 _ TU).mono ?_; rintro e w9 ⟨rfl, b9⟩)
          | fail)
        clear y0 y1 y2 y3 y4 g0 g1 g2 g3 g4 hin3
        have H9 := H8.call b9
        obtain ⟨⟨y0, y1, y2, y3, y4⟩, ⟨g0, g1, g2, g3, g4⟩, hin3⟩ := (Has.box H9 1).five0
        go_wp2
        obtain ⟨BX, LX⟩ := H9.told Lf.zero
        simp only [Lf.zero] at BX LX
        generalize World.setCell (World.setCell (World.setCell (World.setCell (World.setCell w9 _ _) _ _) _ _) _ _) _ _ = Z at *
        obtain ⟨⟨x0, x1, x2, x3, x4⟩, -, hgx⟩ := BX.five0
        exact bodyPost_ret (v := .tuple #[Lf.zero.val, .bool false]) (by simp [results, Tryd.results11, go_sem, Lf.val, Lf.zero, x0, x1, x2, x3, x4]) rfl ⟨by rw [er.out], LX⟩
    · have hcd := hc2 hb
      clear hc0 hc2 hcx hr hr'
      subst hb
      rw [show ((2 : UInt8) == 2) = true by decide] at H2
      generalize cutA r = A at *
      generalize cutB r = B at *
      go_upto_region 9 with (first
        | (go_at_call_of 39 (Value.string r); refine (c1 _).mono ?_; rintro e w3 ⟨rfl, b3⟩
           have H3 := H2.call b3
           obtain ⟨⟨y0, y1, y2, y3, y4⟩, ⟨g0, g1, g2, g3, g4⟩, hin3⟩ := (Has.box H3 0).five0)
        | fail)
      have H5 := H3.salt A
      generalize World.setCell w3 _ _ = W7 at *
      clear y0 y1 y2 y3 y4 g0 g1 g2 g3 g4 hin3 c1 c2 b3 H3 H2 cF2 cF1
      obtain ⟨⟨y0, y1, y2, y3, y4⟩, ⟨g0, g1, g2, g3, g4⟩, hin3⟩ := (Has.box H5 0).five0
      go_upto_region 11 with fail
      clear y0 y1 y2 y3 y4 g0 g1 g2 g3 g4 hin3
      have H8 : In2 w W7 (cand t).pad (cand t).id (cand t).salt (cand t).h (cand t).l := by rw [hcd]; exact H5
      have z8 : (cand t).id.size ≤ 1000000 ∧ (cand t).salt.size ≤ 1000000 := by rw [hcd]; simp only; refine ⟨?_, by omega⟩; show 0 ≤ 1000000; decide
      clear H5 hcd
      obtain ⟨x, hx⟩ : ∃ x, cand t = x := ⟨_, rfl⟩
      rw [hx] at H8 z8 hcw hce hct
      have cT := fun u hu => leafText_any x z8.1 z8.2 hcw.1 hcw.2 u hu
      have TU := hT.call (Has.below H8)
      obtain ⟨X, hX⟩ : ∃ X, x.text = X := ⟨_, rfl⟩
      rw [hX] at cT hce hct
      clear hx hX
      have cT2 : ∀ u, TabU u → Calls Tryd.prog 19 #[.agg #[.bool x.pad, .string x.id, .string x.salt, .int .u64 x.h, .int .u64 x.l]] u (Tells (.string X) u.heap.size u) := cT
      clear cT
      obtain ⟨⟨y0, y1, y2, y3, y4⟩, ⟨g0, g1, g2, g3, g4⟩, hin3⟩ := (Has.box H8 0).five0
      by_cases hX : X = t
      · have er := hideIt (show rdV t = .tuple #[x.val, .bool true] by unfold rdV rdL; rw [hct hX]; rfl)
        rw [hX] at cT2
        clear hce hct hX
        go_upto_region 13 with (first
          | (go_at_call 19; refine (cT2 _ TU).mono ?_; rintro e w9 ⟨rfl, b9⟩)
          | fail)
        clear y0 y1 y2 y3 y4 g0 g1 g2 g3 g4 hin3
        have H9 : In2 w w9.drew x.pad x.id x.salt x.h x.l := Has.drew (H8.call b9)
        have cl1 := fun u => clone_any x.id (by omega) u
        have cl2 := fun u => clone_any x.salt (by omega) u
        have fct : ∀ u, In2 w u x.pad x.id x.salt x.h x.l → In2 w u x.pad x.id x.salt x.h x.l ∧ (u.cell? ⟨w.heap.size + 1, 0, none⟩ = some (.bool x.pad) ∧ u.cell? ⟨w.heap.size + 1, 1, none⟩ = some (.string x.id) ∧ u.cell? ⟨w.heap.size + 1, 2, none⟩ = some (.string x.salt) ∧ u.cell? ⟨w.heap.size + 1, 3, none⟩ = some (.int .u64 x.h) ∧ u.cell? ⟨w.heap.size + 1, 4, none⟩ = some (.int .u64 x.l)) :=
          fun u h => ⟨h, (Has.box h 0).five0.1⟩
        have f9 := fct _ H9
        refine wp_region_held_drew (S := fun u => In2 w u x.pad x.id x.salt x.h x.l ∧ (u.cell? ⟨w.heap.size + 1, 0, none⟩ = some (.bool x.pad) ∧ u.cell? ⟨w.heap.size + 1, 1, none⟩ = some (.string x.id) ∧ u.cell? ⟨w.heap.size + 1, 2, none⟩ = some (.string x.salt) ∧ u.cell? ⟨w.heap.size + 1, 3, none⟩ = some (.int .u64 x.h) ∧ u.cell? ⟨w.heap.size + 1, 4, none⟩ = some (.int .u64 x.l))) (by kernel_rfl) f9 (fun hHeld => ?_)
        refine wpAnyH_take (i := 0) (v := ?_) rfl (by kernel_rfl) (by kernel_rfl) (by kernel_rfl) (fun _ _ _ h => h) (Or.inl ⟨by rfl, ?_⟩) (by assumption) ?_
        rotate_left 1
        · intro w hSw; (try dsimp only at hSw); go_simp; try with_reducible rfl
        try simp only [Act.put, List.getElem_toArray, List.getElem_cons_succ, List.getElem_cons_zero, List.setIfInBounds_toArray, List.set_cons_zero, List.set_cons_succ]
        refine wpAnyH_take (i := 1) (v := ?_) rfl (by kernel_rfl) (by kernel_rfl) (by kernel_rfl) (fun _ _ _ h => h) (Or.inl ⟨by rfl, ?_⟩) (by assumption) ?_
        rotate_left 1
        · intro w hSw; (try dsimp only at hSw); go_simp; try with_reducible rfl
        try simp only [Act.put, List.getElem_toArray, List.getElem_cons_succ, List.getElem_cons_zero, List.setIfInBounds_toArray, List.set_cons_zero, List.set_cons_succ]
        refine wpAnyH_take (i := 3) (v := ?_) rfl (by kernel_rfl) (by kernel_rfl) (by kernel_rfl) (fun _ _ _ h => h) (Or.inl ⟨by rfl, ?_⟩) (by assumption) ?_
        rotate_left 1
        · intro w hSw; (try dsimp only at hSw); go_simp; try with_reducible rfl
        try simp only [Act.put, List.getElem_toArray, List.getElem_cons_succ, List.getElem_cons_zero, List.setIfInBounds_toArray, List.set_cons_zero, List.set_cons_succ]
        refine wpAnyH_take (i := 4) (v := ?_) rfl (by kernel_rfl) (by kernel_rfl) (by kernel_rfl) (fun _ _ _ h => h) (Or.inl ⟨by rfl, ?_⟩) (by assumption) ?_
        rotate_left 1
        · intro w hSw; (try dsimp only at hSw); go_simp; try with_reducible rfl
        try simp only [Act.put, List.getElem_toArray, List.getElem_cons_succ, List.getElem_cons_zero, List.setIfInBounds_toArray, List.set_cons_zero, List.set_cons_succ]
        refine wpAnyH_ready (rs := [2]) (by kernel_rfl) (by simp) (AllReadyH.cons rfl (fun K hK => ?_) AllReadyH.nil)
        go_simp
        go_at_call 41
        refine (cl1 w9.drew).mono ?_
        rintro e w10 ⟨rfl, b10⟩
        have f10 := fct _ (H9.call b10)
        try simp only []
        refine hK.out _ _ (f10) (fun hHeld => ?_)
        clear hK K
        try simp only [Act.put, List.getElem_toArray, List.getElem_cons_succ, List.getElem_cons_zero, List.setIfInBounds_toArray, List.set_cons_zero, List.set_cons_succ]
        refine wpAnyH_take (i := 6) (v := ?_) rfl (by kernel_rfl) (by kernel_rfl) (by kernel_rfl) (fun _ _ _ h => h) (Or.inl ⟨by rfl, ?_⟩) (by assumption) ?_
        rotate_left 1
        · intro w hSw; (try dsimp only at hSw); go_simp; try with_reducible rfl
        try simp only [Act.put, List.getElem_toArray, List.getElem_cons_succ, List.getElem_cons_zero, List.setIfInBounds_toArray, List.set_cons_zero, List.set_cons_succ]
        refine wpAnyH_ready (rs := [5]) (by kernel_rfl) (by simp) (AllReadyH.cons rfl (fun K hK => ?_) AllReadyH.nil)
        go_simp
        go_at_call 41
        refine (cl2 w10).mono ?_
        rintro e w11 ⟨rfl, b11⟩
        have f11 := fct _ (In2.call f10.1 b11)
        try simp only []
        refine hK.out _ _ (f11) (fun hHeld => ?_)
        clear hK K
        try simp only [Act.put, List.getElem_toArray, List.getElem_cons_succ, List.getElem_cons_zero, List.setIfInBounds_toArray, List.set_cons_zero, List.set_cons_succ]
        obtain ⟨⟨y0, y1, y2, y3, y4⟩, ⟨g0, g1, g2, g3, g4⟩, hin3⟩ := (Has.box f11.1 0).five0
        refine wpAnyH_ready (rs := [7]) (by kernel_rfl) (by simp) (AllReadyH.cons rfl (fun K hK => ?_) AllReadyH.nil)
        go_simp
        have f12 := fct _ (In2.id f11.1 x.id)
        generalize World.setCell w11 _ _ = w12 at *
        refine hK.out _ _ (f12) (fun hHeld => ?_)
        clear hK K
        try simp only [Act.put, List.getElem_toArray, List.getElem_cons_succ, List.getElem_cons_zero, List.setIfInBounds_toArray, List.set_cons_zero, List.set_cons_succ]
        refine wpAnyH_take (i := 8) (v := ?_) rfl (by kernel_rfl) (by kernel_rfl) (by kernel_rfl) (fun _ _ _ h => h) (Or.inl ⟨by rfl, ?_⟩) (by assumption) ?_
        rotate_left 1
        · intro w hSw; (try dsimp only at hSw); go_simp; try with_reducible rfl
        try simp only [Act.put, List.getElem_toArray, List.getElem_cons_succ, List.getElem_cons_zero, List.setIfInBounds_toArray, List.set_cons_zero, List.set_cons_succ]
        clear y0 y1 y2 y3 y4 g0 g1 g2 g3 g4 hin3
        obtain ⟨⟨y0, y1, y2, y3, y4⟩, ⟨g0, g1, g2, g3, g4⟩, hin3⟩ := (Has.box f12.1 0).five0
        refine wpAnyH_ready (rs := [9]) (by kernel_rfl) (by simp) (AllReadyH.cons rfl (fun K hK => ?_) AllReadyH.nil)
        go_simp
        have f13 := fct _ (In2.salt f12.1 x.salt)
        generalize World.setCell w12 _ _ = w13 at *
        refine hK.out _ _ (f13) (fun hHeld => ?_)
        clear hK K
        try simp only [Act.put, List.getElem_toArray, List.getElem_cons_succ, List.getElem_cons_zero, List.setIfInBounds_toArray, List.set_cons_zero, List.set_cons_succ]
        refine wpAnyH_done (by kernel_rfl) ?_ _
        clear y0 y1 y2 y3 y4 g0 g1 g2 g3 g4 hin3
        have H13 := f13.1
        clear f9 f10 f11 f12 f13 fct cl1 cl2 b9 H9 H8
        obtain ⟨⟨y0, y1, y2, y3, y4⟩, -, hin3⟩ := (Has.box H13 0).five0
        obtain ⟨⟨p0, p1, p2, p3, p4⟩, ⟨g0, g1, g2, g3, g4⟩, hin4⟩ := (Has.box H13 1).five0
        go_wp2
        obtain ⟨BX, LX⟩ := H13.told x
        generalize World.setCell (World.setCell (World.setCell (World.setCell (World.setCell w13 _ _) _ _) _ _) _ _) _ _ = Z at *
        obtain ⟨⟨x0, x1, x2, x3, x4⟩, -, hgx⟩ := BX.five0
        exact bodyPost_ret (v := .tuple #[x.val, .bool true]) (by simp [results, Tryd.results11, go_sem, Lf.val, x0, x1, x2, x3, x4]) rfl ⟨by rw [er.out], LX⟩
      · have er := hideIt (show rdV t = .tuple #[Lf.zero.val, .bool false] by unfold rdV rdL; rw [hce hX]; rfl)
        have hne : (X.toList == t.toList) = false := by rw [same_str7]; exact decide_eq_false hX
        clear hce hct
        go_upto_region 12 with (first
          | (go_at_call 19; refine (cT2 _ TU).mono ?_; rintro e w9 ⟨rfl, b9⟩)
          | fail)
        clear y0 y1 y2 y3 y4 g0 g1 g2 g3 g4 hin3
        have H9 := H8.call b9
        obtain ⟨⟨y0, y1, y2, y3, y4⟩, ⟨g0, g1, g2, g3, g4⟩, hin3⟩ := (Has.box H9 1).five0
        go_wp2
        obtain ⟨BX, LX⟩ := H9.told Lf.zero
        simp only [Lf.zero] at BX LX
        generalize World.setCell (World.setCell (World.setCell (World.setCell (World.setCell w9 _ _) _ _) _ _) _ _) _ _ = Z at *
        obtain ⟨⟨x0, x1, x2, x3, x4⟩, -, hgx⟩ := BX.five0
        exact bodyPost_ret (v := .tuple #[Lf.zero.val, .bool false]) (by simp [results, Tryd.results11, go_sem, Lf.val, Lf.zero, x0, x1, x2, x3, x4]) rfl ⟨by rw [er.out], LX⟩
    · have hcd := hcx hb0 hb2
      clear hc0 hc2 hcx hr hr'
      have q0 : (b == 0) = false := by simpa using hb0
      have q2 : (b == 2) = false := by simpa using hb2
      rw [q2] at H2
      go_upto_region 9 with fail
      clear c1 c2 cF1
      obtain ⟨⟨y0, y1, y2, y3, y4⟩, ⟨g0, g1, g2, g3, g4⟩, hin3⟩ := (Has.box H2 0).five0
      go_upto_region 11 with (first
        | (go_at_call 40; refine (cF2 _).mono ?_; rintro e w6 ⟨rfl, b6⟩
           have H6 := H2.call b6
           clear y0 y1 y2 y3 y4 g0 g1 g2 g3 g4 hin3
           obtain ⟨⟨y0, y1, y2, y3, y4⟩, ⟨g0, g1, g2, g3, g4⟩, hin3⟩ := (Has.box H6 0).five0)
        | fail)
      have H7 := H6.bal (fromH r) (fromL r)
      generalize World.setCell (World.setCell w6 _ _) _ _ = W7 at *
      clear y0 y1 y2 y3 y4 g0 g1 g2 g3 g4 hin3 H6 H2 b6 cF2
      have H8 : In2 w W7 (cand t).pad (cand t).id (cand t).salt (cand t).h (cand t).l := by rw [hcd]; exact H7
      have z8 : (cand t).id.size ≤ 1000000 ∧ (cand t).salt.size ≤ 1000000 := by rw [hcd]; exact ⟨Nat.zero_le _, Nat.zero_le _⟩
      clear H7 hcd
      generalize fromH r = m1 at *
      generalize fromL r = m2 at *
      generalize fromE r = m3 at *
      obtain ⟨x, hx⟩ : ∃ x, cand t = x := ⟨_, rfl⟩
      rw [hx] at H8 z8 hcw hce hct
      have cT := fun u hu => leafText_any x z8.1 z8.2 hcw.1 hcw.2 u hu
      have TU := hT.call (Has.below H8)
      obtain ⟨X, hX⟩ : ∃ X, x.text = X := ⟨_, rfl⟩
      rw [hX] at cT hce hct
      clear hx hX
      have cT2 : ∀ u, TabU u → Calls Tryd.prog 19 #[.agg #[.bool x.pad, .string x.id, .string x.salt, .int .u64 x.h, .int .u64 x.l]] u (Tells (.string X) u.heap.size u) := cT
      clear cT
      obtain ⟨⟨y0, y1, y2, y3, y4⟩, ⟨g0, g1, g2, g3, g4⟩, hin3⟩ := (Has.box H8 0).five0
      by_cases hX : X = t
      · have er := hideIt (show rdV t = .tuple #[x.val, .bool true] by unfold rdV rdL; rw [hct hX]; rfl)
        rw [hX] at cT2
        clear hce hct hX
        go_upto_region 13 with (first
          | (go_at_call 19; refine (cT2 _ TU).mono ?_; rintro e w9 ⟨rfl, b9⟩)
          | fail)
        clear y0 y1 y2 y3 y4 g0 g1 g2 g3 g4 hin3
        have H9 : In2 w w9.drew x.pad x.id x.salt x.h x.l := Has.drew (H8.call b9)
        have cl1 := fun u => clone_any x.id (by omega) u
        have cl2 := fun u => clone_any x.salt (by omega) u
        have fct : ∀ u, In2 w u x.pad x.id x.salt x.h x.l → In2 w u x.pad x.id x.salt x.h x.l ∧ (u.cell? ⟨w.heap.size + 1, 0, none⟩ = some (.bool x.pad) ∧ u.cell? ⟨w.heap.size + 1, 1, none⟩ = some (.string x.id) ∧ u.cell? ⟨w.heap.size + 1, 2, none⟩ = some (.string x.salt) ∧ u.cell? ⟨w.heap.size + 1, 3, none⟩ = some (.int .u64 x.h) ∧ u.cell? ⟨w.heap.size + 1, 4, none⟩ = some (.int .u64 x.l)) :=
          fun u h => ⟨h, (Has.box h 0).five0.1⟩
        have f9 := fct _ H9
        refine wp_region_held_drew (S := fun u => In2 w u x.pad x.id x.salt x.h x.l ∧ (u.cell? ⟨w.heap.size + 1, 0, none⟩ = some (.bool x.pad) ∧ u.cell? ⟨w.heap.size + 1, 1, none⟩ = some (.string x.id) ∧ u.cell? ⟨w.heap.size + 1, 2, none⟩ = some (.string x.salt) ∧ u.cell? ⟨w.heap.size + 1, 3, none⟩ = some (.int .u64 x.h) ∧ u.cell? ⟨w.heap.size + 1, 4, none⟩ = some (.int .u64 x.l))) (by kernel_rfl) f9 (fun hHeld => ?_)
        refine wpAnyH_take (i := 0) (v := ?_) rfl (by kernel_rfl) (by kernel_rfl) (by kernel_rfl) (fun _ _ _ h => h) (Or.inl ⟨by rfl, ?_⟩) (by assumption) ?_
        rotate_left 1
        · intro w hSw; (try dsimp only at hSw); go_simp; try with_reducible rfl
        try simp only [Act.put, List.getElem_toArray, List.getElem_cons_succ, List.getElem_cons_zero, List.setIfInBounds_toArray, List.set_cons_zero, List.set_cons_succ]
        refine wpAnyH_take (i := 1) (v := ?_) rfl (by kernel_rfl) (by kernel_rfl) (by kernel_rfl) (fun _ _ _ h => h) (Or.inl ⟨by rfl, ?_⟩) (by assumption) ?_
        rotate_left 1
        · intro w hSw; (try dsimp only at hSw); go_simp; try with_reducible rfl
        try simp only [Act.put, List.getElem_toArray, List.getElem_cons_succ, List.getElem_cons_zero, List.setIfInBounds_toArray, List.set_cons_zero, List.set_cons_succ]
        refine wpAnyH_take (i := 3) (v := ?_) rfl (by kernel_rfl) (by kernel_rfl) (by kernel_rfl) (fun _ _ _ h => h) (Or.inl ⟨by rfl, ?_⟩) (by assumption) ?_
        rotate_left 1
        · intro w hSw; (try dsimp only at hSw); go_simp; try with_reducible rfl
        try simp only [Act.put, List.getElem_toArray, List.getElem_cons_succ, List.getElem_cons_zero, List.setIfInBounds_toArray, List.set_cons_zero, List.set_cons_succ]
        refine wpAnyH_take (i := 4) (v := ?_) rfl (by kernel_rfl) (by kernel_rfl) (by kernel_rfl) (fun _ _ _ h => h) (Or.inl ⟨by rfl, ?_⟩) (by assumption) ?_
        rotate_left 1
        · intro w hSw; (try dsimp only at hSw); go_simp; try with_reducible rfl
        try simp only [Act.put, List.getElem_toArray, List.getElem_cons_succ, List.getElem_cons_zero, List.setIfInBounds_toArray, List.set_cons_zero, List.set_cons_succ]
        refine wpAnyH_ready (rs := [2]) (by kernel_rfl) (by simp) (AllReadyH.cons rfl (fun K hK => ?_) AllReadyH.nil)
        go_simp
        go_at_call 41
        refine (cl1 w9.drew).mono ?_
        rintro e w10 ⟨rfl, b10⟩
        have f10 := fct _ (H9.call b10)
        try simp only []
        refine hK.out _ _ (f10) (fun hHeld => ?_)
        clear hK K
        try simp only [Act.put, List.getElem_toArray, List.getElem_cons_succ, List.getElem_cons_zero, List.setIfInBounds_toArray, List.set_cons_zero, List.set_cons_succ]
        refine wpAnyH_take (i := 6) (v := ?_) rfl (by kernel_rfl) (by kernel_rfl) (by kernel_rfl) (fun _ _ _ h => h) (Or.inl ⟨by rfl, ?_⟩) (by assumption) ?_
        rotate_left 1
        · intro w hSw; (try dsimp only at hSw); go_simp; try with_reducible rfl
        try simp only [Act.put, List.getElem_toArray, List.getElem_cons_succ, List.getElem_cons_zero, List.setIfInBounds_toArray, List.set_cons_zero, List.set_cons_succ]
        refine wpAnyH_ready (rs := [5]) (by kernel_rfl) (by simp) (AllReadyH.cons rfl (fun K hK => ?_) AllReadyH.nil)
        go_simp
        go_at_call 41
        refine (cl2 w10).mono ?_
        rintro e w11 ⟨rfl, b11⟩
        have f11 := fct _ (In2.call f10.1 b11)
        try simp only []
        refine hK.out _ _ (f11) (fun hHeld => ?_)
        clear hK K
        try simp only [Act.put, List.getElem_toArray, List.getElem_cons_succ, List.getElem_cons_zero, List.setIfInBounds_toArray, List.set_cons_zero, List.set_cons_succ]
        obtain ⟨⟨y0, y1, y2, y3, y4⟩, ⟨g0, g1, g2, g3, g4⟩, hin3⟩ := (Has.box f11.1 0).five0
        refine wpAnyH_ready (rs := [7]) (by kernel_rfl) (by simp) (AllReadyH.cons rfl (fun K hK => ?_) AllReadyH.nil)
        go_simp
        have f12 := fct _ (In2.id f11.1 x.id)
        generalize World.setCell w11 _ _ = w12 at *
        refine hK.out _ _ (f12) (fun hHeld => ?_)
        clear hK K
        try simp only [Act.put, List.getElem_toArray, List.getElem_cons_succ, List.getElem_cons_zero, List.setIfInBounds_toArray, List.set_cons_zero, List.set_cons_succ]
        refine wpAnyH_take (i := 8) (v := ?_) rfl (by kernel_rfl) (by kernel_rfl) (by kernel_rfl) (fun _ _ _ h => h) (Or.inl ⟨by rfl, ?_⟩) (by assumption) ?_
        rotate_left 1
        · intro w hSw; (try dsimp only at hSw); go_simp; try with_reducible rfl
        try simp only [Act.put, List.getElem_toArray, List.getElem_cons_succ, List.getElem_cons_zero, List.setIfInBounds_toArray, List.set_cons_zero, List.set_cons_succ]
        clear y0 y1 y2 y3 y4 g0 g1 g2 g3 g4 hin3
        obtain ⟨⟨y0, y1, y2, y3, y4⟩, ⟨g0, g1, g2, g3, g4⟩, hin3⟩ := (Has.box f12.1 0).five0
        refine wpAnyH_ready (rs := [9]) (by kernel_rfl) (by simp) (AllReadyH.cons rfl (fun K hK => ?_) AllReadyH.nil)
        go_simp
        have f13 := fct _ (In2.salt f12.1 x.salt)
        generalize World.setCell w12 _ _ = w13 at *
        refine hK.out _ _ (f13) (fun hHeld => ?_)
        clear hK K
        try simp only [Act.put, List.getElem_toArray, List.getElem_cons_succ, List.getElem_cons_zero, List.setIfInBounds_toArray, List.set_cons_zero, List.set_cons_succ]
        refine wpAnyH_done (by kernel_rfl) ?_ _
        clear y0 y1 y2 y3 y4 g0 g1 g2 g3 g4 hin3
        have H13 := f13.1
        clear f9 f10 f11 f12 f13 fct cl1 cl2 b9 H9 H8
        obtain ⟨⟨y0, y1, y2, y3, y4⟩, -, hin3⟩ := (Has.box H13 0).five0
        obtain ⟨⟨p0, p1, p2, p3, p4⟩, ⟨g0, g1, g2, g3, g4⟩, hin4⟩ := (Has.box H13 1).five0
        go_wp2
        obtain ⟨BX, LX⟩ := H13.told x
        generalize World.setCell (World.setCell (World.setCell (World.setCell (World.setCell w13 _ _) _ _) _ _) _ _) _ _ = Z at *
        obtain ⟨⟨x0, x1, x2, x3, x4⟩, -, hgx⟩ := BX.five0
        exact bodyPost_ret (v := .tuple #[x.val, .bool true]) (by simp [results, Tryd.results11, go_sem, Lf.val, x0, x1, x2, x3, x4]) rfl ⟨by rw [er.out], LX⟩
      · have er := hideIt (show rdV t = .tuple #[Lf.zero.val, .bool false] by unfold rdV rdL; rw [hce hX]; rfl)
        have hne : (X.toList == t.toList) = false := by rw [same_str7]; exact decide_eq_false hX
        clear hce hct
        go_upto_region 12 with (first
          | (go_at_call 19; refine (cT2 _ TU).mono ?_; rintro e w9 ⟨rfl, b9⟩)
          | fail)
        clear y0 y1 y2 y3 y4 g0 g1 g2 g3 g4 hin3
        have H9 := H8.call b9
        obtain ⟨⟨y0, y1, y2, y3, y4⟩, ⟨g0, g1, g2, g3, g4⟩, hin3⟩ := (Has.box H9 1).five0
        go_wp2
        obtain ⟨BX, LX⟩ := H9.told Lf.zero
        simp only [Lf.zero] at BX LX
        generalize World.setCell (World.setCell (World.setCell (World.setCell (World.setCell w9 _ _) _ _) _ _) _ _) _ _ = Z at *
        obtain ⟨⟨x0, x1, x2, x3, x4⟩, -, hgx⟩ := BX.five0
        exact bodyPost_ret (v := .tuple #[Lf.zero.val, .bool false]) (by simp [results, Tryd.results11, go_sem, Lf.val, Lf.zero, x0, x1, x2, x3, x4]) rfl ⟨by rw [er.out], LX⟩
end Go.Proofs.YtkmnfogcocppjaaDoor
