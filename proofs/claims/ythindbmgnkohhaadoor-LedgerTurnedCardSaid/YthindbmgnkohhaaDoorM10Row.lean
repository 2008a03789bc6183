/- Several of my texts, laid as one. -/
import Derived.Test.YthindbmgnkohhaaDoorU9Base
import Derived.Test.YthindbmgnkohhaaDoorD10Row
import Derived.Test.YthindbmgnkohhaaDoorU7Id
import Derived.Test.YthindbmgnkohhaaDoorU5Clone
import Derived.Test.YthindbmgnkohhaaDoorM2Dec
import Derived.Test.YthindbmgnkohhaaDoorW1Has
import Derived.Laws.Concat
/-
  The library's Cut at a blank, walked.
-/
namespace Go.Proofs.YthindbmgnkohhaaDoor
set_option linter.unusedVariables false
set_option linter.unusedSimpArgs false
set_option maxRecDepth 10000
open Go.RowKit Go.Shelf

set_option maxHeartbeats 1000000 in
theorem indexByte32_any (s : ByteArray) (w : World) : Calls Tryd.prog 98 #[.string s, .int .u8 32] w (Plain (.int .i64 (Lib.indexByte s.data.toList 32)) w) := by
  go_enter Tryd.func98, Tryd.ntmps98
  go_wp2
  rw [run_callFunc_extern Tryd.func110 (by kernel_rfl) (by kernel_rfl) (by kernel_rfl) (e := Extern.BytealgIndexByte.indexByte) (by kernel_rfl), Lib.run_indexByteString]
  simp only [Result.andThen]
  rw [Oper.upon_value]
  go_wp2
  go_ret
  exact ⟨rfl, rfl⟩
set_option maxHeartbeats 2000000 in
theorem indexL32_any (s : ByteArray) (w : World) : Calls Tryd.prog 77 #[.string s, .string ⟨#[32]⟩] w (Plain (.int .i64 (Lib.indexByte s.data.toList 32)) w) := by
  have c := fun u => indexByte32_any s u
  go_enter Tryd.func77, Tryd.ntmps77
  go_wp2_with (first | (go_at_call 98; refine (c _).mono ?_; rintro e w' ⟨rfl, rfl⟩))
  · have h : ([(32 : UInt8)] == s.toList) = true := by assumption
    go_ret
    refine ⟨?_, rfl⟩
    have e : s.data.toList = [32] := by rw [← Lib.toList_data]; exact (beq_iff_eq.1 h).symm
    rw [e]
    simp [Lib.indexByte]
  · go_ret
    exact ⟨rfl, rfl⟩
theorem index32_none {l : List UInt8} (h : Lib.indexByte l 32 < 0) : (32 : UInt8) ∉ l := by
  induction l with
  | nil => simp
  | cons b l ih =>
    unfold Lib.indexByte at h
    have hg := Lib.indexByte_ge l 32
    split at h
    · omega
    · rename_i hb
      have hb' : b ≠ 32 := by simpa using hb
      have hl : Lib.indexByte l 32 < 0 := by
        split at h
        · rename_i h1
          have : Lib.indexByte l 32 = -1 := by simpa using h1
          omega
        · omega
      simp only [List.mem_cons, not_or]
      exact ⟨fun e => hb' e.symm, ih hl⟩
theorem index32_some {l : List UInt8} {i : Nat} (h : Lib.indexByte l 32 = (i : Int)) : i < l.length ∧ l[i]? = some 32 ∧ (32 : UInt8) ∉ l.take i := by
  induction l generalizing i with
  | nil => unfold Lib.indexByte at h; omega
  | cons b l ih =>
    unfold Lib.indexByte at h
    have hg := Lib.indexByte_ge l 32
    split at h
    · rename_i hb
      obtain rfl : i = 0 := by omega
      have hb' : b = 32 := by simpa using hb
      subst hb'
      simp
    · rename_i hb
      have hb' : b ≠ 32 := by simpa using hb
      split at h
      · omega
      · rename_i h1
        obtain ⟨j, hj⟩ : ∃ j : Nat, Lib.indexByte l 32 = (j : Int) := ⟨(Lib.indexByte l 32).toNat, by
          have : Lib.indexByte l 32 ≠ -1 := by simpa using h1
          omega⟩
        obtain rfl : i = j + 1 := by omega
        obtain ⟨a, b', c⟩ := ih hj
        refine ⟨by simp; omega, by simpa using b', ?_⟩
        simp only [List.take_succ_cons, List.mem_cons, not_or]
        exact ⟨fun e => hb' e.symm, c⟩
set_option maxHeartbeats 2000000 in
theorem cut32_none (s : ByteArray) (h : Lib.indexByte s.data.toList 32 < 0) (w : World) : Calls Tryd.prog 57 #[.string s, .string ⟨#[32]⟩] w (Plain (.tuple #[.string s, .string ⟨#[]⟩, .bool false]) w) := by
  have c := fun u => indexL32_any s u
  have c2 : ∀ u, Calls Tryd.prog 79 #[.string s, .string ⟨#[32]⟩] u (Plain (.tuple #[.string s, .string ⟨#[]⟩, .bool false]) u) := by
    intro u
    generalize Lib.indexByte s.data.toList 32 = i at *
    have h' : ¬ (0 ≤ i) := by omega
    go_enter Tryd.func79, Tryd.ntmps79
    go_wp2_with (first | (go_at_call 77; refine (c _).mono ?_; rintro e w' ⟨rfl, rfl⟩))
    go_ret3
    exact ⟨rfl, rfl⟩
  go_enter Tryd.func57, Tryd.ntmps57
  go_wp2_with (first | (go_at_call 79; refine (c2 _).mono ?_; rintro e w' ⟨rfl, rfl⟩))
  go_ret3
  exact ⟨rfl, rfl⟩
set_option maxHeartbeats 2000000 in
theorem cut32_some (s : ByteArray) (i : Nat) (h : Lib.indexByte s.data.toList 32 = (i : Int)) (hs : s.size ≤ 1000000000) (w : World) :
    Calls Tryd.prog 57 #[.string s, .string ⟨#[32]⟩] w (Tells (.tuple #[.string (bA (s.data.toList.take i)), .string (bA (s.data.toList.drop (i + 1))), .bool true]) w.heap.size w) := by
  have c := fun u => indexL32_any s u
  have hi := (index32_some h).1
  rw [ba_size] at hi
  have e1 : s.extract 0 i = bA (s.data.toList.take i) := ba_ext (by rw [ext_toList, bA_list, List.drop_zero])
  have e2 : s.extract (i + 1) s.size = bA (s.data.toList.drop (i + 1)) := bA_ext s (i + 1)
  have c2 : ∀ u, Calls Tryd.prog 79 #[.string s, .string ⟨#[32]⟩] u (Tells (.tuple #[.string (bA (s.data.toList.take i)), .string (bA (s.data.toList.drop (i + 1))), .bool true]) u.heap.size u) := by
    intro u
    rw [h] at c
    have h1 : (i : Int) ≤ (s.size : Int) := by omega
    have h2 : (i : Int) + 1 ≤ (s.size : Int) := by omega
    have h3 : wrap64 ((i : Int) + 1) = ((i + 1 : Nat) : Int) := by rw [IntWalk.wrap64_in _ (by omega)]; omega
    have h4 : ((i + 1 : Nat) : Int) ≤ (s.size : Int) := by omega
    go_enter Tryd.func79, Tryd.ntmps79
    go_wp2_with (first | (go_at_call 77; refine (c _).mono ?_; rintro e w' ⟨rfl, rfl⟩))
    go_quiet (fail)
    go_wp2
    go_ret3
    exact ⟨rfl, below_drewN (Below.refl _ _) _⟩
  go_enter Tryd.func57, Tryd.ntmps57
  go_wp2_with (first | (go_at_call 79; refine (c2 _).mono ?_; rintro e w' ⟨rfl, b1⟩))
  go_ret3
  exact ⟨rfl, b1⟩

/-- Cut at a blank, in plain words. -/
theorem cutL_index (l : List UInt8) : (Lib.indexByte l 32 < 0 ∧ cutL l = none) ∨ (∃ i : Nat, Lib.indexByte l 32 = (i : Int) ∧ cutL l = some (l.take i, l.drop (i + 1))) := by
  by_cases h : Lib.indexByte l 32 < 0
  · exact .inl ⟨h, (cutL_none l).2 (index32_none h)⟩
  · obtain ⟨i, hi⟩ : ∃ i : Nat, Lib.indexByte l 32 = (i : Int) := ⟨(Lib.indexByte l 32).toNat, by omega⟩
    obtain ⟨h1, h2, h3⟩ := index32_some hi
    refine .inr ⟨i, hi, (cutL_some _ _ _).2 ⟨?_, h3⟩⟩
    have e : l.drop i = 32 :: l.drop (i + 1) := by
      rw [List.drop_eq_getElem_cons h1]
      have := List.getElem?_eq_getElem h1
      rw [h2] at this
      injection this with this
      rw [← this]
    rw [← e, List.take_append_drop]
theorem cutB_none (s : ByteArray) (h : cutL s.data.toList = none) (w : World) : Calls Tryd.prog 57 #[.string s, .string ⟨#[32]⟩] w (Plain (.tuple #[.string s, .string ⟨#[]⟩, .bool false]) w) := by
  rcases cutL_index s.data.toList with ⟨h1, -⟩ | ⟨i, h1, h2⟩
  · exact cut32_none s h1 w
  · rw [h] at h2; cases h2
theorem cutB_some (s : ByteArray) (a b : List UInt8) (h : cutL s.data.toList = some (a, b)) (hs : s.size ≤ 1000000000) (w : World) :
    Calls Tryd.prog 57 #[.string s, .string ⟨#[32]⟩] w (Tells (.tuple #[.string (bA a), .string (bA b), .bool true]) w.heap.size w) := by
  rcases cutL_index s.data.toList with ⟨h1, h2⟩ | ⟨i, h1, h2⟩
  · rw [h] at h2; cases h2
  · rw [h] at h2
    injection h2 with h2
    injection h2 with h2 h3
    subst h2 h3
    exact cut32_some s i h1 hs w
end Go.Proofs.YthindbmgnkohhaaDoor
/-
  Package row's Parse, Text, Of, walked.
-/
namespace Go.Proofs.YthindbmgnkohhaaDoor
set_option linter.unusedVariables false
set_option linter.unusedSimpArgs false
set_option maxRecDepth 10000
open Go.RowKit Go.Lib

/-- A row's cells, as a block's. -/
def rwB (i : ByteArray) (h l : Int) : Array Value := #[.string i, .int .u64 h, .int .u64 l]
theorem Box.put3 {w : World} {g : Nat} {t : TypeId} {a b c : Value} (h : Box w g t #[a, b, c]) (x y z : Value) :
    Box (((w.setCell ⟨g, 0, none⟩ x).setCell ⟨g, 1, none⟩ y).setCell ⟨g, 2, none⟩ z) g t #[x, y, z] := ((h.wrote 0 x).wrote 1 y).wrote 2 z
theorem below_put3 {B : Nat} {w W : World} {g : Nat} (h : Below B w W) (hg : B ≤ g) (x y z : Value) :
    Below B w (((W.setCell ⟨g, 0, none⟩ x).setCell ⟨g, 1, none⟩ y).setCell ⟨g, 2, none⟩ z) :=
  ((h.setCell (p := ⟨g, 0, none⟩) hg x).setCell (p := ⟨g, 1, none⟩) hg y).setCell (p := ⟨g, 2, none⟩) hg z

set_option maxRecDepth 100000 in
set_option maxHeartbeats 2000000 in
theorem rowparse_any (s : ByteArray) (hs : s.size ≤ 1000000) (w : World) (hT : TabU w) :
    Calls Tryd.prog 66 #[.string s] w (Tells (.tuple #[(parR s.data.toList).1.val, .int .i64 (parR s.data.toList).2]) w.heap.size w) := by
  have H0 := (Has.start w).add 50 (rwB ⟨#[]⟩ 0 0)
  cases hc : cutL s.data.toList with
  | none =>
    have cC := fun u => cutB_none s hc u
    rw [parR_none hc]
    clear hc
    go_enter Tryd.func66, Tryd.ntmps66
    go_upto_region 1 with fail
    change Code.wp _ _ _ _ (w.alloc (.cells (rwB ⟨#[]⟩ 0 0) 50))
    generalize w.alloc (.cells (rwB ⟨#[]⟩ 0 0) 50) = W at *
    obtain ⟨y0, y1, y2, g0, g1, g2, hin1⟩ := (H0.box 0).three
    go_wp2_with (first
      | (go_at_call 57; refine (cC _).mono ?_; rintro e w1 ⟨rfl, rfl⟩)
      | fail)
    have BX := (H0.box 0).put3 (.string ⟨#[]⟩) (.int .u64 0) (.int .u64 0)
    have LX := below_put3 (g := w.heap.size) H0.below (Nat.le_refl _) (.string ⟨#[]⟩) (.int .u64 0) (.int .u64 0)
    generalize World.setCell (World.setCell (World.setCell _ _ _) _ _) _ _ = X at *
    obtain ⟨x0, x1, x2, -, -, -, hgx⟩ := BX.three
    exact bodyPost_ret (v := .tuple #[Rw.zero.val, .int .i64 100]) (by simp [results, Tryd.results66, go_sem, Rw.val, Rw.zero, x0, x1, x2]) rfl ⟨rfl, LX⟩
  | some p =>
    obtain ⟨a, b⟩ := p
    have cC := fun u => cutB_some s a b hc (by omega) u
    have hab := (cutL_some _ _ _).1 hc
    have hsz : a.length ≤ s.size ∧ b.length ≤ s.size := by rw [← ba_size, hab.1, List.length_append, List.length_cons]; omega
    have cI := fun u hu => mayId_any (bA a) (by rw [bA_size]; omega) u hu
    have cP := fun u => parse_any (bA b) (by rw [bA_size]; omega) u
    have cK := fun u => clone_any (bA a) (by rw [bA_size]; omega) u
    simp only [bA_list] at cI
    unfold ParseTells at cP
    simp only [bA_list] at cP
    clear hab
    cases hi : isId a with
    | false =>
      rw [parR_id hc hi]
      rw [hi] at cI
      clear hc hi
      go_enter Tryd.func66, Tryd.ntmps66
      go_upto_region 1 with fail
      change Code.wp _ _ _ _ (w.alloc (.cells (rwB ⟨#[]⟩ 0 0) 50))
      generalize w.alloc (.cells (rwB ⟨#[]⟩ 0 0) 50) = W at *
      go_upto_region 5 with (first
        | (go_at_call 57; refine (cC _).mono ?_; rintro e w1 ⟨rfl, j1⟩; have H1 := H0.call j1)
        | (go_at_call 59; refine (cI _ (hT.call H1.below)).mono ?_; rintro e w2 ⟨rfl, j2⟩; have H2 := H1.call j2)
        | fail)
      obtain ⟨y0, y1, y2, g0, g1, g2, hin1⟩ := (H2.box 0).three
      go_wp2
      have BX := (H2.box 0).put3 (.string ⟨#[]⟩) (.int .u64 0) (.int .u64 0)
      have LX := below_put3 (g := w.heap.size) H2.below (Nat.le_refl _) (.string ⟨#[]⟩) (.int .u64 0) (.int .u64 0)
      generalize World.setCell (World.setCell (World.setCell _ _ _) _ _) _ _ = X at *
      obtain ⟨x0, x1, x2, -, -, -, hgx⟩ := BX.three
      exact bodyPost_ret (v := .tuple #[Rw.zero.val, .int .i64 101]) (by simp [results, Tryd.results66, go_sem, Rw.val, Rw.zero, x0, x1, x2]) rfl ⟨rfl, LX⟩
    | true =>
      rw [hi] at cI
      by_cases hb : parE b = 0
      · rw [parR_ok hc hi hb]
        rw [hb] at cP
        clear hc hi hb
        generalize parH b = ph at *
        generalize parL b = pl at *
        go_enter Tryd.func66, Tryd.ntmps66
        go_upto_region 1 with fail
        change Code.wp _ _ _ _ (w.alloc (.cells (rwB ⟨#[]⟩ 0 0) 50))
        generalize w.alloc (.cells (rwB ⟨#[]⟩ 0 0) 50) = W at *
        go_upto_region 9 with (first
          | (go_at_call 57; refine (cC _).mono ?_; rintro e w1 ⟨rfl, j1⟩; have H1 := H0.call j1)
          | (go_at_call 59; refine (cI _ (hT.call H1.below)).mono ?_; rintro e w2 ⟨rfl, j2⟩; have H2 := H1.call j2)
          | (go_at_call 89; refine (cP _).mono ?_; rintro e w3 ⟨rfl, j3⟩; have H3 := H2.call j3)
          | fail)
        have H4 := H3.add 45 #[.int .u64 ph, .int .u64 pl]
        have hlt : w.heap.size < w3.heap.size := (H3.box 0).inside
        obtain ⟨g, hg⟩ : ∃ g, w3.heap.size = g := ⟨_, rfl⟩
        rw [hg] at H4 hlt ⊢
        generalize w3.alloc _ = W4 at *
        have fct : ∀ u, Box u g 45 #[.int .u64 ph, .int .u64 pl] → u.cell? ⟨g, 0, none⟩ = some (.int .u64 ph) ∧ u.cell? ⟨g, 1, none⟩ = some (.int .u64 pl) ∧ g < u.heap.size := fun u h => ⟨h.read 0, h.read 1, h.inside⟩
        have f4 := fct _ (H4.drew.box 0)
        refine wp_region_held_drew (S := fun u => u.cell? ⟨g, 0, none⟩ = some (.int .u64 ph) ∧ u.cell? ⟨g, 1, none⟩ = some (.int .u64 pl) ∧ g < u.heap.size) (by kernel_rfl) f4 (fun hHeld => ?_)
        refine wpAnyH_take (i := 0) (v := ?_) rfl (by kernel_rfl) (by kernel_rfl) (by kernel_rfl) (fun _ _ _ h => h) (Or.inl ⟨by rfl, ?_⟩) (by assumption) ?_
        rotate_left 1
        · intro w hSw; (try dsimp only at hSw); go_simp; try with_reducible rfl
        try simp only [Act.put, List.getElem_toArray, List.getElem_cons_succ, List.getElem_cons_zero, List.setIfInBounds_toArray, List.set_cons_zero, List.set_cons_succ]
        refine wpAnyH_take (i := 2) (v := ?_) rfl (by kernel_rfl) (by kernel_rfl) (by kernel_rfl) (fun _ _ _ h => h) (Or.inl ⟨by rfl, ?_⟩) (by assumption) ?_
        rotate_left 1
        · intro w hSw; (try dsimp only at hSw); go_simp; try with_reducible rfl
        try simp only [Act.put, List.getElem_toArray, List.getElem_cons_succ, List.getElem_cons_zero, List.setIfInBounds_toArray, List.set_cons_zero, List.set_cons_succ]
        refine wpAnyH_ready (rs := [1]) (by kernel_rfl) (by simp) (AllReadyH.cons rfl (fun K hK => ?_) AllReadyH.nil)
        go_simp
        go_at_call 42
        refine (cK W4.drew).mono ?_
        rintro e w5 ⟨rfl, j5⟩
        have H5 := H4.drew.call j5
        have f5 := fct _ (H5.box 0)
        try simp only []
        refine hK.out _ _ (f5) (fun hHeld => ?_)
        clear hK K
        try simp only [Act.put, List.getElem_toArray, List.getElem_cons_succ, List.getElem_cons_zero, List.setIfInBounds_toArray, List.set_cons_zero, List.set_cons_succ]
        refine wpAnyH_take (i := 3) (v := ?_) rfl (by kernel_rfl) (by kernel_rfl) (by kernel_rfl) (fun _ _ _ h => h) (Or.inl ⟨by rfl, ?_⟩) (by assumption) ?_
        rotate_left 1
        · intro w hSw; (try dsimp only at hSw); go_simp; try with_reducible rfl
        try simp only [Act.put, List.getElem_toArray, List.getElem_cons_succ, List.getElem_cons_zero, List.setIfInBounds_toArray, List.set_cons_zero, List.set_cons_succ]
        obtain ⟨y0, y1, y2, g0, g1, g2, hin1⟩ := (H5.box 1).three
        refine wpAnyH_ready (rs := [4]) (by kernel_rfl) (by simp) (AllReadyH.cons rfl (fun K hK => ?_) AllReadyH.nil)
        go_simp
        have BX := (H5.box 1).put3 (.string (bA a)) (.int .u64 ph) (.int .u64 pl)
        have B6 := (((H5.box 0).apart (p := ⟨w.heap.size, 0, none⟩) (by dsimp only; omega) (.string (bA a))).apart (p := ⟨w.heap.size, 1, none⟩) (by dsimp only; omega) (.int .u64 ph)).apart (p := ⟨w.heap.size, 2, none⟩) (by dsimp only; omega) (.int .u64 pl)
        have LX := below_put3 (g := w.heap.size) H5.below (Nat.le_refl _) (.string (bA a)) (.int .u64 ph) (.int .u64 pl)
        generalize World.setCell (World.setCell (World.setCell _ _ _) _ _) _ _ = X at *
        have f6 := fct _ B6
        refine hK.out _ _ (f6) (fun hHeld => ?_)
        clear hK K
        try simp only [Act.put, List.getElem_toArray, List.getElem_cons_succ, List.getElem_cons_zero, List.setIfInBounds_toArray, List.set_cons_zero, List.set_cons_succ]
        refine wpAnyH_take (i := 5) (v := ?_) rfl (by kernel_rfl) (by kernel_rfl) (by kernel_rfl) (fun _ _ _ h => h) (Or.inl ⟨by rfl, ?_⟩) (by assumption) ?_
        rotate_left 1
        · intro w hSw; (try dsimp only at hSw); go_simp; try with_reducible rfl
        try simp only [Act.put, List.getElem_toArray, List.getElem_cons_succ, List.getElem_cons_zero, List.setIfInBounds_toArray, List.set_cons_zero, List.set_cons_succ]
        refine wpAnyH_done (by kernel_rfl) ?_ _
        go_wp2
        obtain ⟨x0, x1, x2, -, -, -, hgx⟩ := BX.three
        exact bodyPost_ret (v := .tuple #[Rw.val ⟨bA a, ph, pl⟩, .int .i64 0]) (by simp [results, Tryd.results66, go_sem, Rw.val, x0, x1, x2]) rfl ⟨rfl, LX⟩
      · rw [parR_am hc hi hb]
        obtain ⟨pe, hpe⟩ : ∃ pe, parE b = pe := ⟨_, rfl⟩
        rw [hpe] at hb cP
        clear hc hi hpe
        generalize parH b = ph at *
        generalize parL b = pl at *
        go_enter Tryd.func66, Tryd.ntmps66
        go_upto_region 1 with fail
        change Code.wp _ _ _ _ (w.alloc (.cells (rwB ⟨#[]⟩ 0 0) 50))
        generalize w.alloc (.cells (rwB ⟨#[]⟩ 0 0) 50) = W at *
        go_upto_region 8 with (first
          | (go_at_call 57; refine (cC _).mono ?_; rintro e w1 ⟨rfl, j1⟩; have H1 := H0.call j1)
          | (go_at_call 59; refine (cI _ (hT.call H1.below)).mono ?_; rintro e w2 ⟨rfl, j2⟩; have H2 := H1.call j2)
          | (go_at_call 89; refine (cP _).mono ?_; rintro e w3 ⟨rfl, j3⟩; have H3 := H2.call j3)
          | fail)
        have H4 := H3.past (.cells #[.int .u64 ph, .int .u64 pl] 45)
        generalize w3.alloc _ = W4 at *
        obtain ⟨y0, y1, y2, g0, g1, g2, hin1⟩ := (H4.box 0).three
        go_wp2
        have BX := (H4.box 0).put3 (.string ⟨#[]⟩) (.int .u64 0) (.int .u64 0)
        have LX := below_put3 (g := w.heap.size) H4.below (Nat.le_refl _) (.string ⟨#[]⟩) (.int .u64 0) (.int .u64 0)
        generalize World.setCell (World.setCell (World.setCell _ _ _) _ _) _ _ = X at *
        obtain ⟨x0, x1, x2, -, -, -, hgx⟩ := BX.three
        exact bodyPost_ret (v := .tuple #[Rw.zero.val, .int .i64 102]) (by simp [results, Tryd.results66, go_sem, Rw.val, Rw.zero, x0, x1, x2]) rfl ⟨rfl, LX⟩
end Go.Proofs.YthindbmgnkohhaaDoor
/-
  Package row's Text and Of, walked.
-/
namespace Go.Proofs.YthindbmgnkohhaaDoor
set_option linter.unusedVariables false
set_option linter.unusedSimpArgs false
set_option maxRecDepth 10000
open Go.RowKit Go.Lib

theorem textR_str (i : ByteArray) (h l : Int) : (i ++ ⟨#[32]⟩) ++ str (decL (nv h l).toNat) = bA (textR ⟨i, h, l⟩) := by
  apply ba_ext
  rw [bA_list, ByteArray.data_append, ByteArray.data_append, Array.toList_append, Array.toList_append, str_data]
  simp [textR]
theorem dec_len {h l : Int} (a1 : Word h) (a0 : Word l) : (decL (nv h l).toNat).length ≤ 39 := decL_39 (by have := nv_word a1 a0; omega)

set_option maxRecDepth 100000 in
set_option maxHeartbeats 2000000 in
theorem rowtext_any (x : Rw) (hx : x.ok) (hs : x.id.size ≤ 1000000) (w : World) (hT : TabU w) : Calls Tryd.prog 37 #[x.val] w (Tells (.tuple #[.string (tolR x).1, .int .i64 (tolR x).2]) w.heap.size w) := by
  obtain ⟨i, h, l⟩ := x
  obtain ⟨a1, a0⟩ := hx
  have cI := fun u hu => mayId_any i (by simp only at hs; omega) u hu
  have cT := fun u => text_any h l a1 a0 u
  have hd := dec_len a1 a0
  simp only at hs a1 a0
  have H0 := (Has.start w).add 50 (rwB i h l)
  have ev : Rw.val ⟨i, h, l⟩ = .agg (rwB i h l) := rfl
  obtain ⟨A, hA⟩ : ∃ A, i ++ ⟨#[32]⟩ = A := ⟨_, rfl⟩
  obtain ⟨T, hT2⟩ : ∃ T, str (decL (nv h l).toNat) = T := ⟨_, rfl⟩
  obtain ⟨Z, hZ⟩ : ∃ Z, bA (textR ⟨i, h, l⟩) = Z := ⟨_, rfl⟩
  have hs1 : A.size = i.size + 1 := by rw [← hA, ByteArray.size_append]; rfl
  have hs2 : T.size ≤ 39 := by rw [← hT2, str_size]; exact hd
  have hZ2 : A ++ T = Z := by rw [← hA, ← hT2, ← hZ, textR_str]
  have hc1 : ∀ u : World, (Op.stringOp .add i ⟨#[32]⟩).run Tryd.prog u = .ok (.string A) u := fun u => by rw [← hA]; exact run_string_add_sum u _ _ (by show i.size + 1 ≤ _; omega)
  have hc2 : ∀ u : World, (Op.stringOp .add A T).run Tryd.prog u = .ok (.string Z) u := fun u => by rw [← hZ2]; exact run_string_add_sum u _ _ (by omega)
  have et1 : isId i.data.toList = true → tolR ⟨i, h, l⟩ = (Z, 0) := fun k => by unfold tolR; rw [hZ]; exact if_pos k
  have et2 : ¬ isId i.data.toList = true → tolR ⟨i, h, l⟩ = (⟨#[]⟩, 101) := fun k => if_neg k
  rw [ev]
  rw [hT2] at cT
  clear ev hA hT2 hZ hZ2 hd a1 a0
  by_cases hi : isId i.data.toList = true
  · rw [et1 hi]
    rw [hi] at cI
    clear hi et1 et2
    go_enter Tryd.func37, Tryd.ntmps37
    go_upto_region 1 with fail
    change Code.wp _ _ _ _ (w.alloc (.cells (rwB i h l) 50))
    generalize w.alloc (.cells (rwB i h l) 50) = W at *
    obtain ⟨y0, y1, y2, g0, g1, g2, hin1⟩ := (H0.box 0).three
    go_upto_region 3 with (first
      | (go_at_call 59; refine (cI _ (hT.call H0.below)).mono ?_; rintro e w1 ⟨rfl, j1⟩; have H1 := H0.call j1)
      | fail)
    clear y0 y1 y2 g0 g1 g2 hin1
    have fct : ∀ u, Has w [(w.heap.size, 50, rwB i h l)] u → Has w [(w.heap.size, 50, rwB i h l)] u ∧ (u.cell? ⟨w.heap.size, 0, none⟩ = some (.string i) ∧ u.cell? ⟨w.heap.size, 1, none⟩ = some (.int .u64 h) ∧ u.cell? ⟨w.heap.size, 2, none⟩ = some (.int .u64 l) ∧ w.heap.size < u.heap.size) :=
      fun u k => ⟨k, (k.box 0).read 0, (k.box 0).read 1, (k.box 0).read 2, (k.box 0).inside⟩
    have f2 := fct _ (Has.drew H1)
    refine wp_region_held_drew (S := fun u => Has w [(w.heap.size, 50, rwB i h l)] u ∧ (u.cell? ⟨w.heap.size, 0, none⟩ = some (.string i) ∧ u.cell? ⟨w.heap.size, 1, none⟩ = some (.int .u64 h) ∧ u.cell? ⟨w.heap.size, 2, none⟩ = some (.int .u64 l) ∧ w.heap.size < u.heap.size)) (by kernel_rfl) f2 (fun hHeld => ?_)
    refine wpAnyH_take (i := 0) (v := ?_) rfl (by kernel_rfl) (by kernel_rfl) (by kernel_rfl) (fun _ _ _ h => h) (Or.inl ⟨by rfl, ?_⟩) (by assumption) ?_
    rotate_left 1
    · intro w hSw; (try dsimp only at hSw); go_simp; try with_reducible rfl
    try simp only [Act.put, List.getElem_toArray, List.getElem_cons_succ, List.getElem_cons_zero, List.setIfInBounds_toArray, List.set_cons_zero, List.set_cons_succ]
    refine wpAnyH_take (i := 1) (v := ?_) rfl (by kernel_rfl) (by kernel_rfl) (by kernel_rfl) (fun _ _ _ h => h) (Or.inl ⟨by rfl, ?_⟩) (by assumption) ?_
    rotate_left 1
    · intro w hSw; (try dsimp only at hSw); go_simp; try with_reducible rfl
    try simp only [Act.put, List.getElem_toArray, List.getElem_cons_succ, List.getElem_cons_zero, List.setIfInBounds_toArray, List.set_cons_zero, List.set_cons_succ]
    refine wpAnyH_take (i := 2) (v := ?_) rfl (by kernel_rfl) (by kernel_rfl) (by kernel_rfl) (fun _ _ _ h => h) (Or.inl ⟨by rfl, ?_⟩) (by assumption) ?_
    rotate_left 1
    · intro w hSw; (try dsimp only at hSw); go_simp; try with_reducible rfl
    try simp only [Act.put, List.getElem_toArray, List.getElem_cons_succ, List.getElem_cons_zero, List.setIfInBounds_toArray, List.set_cons_zero, List.set_cons_succ]
    refine wpAnyH_take (i := 3) (v := ?_) rfl (by kernel_rfl) (by kernel_rfl) (by kernel_rfl) (fun _ _ _ h => h) (Or.inl ⟨by rfl, ?_⟩) (by assumption) ?_
    rotate_left 1
    · intro w hSw; (try dsimp only at hSw); go_simp; try with_reducible rfl
    try simp only [Act.put, List.getElem_toArray, List.getElem_cons_succ, List.getElem_cons_zero, List.setIfInBounds_toArray, List.set_cons_zero, List.set_cons_succ]
    refine wpAnyH_take (i := 4) (v := ?_) rfl (by kernel_rfl) (by kernel_rfl) (by kernel_rfl) (fun _ _ _ h => h) (Or.inl ⟨by rfl, ?_⟩) (by assumption) ?_
    rotate_left 1
    · intro w hSw; (try dsimp only at hSw); go_simp; try with_reducible rfl
    try simp only [Act.put, List.getElem_toArray, List.getElem_cons_succ, List.getElem_cons_zero, List.setIfInBounds_toArray, List.set_cons_zero, List.set_cons_succ]
    refine wpAnyH_ready (rs := [5]) (by kernel_rfl) (by simp) (AllReadyH.cons rfl (fun K hK => ?_) AllReadyH.nil)
    go_simp
    go_at_call 60
    refine (cT _).mono ?_
    rintro e w3 ⟨rfl, j3⟩
    have f3 := fct _ (f2.1.call j3)
    try simp only []
    refine hK.out _ _ (f3) (fun hHeld => ?_)
    clear hK K
    try simp only [Act.put, List.getElem_toArray, List.getElem_cons_succ, List.getElem_cons_zero, List.setIfInBounds_toArray, List.set_cons_zero, List.set_cons_succ]
    refine wpAnyH_take (i := 6) (v := ?_) rfl (by kernel_rfl) (by kernel_rfl) (by kernel_rfl) (fun _ _ _ h => h) (Or.inl ⟨by rfl, ?_⟩) (by assumption) ?_
    rotate_left 1
    · intro w hSw; (try dsimp only at hSw); go_simp; try with_reducible rfl
    try simp only [Act.put, List.getElem_toArray, List.getElem_cons_succ, List.getElem_cons_zero, List.setIfInBounds_toArray, List.set_cons_zero, List.set_cons_succ]
    refine wpAnyH_take (i := 7) (v := ?_) rfl (by kernel_rfl) (by kernel_rfl) (by kernel_rfl) (fun _ _ _ h => h) (Or.inl ⟨by rfl, ?_⟩) (by assumption) ?_
    rotate_left 1
    · intro w hSw; (try dsimp only at hSw); go_simp; try with_reducible rfl
    try simp only [Act.put, List.getElem_toArray, List.getElem_cons_succ, List.getElem_cons_zero, List.setIfInBounds_toArray, List.set_cons_zero, List.set_cons_succ]
    refine wpAnyH_take (i := 8) (v := ?_) rfl (by kernel_rfl) (by kernel_rfl) (by kernel_rfl) (fun _ _ _ h => h) (Or.inl ⟨by rfl, ?_⟩) (by assumption) ?_
    rotate_left 1
    · intro w hSw; (try dsimp only at hSw); go_simp; try with_reducible rfl
    try simp only [Act.put, List.getElem_toArray, List.getElem_cons_succ, List.getElem_cons_zero, List.setIfInBounds_toArray, List.set_cons_zero, List.set_cons_succ]
    refine wpAnyH_done (by kernel_rfl) ?_ _
    go_wp2
    go_ret2
    exact ⟨rfl, f3.1.below⟩
  · rw [et2 hi]
    rw [Bool.not_eq_true] at hi
    rw [hi] at cI
    clear hi et1 et2
    go_enter Tryd.func37, Tryd.ntmps37
    go_upto_region 1 with fail
    change Code.wp _ _ _ _ (w.alloc (.cells (rwB i h l) 50))
    generalize w.alloc (.cells (rwB i h l) 50) = W at *
    obtain ⟨y0, y1, y2, g0, g1, g2, hin1⟩ := (H0.box 0).three
    go_wp2_with (first
      | (go_at_call 59; refine (cI _ (hT.call H0.below)).mono ?_; rintro e w1 ⟨rfl, j1⟩; have H1 := H0.call j1)
      | fail)
    go_ret2
    exact ⟨rfl, H1.below⟩

/-- A line's cells, as a block's. -/
def lnB (n : Int) (s : ByteArray) (k e : Int) : Array Value := #[.int .i64 n, .string s, .int .u8 k, .int .i64 e]
theorem Box.four0 {w : World} {g : Nat} {t : TypeId} {x y z v : Value} (h : Box w g t #[x, y, z, v]) :
    w.cell? ⟨g, 0, none⟩ = some x ∧ w.cell? ⟨g, 1, none⟩ = some y ∧ w.cell? ⟨g, 2, none⟩ = some z ∧ w.cell? ⟨g, 3, none⟩ = some v ∧ g < w.heap.size := ⟨h.read 0, h.read 1, h.read 2, h.read 3, h.inside⟩

set_option maxRecDepth 100000 in
set_option maxHeartbeats 2000000 in
theorem rowof_any (n : Int) (s : ByteArray) (k e : Int) (hs : s.size ≤ 1000000) (w : World) (hT : TabU w) :
    Calls Tryd.prog 44 #[.agg #[.int .i64 n, .string s, .int .u8 k, .int .i64 e]] w (Tells (.tuple #[(ofR s.data.toList k e).1.val, .bool (ofR s.data.toList k e).2.1, .int .i64 (ofR s.data.toList k e).2.2]) w.heap.size w) := by
  have H0 := ((Has.start w).add 82 (lnB n s k e)).add 50 (rwB ⟨#[]⟩ 0 0)
  have hsz : (w.alloc (.cells (lnB n s k e) 82)).heap.size = w.heap.size + 1 := by simp
  rw [hsz] at H0
  change Calls Tryd.prog 44 #[.agg (lnB n s k e)] w _
  have cP := fun u hu => rowparse_any s hs u hu
  by_cases hk : e ≠ 0 ∨ k ≠ 2
  · have er : ofR s.data.toList k e = (Rw.zero, false, e) := if_pos hk
    rw [er]
    clear er cP
    have hk2 : ¬ e = 0 ∨ (e = 0 ∧ ¬ k = 2) := by omega
    clear hk
    go_enter Tryd.func44, Tryd.ntmps44
    go_upto_region 1 with fail
    change Code.wp _ _ _ _ ((w.alloc (.cells (lnB n s k e) 82)).alloc (.cells (rwB ⟨#[]⟩ 0 0) 50))
    generalize World.alloc (World.alloc w _) _ = W at *
    clear hsz
    have fct : ∀ u, Has w [(w.heap.size, 82, lnB n s k e)] u → (u.cell? ⟨w.heap.size, 3, none⟩ = some (.int .i64 e) ∧ w.heap.size < u.heap.size) := fun u q => ⟨(q.box 0).read 3, (q.box 0).inside⟩
    have f1 := fct _ H0.tail.drew
    obtain ⟨y0, y1, y2, y3, hin0⟩ := (H0.box 1).four0
    obtain ⟨z0, z1, z2, g0, g1, g2, hin1⟩ := (H0.box 0).three
    have BX := (H0.drew.box 0).put3 (.string ⟨#[]⟩) (.int .u64 0) (.int .u64 0)
    have LX := below_put3 (g := w.heap.size + 1) H0.drew.below (by omega) (.string ⟨#[]⟩) (.int .u64 0) (.int .u64 0)
    have fX : ∀ u, u = ((World.setCell (World.setCell (World.setCell W.drew ⟨w.heap.size + 1, 0, none⟩ (.string ⟨#[]⟩)) ⟨w.heap.size + 1, 1, none⟩ (.int .u64 0)) ⟨w.heap.size + 1, 2, none⟩ (.int .u64 0))) → (u.cell? ⟨w.heap.size, 3, none⟩ = some (.int .i64 e) ∧ w.heap.size < u.heap.size) := fun u hu => by
      subst hu
      exact fct _ (((H0.tail.drew.set_ (p := ⟨w.heap.size + 1, 0, none⟩) (by dsimp only; omega) (by simp) _).set_ (p := ⟨w.heap.size + 1, 1, none⟩) (by dsimp only; omega) (by simp) _).set_ (p := ⟨w.heap.size + 1, 2, none⟩) (by dsimp only; omega) (by simp) _)
    rcases hk2 with hk2 | ⟨rfl, hk2⟩
    · skip
      go_upto_region 2 with fail
      clear z0 z1 z2 g0 g1 g2 hin1
      obtain ⟨z0, z1, z2, g0, g1, g2, hin1⟩ := (H0.drew.box 0).three
      clear y0 y1 y2 y3 fct
      refine wp_region_held_drew (S := fun u => u.cell? ⟨w.heap.size, 3, none⟩ = some (.int .i64 e) ∧ w.heap.size < u.heap.size) (by kernel_rfl) f1 (fun hHeld => ?_)
      generalize W.drew = V at *
      refine wpAnyH_take (i := 0) (v := ?_) rfl (by kernel_rfl) (by kernel_rfl) (by kernel_rfl) (fun _ _ _ h => h) (Or.inl ⟨by rfl, ?_⟩) (by assumption) ?_
      rotate_left 1
      · intro w hSw; (try dsimp only at hSw); go_simp; try with_reducible rfl
      try simp only [Act.put, List.getElem_toArray, List.getElem_cons_succ, List.getElem_cons_zero, List.setIfInBounds_toArray, List.set_cons_zero, List.set_cons_succ]
      refine wpAnyH_take (i := 1) (v := ?_) rfl (by kernel_rfl) (by kernel_rfl) (by kernel_rfl) (fun _ _ _ h => h) (Or.inl ⟨by rfl, ?_⟩) (by assumption) ?_
      rotate_left 1
      · intro w hSw; (try dsimp only at hSw); go_simp; try with_reducible rfl
      try simp only [Act.put, List.getElem_toArray, List.getElem_cons_succ, List.getElem_cons_zero, List.setIfInBounds_toArray, List.set_cons_zero, List.set_cons_succ]
      refine wpAnyH_take (i := 2) (v := ?_) rfl (by kernel_rfl) (by kernel_rfl) (by kernel_rfl) (fun _ _ _ h => h) (Or.inl ⟨by rfl, ?_⟩) (by assumption) ?_
      rotate_left 1
      · intro w hSw; (try dsimp only at hSw); go_simp; try with_reducible rfl
      try simp only [Act.put, List.getElem_toArray, List.getElem_cons_succ, List.getElem_cons_zero, List.setIfInBounds_toArray, List.set_cons_zero, List.set_cons_succ]
      refine wpAnyH_ready (rs := [3]) (by kernel_rfl) (by simp) (AllReadyH.cons rfl (fun K hK => ?_) AllReadyH.nil)
      go_simp
      refine hK.out _ _ (fX _ rfl) (fun hHeld => ?_)
      clear hK K
      try simp only [Act.put, List.getElem_toArray, List.getElem_cons_succ, List.getElem_cons_zero, List.setIfInBounds_toArray, List.set_cons_zero, List.set_cons_succ]
      refine wpAnyH_take (i := 4) (v := ?_) rfl (by kernel_rfl) (by kernel_rfl) (by kernel_rfl) (fun _ _ _ h => h) (Or.inl ⟨by rfl, ?_⟩) (by assumption) ?_
      rotate_left 1
      · intro w hSw; (try dsimp only at hSw); go_simp; try with_reducible rfl
      try simp only [Act.put, List.getElem_toArray, List.getElem_cons_succ, List.getElem_cons_zero, List.setIfInBounds_toArray, List.set_cons_zero, List.set_cons_succ]
      refine wpAnyH_take (i := 5) (v := ?_) rfl (by kernel_rfl) (by kernel_rfl) (by kernel_rfl) (fun _ _ _ h => h) (Or.inl ⟨by rfl, ?_⟩) (by assumption) ?_
      rotate_left 1
      · intro w hSw; (try dsimp only at hSw); go_simp; try with_reducible rfl
      try simp only [Act.put, List.getElem_toArray, List.getElem_cons_succ, List.getElem_cons_zero, List.setIfInBounds_toArray, List.set_cons_zero, List.set_cons_succ]
      refine wpAnyH_done (by kernel_rfl) ?_ _
      generalize World.setCell (World.setCell (World.setCell _ _ _) _ _) _ _ = X at *
      go_wp2
      obtain ⟨x0, x1, x2, -, -, -, hgx⟩ := BX.three
      exact bodyPost_ret (v := .tuple #[Rw.zero.val, .bool false, .int .i64 _]) (by simp [results, Tryd.results44, go_sem, Rw.val, Rw.zero, x0, x1, x2]) rfl ⟨rfl, LX⟩
    · skip
      go_upto_region 2 with fail
      clear z0 z1 z2 g0 g1 g2 hin1
      obtain ⟨z0, z1, z2, g0, g1, g2, hin1⟩ := (H0.drew.box 0).three
      clear y0 y1 y2 y3 fct
      refine wp_region_held_drew (S := fun u => u.cell? ⟨w.heap.size, 3, none⟩ = some (.int .i64 0) ∧ w.heap.size < u.heap.size) (by kernel_rfl) f1 (fun hHeld => ?_)
      generalize W.drew = V at *
      refine wpAnyH_take (i := 0) (v := ?_) rfl (by kernel_rfl) (by kernel_rfl) (by kernel_rfl) (fun _ _ _ h => h) (Or.inl ⟨by rfl, ?_⟩) (by assumption) ?_
      rotate_left 1
      · intro w hSw; (try dsimp only at hSw); go_simp; try with_reducible rfl
      try simp only [Act.put, List.getElem_toArray, List.getElem_cons_succ, List.getElem_cons_zero, List.setIfInBounds_toArray, List.set_cons_zero, List.set_cons_succ]
      refine wpAnyH_take (i := 1) (v := ?_) rfl (by kernel_rfl) (by kernel_rfl) (by kernel_rfl) (fun _ _ _ h => h) (Or.inl ⟨by rfl, ?_⟩) (by assumption) ?_
      rotate_left 1
      · intro w hSw; (try dsimp only at hSw); go_simp; try with_reducible rfl
      try simp only [Act.put, List.getElem_toArray, List.getElem_cons_succ, List.getElem_cons_zero, List.setIfInBounds_toArray, List.set_cons_zero, List.set_cons_succ]
      refine wpAnyH_take (i := 2) (v := ?_) rfl (by kernel_rfl) (by kernel_rfl) (by kernel_rfl) (fun _ _ _ h => h) (Or.inl ⟨by rfl, ?_⟩) (by assumption) ?_
      rotate_left 1
      · intro w hSw; (try dsimp only at hSw); go_simp; try with_reducible rfl
      try simp only [Act.put, List.getElem_toArray, List.getElem_cons_succ, List.getElem_cons_zero, List.setIfInBounds_toArray, List.set_cons_zero, List.set_cons_succ]
      refine wpAnyH_ready (rs := [3]) (by kernel_rfl) (by simp) (AllReadyH.cons rfl (fun K hK => ?_) AllReadyH.nil)
      go_simp
      refine hK.out _ _ (fX _ rfl) (fun hHeld => ?_)
      clear hK K
      try simp only [Act.put, List.getElem_toArray, List.getElem_cons_succ, List.getElem_cons_zero, List.setIfInBounds_toArray, List.set_cons_zero, List.set_cons_succ]
      refine wpAnyH_take (i := 4) (v := ?_) rfl (by kernel_rfl) (by kernel_rfl) (by kernel_rfl) (fun _ _ _ h => h) (Or.inl ⟨by rfl, ?_⟩) (by assumption) ?_
      rotate_left 1
      · intro w hSw; (try dsimp only at hSw); go_simp; try with_reducible rfl
      try simp only [Act.put, List.getElem_toArray, List.getElem_cons_succ, List.getElem_cons_zero, List.setIfInBounds_toArray, List.set_cons_zero, List.set_cons_succ]
      refine wpAnyH_take (i := 5) (v := ?_) rfl (by kernel_rfl) (by kernel_rfl) (by kernel_rfl) (fun _ _ _ h => h) (Or.inl ⟨by rfl, ?_⟩) (by assumption) ?_
      rotate_left 1
      · intro w hSw; (try dsimp only at hSw); go_simp; try with_reducible rfl
      try simp only [Act.put, List.getElem_toArray, List.getElem_cons_succ, List.getElem_cons_zero, List.setIfInBounds_toArray, List.set_cons_zero, List.set_cons_succ]
      refine wpAnyH_done (by kernel_rfl) ?_ _
      generalize World.setCell (World.setCell (World.setCell _ _ _) _ _) _ _ = X at *
      go_wp2
      obtain ⟨x0, x1, x2, -, -, -, hgx⟩ := BX.three
      exact bodyPost_ret (v := .tuple #[Rw.zero.val, .bool false, .int .i64 _]) (by simp [results, Tryd.results44, go_sem, Rw.val, Rw.zero, x0, x1, x2]) rfl ⟨rfl, LX⟩
  · have er : ofR s.data.toList k e = ((parR s.data.toList).1, decide ((parR s.data.toList).2 = 0), ((parR s.data.toList).2 : Int)) := if_neg hk
    rw [er]
    obtain ⟨rfl, rfl⟩ : e = 0 ∧ k = 2 := by omega
    clear er hk
    generalize parR s.data.toList = q at *
    obtain ⟨⟨i, h, l⟩, z⟩ := q
    simp only [Rw.val] at cP ⊢
    have hz : ((z : Int) == 0) = decide (z = 0) := by rw [Bool.eq_iff_iff]; simp
    generalize decide (z = 0) = zb at *
    go_enter Tryd.func44, Tryd.ntmps44
    go_upto_region 1 with fail
    change Code.wp _ _ _ _ ((w.alloc (.cells (lnB n s 2 0) 82)).alloc (.cells (rwB ⟨#[]⟩ 0 0) 50))
    generalize World.alloc (World.alloc w _) _ = W at *
    clear hsz
    obtain ⟨y0, y1, y2, y3, hin0⟩ := (H0.box 1).four0
    obtain ⟨z0, z1, z2, g0, g1, g2, hin1⟩ := (H0.box 0).three
    go_upto_region 3 with fail
    clear z0 z1 z2 g0 g1 g2
    go_upto_region 4 with (first
      | (go_at_call 66; refine (cP _ (hT.call H0.below)).mono ?_; rintro e w1 ⟨rfl, j1⟩; have H1 := H0.call j1; obtain ⟨z0, z1, z2, g0, g1, g2, hin2⟩ := (H1.box 0).three)
      | fail)
    go_wp2
    have BX := ((H1.box 0).put3 (.string i) (.int .u64 h) (.int .u64 l)).put3 (.string i) (.int .u64 h) (.int .u64 l)
    have LX := below_put3 (g := w.heap.size + 1) (below_put3 (g := w.heap.size + 1) H1.below (by omega) (.string i) (.int .u64 h) (.int .u64 l)) (by omega) (.string i) (.int .u64 h) (.int .u64 l)
    generalize World.setCell (World.setCell (World.setCell (World.setCell (World.setCell (World.setCell _ _ _) _ _) _ _) _ _) _ _) _ _ = X at *
    obtain ⟨x0, x1, x2, -, -, -, hgx⟩ := BX.three
    exact bodyPost_ret (v := .tuple #[.agg #[.string i, .int .u64 h, .int .u64 l], .bool zb, .int .i64 z]) (by simp [results, Tryd.results44, go_sem, x0, x1, x2]) rfl ⟨rfl, LX⟩
end Go.Proofs.YthindbmgnkohhaaDoor
