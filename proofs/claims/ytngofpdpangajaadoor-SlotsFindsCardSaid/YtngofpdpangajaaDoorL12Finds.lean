/-
  The law SlotsFinds: whether any accounts may be, what is found of any Id and slot, the first free one, an account's leaf, are what the chapter says. Conditions: none.
-/
import Derived.Test.YtngofpdpangajaaDoorU12May
import Derived.Test.YtngofpdpangajaaDoorR12May
import Derived.Test.YtngofpdpangajaaDoorE12Same
import Derived.Test.YtngofpdpangajaaDoorW7Laid
import Derived.ChangeMaps
namespace Go.Proofs.YtngofpdpangajaaDoor
set_option linter.unusedVariables false
set_option linter.unusedSimpArgs false
set_option maxRecDepth 10000
open Go.ChangeShapes Go.WideShapes Go.ChangeAt Go.RowKit Go.Sort

theorem rFree_any (A : Option Addr) (c : Nat) (xs : List Ac) (hm : xs.length ≤ 1000000) (h f : Int) (hf : Word f) (w : World) (hR : AcRow w w.heap.size A xs) :
    Calls Tryd.prog 21 #[.slice A xs.length c, .int .i64 h, .int .u64 f] w (Tells (.tuple #[.int .u64 (freeA h xs f).1, .bool (freeA h xs f).2]) w.heap.size w) := by
  unfold freeA
  cases hk : shOk h with
  | false =>
    rw [if_neg Bool.noConfusion]
    exact rfree_no A c xs.length h f hk w
  | true =>
    rw [if_pos rfl]
    have hb := of_decide_eq_true hk
    obtain ⟨n, rfl⟩ := Int.eq_ofNat_of_zero_le hb.1
    rw [Int.toNat_natCast]
    exact rfree_any A c xs hm n (by omega) f hf w hR
set_option maxHeartbeats 1000000 in
theorem finds_long (A : Option Addr) (c : Nat) (xs : List Ac) (hm : xs.length ≤ 9223372036854775807) (h : Int) (s : ByteArray) (n : Int) (hl : longA xs = true ∨ 200 < s.size) (w : World) (hR : AcRow w w.heap.size A xs) :
    Calls Tryd.prog 4 #[.slice A xs.length c, .int .i64 h, .string s, .int .u64 n] w (Tells (.bool true) w.heap.size w) := by
  have cX := fun u hu => longA_any A c xs hm u hu
  cases hx : longA xs with
  | true =>
    rw [hx] at cX
    go_enter Tryd.func4, Tryd.ntmps4
    go_wp2_with (first | (go_at_call 10; refine (cX _ hR).mono ?_; rintro e w2 ⟨rfl, rfl⟩) | fail)
    go_ret
    exact ⟨rfl, Below.refl _ _⟩
  | false =>
    rw [hx] at cX hl
    have hs : 200 < s.size := by simpa using hl
    have hsi : (200 : Int) < (s.size : Int) := by omega
    go_enter Tryd.func4, Tryd.ntmps4
    go_wp2_with (first | (go_at_call 10; refine (cX _ hR).mono ?_; rintro e w2 ⟨rfl, rfl⟩) | fail)
    go_ret
    exact ⟨rfl, Below.refl _ _⟩
set_option maxRecDepth 100000 in
set_option maxHeartbeats 4000000 in
theorem finds_short (A : Option Addr) (c : Nat) (xs : List Ac) (hx : longA xs = false) (hm : xs.length ≤ 200) (hz : ∀ x ∈ xs, x.id.size ≤ 200 ∧ x.salt.size ≤ 200) (ho : AllAc xs) (h : Int) (s : ByteArray) (n : Int) (hn : Word n) (hs : s.size ≤ 200) (w : World) (hR : AcRow w w.heap.size A xs) (hT : TabU w) :
    Calls Tryd.prog 4 #[.slice A xs.length c, .int .i64 h, .string s, .int .u64 n] w (Tells (.bool true) w.heap.size w) := by
  have cX := fun u hu => longA_any A c xs (by omega) u hu
  rw [hx] at cX
  have hz6 : ∀ x ∈ xs, x.id.size ≤ 1000000 ∧ x.salt.size ≤ 1000000 := fun x k => by have := hz x k; omega
  have hsi : ¬ ((200 : Int) < (s.size : Int)) := by omega
  have cF := fun u hu => sFind_any A c xs s (by omega) hz6 u hu
  have cF2 := fun u hu => rFind_any A c xs s (by omega) u hu
  have cA := fun u hu => sAt_any A c xs n (by omega) hz6 u hu
  have cA2 := fun u hu => rAt_any A c xs n (by omega) u hu
  have cE := fun u hu => sFree_any A c xs (by omega) ho h n hn u hu
  have cE2 := fun u hu => rFree_any A c xs (by omega) h n hn u hu
  have cM := fun u hu hv => smay_any A c xs (by omega) ho hz6 h u hu hv
  have cM2 := fun u hu => rmay_any A c xs (by omega) ho hz6 h u hu
  obtain ⟨V, hV⟩ : ∃ V : Ac × Bool, findA xs s.data.toList = V := ⟨_, rfl⟩
  have hVz : V.1.id.size ≤ 1000000 ∧ V.1.salt.size ≤ 1000000 := by
    cases hb : V.2 with
    | true =>
      have h1 := firstA_yes (p := fun a => decide (keyA a = s.data.toList)) (l := xs) (by show (findA xs s.data.toList).2 = true; rw [hV]; exact hb)
      have h2 : V.1 ∈ xs := by rw [← hV]; exact h1.1
      exact hz6 _ h2
    | false =>
      have h1 := firstA_no (p := fun a => decide (keyA a = s.data.toList)) (l := xs) (by show (findA xs s.data.toList).2 = false; rw [hV]; exact hb)
      have h2 : V = (Ac.zero, false) := by rw [← hV]; exact h1
      rw [h2]
      exact ⟨Nat.zero_le _, Nat.zero_le _⟩
  rw [hV] at cF cF2
  obtain ⟨⟨i1, h1, l1, s1, n1⟩, b1⟩ := V
  simp only at hVz
  have cL := fun u => sleaf_any ⟨i1, h1, l1, s1, n1⟩ hVz.1 hVz.2 u
  have cL2 := fun u => rleaf_any ⟨i1, h1, l1, s1, n1⟩ u
  have q1 := fun u => run_eql_ac ⟨i1, h1, l1, s1, n1⟩ ⟨i1, h1, l1, s1, n1⟩ u
  have q3 := fun u => run_eql_lf (lfA ⟨i1, h1, l1, s1, n1⟩) (lfA ⟨i1, h1, l1, s1, n1⟩) u
  obtain ⟨V, hV2⟩ : ∃ V : Ac × Bool, atA xs n = V := ⟨_, rfl⟩
  rw [hV2] at cA cA2
  obtain ⟨⟨i2, h2, l2, s2, n2⟩, b2⟩ := V
  have q2 := fun u => run_eql_ac ⟨i2, h2, l2, s2, n2⟩ ⟨i2, h2, l2, s2, n2⟩ u
  rw [Ac.same_self] at q1 q2
  rw [Lf.same_self] at q3
  simp only [Ac.val, lfA, Lf.val] at cF cF2 cA cA2 cL cL2 q1 q2 q3
  generalize freeA h xs n = E at *
  generalize mayA h xs = M at *
  have hME : (M == M) = true := by cases M <;> rfl
  have hb1 : (b1 == b1) = true := by cases b1 <;> rfl
  have hb2 : (b2 == b2) = true := by cases b2 <;> rfl
  have hb3 : (E.2 == E.2) = true := by cases E.2 <;> rfl
  obtain ⟨E1, E2⟩ := E
  simp only at cE cE2 hb3
  clear hV hV2 hx hz6 hz ho
  have H0 := Has.start w
  generalize xs.length = N at *
  go_enter Tryd.func4, Tryd.ntmps4
  go_upto_region 4 with (first
    | (go_at_call 10; refine (cX _ hR).mono ?_; rintro e w2 ⟨rfl, rfl⟩)
    | (go_at_call 16; refine (cF _ ((hR.call H0.below).more H0.size)).mono ?_; rintro e v1 ⟨rfl, j1⟩)
    | fail)
  have H1 := (H0.call j1).add 38 (acB i1 h1 l1 s1 n1)
  change Code.wp _ _ _ _ (v1.alloc (.cells (acB i1 h1 l1 s1 n1) 38))
  generalize v1.alloc (.cells (acB i1 h1 l1 s1 n1) 38) = W1 at *
  obtain ⟨g1, hg1⟩ : ∃ g, v1.heap.size = g := ⟨_, rfl⟩
  rw [hg1] at H1 ⊢
  clear hg1 j1
  go_upto_region 5 with (first
    | (go_at_call 10; refine (cX _ hR).mono ?_; rintro e w2 ⟨rfl, rfl⟩)
    | (go_at_call 17; refine (cF2 _ ((hR.call H1.below).more H1.size)).mono ?_; rintro e v2 ⟨rfl, j2⟩)
    | fail)
  have H2 := (H1.call j2).add 38 (acB i1 h1 l1 s1 n1)
  change Code.wp _ _ _ _ (v2.alloc (.cells (acB i1 h1 l1 s1 n1) 38))
  generalize v2.alloc (.cells (acB i1 h1 l1 s1 n1) 38) = W2 at *
  obtain ⟨g2, hg2⟩ : ∃ g, v2.heap.size = g := ⟨_, rfl⟩
  rw [hg2] at H2 ⊢
  clear hg2 j2
  go_upto_region 6 with (first
    | (go_at_call 10; refine (cX _ hR).mono ?_; rintro e w2 ⟨rfl, rfl⟩)
    | (go_at_call 18; refine (cA _ ((hR.call H2.below).more H2.size)).mono ?_; rintro e v3 ⟨rfl, j3⟩)
    | fail)
  have H3 := (H2.call j3).add 38 (acB i2 h2 l2 s2 n2)
  change Code.wp _ _ _ _ (v3.alloc (.cells (acB i2 h2 l2 s2 n2) 38))
  generalize v3.alloc (.cells (acB i2 h2 l2 s2 n2) 38) = W3 at *
  obtain ⟨g3, hg3⟩ : ∃ g, v3.heap.size = g := ⟨_, rfl⟩
  rw [hg3] at H3 ⊢
  clear hg3 j3
  go_upto_region 7 with (first
    | (go_at_call 10; refine (cX _ hR).mono ?_; rintro e w2 ⟨rfl, rfl⟩)
    | (go_at_call 19; refine (cA2 _ ((hR.call H3.below).more H3.size)).mono ?_; rintro e v4 ⟨rfl, j4⟩)
    | fail)
  have H4 := (H3.call j4).add 38 (acB i2 h2 l2 s2 n2)
  change Code.wp _ _ _ _ (v4.alloc (.cells (acB i2 h2 l2 s2 n2) 38))
  generalize v4.alloc (.cells (acB i2 h2 l2 s2 n2) 38) = W4 at *
  obtain ⟨g4, hg4⟩ : ∃ g, v4.heap.size = g := ⟨_, rfl⟩
  rw [hg4] at H4 ⊢
  clear hg4 j4
  go_upto_region 9 with (first
    | (go_at_call 20; refine (cE _ ((hR.call H4.below).more H4.size)).mono ?_; rintro e v5 ⟨rfl, j5⟩; have H5 := H4.call j5)
    | (go_at_call 21; refine (cE2 _ ((hR.call H5.below).more H5.size)).mono ?_; rintro e v6 ⟨rfl, j6⟩; have H6 := H5.call j6)
    | fail)
  clear H0 H1 H2 H3 H4 H5 j5 j6 cE cE2 cA cA2 cF cF2
  have hS : ∀ u, Has w [(g4, 38, acB i2 h2 l2 s2 n2), (g3, 38, acB i2 h2 l2 s2 n2), (g2, 38, acB i1 h1 l1 s1 n1), (g1, 38, acB i1 h1 l1 s1 n1)] u → u.cell? ⟨g1, 0, none⟩ = some (.string i1) ∧ u.cell? ⟨g1, 1, none⟩ = some (.int .u64 h1) ∧ u.cell? ⟨g1, 2, none⟩ = some (.int .u64 l1) ∧ u.cell? ⟨g1, 3, none⟩ = some (.string s1) ∧ u.cell? ⟨g1, 4, none⟩ = some (.int .u64 n1) ∧ u.cell? ⟨g2, 0, none⟩ = some (.string i1) ∧ u.cell? ⟨g2, 1, none⟩ = some (.int .u64 h1) ∧ u.cell? ⟨g2, 2, none⟩ = some (.int .u64 l1) ∧ u.cell? ⟨g2, 3, none⟩ = some (.string s1) ∧ u.cell? ⟨g2, 4, none⟩ = some (.int .u64 n1) ∧ u.cell? ⟨g3, 0, none⟩ = some (.string i2) ∧ u.cell? ⟨g3, 1, none⟩ = some (.int .u64 h2) ∧ u.cell? ⟨g3, 2, none⟩ = some (.int .u64 l2) ∧ u.cell? ⟨g3, 3, none⟩ = some (.string s2) ∧ u.cell? ⟨g3, 4, none⟩ = some (.int .u64 n2) ∧ u.cell? ⟨g4, 0, none⟩ = some (.string i2) ∧ u.cell? ⟨g4, 1, none⟩ = some (.int .u64 h2) ∧ u.cell? ⟨g4, 2, none⟩ = some (.int .u64 l2) ∧ u.cell? ⟨g4, 3, none⟩ = some (.string s2) ∧ u.cell? ⟨g4, 4, none⟩ = some (.int .u64 n2) ∧ g1 < u.heap.size ∧ g2 < u.heap.size ∧ g3 < u.heap.size ∧ g4 < u.heap.size := fun u H => ⟨(H.box 3).read 0, (H.box 3).read 1, (H.box 3).read 2, (H.box 3).read 3, (H.box 3).read 4, (H.box 2).read 0, (H.box 2).read 1, (H.box 2).read 2, (H.box 2).read 3, (H.box 2).read 4, (H.box 1).read 0, (H.box 1).read 1, (H.box 1).read 2, (H.box 1).read 3, (H.box 1).read 4, (H.box 0).read 0, (H.box 0).read 1, (H.box 0).read 2, (H.box 0).read 3, (H.box 0).read 4, (H.box 3).inside, (H.box 2).inside, (H.box 1).inside, (H.box 0).inside⟩
  refine wp_region_held_drew (S := fun u => u.cell? ⟨g1, 0, none⟩ = some (.string i1) ∧ u.cell? ⟨g1, 1, none⟩ = some (.int .u64 h1) ∧ u.cell? ⟨g1, 2, none⟩ = some (.int .u64 l1) ∧ u.cell? ⟨g1, 3, none⟩ = some (.string s1) ∧ u.cell? ⟨g1, 4, none⟩ = some (.int .u64 n1) ∧ u.cell? ⟨g2, 0, none⟩ = some (.string i1) ∧ u.cell? ⟨g2, 1, none⟩ = some (.int .u64 h1) ∧ u.cell? ⟨g2, 2, none⟩ = some (.int .u64 l1) ∧ u.cell? ⟨g2, 3, none⟩ = some (.string s1) ∧ u.cell? ⟨g2, 4, none⟩ = some (.int .u64 n1) ∧ u.cell? ⟨g3, 0, none⟩ = some (.string i2) ∧ u.cell? ⟨g3, 1, none⟩ = some (.int .u64 h2) ∧ u.cell? ⟨g3, 2, none⟩ = some (.int .u64 l2) ∧ u.cell? ⟨g3, 3, none⟩ = some (.string s2) ∧ u.cell? ⟨g3, 4, none⟩ = some (.int .u64 n2) ∧ u.cell? ⟨g4, 0, none⟩ = some (.string i2) ∧ u.cell? ⟨g4, 1, none⟩ = some (.int .u64 h2) ∧ u.cell? ⟨g4, 2, none⟩ = some (.int .u64 l2) ∧ u.cell? ⟨g4, 3, none⟩ = some (.string s2) ∧ u.cell? ⟨g4, 4, none⟩ = some (.int .u64 n2) ∧ g1 < u.heap.size ∧ g2 < u.heap.size ∧ g3 < u.heap.size ∧ g4 < u.heap.size) (by kernel_rfl) (hS _ H6.drew) (fun hHeld => ?_)
  have H7 := H6.drew
  generalize v6.drew = W7 at *
  refine wpAnyH_take (i := 0) (v := ?_) rfl (by kernel_rfl) (by kernel_rfl) (by kernel_rfl) (fun _ _ _ h => h) (Or.inl ⟨by rfl, ?_⟩) (by assumption) ?_
  rotate_left 1
  · intro w hSw; (try dsimp only at hSw); go_simp; try with_reducible rfl
  try simp only [Act.put, List.getElem_toArray, List.getElem_cons_succ, List.getElem_cons_zero, List.setIfInBounds_toArray, List.set_cons_zero, List.set_cons_succ]
  refine wpAnyH_take (i := 1) (v := ?_) rfl (by kernel_rfl) (by kernel_rfl) (by kernel_rfl) (fun _ _ _ h => h) (Or.inl ⟨by rfl, ?_⟩) (by assumption) ?_
  rotate_left 1
  · intro w hSw; (try dsimp only at hSw); go_simp; try with_reducible rfl
  try simp only [Act.put, List.getElem_toArray, List.getElem_cons_succ, List.getElem_cons_zero, List.setIfInBounds_toArray, List.set_cons_zero, List.set_cons_succ]
  refine wpAnyH_take (i := 3) (v := ?_) rfl (by kernel_rfl) (by kernel_rfl) (by kernel_rfl) (fun _ _ _ h => h) (Or.inl ⟨by rfl, ?_⟩) (by assumption) ?_
  rotate_left 1
  · intro w hSw; (try dsimp only at hSw); go_simp; try with_reducible rfl
  try simp only [Act.put, List.getElem_toArray, List.getElem_cons_succ, List.getElem_cons_zero, List.setIfInBounds_toArray, List.set_cons_zero, List.set_cons_succ]
  refine wpAnyH_take (i := 4) (v := ?_) rfl (by kernel_rfl) (by kernel_rfl) (by kernel_rfl) (fun _ _ _ h => h) (Or.inl ⟨by rfl, ?_⟩) (by assumption) ?_
  rotate_left 1
  · intro w hSw; (try dsimp only at hSw); go_simp; try with_reducible rfl
  try simp only [Act.put, List.getElem_toArray, List.getElem_cons_succ, List.getElem_cons_zero, List.setIfInBounds_toArray, List.set_cons_zero, List.set_cons_succ]
  refine wpAnyH_ready (rs := [2]) (by kernel_rfl) (by simp) (AllReadyH.cons rfl (fun K hK => ?_) AllReadyH.nil)
  go_simp
  go_at_call 22
  refine (cM _ ((hR.call H7.below).more H7.size) (hT.call H7.below)).mono ?_
  rintro e v8 ⟨rfl, j8⟩
  have H8 := H7.call j8
  try simp only []
  refine hK.out _ _ (hS _ H8) (fun hHeld => ?_)
  clear hK K
  try simp only [Act.put, List.getElem_toArray, List.getElem_cons_succ, List.getElem_cons_zero, List.setIfInBounds_toArray, List.set_cons_zero, List.set_cons_succ]
  refine wpAnyH_ready (rs := [5]) (by kernel_rfl) (by simp) (AllReadyH.cons rfl (fun K hK => ?_) AllReadyH.nil)
  go_simp
  go_at_call 23
  refine (cM2 _ ((hR.call H8.below).more H8.size)).mono ?_
  rintro e v9 ⟨rfl, j9⟩
  have H9 := H8.call j9
  try simp only []
  refine hK.out _ _ (hS _ H9) (fun hHeld => ?_)
  clear hK K
  try simp only [Act.put, List.getElem_toArray, List.getElem_cons_succ, List.getElem_cons_zero, List.setIfInBounds_toArray, List.set_cons_zero, List.set_cons_succ]
  refine wpAnyH_take (i := 6) (v := ?_) rfl (by kernel_rfl) (by kernel_rfl) (by kernel_rfl) (fun _ _ _ h => h) (Or.inl ⟨by rfl, ?_⟩) (by assumption) ?_
  rotate_left 1
  · intro w hSw; (try dsimp only at hSw); go_simp; try with_reducible rfl
  try simp only [Act.put, List.getElem_toArray, List.getElem_cons_succ, List.getElem_cons_zero, List.setIfInBounds_toArray, List.set_cons_zero, List.set_cons_succ]
  refine wpAnyH_take (i := 7) (v := ?_) rfl (by kernel_rfl) (by kernel_rfl) (by kernel_rfl) (fun _ _ _ h => h) (Or.inl ⟨by rfl, ?_⟩) (by assumption) ?_
  rotate_left 1
  · intro w hSw; (try dsimp only at hSw); go_simp; try with_reducible rfl
  try simp only [Act.put, List.getElem_toArray, List.getElem_cons_succ, List.getElem_cons_zero, List.setIfInBounds_toArray, List.set_cons_zero, List.set_cons_succ]
  refine wpAnyH_take (i := 8) (v := ?_) rfl (by kernel_rfl) (by kernel_rfl) (by kernel_rfl) (fun _ _ _ h => h) (Or.inl ⟨by rfl, ?_⟩) (by assumption) ?_
  rotate_left 1
  · intro w hSw; (try dsimp only at hSw); go_simp; try with_reducible rfl
  try simp only [Act.put, List.getElem_toArray, List.getElem_cons_succ, List.getElem_cons_zero, List.setIfInBounds_toArray, List.set_cons_zero, List.set_cons_succ]
  refine wpAnyH_take (i := 9) (v := ?_) rfl (by kernel_rfl) (by kernel_rfl) (by kernel_rfl) (fun _ _ _ h => h) (Or.inl ⟨by rfl, ?_⟩) (by assumption) ?_
  rotate_left 1
  · intro w hSw; (try dsimp only at hSw); go_simp; try with_reducible rfl
  try simp only [Act.put, List.getElem_toArray, List.getElem_cons_succ, List.getElem_cons_zero, List.setIfInBounds_toArray, List.set_cons_zero, List.set_cons_succ]
  refine wpAnyH_take (i := 10) (v := ?_) rfl (by kernel_rfl) (by kernel_rfl) (by kernel_rfl) (fun _ _ _ h => h) (Or.inl ⟨by rfl, ?_⟩) (by assumption) ?_
  rotate_left 1
  · intro w hSw; (try dsimp only at hSw); go_simp; try with_reducible rfl
  try simp only [Act.put, List.getElem_toArray, List.getElem_cons_succ, List.getElem_cons_zero, List.setIfInBounds_toArray, List.set_cons_zero, List.set_cons_succ]
  refine wpAnyH_take (i := 11) (v := ?_) rfl (by kernel_rfl) (by kernel_rfl) (by kernel_rfl) (fun _ _ _ h => h) (Or.inl ⟨by rfl, ?_⟩) (by assumption) ?_
  rotate_left 1
  · intro w hSw; (try dsimp only at hSw); go_simp; try with_reducible rfl
  try simp only [Act.put, List.getElem_toArray, List.getElem_cons_succ, List.getElem_cons_zero, List.setIfInBounds_toArray, List.set_cons_zero, List.set_cons_succ]
  refine wpAnyH_take (i := 12) (v := ?_) rfl (by kernel_rfl) (by kernel_rfl) (by kernel_rfl) (fun _ _ _ h => h) (Or.inl ⟨by rfl, ?_⟩) (by assumption) ?_
  rotate_left 1
  · intro w hSw; (try dsimp only at hSw); go_simp; try with_reducible rfl
  try simp only [Act.put, List.getElem_toArray, List.getElem_cons_succ, List.getElem_cons_zero, List.setIfInBounds_toArray, List.set_cons_zero, List.set_cons_succ]
  refine wpAnyH_take (i := 13) (v := ?_) rfl (by kernel_rfl) (by kernel_rfl) (by kernel_rfl) (fun _ _ _ h => h) (Or.inl ⟨by rfl, ?_⟩) (by assumption) ?_
  rotate_left 1
  · intro w hSw; (try dsimp only at hSw); go_simp; try with_reducible rfl
  try simp only [Act.put, List.getElem_toArray, List.getElem_cons_succ, List.getElem_cons_zero, List.setIfInBounds_toArray, List.set_cons_zero, List.set_cons_succ]
  refine wpAnyH_take (i := 14) (v := ?_) rfl (by kernel_rfl) (by kernel_rfl) (by kernel_rfl) (fun _ _ _ h => h) (Or.inl ⟨by rfl, ?_⟩) (by assumption) ?_
  rotate_left 1
  · intro w hSw; (try dsimp only at hSw); go_simp; try with_reducible rfl
  try simp only [Act.put, List.getElem_toArray, List.getElem_cons_succ, List.getElem_cons_zero, List.setIfInBounds_toArray, List.set_cons_zero, List.set_cons_succ]
  refine wpAnyH_take (i := 15) (v := ?_) rfl (by kernel_rfl) (by kernel_rfl) (by kernel_rfl) (fun _ _ _ h => h) (Or.inl ⟨by rfl, ?_⟩) (by assumption) ?_
  rotate_left 1
  · intro w hSw; (try dsimp only at hSw); go_simp; try with_reducible rfl
  try simp only [Act.put, List.getElem_toArray, List.getElem_cons_succ, List.getElem_cons_zero, List.setIfInBounds_toArray, List.set_cons_zero, List.set_cons_succ]
  refine wpAnyH_take (i := 16) (v := ?_) rfl (by kernel_rfl) (by kernel_rfl) (by kernel_rfl) (fun _ _ _ h => h) (Or.inl ⟨by rfl, ?_⟩) (by assumption) ?_
  rotate_left 1
  · intro w hSw; (try dsimp only at hSw); go_simp; try with_reducible rfl
  try simp only [Act.put, List.getElem_toArray, List.getElem_cons_succ, List.getElem_cons_zero, List.setIfInBounds_toArray, List.set_cons_zero, List.set_cons_succ]
  refine wpAnyH_take (i := 17) (v := ?_) rfl (by kernel_rfl) (by kernel_rfl) (by kernel_rfl) (fun _ _ _ h => h) (Or.inl ⟨by rfl, ?_⟩) (by assumption) ?_
  rotate_left 1
  · intro w hSw; (try dsimp only at hSw); go_simp; try with_reducible rfl
  try simp only [Act.put, List.getElem_toArray, List.getElem_cons_succ, List.getElem_cons_zero, List.setIfInBounds_toArray, List.set_cons_zero, List.set_cons_succ]
  refine wpAnyH_take (i := 18) (v := ?_) rfl (by kernel_rfl) (by kernel_rfl) (by kernel_rfl) (fun _ _ _ h => h) (Or.inl ⟨by rfl, ?_⟩) (by assumption) ?_
  rotate_left 1
  · intro w hSw; (try dsimp only at hSw); go_simp; try with_reducible rfl
  try simp only [Act.put, List.getElem_toArray, List.getElem_cons_succ, List.getElem_cons_zero, List.setIfInBounds_toArray, List.set_cons_zero, List.set_cons_succ]
  refine wpAnyH_take (i := 19) (v := ?_) rfl (by kernel_rfl) (by kernel_rfl) (by kernel_rfl) (fun _ _ _ h => h) (Or.inl ⟨by rfl, ?_⟩) (by assumption) ?_
  rotate_left 1
  · intro w hSw; (try dsimp only at hSw); go_simp; try with_reducible rfl
  try simp only [Act.put, List.getElem_toArray, List.getElem_cons_succ, List.getElem_cons_zero, List.setIfInBounds_toArray, List.set_cons_zero, List.set_cons_succ]
  refine wpAnyH_take (i := 20) (v := ?_) rfl (by kernel_rfl) (by kernel_rfl) (by kernel_rfl) (fun _ _ _ h => h) (Or.inl ⟨by rfl, ?_⟩) (by assumption) ?_
  rotate_left 1
  · intro w hSw; (try dsimp only at hSw); go_simp; try with_reducible rfl
  try simp only [Act.put, List.getElem_toArray, List.getElem_cons_succ, List.getElem_cons_zero, List.setIfInBounds_toArray, List.set_cons_zero, List.set_cons_succ]
  refine wpAnyH_take (i := 21) (v := ?_) rfl (by kernel_rfl) (by kernel_rfl) (by kernel_rfl) (fun _ _ _ h => h) (Or.inl ⟨by rfl, ?_⟩) (by assumption) ?_
  rotate_left 1
  · intro w hSw; (try dsimp only at hSw); go_simp; try with_reducible rfl
  try simp only [Act.put, List.getElem_toArray, List.getElem_cons_succ, List.getElem_cons_zero, List.setIfInBounds_toArray, List.set_cons_zero, List.set_cons_succ]
  refine wpAnyH_take (i := 22) (v := ?_) rfl (by kernel_rfl) (by kernel_rfl) (by kernel_rfl) (fun _ _ _ h => h) (Or.inl ⟨by rfl, ?_⟩) (by assumption) ?_
  rotate_left 1
  · intro w hSw; (try dsimp only at hSw); go_simp; try with_reducible rfl
  try simp only [Act.put, List.getElem_toArray, List.getElem_cons_succ, List.getElem_cons_zero, List.setIfInBounds_toArray, List.set_cons_zero, List.set_cons_succ]
  refine wpAnyH_take (i := 23) (v := ?_) rfl (by kernel_rfl) (by kernel_rfl) (by kernel_rfl) (fun _ _ _ h => h) (Or.inl ⟨by rfl, ?_⟩) (by assumption) ?_
  rotate_left 1
  · intro w hSw; (try dsimp only at hSw); go_simp; try with_reducible rfl
  try simp only [Act.put, List.getElem_toArray, List.getElem_cons_succ, List.getElem_cons_zero, List.setIfInBounds_toArray, List.set_cons_zero, List.set_cons_succ]
  refine wpAnyH_take (i := 24) (v := ?_) rfl (by kernel_rfl) (by kernel_rfl) (by kernel_rfl) (fun _ _ _ h => h) (Or.inl ⟨by rfl, ?_⟩) (by assumption) ?_
  rotate_left 1
  · intro w hSw; (try dsimp only at hSw); go_simp; try with_reducible rfl
  try simp only [Act.put, List.getElem_toArray, List.getElem_cons_succ, List.getElem_cons_zero, List.setIfInBounds_toArray, List.set_cons_zero, List.set_cons_succ]
  refine wpAnyH_take (i := 25) (v := ?_) rfl (by kernel_rfl) (by kernel_rfl) (by kernel_rfl) (fun _ _ _ h => h) (Or.inl ⟨by rfl, ?_⟩) (by assumption) ?_
  rotate_left 1
  · intro w hSw; (try dsimp only at hSw); go_simp; try with_reducible rfl
  try simp only [Act.put, List.getElem_toArray, List.getElem_cons_succ, List.getElem_cons_zero, List.setIfInBounds_toArray, List.set_cons_zero, List.set_cons_succ]
  refine wpAnyH_take (i := 26) (v := ?_) rfl (by kernel_rfl) (by kernel_rfl) (by kernel_rfl) (fun _ _ _ h => h) (Or.inl ⟨by rfl, ?_⟩) (by assumption) ?_
  rotate_left 1
  · intro w hSw; (try dsimp only at hSw); go_simp; try with_reducible rfl
  try simp only [Act.put, List.getElem_toArray, List.getElem_cons_succ, List.getElem_cons_zero, List.setIfInBounds_toArray, List.set_cons_zero, List.set_cons_succ]
  refine wpAnyH_take (i := 27) (v := ?_) rfl (by kernel_rfl) (by kernel_rfl) (by kernel_rfl) (fun _ _ _ h => h) (Or.inl ⟨by rfl, ?_⟩) (by assumption) ?_
  rotate_left 1
  · intro w hSw; (try dsimp only at hSw); go_simp; try with_reducible rfl
  try simp only [Act.put, List.getElem_toArray, List.getElem_cons_succ, List.getElem_cons_zero, List.setIfInBounds_toArray, List.set_cons_zero, List.set_cons_succ]
  refine wpAnyH_take (i := 28) (v := ?_) rfl (by kernel_rfl) (by kernel_rfl) (by kernel_rfl) (fun _ _ _ h => h) (Or.inl ⟨by rfl, ?_⟩) (by assumption) ?_
  rotate_left 1
  · intro w hSw; (try dsimp only at hSw); go_simp; try with_reducible rfl
  try simp only [Act.put, List.getElem_toArray, List.getElem_cons_succ, List.getElem_cons_zero, List.setIfInBounds_toArray, List.set_cons_zero, List.set_cons_succ]
  refine wpAnyH_take (i := 29) (v := ?_) rfl (by kernel_rfl) (by kernel_rfl) (by kernel_rfl) (fun _ _ _ h => h) (Or.inl ⟨by rfl, ?_⟩) (by assumption) ?_
  rotate_left 1
  · intro w hSw; (try dsimp only at hSw); go_simp; try with_reducible rfl
  try simp only [Act.put, List.getElem_toArray, List.getElem_cons_succ, List.getElem_cons_zero, List.setIfInBounds_toArray, List.set_cons_zero, List.set_cons_succ]
  refine wpAnyH_take (i := 30) (v := ?_) rfl (by kernel_rfl) (by kernel_rfl) (by kernel_rfl) (fun _ _ _ h => h) (Or.inl ⟨by rfl, ?_⟩) (by assumption) ?_
  rotate_left 1
  · intro w hSw; (try dsimp only at hSw); go_simp; try with_reducible rfl
  try simp only [Act.put, List.getElem_toArray, List.getElem_cons_succ, List.getElem_cons_zero, List.setIfInBounds_toArray, List.set_cons_zero, List.set_cons_succ]
  refine wpAnyH_take (i := 31) (v := ?_) rfl (by kernel_rfl) (by kernel_rfl) (by kernel_rfl) (fun _ _ _ h => h) (Or.inl ⟨by rfl, ?_⟩) (by assumption) ?_
  rotate_left 1
  · intro w hSw; (try dsimp only at hSw); go_simp; try with_reducible rfl
  try simp only [Act.put, List.getElem_toArray, List.getElem_cons_succ, List.getElem_cons_zero, List.setIfInBounds_toArray, List.set_cons_zero, List.set_cons_succ]
  refine wpAnyH_take (i := 32) (v := ?_) rfl (by kernel_rfl) (by kernel_rfl) (by kernel_rfl) (fun _ _ _ h => h) (Or.inl ⟨by rfl, ?_⟩) (by assumption) ?_
  rotate_left 1
  · intro w hSw; (try dsimp only at hSw); go_simp; try with_reducible rfl
  try simp only [Act.put, List.getElem_toArray, List.getElem_cons_succ, List.getElem_cons_zero, List.setIfInBounds_toArray, List.set_cons_zero, List.set_cons_succ]
  refine wpAnyH_take (i := 33) (v := ?_) rfl (by kernel_rfl) (by kernel_rfl) (by kernel_rfl) (fun _ _ _ h => h) (Or.inl ⟨by rfl, ?_⟩) (by assumption) ?_
  rotate_left 1
  · intro w hSw; (try dsimp only at hSw); go_simp; try with_reducible rfl
  try simp only [Act.put, List.getElem_toArray, List.getElem_cons_succ, List.getElem_cons_zero, List.setIfInBounds_toArray, List.set_cons_zero, List.set_cons_succ]
  refine wpAnyH_take (i := 34) (v := ?_) rfl (by kernel_rfl) (by kernel_rfl) (by kernel_rfl) (fun _ _ _ h => h) (Or.inl ⟨by rfl, ?_⟩) (by assumption) ?_
  rotate_left 1
  · intro w hSw; (try dsimp only at hSw); go_simp; try with_reducible rfl
  try simp only [Act.put, List.getElem_toArray, List.getElem_cons_succ, List.getElem_cons_zero, List.setIfInBounds_toArray, List.set_cons_zero, List.set_cons_succ]
  refine wpAnyH_take (i := 35) (v := ?_) rfl (by kernel_rfl) (by kernel_rfl) (by kernel_rfl) (fun _ _ _ h => h) (Or.inl ⟨by rfl, ?_⟩) (by assumption) ?_
  rotate_left 1
  · intro w hSw; (try dsimp only at hSw); go_simp; try with_reducible rfl
  try simp only [Act.put, List.getElem_toArray, List.getElem_cons_succ, List.getElem_cons_zero, List.setIfInBounds_toArray, List.set_cons_zero, List.set_cons_succ]
  refine wpAnyH_take (i := 36) (v := ?_) rfl (by kernel_rfl) (by kernel_rfl) (by kernel_rfl) (fun _ _ _ h => h) (Or.inl ⟨by rfl, ?_⟩) (by assumption) ?_
  rotate_left 1
  · intro w hSw; (try dsimp only at hSw); go_simp; try with_reducible rfl
  try simp only [Act.put, List.getElem_toArray, List.getElem_cons_succ, List.getElem_cons_zero, List.setIfInBounds_toArray, List.set_cons_zero, List.set_cons_succ]
  refine wpAnyH_take (i := 37) (v := ?_) rfl (by kernel_rfl) (by kernel_rfl) (by kernel_rfl) (fun _ _ _ h => h) (Or.inl ⟨by rfl, ?_⟩) (by assumption) ?_
  rotate_left 1
  · intro w hSw; (try dsimp only at hSw); go_simp; try with_reducible rfl
  try simp only [Act.put, List.getElem_toArray, List.getElem_cons_succ, List.getElem_cons_zero, List.setIfInBounds_toArray, List.set_cons_zero, List.set_cons_succ]
  refine wpAnyH_take (i := 38) (v := ?_) rfl (by kernel_rfl) (by kernel_rfl) (by kernel_rfl) (fun _ _ _ h => h) (Or.inl ⟨by rfl, ?_⟩) (by assumption) ?_
  rotate_left 1
  · intro w hSw; (try dsimp only at hSw); go_simp; try with_reducible rfl
  try simp only [Act.put, List.getElem_toArray, List.getElem_cons_succ, List.getElem_cons_zero, List.setIfInBounds_toArray, List.set_cons_zero, List.set_cons_succ]
  refine wpAnyH_take (i := 40) (v := ?_) rfl (by kernel_rfl) (by kernel_rfl) (by kernel_rfl) (fun _ _ _ h => h) (Or.inl ⟨by rfl, ?_⟩) (by assumption) ?_
  rotate_left 1
  · intro w hSw; (try dsimp only at hSw); go_simp; try with_reducible rfl
  try simp only [Act.put, List.getElem_toArray, List.getElem_cons_succ, List.getElem_cons_zero, List.setIfInBounds_toArray, List.set_cons_zero, List.set_cons_succ]
  refine wpAnyH_ready (rs := [39]) (by kernel_rfl) (by simp) (AllReadyH.cons rfl (fun K hK => ?_) AllReadyH.nil)
  go_simp
  go_at_call 24
  refine (cL _).mono ?_
  rintro e v10 ⟨rfl, j10⟩
  have H10 := H9.call j10
  try simp only []
  refine hK.out _ _ (hS _ H10) (fun hHeld => ?_)
  clear hK K
  try simp only [Act.put, List.getElem_toArray, List.getElem_cons_succ, List.getElem_cons_zero, List.setIfInBounds_toArray, List.set_cons_zero, List.set_cons_succ]
  refine wpAnyH_ready (rs := [41]) (by kernel_rfl) (by simp) (AllReadyH.cons rfl (fun K hK => ?_) AllReadyH.nil)
  go_simp
  go_at_call 25
  refine (cL2 _).mono ?_
  rintro e v11 ⟨rfl, j11⟩
  have H11 := H10.call j11
  try simp only []
  refine hK.out _ _ (hS _ H11) (fun hHeld => ?_)
  clear hK K
  try simp only [Act.put, List.getElem_toArray, List.getElem_cons_succ, List.getElem_cons_zero, List.setIfInBounds_toArray, List.set_cons_zero, List.set_cons_succ]
  refine wpAnyH_take (i := 42) (v := ?_) rfl (by kernel_rfl) (by kernel_rfl) (by kernel_rfl) (fun _ _ _ h => h) (Or.inl ⟨by rfl, ?_⟩) (by assumption) ?_
  rotate_left 1
  · intro w hSw; (try dsimp only at hSw); go_simp; try with_reducible rfl
  try simp only [Act.put, List.getElem_toArray, List.getElem_cons_succ, List.getElem_cons_zero, List.setIfInBounds_toArray, List.set_cons_zero, List.set_cons_succ]
  refine wpAnyH_take (i := 43) (v := ?_) rfl (by kernel_rfl) (by kernel_rfl) (by kernel_rfl) (fun _ _ _ h => h) (Or.inl ⟨by rfl, ?_⟩) (by assumption) ?_
  rotate_left 1
  · intro w hSw; (try dsimp only at hSw); go_simp; try with_reducible rfl
  try simp only [Act.put, List.getElem_toArray, List.getElem_cons_succ, List.getElem_cons_zero, List.setIfInBounds_toArray, List.set_cons_zero, List.set_cons_succ]
  refine wpAnyH_take (i := 44) (v := ?_) rfl (by kernel_rfl) (by kernel_rfl) (by kernel_rfl) (fun _ _ _ h => h) (Or.inl ⟨by rfl, ?_⟩) (by assumption) ?_
  rotate_left 1
  · intro w hSw; (try dsimp only at hSw); go_simp; try with_reducible rfl
  try simp only [Act.put, List.getElem_toArray, List.getElem_cons_succ, List.getElem_cons_zero, List.setIfInBounds_toArray, List.set_cons_zero, List.set_cons_succ]
  refine wpAnyH_done (by kernel_rfl) ?_ _
  go_wp2
  go_ret
  exact ⟨rfl, H11.below⟩

theorem slotsFinds_core (H : Type) (enc : TypeId × Value → H) (W : World) (base : Nat) (args : Array Value) (ds gs : List (DataW H)) (before : List MemPlace)
    (hval : ∀ (j : Nat) t v, Tryd.f4.params[j]? = some t → args[j]? = some v → Value.okWide Tryd.prog W .any base t v)
    (hW : DataW.Whole enc Tryd.prog Tryd.f4.params.toList Rows.slotsFindsSpec.vars false W args.toList ds gs before) (hT : TabU W) :
    gs = [] ∧ ds.length = 4 ∧ Calls Tryd.prog 4 args W (Tells (.bool true) W.heap.size W) := by
  obtain ⟨p, q, hA, hV, -, -, -⟩ := hW
  obtain ⟨rfl, rfl⟩ := trodVars_none hV
  have hA : DataW.TrodAll enc Tryd.prog W 0 (fun _ => true) true Tryd.f4.params.toList args.toList ds p := hA
  rw [Tryd.params4] at hA hval
  obtain ⟨v0, vs0, d0, ds0, p0, ps0, e0, rfl, -, h0, hA⟩ := trodAll_cons hA
  obtain ⟨v1, vs1, d1, ds1, p1, ps1, rfl, rfl, -, h1, hA⟩ := trodAll_cons hA
  obtain ⟨v2, vs2, d2, ds2, p2, ps2, rfl, rfl, -, h2, hA⟩ := trodAll_cons hA
  obtain ⟨v3, vs3, d3, ds3, p3, ps3, rfl, rfl, -, h3, hA⟩ := trodAll_cons hA
  obtain ⟨rfl, rfl, rfl⟩ := trodAll_nil hA
  obtain rfl : args = #[v0, v1, v2, v3] := Array.ext' e0
  obtain ⟨A, c, xs, rfl, x1, -, x4, x2, x3⟩ := open_accs (hval 0 22 v0 rfl rfl) h0
  obtain ⟨n1, rfl, -, -, -⟩ := open_int Tryd.underlying3 (hval 1 3 v1 rfl rfl) h1
  obtain ⟨s, rfl, -, -, z2⟩ := Go.ChangeMaps.open_string Tryd.underlying9 (hval 2 9 v2 rfl rfl) h2
  obtain ⟨n3, rfl, -, -, bn⟩ := open_int Tryd.underlying34 (hval 3 34 v3 rfl rfl) h3
  have w3 := word_of (x := n3) (by simpa using bn)
  refine ⟨rfl, rfl, ?_⟩
  by_cases h : longA xs = true ∨ 200 < s.size
  · exact finds_long A c xs x1 n1 s n3 h W x3
  · rw [not_or] at h
    have h1 : longA xs = false := by cases e : longA xs; rfl; exact absurd e h.1
    obtain ⟨m1, z1⟩ := longA_no h1
    exact finds_short A c xs h1 m1 z1 x2 n1 s n3 w3 (by omega) W x3 hT

set_option maxRecDepth 100000 in
theorem slotsFinds_lifted (os : Os) (started : os.Started) (H : Type) (enc : TypeId × Value → H) :
    ReturnsInHanded {} Tryd.checked os 4 .any (fun w args => (Rows.slotsFindsSpec.pre enc Tryd.prog Tryd.f4 [] false w args ∧ laidMetH Tryd.prog laidU w) ∧ sizedMet enc Tryd.prog Tryd.f4 (OpenSpec.ofChange Rows.slotsFindsSpec) false w args)
      (Rows.slotsFindsSpec.post enc Tryd.prog Tryd.f4 false true false false) := by
  refine returnsInHanded_of_change_and (C := Tryd.checked) (X := fun w _ => laidMetH Tryd.prog laidU w) (fun _ _ _ hh h => h.of_heap hh) own_knob started (by kernel_rfl) Tryd.func4
    (ChangeSpec.witness_shaped (enc := enc) (C := Tryd.checked) (os := os) (X := fun w _ => laidMetH Tryd.prog laidU w) false (World.laidAll Tryd.prog os laidU) #[.slice none 0 0, .int .i64 0, .string ⟨#[]⟩, .int .u64 0] 8 (World.laidAll_os _ _ _) (World.shaped_of_ZipB (by kernel_rfl) (by kernel_rfl)) (by kernel_rfl) (by kernel_rfl) (by kernel_rfl) (met_U os _)) ?_
  intro W base args ds gs before hval0 hW _ hwt hL _
  have hval : ∀ (j : Nat) t v, Tryd.f4.params[j]? = some t → args[j]? = some v → Value.okWide Tryd.prog W .any base t v := hval0
  obtain ⟨hg, hlen, hc⟩ := slotsFinds_core H enc W base args ds gs before hval hW (tab_of_laidU hL)
  subst hg
  have hr : (Tryd.f4.params.toList.all fun t => Tryd.prog.readableRec t && decide (t < Tryd.prog.types.size)) = true := by kernel_rfl
  have hread : ∀ t ∈ Tryd.f4.params.toList, Tryd.prog.readableRec t = true ∧ t < Tryd.prog.types.size := fun t ht => by
    have h := List.all_eq_true.1 hr t ht
    rw [Bool.and_eq_true, decide_eq_true_eq] at h
    exact h
  refine hc.mono fun e W' ⟨he, hb⟩ => ?_
  subst he
  match ds, hlen with
  | [d0, d1, d2, d3], _ => exact ⟨_, rfl, law_post laid_out Tryd.underlying4 rfl hread rfl hW rfl rfl rfl hb⟩

theorem slotsFinds_holds : Rows.SlotsFindsSaid :=
  OpenClaim.holds_of_wide 4 Tryd.f4 rfl rfl rfl rfl rfl rfl rfl ⟨rfl, rfl, rfl, rfl, rfl⟩ rfl rfl rfl rfl rfl (by kernel_rfl) Tryd.func4 (by kernel_rfl)
    (of_decide_eq_true (by kernel_rfl)) (by unfold Func.isWrapper; first | (rw [if_pos (by decide +kernel)]; kernel_rfl) | (rw [if_neg (by decide +kernel)]; exact ⟨rfl, rfl⟩))
    (fun os started H enc _ => slotsFinds_lifted os started H enc)

theorem slotsFinds_card : Rows.SlotsFindsCardSaid :=
  Claim7.holds_tied_plain_at .later [] [.data, .pinned] true _ false
    slotsFinds_holds (fun _ h => by cases h) (by kernel_rfl) (fun _ h => by cases h) slotsFinds_row_tie rfl ⟨rfl, rfl⟩ (by kernel_rfl) rfl
    (fun f fn hf hfn => by
      obtain rfl : f = 4 := Option.some.inj ((show Tryd.prog.funcNamed "paymaster/paymasterlaw12.SlotsFinds" = some 4 by kernel_rfl).symm.trans hf) |>.symm
      obtain rfl : fn = Tryd.f4 := (Option.some.inj (Tryd.func4.symm.trans hfn)).symm
      exact ⟨by kernel_rfl, fun j t ht => by
        have hm : t ∈ Tryd.f4.params.toList := by simpa using Array.mem_of_getElem? ht
        have hall : (Tryd.f4.params.toList.all fun u => !Tryd.prog.wantsStandIn u) = true := by kernel_rfl
        exact (show Tryd.prog.wantsStandIn t = false by simpa using List.all_eq_true.1 hall t hm)⟩)
    (by kernel_rfl)

end Go.Proofs.YtngofpdpangajaaDoor
