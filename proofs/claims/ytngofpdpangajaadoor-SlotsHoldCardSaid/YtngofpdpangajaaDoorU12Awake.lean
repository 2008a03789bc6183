/-
  The statements' awake, walked: the chapter's examples.
-/
import Derived.Test.YtngofpdpangajaaDoorM12Plc
import Derived.Test.YtngofpdpangajaaDoorE12Same
import Derived.Test.YtngofpdpangajaaDoorM1Num
import Derived.Laws.MakeOwn
namespace Go.Proofs.YtngofpdpangajaaDoor
set_option linter.unusedVariables false
set_option linter.unusedSimpArgs false
set_option maxRecDepth 10000
open Go.RowKit Go.Sort

abbrev rA12 : Rw := ⟨⟨#[97]⟩, 0, 5⟩
abbrev rB12 : Rw := ⟨⟨#[98]⟩, 0, 0⟩
abbrev aS12 : Ac := ⟨⟨#[97]⟩, 0, 0, ⟨#[115]⟩, 3⟩
theorem sd_one12 : Sd [rA12] [rA12] := ⟨List.pairwise_singleton _ _, fun _ => rfl⟩
theorem sd_two12 : Sd [rA12, rB12] [rA12, rB12] := by
  have hlt : LR rA12 rB12 := by
    unfold LR
    decide +kernel
  exact ⟨List.pairwise_pair.2 (LR_asymm hlt), fun _ => rfl⟩
theorem e12_1 : placeE ⟨#[107]⟩ 0 [] [rA12] = 0 := by decide +kernel
theorem e12_2 : placeE ⟨#[107]⟩ 0 [] [rA12, rB12] = 111 := by decide +kernel
theorem e12_3 : placeE ⟨#[107]⟩ 2 [aS12] [rA12, rB12] = 0 := by decide +kernel
theorem e12_4 : placeE ⟨#[107]⟩ 11 [] [rA12] = 120 := by decide +kernel
theorem f12 : freeA 2 [⟨⟨#[]⟩, 0, 0, ⟨#[]⟩, 3⟩, ⟨⟨#[]⟩, 0, 0, ⟨#[]⟩, 0⟩] 3 = (1, true) := by decide +kernel
theorem free_nil1 (f : Int) : freeF (pw 0) [] f = (0, true) := by
  have h : sq (pw 0) f 0 = 0 := by rw [sq_zero]; exact Int.emod_one f
  have := freeF_hit (A := pw 0) (ks := []) (f := f) (s := 0) (fun j hj => absurd hj (Nat.not_lt_zero _)) (by decide) (by simp)
  rw [h] at this
  exact this
theorem l12_1 (σ : ByteArray → ByteArray) (φ : ByteArray → Int) : placeL σ φ (pw 0) [] [rA12] = [⟨⟨#[97]⟩, 0, 5, σ ⟨#[97]⟩, 0⟩] := by
  show [newA σ φ (pw 0) [] rA12] = _
  unfold newA
  rw [free_nil1]
theorem l12_2 (σ : ByteArray → ByteArray) (φ : ByteArray → Int) : ∃ n : Int, 0 ≤ n ∧ n < 3 ∧ placeL σ φ (pw 2) [aS12] [rA12, rB12] = [⟨⟨#[97]⟩, 0, 5, ⟨#[115]⟩, 3⟩, ⟨⟨#[98]⟩, 0, 0, σ ⟨#[98]⟩, n⟩] := by
  have hA : pw 2 = 4 := by decide
  rcases freeF_spec (pw 2) [3] (φ ⟨#[98]⟩) with ⟨s, h1, h2, h3, h4⟩ | ⟨h1, h2⟩
  · have hb := sq_bd (A := pw 2) (by decide) (φ ⟨#[98]⟩) s
    refine ⟨sq (pw 2) (φ ⟨#[98]⟩) s, hb.1, ?_, ?_⟩
    · rw [hA] at hb h3 ⊢
      have : sq 4 (φ ⟨#[98]⟩) s ≠ 3 := fun e => h3 (by rw [e]; simp)
      omega
    · have e1 : newIn [aS12] rA12 = false := by decide +kernel
      have e2 : newIn [aS12] rB12 = true := by decide +kernel
      have e3 : stayT [aS12] [rA12, rB12] = [3] := by decide +kernel
      unfold placeL
      rw [e3, List.filter_cons, if_neg (by rw [e1]; exact Bool.noConfusion), List.filter_cons, if_pos e2, List.filter_nil, newsL, newsL, weave_old e1, weave_new e2]
      have e4 : findA [aS12] (keyR rA12) = (aS12, true) := firstA_own (f := keyA) (l := [aS12]) (x := aS12) (by simp) (by simp)
      rw [e4]
      unfold newA
      rw [h4]
      rfl
  · refine ⟨0, by decide, by decide, ?_⟩
    have e1 : newIn [aS12] rA12 = false := by decide +kernel
    have e2 : newIn [aS12] rB12 = true := by decide +kernel
    have e3 : stayT [aS12] [rA12, rB12] = [3] := by decide +kernel
    unfold placeL
    rw [e3, List.filter_cons, if_neg (by rw [e1]; exact Bool.noConfusion), List.filter_cons, if_pos e2, List.filter_nil, newsL, newsL, weave_old e1, weave_new e2]
    have e4 : findA [aS12] (keyR rA12) = (aS12, true) := firstA_own (f := keyA) (l := [aS12]) (x := aS12) (by simp) (by simp)
    rw [e4]
    unfold newA
    rw [h2]
    rfl
set_option maxRecDepth 100000 in
set_option maxHeartbeats 8000000 in
theorem awake12_any (w : World) (hTb : Tab w) (hT : TabU w) : Calls Tryd.prog 29 #[] w (Tells (.bool true) w.heap.size w) := by
  have cO := fun u => of_any 5 u
  have cP1 : ∀ u A c, RwRow u u.heap.size A [rA12] → TabU u → Tab u → Calls Tryd.prog 12 #[.string ⟨#[107]⟩, .int .i64 0, .slice none 0 0, .slice A 1 c] u fun e w' => Below u.heap.size u w' ∧ ∃ g, e = .returned (.tuple #[.slice (some ⟨g, 0, none⟩) 1 1, .int .i64 0]) ∧ AcBox w' g [⟨⟨#[97]⟩, 0, 5, saltB ⟨#[107]⟩ ⟨#[97]⟩, 0⟩] := fun u A c h1 h2 h3 =>
    (sPlace_any ⟨#[107]⟩ (by decide) 0 none 0 [] (by decide) (fun x hx => by simp at hx) (fun x hx => by simp at hx) A c [rA12] [rA12] sd_one12 (by decide) (fun r hr => by rw [List.mem_singleton.1 hr]; exact ⟨by decide, ⟨by decide, by decide⟩, ⟨by decide, by decide⟩⟩) 0 e12_1 u (AcRow.nil _ _ _) h1 h2 h3).mono fun e w' k => by
      obtain ⟨k1, v, k2, -, k3⟩ := k
      obtain ⟨g, rfl, -, k5⟩ := k3 rfl
      rw [show pw (0 : Int).toNat = pw 0 from rfl, l12_1] at k5
      exact ⟨k1, g, k2, k5⟩
  have cP2 : ∀ u A c, RwRow u u.heap.size A [rA12, rB12] → TabU u → Tab u → Calls Tryd.prog 12 #[.string ⟨#[107]⟩, .int .i64 0, .slice none 0 0, .slice A 2 c] u fun e w' => Below u.heap.size u w' ∧ e = .returned (.tuple #[.slice none 0 0, .int .i64 111]) := fun u A c h1 h2 h3 =>
    (sPlace_any ⟨#[107]⟩ (by decide) 0 none 0 [] (by decide) (fun x hx => by simp at hx) (fun x hx => by simp at hx) A c [rA12, rB12] [rA12, rB12] sd_two12 (by decide) (fun r hr => by
      simp only [List.mem_cons, List.not_mem_nil, or_false] at hr
      rcases hr with rfl | rfl <;> exact ⟨by decide, ⟨by decide, by decide⟩, ⟨by decide, by decide⟩⟩) 111 e12_2 u (AcRow.nil _ _ _) h1 h2 h3).mono fun e w' k => by
      obtain ⟨k1, v, k2, k3, -⟩ := k
      obtain rfl := k3 (by decide)
      exact ⟨k1, k2⟩
  obtain ⟨n, hn0, hn3, hL⟩ := l12_2 (saltB ⟨#[107]⟩) (fun i => firstN ⟨#[107]⟩ i 2)
  have cP3 : ∀ u B A c, AcRow u u.heap.size B [aS12] → RwRow u u.heap.size A [rA12, rB12] → TabU u → Tab u → Calls Tryd.prog 12 #[.string ⟨#[107]⟩, .int .i64 2, .slice B 1 1, .slice A 2 c] u fun e w' => Below u.heap.size u w' ∧ ∃ g, e = .returned (.tuple #[.slice (some ⟨g, 0, none⟩) 2 2, .int .i64 0]) ∧ AcBox w' g [⟨⟨#[97]⟩, 0, 5, ⟨#[115]⟩, 3⟩, ⟨⟨#[98]⟩, 0, 0, saltB ⟨#[107]⟩ ⟨#[98]⟩, n⟩] := fun u B A c h0 h1 h2 h3 =>
    (sPlace_any ⟨#[107]⟩ (by decide) 2 B 1 [aS12] (by decide) (fun x hx => by rw [List.mem_singleton.1 hx]; exact ⟨⟨by decide, by decide⟩, ⟨by decide, by decide⟩, ⟨by decide, by decide⟩⟩) (fun x hx => by rw [List.mem_singleton.1 hx]; exact ⟨by decide, by decide⟩) A c [rA12, rB12] [rA12, rB12] sd_two12 (by decide) (fun r hr => by
      simp only [List.mem_cons, List.not_mem_nil, or_false] at hr
      rcases hr with rfl | rfl <;> exact ⟨by decide, ⟨by decide, by decide⟩, ⟨by decide, by decide⟩⟩) 0 e12_3 u h0 h1 h2 h3).mono fun e w' k => by
      obtain ⟨k1, v, k2, -, k3⟩ := k
      obtain ⟨g, rfl, -, k5⟩ := k3 rfl
      rw [show pw (2 : Int).toNat = pw 2 from rfl, hL] at k5
      exact ⟨k1, g, k2, k5⟩
  have cP4 : ∀ u A c, RwRow u u.heap.size A [rA12] → TabU u → Tab u → Calls Tryd.prog 12 #[.string ⟨#[107]⟩, .int .i64 11, .slice none 0 0, .slice A 1 c] u fun e w' => Below u.heap.size u w' ∧ e = .returned (.tuple #[.slice none 0 0, .int .i64 120]) := fun u A c h1 h2 h3 =>
    (sPlace_any ⟨#[107]⟩ (by decide) 11 none 0 [] (by decide) (fun x hx => by simp at hx) (fun x hx => by simp at hx) A c [rA12] [rA12] sd_one12 (by decide) (fun r hr => by rw [List.mem_singleton.1 hr]; exact ⟨by decide, ⟨by decide, by decide⟩, ⟨by decide, by decide⟩⟩) 120 e12_4 u (AcRow.nil _ _ _) h1 h2 h3).mono fun e w' k => by
      obtain ⟨k1, v, k2, k3, -⟩ := k
      obtain rfl := k3 (by decide)
      exact ⟨k1, k2⟩
  have cF : ∀ u A, AcRow u u.heap.size A [⟨⟨#[]⟩, 0, 0, ⟨#[]⟩, 3⟩, ⟨⟨#[]⟩, 0, 0, ⟨#[]⟩, 0⟩] → Calls Tryd.prog 20 #[.slice A 2 2, .int .i64 2, .int .u64 3] u (Tells (.tuple #[.int .u64 1, .bool true]) u.heap.size u) := fun u A h => by
    have := sFree_any A 2 [⟨⟨#[]⟩, 0, 0, ⟨#[]⟩, 3⟩, ⟨⟨#[]⟩, 0, 0, ⟨#[]⟩, 0⟩] (by decide) (fun x hx => by
      simp only [List.mem_cons, List.not_mem_nil, or_false] at hx
      rcases hx with rfl | rfl <;> exact ⟨⟨by decide, by decide⟩, ⟨by decide, by decide⟩, ⟨by decide, by decide⟩⟩) 2 3 ⟨by decide, by decide⟩ u h
    rw [f12] at this
    exact this
  have cS := fun u hu => salt_any ⟨#[107]⟩ ⟨#[97]⟩ (by decide) (by decide) u hu
  have hq1 := fun u => run_eql_ac ⟨⟨#[97]⟩, 0, 5, saltB ⟨#[107]⟩ ⟨#[97]⟩, 0⟩ ⟨⟨#[97]⟩, 0, 5, saltB ⟨#[107]⟩ ⟨#[97]⟩, 0⟩ u
  have hq2 := fun u => run_eql_ac ⟨⟨#[97]⟩, 0, 5, ⟨#[115]⟩, 3⟩ ⟨⟨#[97]⟩, 0, 5, ⟨#[115]⟩, 3⟩ u
  rw [Ac.same_self] at hq1 hq2
  simp only [Ac.val] at hq1 hq2
  have hn3d : decide (n < 3) = true := decide_eq_true hn3
  generalize saltB ⟨#[107]⟩ ⟨#[97]⟩ = sa at *
  generalize saltB ⟨#[107]⟩ ⟨#[98]⟩ = sb at *
  clear hL
  have H0 := Has.start w
  go_enter Tryd.func29, Tryd.ntmps29
  go_upto_region 2 with (first
    | (go_at_call 59; refine (cO _).mono ?_; rintro e v1 ⟨rfl, j1⟩)
    | fail)
  have H1 := (H0.call j1).add 59 #[.string ⟨#[97]⟩, .int .u64 0, .int .u64 5]
  obtain ⟨g1, hg1⟩ : ∃ g, v1.heap.size = g := ⟨_, rfl⟩
  rw [hg1] at H1 ⊢
  generalize v1.alloc (.cells #[.string ⟨#[97]⟩, .int .u64 0, .int .u64 5] 59) = W1 at *
  clear hg1 j1 H0
  have bx1 : RowBox W1 g1 [rA12].toArray := H1.box 0
  have R1 := bx1.rw_
  have O0 := World.ownsRow_made W1 #[] 0 (base := W1.heap.size) (e := 59) (size := 3) (Nat.le_refl _) (by unfold maxLen; omega) rfl
  have R1e := (R1.call (chainA (Below.refl _ _) (.cells #[] 59))).more (B' := (W1.alloc (.cells #[] 59)).heap.size) (by simp)
  obtain ⟨v2, w2, r2, O2, hg2⟩ := app_rows (W1.alloc (.cells #[] 59)) W1.heap.size _ 0 [] O0 ⟨g1, 0, none⟩ 1 1 [rA12] rfl R1e.cells (by omega) (by simp) (N := 1) rfl
  rw [List.nil_append] at O2
  have L2 : Below W1.heap.size W1 w2 := (chainA (Below.refl W1.heap.size W1) (.cells #[] 59)).grown hg2 (by simp) (fun j hj => by injection hj with hj; subst hj; exact Nat.le_refl _)
  obtain ⟨v3, w3, r3, O3, hg3⟩ := app_rows (w2.alloc (.cells #[.string ⟨#[98]⟩, .int .u64 0, .int .u64 0] 59)) W1.heap.size v2 1 [rA12] (O2.alloc _) ⟨w2.heap.size, 0, none⟩ 1 1 [rB12] rfl (cells_new4 w2 59 (rowCs [rB12])) (by omega) (by have := L2.size; simp; omega) (N := 2) rfl
  have L3 : Below W1.heap.size W1 w3 := (chainA L2 (.cells #[.string ⟨#[98]⟩, .int .u64 0, .int .u64 0] 59)).grown hg3 (by have := L2.size; simp; omega) (fun j hj => (O2.lt j hj).1)
  obtain ⟨A2, c2, hv3, -, R3⟩ := rows_of_own (l := [rA12, rB12]) O3
  subst hv3
  clear O0 O2 O3 hg2 hg3 R1e
  have H3 := H1.call L3
  have R13 := (R1.call L3).more L3.size
  go_upto_region 3 with (first
    | (at_builtin; refine wpList_run rfl _ _ _ rfl _ _ rfl rfl v2 w2 r2 ?_)
    | (at_builtin; refine wpList_run rfl _ _ _ rfl _ _ rfl rfl _ w3 r3 ?_)
    | fail)
  clear r2 r3 L2 R1 bx1 H1
  go_upto_region 4 with (first
    | (go_at_call 12; refine (cP1 _ _ _ R13 (hT.call H3.below) (hTb.call H3.below)).mono ?_; rintro e v4 ⟨j4, g4, rfl, X4⟩)
    | fail)
  have H4 := H3.call j4
  have R14 := (R13.call j4).more j4.size
  have R24 := (R3.call j4).more j4.size
  clear R13 R3 H3 L3
  go_upto_region 5 with (first
    | (go_at_call 12; refine (cP2 _ _ _ R24 (hT.call H4.below) (hTb.call H4.below)).mono ?_; rintro e v5 ⟨j5, rfl⟩)
    | fail)
  have H5 := (H4.call j5).past (.cells (acB ⟨#[97]⟩ 0 0 ⟨#[115]⟩ 3) 38)
  have J5 := chainA j5 (.cells (acB ⟨#[97]⟩ 0 0 ⟨#[115]⟩ 3) 38)
  have R15 := (R14.call J5).more J5.size
  have R25 := (R24.call J5).more J5.size
  have X5 := X4.call J5
  have Y5 : AcBox (v5.alloc (.cells (acB ⟨#[97]⟩ 0 0 ⟨#[115]⟩ 3) 38)) v5.heap.size [aS12] := Box.made _ _ _
  go_upto_region 6 with (first
    | (go_at_call 12; refine (cP3 _ _ _ _ Y5.row R25 (hT.call H5.below) (hTb.call H5.below)).mono ?_; rintro e v6 ⟨j6, g6, rfl, X6⟩)
    | fail)
  have H6 := H5.call j6
  have R16 := (R15.call j6).more j6.size
  have Z6 := X5.call j6
  clear Y5 R25 R15 R24 R14 X5 X4 H5 H4 J5 j5 j4
  go_upto_region 7 with (first
    | (go_at_call 12; refine (cP4 _ _ _ R16 (hT.call H6.below) (hTb.call H6.below)).mono ?_; rintro e v7 ⟨j7, rfl⟩)
    | fail)
  have H7 := (H6.call j7).past (.cells #[.string ⟨#[]⟩, .int .u64 0, .int .u64 0, .string ⟨#[]⟩, .int .u64 3, .string ⟨#[]⟩, .int .u64 0, .int .u64 0, .string ⟨#[]⟩, .int .u64 0] 38)
  have J7 := chainA j7 (.cells #[.string ⟨#[]⟩, .int .u64 0, .int .u64 0, .string ⟨#[]⟩, .int .u64 3, .string ⟨#[]⟩, .int .u64 0, .int .u64 0, .string ⟨#[]⟩, .int .u64 0] 38)
  have X7 := X6.call J7
  have Z7 := Z6.call J7
  have Y7 : AcBox (v7.alloc (.cells #[.string ⟨#[]⟩, .int .u64 0, .int .u64 0, .string ⟨#[]⟩, .int .u64 3, .string ⟨#[]⟩, .int .u64 0, .int .u64 0, .string ⟨#[]⟩, .int .u64 0] 38)) v7.heap.size [⟨⟨#[]⟩, 0, 0, ⟨#[]⟩, 3⟩, ⟨⟨#[]⟩, 0, 0, ⟨#[]⟩, 0⟩] := Box.made _ _ _
  clear J7 X6 Z6 H6 R16
  go_upto_region 8 with (first
    | (go_at_call 20; refine (cF _ _ Y7.row).mono ?_; rintro e v8 ⟨rfl, j8⟩)
    | fail)
  have H8 := H7.call j8
  have X8 := X7.call j8
  have Z8 := Z7.call j8
  clear H7 X7 Z7 Y7 j7 j8
  have hS : ∀ u, Below v8.heap.size v8 u → u.cell? ⟨g4, 0, none⟩ = some (.string ⟨#[97]⟩) ∧ u.cell? ⟨g4, 1, none⟩ = some (.int .u64 0) ∧ u.cell? ⟨g4, 2, none⟩ = some (.int .u64 5) ∧ u.cell? ⟨g4, 3, none⟩ = some (.string sa) ∧ u.cell? ⟨g4, 4, none⟩ = some (.int .u64 0) ∧ u.cell? ⟨g6, 0, none⟩ = some (.string ⟨#[97]⟩) ∧ u.cell? ⟨g6, 1, none⟩ = some (.int .u64 0) ∧ u.cell? ⟨g6, 2, none⟩ = some (.int .u64 5) ∧ u.cell? ⟨g6, 3, none⟩ = some (.string ⟨#[115]⟩) ∧ u.cell? ⟨g6, 4, none⟩ = some (.int .u64 3) ∧ u.cell? ⟨g6, 5, none⟩ = some (.string ⟨#[98]⟩) ∧ u.cell? ⟨g6, 6, none⟩ = some (.int .u64 0) ∧ u.cell? ⟨g6, 7, none⟩ = some (.int .u64 0) ∧ u.cell? ⟨g6, 8, none⟩ = some (.string sb) ∧ u.cell? ⟨g6, 9, none⟩ = some (.int .u64 n) ∧ g4 < u.heap.size ∧ g6 < u.heap.size := fun u hb =>
    ⟨(Box.call Z8 hb).read 0, (Box.call Z8 hb).read 1, (Box.call Z8 hb).read 2, (Box.call Z8 hb).read 3, (Box.call Z8 hb).read 4, (Box.call X8 hb).read 0, (Box.call X8 hb).read 1, (Box.call X8 hb).read 2, (Box.call X8 hb).read 3, (Box.call X8 hb).read 4, (Box.call X8 hb).read 5, (Box.call X8 hb).read 6, (Box.call X8 hb).read 7, (Box.call X8 hb).read 8, (Box.call X8 hb).read 9, (Box.call Z8 hb).inside, (Box.call X8 hb).inside⟩
  refine wp_region_held_drew (S := fun u => u.cell? ⟨g4, 0, none⟩ = some (.string ⟨#[97]⟩) ∧ u.cell? ⟨g4, 1, none⟩ = some (.int .u64 0) ∧ u.cell? ⟨g4, 2, none⟩ = some (.int .u64 5) ∧ u.cell? ⟨g4, 3, none⟩ = some (.string sa) ∧ u.cell? ⟨g4, 4, none⟩ = some (.int .u64 0) ∧ u.cell? ⟨g6, 0, none⟩ = some (.string ⟨#[97]⟩) ∧ u.cell? ⟨g6, 1, none⟩ = some (.int .u64 0) ∧ u.cell? ⟨g6, 2, none⟩ = some (.int .u64 5) ∧ u.cell? ⟨g6, 3, none⟩ = some (.string ⟨#[115]⟩) ∧ u.cell? ⟨g6, 4, none⟩ = some (.int .u64 3) ∧ u.cell? ⟨g6, 5, none⟩ = some (.string ⟨#[98]⟩) ∧ u.cell? ⟨g6, 6, none⟩ = some (.int .u64 0) ∧ u.cell? ⟨g6, 7, none⟩ = some (.int .u64 0) ∧ u.cell? ⟨g6, 8, none⟩ = some (.string sb) ∧ u.cell? ⟨g6, 9, none⟩ = some (.int .u64 n) ∧ g4 < u.heap.size ∧ g6 < u.heap.size) (by kernel_rfl) (hS _ (Below.refl _ _).drew) (fun hHeld => ?_)
  refine wpAnyH_take (i := 0) (v := ?_) rfl (by kernel_rfl) (by kernel_rfl) (by kernel_rfl) (fun _ _ _ h => h) (Or.inl ⟨by rfl, ?_⟩) (by assumption) ?_
  rotate_left 1
  · intro w hSw; (try dsimp only at hSw); go_simp; try with_reducible rfl
  try simp only [Act.put, List.getElem_toArray, List.getElem_cons_succ, List.getElem_cons_zero, List.setIfInBounds_toArray, List.set_cons_zero, List.set_cons_succ]
  refine wpAnyH_take (i := 1) (v := ?_) rfl (by kernel_rfl) (by kernel_rfl) (by kernel_rfl) (fun _ _ _ h => h) (Or.inl ⟨by rfl, ?_⟩) (by assumption) ?_
  rotate_left 1
  · intro w hSw; (try dsimp only at hSw); go_simp; try with_reducible rfl
  try simp only [Act.put, List.getElem_toArray, List.getElem_cons_succ, List.getElem_cons_zero, List.setIfInBounds_toArray, List.set_cons_zero, List.set_cons_succ]
  refine wpAnyH_take (i := 2) (v := ?_) rfl (by kernel_rfl) (by kernel_rfl) (by kernel_rfl) (fun _ _ _ h => h) (Or.inl ⟨by rfl, ?_⟩) (by assumption) ?_
  rotate_left 1
  · intro w hSw; (try dsimp only at hSw); go_simp; try with_reducible rfl
  try simp only [Act.put, List.getElem_toArray, List.getElem_cons_succ, List.getElem_cons_zero, List.setIfInBounds_toArray, List.set_cons_zero, List.set_cons_succ]
  refine wpAnyH_take (i := 3) (v := ?_) rfl (by kernel_rfl) (by kernel_rfl) (by kernel_rfl) (fun _ _ _ h => h) (Or.inl ⟨by rfl, ?_⟩) (by assumption) ?_
  rotate_left 1
  · intro w hSw; (try dsimp only at hSw); go_simp; try with_reducible rfl
  try simp only [Act.put, List.getElem_toArray, List.getElem_cons_succ, List.getElem_cons_zero, List.setIfInBounds_toArray, List.set_cons_zero, List.set_cons_succ]
  refine wpAnyH_take (i := 4) (v := ?_) rfl (by kernel_rfl) (by kernel_rfl) (by kernel_rfl) (fun _ _ _ h => h) (Or.inl ⟨by rfl, ?_⟩) (by assumption) ?_
  rotate_left 1
  · intro w hSw; (try dsimp only at hSw); go_simp; try with_reducible rfl
  try simp only [Act.put, List.getElem_toArray, List.getElem_cons_succ, List.getElem_cons_zero, List.setIfInBounds_toArray, List.set_cons_zero, List.set_cons_succ]
  refine wpAnyH_take (i := 5) (v := ?_) rfl (by kernel_rfl) (by kernel_rfl) (by kernel_rfl) (fun _ _ _ h => h) (Or.inl ⟨by rfl, ?_⟩) (by assumption) ?_
  rotate_left 1
  · intro w hSw; (try dsimp only at hSw); go_simp; try with_reducible rfl
  try simp only [Act.put, List.getElem_toArray, List.getElem_cons_succ, List.getElem_cons_zero, List.setIfInBounds_toArray, List.set_cons_zero, List.set_cons_succ]
  refine wpAnyH_take (i := 6) (v := ?_) rfl (by kernel_rfl) (by kernel_rfl) (by kernel_rfl) (fun _ _ _ h => h) (Or.inl ⟨by rfl, ?_⟩) (by assumption) ?_
  rotate_left 1
  · intro w hSw; (try dsimp only at hSw); go_simp; try with_reducible rfl
  try simp only [Act.put, List.getElem_toArray, List.getElem_cons_succ, List.getElem_cons_zero, List.setIfInBounds_toArray, List.set_cons_zero, List.set_cons_succ]
  refine wpAnyH_take (i := 7) (v := ?_) rfl (by kernel_rfl) (by kernel_rfl) (by kernel_rfl) (fun _ _ _ h => h) (Or.inl ⟨by rfl, ?_⟩) (by assumption) ?_
  rotate_left 1
  · intro w hSw; (try dsimp only at hSw); go_simp; try with_reducible rfl
  try simp only [Act.put, List.getElem_toArray, List.getElem_cons_succ, List.getElem_cons_zero, List.setIfInBounds_toArray, List.set_cons_zero, List.set_cons_succ]
  refine wpAnyH_take (i := 8) (v := ?_) rfl (by kernel_rfl) (by kernel_rfl) (by kernel_rfl) (fun _ _ _ h => h) (Or.inl ⟨by rfl, ?_⟩) (by assumption) ?_
  rotate_left 1
  · intro w hSw; (try dsimp only at hSw); go_simp; try with_reducible rfl
  try simp only [Act.put, List.getElem_toArray, List.getElem_cons_succ, List.getElem_cons_zero, List.setIfInBounds_toArray, List.set_cons_zero, List.set_cons_succ]
  refine wpAnyH_take (i := 9) (v := ?_) rfl (by kernel_rfl) (by kernel_rfl) (by kernel_rfl) (fun _ _ _ h => h) (Or.inl ⟨by rfl, ?_⟩) (by assumption) ?_
  rotate_left 1
  · intro w hSw; (try dsimp only at hSw); go_simp; try with_reducible rfl
  try simp only [Act.put, List.getElem_toArray, List.getElem_cons_succ, List.getElem_cons_zero, List.setIfInBounds_toArray, List.set_cons_zero, List.set_cons_succ]
  refine wpAnyH_take (i := 10) (v := ?_) rfl (by kernel_rfl) (by kernel_rfl) (by kernel_rfl) (fun _ _ _ h => h) (Or.inl ⟨by rfl, ?_⟩) (by assumption) ?_
  rotate_left 1
  · intro w hSw; (try dsimp only at hSw); go_simp; try with_reducible rfl
  try simp only [Act.put, List.getElem_toArray, List.getElem_cons_succ, List.getElem_cons_zero, List.setIfInBounds_toArray, List.set_cons_zero, List.set_cons_succ]
  refine wpAnyH_ready (rs := [11]) (by kernel_rfl) (by simp) (AllReadyH.cons rfl (fun K hK => ?_) AllReadyH.nil)
  go_simp
  go_at_call 59
  refine (cO _).mono ?_
  rintro e v9 ⟨rfl, j9⟩
  have b9 := chain (Below.refl v8.heap.size v8).drew j9
  try simp only []
  refine hK.out _ _ (hS _ b9) (fun hHeld => ?_)
  clear hK K
  try simp only [Act.put, List.getElem_toArray, List.getElem_cons_succ, List.getElem_cons_zero, List.setIfInBounds_toArray, List.set_cons_zero, List.set_cons_succ]
  refine wpAnyH_ready (rs := [12]) (by kernel_rfl) (by simp) (AllReadyH.cons rfl (fun K hK => ?_) AllReadyH.nil)
  go_simp
  go_at_call 30
  refine (cS _ (hTb.call (chain H8.below b9))).mono ?_
  rintro e v10 ⟨rfl, j10⟩
  have b10 := chain b9 j10
  try simp only []
  refine hK.out _ _ (hS _ b10) (fun hHeld => ?_)
  clear hK K
  try simp only [Act.put, List.getElem_toArray, List.getElem_cons_succ, List.getElem_cons_zero, List.setIfInBounds_toArray, List.set_cons_zero, List.set_cons_succ]
  refine wpAnyH_take (i := 13) (v := ?_) rfl (by kernel_rfl) (by kernel_rfl) (by kernel_rfl) (fun _ _ _ h => h) (Or.inl ⟨by rfl, ?_⟩) (by assumption) ?_
  rotate_left 1
  · intro w hSw; (try dsimp only at hSw); go_simp; try with_reducible rfl
  try simp only [Act.put, List.getElem_toArray, List.getElem_cons_succ, List.getElem_cons_zero, List.setIfInBounds_toArray, List.set_cons_zero, List.set_cons_succ]
  refine wpAnyH_take (i := 14) (v := ?_) rfl (by kernel_rfl) (by kernel_rfl) (by kernel_rfl) (fun _ _ _ h => h) (Or.inl ⟨by rfl, ?_⟩) (by assumption) ?_
  rotate_left 1
  · intro w hSw; (try dsimp only at hSw); go_simp; try with_reducible rfl
  try simp only [Act.put, List.getElem_toArray, List.getElem_cons_succ, List.getElem_cons_zero, List.setIfInBounds_toArray, List.set_cons_zero, List.set_cons_succ]
  refine wpAnyH_take (i := 15) (v := ?_) rfl (by kernel_rfl) (by kernel_rfl) (by kernel_rfl) (fun _ _ _ h => h) (Or.inl ⟨by rfl, ?_⟩) (by assumption) ?_
  rotate_left 1
  · intro w hSw; (try dsimp only at hSw); go_simp; try with_reducible rfl
  try simp only [Act.put, List.getElem_toArray, List.getElem_cons_succ, List.getElem_cons_zero, List.setIfInBounds_toArray, List.set_cons_zero, List.set_cons_succ]
  refine wpAnyH_take (i := 16) (v := ?_) rfl (by kernel_rfl) (by kernel_rfl) (by kernel_rfl) (fun _ _ _ h => h) (Or.inl ⟨by rfl, ?_⟩) (by assumption) ?_
  rotate_left 1
  · intro w hSw; (try dsimp only at hSw); go_simp; try with_reducible rfl
  try simp only [Act.put, List.getElem_toArray, List.getElem_cons_succ, List.getElem_cons_zero, List.setIfInBounds_toArray, List.set_cons_zero, List.set_cons_succ]
  refine wpAnyH_take (i := 17) (v := ?_) rfl (by kernel_rfl) (by kernel_rfl) (by kernel_rfl) (fun _ _ _ h => h) (Or.inl ⟨by rfl, ?_⟩) (by assumption) ?_
  rotate_left 1
  · intro w hSw; (try dsimp only at hSw); go_simp; try with_reducible rfl
  try simp only [Act.put, List.getElem_toArray, List.getElem_cons_succ, List.getElem_cons_zero, List.setIfInBounds_toArray, List.set_cons_zero, List.set_cons_succ]
  refine wpAnyH_take (i := 18) (v := ?_) rfl (by kernel_rfl) (by kernel_rfl) (by kernel_rfl) (fun _ _ _ h => h) (Or.inl ⟨by rfl, ?_⟩) (by assumption) ?_
  rotate_left 1
  · intro w hSw; (try dsimp only at hSw); go_simp; try with_reducible rfl
  try simp only [Act.put, List.getElem_toArray, List.getElem_cons_succ, List.getElem_cons_zero, List.setIfInBounds_toArray, List.set_cons_zero, List.set_cons_succ]
  refine wpAnyH_take (i := 19) (v := ?_) rfl (by kernel_rfl) (by kernel_rfl) (by kernel_rfl) (fun _ _ _ h => h) (Or.inl ⟨by rfl, ?_⟩) (by assumption) ?_
  rotate_left 1
  · intro w hSw; (try dsimp only at hSw); go_simp; try with_reducible rfl
  try simp only [Act.put, List.getElem_toArray, List.getElem_cons_succ, List.getElem_cons_zero, List.setIfInBounds_toArray, List.set_cons_zero, List.set_cons_succ]
  refine wpAnyH_take (i := 20) (v := ?_) rfl (by kernel_rfl) (by kernel_rfl) (by kernel_rfl) (fun _ _ _ h => h) (Or.inl ⟨by rfl, ?_⟩) (by assumption) ?_
  rotate_left 1
  · intro w hSw; (try dsimp only at hSw); go_simp; try with_reducible rfl
  try simp only [Act.put, List.getElem_toArray, List.getElem_cons_succ, List.getElem_cons_zero, List.setIfInBounds_toArray, List.set_cons_zero, List.set_cons_succ]
  refine wpAnyH_take (i := 21) (v := ?_) rfl (by kernel_rfl) (by kernel_rfl) (by kernel_rfl) (fun _ _ _ h => h) (Or.inl ⟨by rfl, ?_⟩) (by assumption) ?_
  rotate_left 1
  · intro w hSw; (try dsimp only at hSw); go_simp; try with_reducible rfl
  try simp only [Act.put, List.getElem_toArray, List.getElem_cons_succ, List.getElem_cons_zero, List.setIfInBounds_toArray, List.set_cons_zero, List.set_cons_succ]
  refine wpAnyH_take (i := 22) (v := ?_) rfl (by kernel_rfl) (by kernel_rfl) (by kernel_rfl) (fun _ _ _ h => h) (Or.inl ⟨by rfl, ?_⟩) (by assumption) ?_
  rotate_left 1
  · intro w hSw; (try dsimp only at hSw); go_simp; try with_reducible rfl
  try simp only [Act.put, List.getElem_toArray, List.getElem_cons_succ, List.getElem_cons_zero, List.setIfInBounds_toArray, List.set_cons_zero, List.set_cons_succ]
  refine wpAnyH_take (i := 23) (v := ?_) rfl (by kernel_rfl) (by kernel_rfl) (by kernel_rfl) (fun _ _ _ h => h) (Or.inl ⟨by rfl, ?_⟩) (by assumption) ?_
  rotate_left 1
  · intro w hSw; (try dsimp only at hSw); go_simp; try with_reducible rfl
  try simp only [Act.put, List.getElem_toArray, List.getElem_cons_succ, List.getElem_cons_zero, List.setIfInBounds_toArray, List.set_cons_zero, List.set_cons_succ]
  refine wpAnyH_take (i := 24) (v := ?_) rfl (by kernel_rfl) (by kernel_rfl) (by kernel_rfl) (fun _ _ _ h => h) (Or.inl ⟨by rfl, ?_⟩) (by assumption) ?_
  rotate_left 1
  · intro w hSw; (try dsimp only at hSw); go_simp; try with_reducible rfl
  try simp only [Act.put, List.getElem_toArray, List.getElem_cons_succ, List.getElem_cons_zero, List.setIfInBounds_toArray, List.set_cons_zero, List.set_cons_succ]
  refine wpAnyH_take (i := 25) (v := ?_) rfl (by kernel_rfl) (by kernel_rfl) (by kernel_rfl) (fun _ _ _ h => h) (Or.inl ⟨by rfl, ?_⟩) (by assumption) ?_
  rotate_left 1
  · intro w hSw; (try dsimp only at hSw); go_simp; try with_reducible rfl
  try simp only [Act.put, List.getElem_toArray, List.getElem_cons_succ, List.getElem_cons_zero, List.setIfInBounds_toArray, List.set_cons_zero, List.set_cons_succ]
  refine wpAnyH_take (i := 26) (v := ?_) rfl (by kernel_rfl) (by kernel_rfl) (by kernel_rfl) (fun _ _ _ h => h) (Or.inl ⟨by rfl, ?_⟩) (by assumption) ?_
  rotate_left 1
  · intro w hSw; (try dsimp only at hSw); go_simp; try with_reducible rfl
  try simp only [Act.put, List.getElem_toArray, List.getElem_cons_succ, List.getElem_cons_zero, List.setIfInBounds_toArray, List.set_cons_zero, List.set_cons_succ]
  refine wpAnyH_take (i := 27) (v := ?_) rfl (by kernel_rfl) (by kernel_rfl) (by kernel_rfl) (fun _ _ _ h => h) (Or.inl ⟨by rfl, ?_⟩) (by assumption) ?_
  rotate_left 1
  · intro w hSw; (try dsimp only at hSw); go_simp; try with_reducible rfl
  try simp only [Act.put, List.getElem_toArray, List.getElem_cons_succ, List.getElem_cons_zero, List.setIfInBounds_toArray, List.set_cons_zero, List.set_cons_succ]
  refine wpAnyH_take (i := 28) (v := ?_) rfl (by kernel_rfl) (by kernel_rfl) (by kernel_rfl) (fun _ _ _ h => h) (Or.inl ⟨by rfl, ?_⟩) (by assumption) ?_
  rotate_left 1
  · intro w hSw; (try dsimp only at hSw); go_simp; try with_reducible rfl
  try simp only [Act.put, List.getElem_toArray, List.getElem_cons_succ, List.getElem_cons_zero, List.setIfInBounds_toArray, List.set_cons_zero, List.set_cons_succ]
  refine wpAnyH_take (i := 29) (v := ?_) rfl (by kernel_rfl) (by kernel_rfl) (by kernel_rfl) (fun _ _ _ h => h) (Or.inl ⟨by rfl, ?_⟩) (by assumption) ?_
  rotate_left 1
  · intro w hSw; (try dsimp only at hSw); go_simp; try with_reducible rfl
  try simp only [Act.put, List.getElem_toArray, List.getElem_cons_succ, List.getElem_cons_zero, List.setIfInBounds_toArray, List.set_cons_zero, List.set_cons_succ]
  refine wpAnyH_take (i := 30) (v := ?_) rfl (by kernel_rfl) (by kernel_rfl) (by kernel_rfl) (fun _ _ _ h => h) (Or.inl ⟨by rfl, ?_⟩) (by assumption) ?_
  rotate_left 1
  · intro w hSw; (try dsimp only at hSw); go_simp; try with_reducible rfl
  try simp only [Act.put, List.getElem_toArray, List.getElem_cons_succ, List.getElem_cons_zero, List.setIfInBounds_toArray, List.set_cons_zero, List.set_cons_succ]
  refine wpAnyH_take (i := 31) (v := ?_) rfl (by kernel_rfl) (by kernel_rfl) (by kernel_rfl) (fun _ _ _ h => h) (Or.inl ⟨by rfl, ?_⟩) (by assumption) ?_
  rotate_left 1
  · intro w hSw; (try dsimp only at hSw); go_simp; try with_reducible rfl
  try simp only [Act.put, List.getElem_toArray, List.getElem_cons_succ, List.getElem_cons_zero, List.setIfInBounds_toArray, List.set_cons_zero, List.set_cons_succ]
  refine wpAnyH_take (i := 32) (v := ?_) rfl (by kernel_rfl) (by kernel_rfl) (by kernel_rfl) (fun _ _ _ h => h) (Or.inl ⟨by rfl, ?_⟩) (by assumption) ?_
  rotate_left 1
  · intro w hSw; (try dsimp only at hSw); go_simp; try with_reducible rfl
  try simp only [Act.put, List.getElem_toArray, List.getElem_cons_succ, List.getElem_cons_zero, List.setIfInBounds_toArray, List.set_cons_zero, List.set_cons_succ]
  refine wpAnyH_ready (rs := [33]) (by kernel_rfl) (by simp) (AllReadyH.cons rfl (fun K hK => ?_) AllReadyH.nil)
  go_simp
  go_at_call 59
  refine (cO _).mono ?_
  rintro e v11 ⟨rfl, j11⟩
  have b11 := chain b10 j11
  try simp only []
  refine hK.out _ _ (hS _ b11) (fun hHeld => ?_)
  clear hK K
  try simp only [Act.put, List.getElem_toArray, List.getElem_cons_succ, List.getElem_cons_zero, List.setIfInBounds_toArray, List.set_cons_zero, List.set_cons_succ]
  refine wpAnyH_take (i := 34) (v := ?_) rfl (by kernel_rfl) (by kernel_rfl) (by kernel_rfl) (fun _ _ _ h => h) (Or.inl ⟨by rfl, ?_⟩) (by assumption) ?_
  rotate_left 1
  · intro w hSw; (try dsimp only at hSw); go_simp; try with_reducible rfl
  try simp only [Act.put, List.getElem_toArray, List.getElem_cons_succ, List.getElem_cons_zero, List.setIfInBounds_toArray, List.set_cons_zero, List.set_cons_succ]
  refine wpAnyH_take (i := 35) (v := ?_) rfl (by kernel_rfl) (by kernel_rfl) (by kernel_rfl) (fun _ _ _ h => h) (Or.inl ⟨by rfl, ?_⟩) (by assumption) ?_
  rotate_left 1
  · intro w hSw; (try dsimp only at hSw); go_simp; try with_reducible rfl
  try simp only [Act.put, List.getElem_toArray, List.getElem_cons_succ, List.getElem_cons_zero, List.setIfInBounds_toArray, List.set_cons_zero, List.set_cons_succ]
  refine wpAnyH_take (i := 36) (v := ?_) rfl (by kernel_rfl) (by kernel_rfl) (by kernel_rfl) (fun _ _ _ h => h) (Or.inl ⟨by rfl, ?_⟩) (by assumption) ?_
  rotate_left 1
  · intro w hSw; (try dsimp only at hSw); go_simp; try with_reducible rfl
  try simp only [Act.put, List.getElem_toArray, List.getElem_cons_succ, List.getElem_cons_zero, List.setIfInBounds_toArray, List.set_cons_zero, List.set_cons_succ]
  refine wpAnyH_take (i := 37) (v := ?_) rfl (by kernel_rfl) (by kernel_rfl) (by kernel_rfl) (fun _ _ _ h => h) (Or.inl ⟨by rfl, ?_⟩) (by assumption) ?_
  rotate_left 1
  · intro w hSw; (try dsimp only at hSw); go_simp; try with_reducible rfl
  try simp only [Act.put, List.getElem_toArray, List.getElem_cons_succ, List.getElem_cons_zero, List.setIfInBounds_toArray, List.set_cons_zero, List.set_cons_succ]
  refine wpAnyH_take (i := 38) (v := ?_) rfl (by kernel_rfl) (by kernel_rfl) (by kernel_rfl) (fun _ _ _ h => h) (Or.inl ⟨by rfl, ?_⟩) (by assumption) ?_
  rotate_left 1
  · intro w hSw; (try dsimp only at hSw); go_simp; try with_reducible rfl
  try simp only [Act.put, List.getElem_toArray, List.getElem_cons_succ, List.getElem_cons_zero, List.setIfInBounds_toArray, List.set_cons_zero, List.set_cons_succ]
  refine wpAnyH_take (i := 39) (v := ?_) rfl (by kernel_rfl) (by kernel_rfl) (by kernel_rfl) (fun _ _ _ h => h) (Or.inl ⟨by rfl, ?_⟩) (by assumption) ?_
  rotate_left 1
  · intro w hSw; (try dsimp only at hSw); go_simp; try with_reducible rfl
  try simp only [Act.put, List.getElem_toArray, List.getElem_cons_succ, List.getElem_cons_zero, List.setIfInBounds_toArray, List.set_cons_zero, List.set_cons_succ]
  refine wpAnyH_take (i := 40) (v := ?_) rfl (by kernel_rfl) (by kernel_rfl) (by kernel_rfl) (fun _ _ _ h => h) (Or.inl ⟨by rfl, ?_⟩) (by assumption) ?_
  rotate_left 1
  · intro w hSw; (try dsimp only at hSw); go_simp; try with_reducible rfl
  try simp only [Act.put, List.getElem_toArray, List.getElem_cons_succ, List.getElem_cons_zero, List.setIfInBounds_toArray, List.set_cons_zero, List.set_cons_succ]
  refine wpAnyH_take (i := 41) (v := ?_) rfl (by kernel_rfl) (by kernel_rfl) (by kernel_rfl) (fun _ _ _ h => h) (Or.inl ⟨by rfl, ?_⟩) (by assumption) ?_
  rotate_left 1
  · intro w hSw; (try dsimp only at hSw); go_simp; try with_reducible rfl
  try simp only [Act.put, List.getElem_toArray, List.getElem_cons_succ, List.getElem_cons_zero, List.setIfInBounds_toArray, List.set_cons_zero, List.set_cons_succ]
  refine wpAnyH_take (i := 42) (v := ?_) rfl (by kernel_rfl) (by kernel_rfl) (by kernel_rfl) (fun _ _ _ h => h) (Or.inl ⟨by rfl, ?_⟩) (by assumption) ?_
  rotate_left 1
  · intro w hSw; (try dsimp only at hSw); go_simp; try with_reducible rfl
  try simp only [Act.put, List.getElem_toArray, List.getElem_cons_succ, List.getElem_cons_zero, List.setIfInBounds_toArray, List.set_cons_zero, List.set_cons_succ]
  refine wpAnyH_take (i := 43) (v := ?_) rfl (by kernel_rfl) (by kernel_rfl) (by kernel_rfl) (fun _ _ _ h => h) (Or.inl ⟨by rfl, ?_⟩) (by assumption) ?_
  rotate_left 1
  · intro w hSw; (try dsimp only at hSw); go_simp; try with_reducible rfl
  try simp only [Act.put, List.getElem_toArray, List.getElem_cons_succ, List.getElem_cons_zero, List.setIfInBounds_toArray, List.set_cons_zero, List.set_cons_succ]
  refine wpAnyH_take (i := 44) (v := ?_) rfl (by kernel_rfl) (by kernel_rfl) (by kernel_rfl) (fun _ _ _ h => h) (Or.inl ⟨by rfl, ?_⟩) (by assumption) ?_
  rotate_left 1
  · intro w hSw; (try dsimp only at hSw); go_simp; try with_reducible rfl
  try simp only [Act.put, List.getElem_toArray, List.getElem_cons_succ, List.getElem_cons_zero, List.setIfInBounds_toArray, List.set_cons_zero, List.set_cons_succ]
  refine wpAnyH_take (i := 45) (v := ?_) rfl (by kernel_rfl) (by kernel_rfl) (by kernel_rfl) (fun _ _ _ h => h) (Or.inl ⟨by rfl, ?_⟩) (by assumption) ?_
  rotate_left 1
  · intro w hSw; (try dsimp only at hSw); go_simp; try with_reducible rfl
  try simp only [Act.put, List.getElem_toArray, List.getElem_cons_succ, List.getElem_cons_zero, List.setIfInBounds_toArray, List.set_cons_zero, List.set_cons_succ]
  refine wpAnyH_take (i := 46) (v := ?_) rfl (by kernel_rfl) (by kernel_rfl) (by kernel_rfl) (fun _ _ _ h => h) (Or.inl ⟨by rfl, ?_⟩) (by assumption) ?_
  rotate_left 1
  · intro w hSw; (try dsimp only at hSw); go_simp; try with_reducible rfl
  try simp only [Act.put, List.getElem_toArray, List.getElem_cons_succ, List.getElem_cons_zero, List.setIfInBounds_toArray, List.set_cons_zero, List.set_cons_succ]
  refine wpAnyH_take (i := 47) (v := ?_) rfl (by kernel_rfl) (by kernel_rfl) (by kernel_rfl) (fun _ _ _ h => h) (Or.inl ⟨by rfl, ?_⟩) (by assumption) ?_
  rotate_left 1
  · intro w hSw; (try dsimp only at hSw); go_simp; try with_reducible rfl
  try simp only [Act.put, List.getElem_toArray, List.getElem_cons_succ, List.getElem_cons_zero, List.setIfInBounds_toArray, List.set_cons_zero, List.set_cons_succ]
  refine wpAnyH_take (i := 48) (v := ?_) rfl (by kernel_rfl) (by kernel_rfl) (by kernel_rfl) (fun _ _ _ h => h) (Or.inl ⟨by rfl, ?_⟩) (by assumption) ?_
  rotate_left 1
  · intro w hSw; (try dsimp only at hSw); go_simp; try with_reducible rfl
  try simp only [Act.put, List.getElem_toArray, List.getElem_cons_succ, List.getElem_cons_zero, List.setIfInBounds_toArray, List.set_cons_zero, List.set_cons_succ]
  refine wpAnyH_take (i := 49) (v := ?_) rfl (by kernel_rfl) (by kernel_rfl) (by kernel_rfl) (fun _ _ _ h => h) (Or.inl ⟨by rfl, ?_⟩) (by assumption) ?_
  rotate_left 1
  · intro w hSw; (try dsimp only at hSw); go_simp; try with_reducible rfl
  try simp only [Act.put, List.getElem_toArray, List.getElem_cons_succ, List.getElem_cons_zero, List.setIfInBounds_toArray, List.set_cons_zero, List.set_cons_succ]
  refine wpAnyH_take (i := 50) (v := ?_) rfl (by kernel_rfl) (by kernel_rfl) (by kernel_rfl) (fun _ _ _ h => h) (Or.inl ⟨by rfl, ?_⟩) (by assumption) ?_
  rotate_left 1
  · intro w hSw; (try dsimp only at hSw); go_simp; try with_reducible rfl
  try simp only [Act.put, List.getElem_toArray, List.getElem_cons_succ, List.getElem_cons_zero, List.setIfInBounds_toArray, List.set_cons_zero, List.set_cons_succ]
  refine wpAnyH_take (i := 51) (v := ?_) rfl (by kernel_rfl) (by kernel_rfl) (by kernel_rfl) (fun _ _ _ h => h) (Or.inl ⟨by rfl, ?_⟩) (by assumption) ?_
  rotate_left 1
  · intro w hSw; (try dsimp only at hSw); go_simp; try with_reducible rfl
  try simp only [Act.put, List.getElem_toArray, List.getElem_cons_succ, List.getElem_cons_zero, List.setIfInBounds_toArray, List.set_cons_zero, List.set_cons_succ]
  refine wpAnyH_take (i := 52) (v := ?_) rfl (by kernel_rfl) (by kernel_rfl) (by kernel_rfl) (fun _ _ _ h => h) (Or.inl ⟨by rfl, ?_⟩) (by assumption) ?_
  rotate_left 1
  · intro w hSw; (try dsimp only at hSw); go_simp; try with_reducible rfl
  try simp only [Act.put, List.getElem_toArray, List.getElem_cons_succ, List.getElem_cons_zero, List.setIfInBounds_toArray, List.set_cons_zero, List.set_cons_succ]
  refine wpAnyH_take (i := 53) (v := ?_) rfl (by kernel_rfl) (by kernel_rfl) (by kernel_rfl) (fun _ _ _ h => h) (Or.inl ⟨by rfl, ?_⟩) (by assumption) ?_
  rotate_left 1
  · intro w hSw; (try dsimp only at hSw); go_simp; try with_reducible rfl
  try simp only [Act.put, List.getElem_toArray, List.getElem_cons_succ, List.getElem_cons_zero, List.setIfInBounds_toArray, List.set_cons_zero, List.set_cons_succ]
  refine wpAnyH_take (i := 54) (v := ?_) rfl (by kernel_rfl) (by kernel_rfl) (by kernel_rfl) (fun _ _ _ h => h) (Or.inl ⟨by rfl, ?_⟩) (by assumption) ?_
  rotate_left 1
  · intro w hSw; (try dsimp only at hSw); go_simp; try with_reducible rfl
  try simp only [Act.put, List.getElem_toArray, List.getElem_cons_succ, List.getElem_cons_zero, List.setIfInBounds_toArray, List.set_cons_zero, List.set_cons_succ]
  refine wpAnyH_take (i := 55) (v := ?_) rfl (by kernel_rfl) (by kernel_rfl) (by kernel_rfl) (fun _ _ _ h => h) (Or.inl ⟨by rfl, ?_⟩) (by assumption) ?_
  rotate_left 1
  · intro w hSw; (try dsimp only at hSw); go_simp; try with_reducible rfl
  try simp only [Act.put, List.getElem_toArray, List.getElem_cons_succ, List.getElem_cons_zero, List.setIfInBounds_toArray, List.set_cons_zero, List.set_cons_succ]
  refine wpAnyH_take (i := 56) (v := ?_) rfl (by kernel_rfl) (by kernel_rfl) (by kernel_rfl) (fun _ _ _ h => h) (Or.inl ⟨by rfl, ?_⟩) (by assumption) ?_
  rotate_left 1
  · intro w hSw; (try dsimp only at hSw); go_simp; try with_reducible rfl
  try simp only [Act.put, List.getElem_toArray, List.getElem_cons_succ, List.getElem_cons_zero, List.setIfInBounds_toArray, List.set_cons_zero, List.set_cons_succ]
  refine wpAnyH_take (i := 57) (v := ?_) rfl (by kernel_rfl) (by kernel_rfl) (by kernel_rfl) (fun _ _ _ h => h) (Or.inl ⟨by rfl, ?_⟩) (by assumption) ?_
  rotate_left 1
  · intro w hSw; (try dsimp only at hSw); go_simp; try with_reducible rfl
  try simp only [Act.put, List.getElem_toArray, List.getElem_cons_succ, List.getElem_cons_zero, List.setIfInBounds_toArray, List.set_cons_zero, List.set_cons_succ]
  refine wpAnyH_take (i := 58) (v := ?_) rfl (by kernel_rfl) (by kernel_rfl) (by kernel_rfl) (fun _ _ _ h => h) (Or.inl ⟨by rfl, ?_⟩) (by assumption) ?_
  rotate_left 1
  · intro w hSw; (try dsimp only at hSw); go_simp; try with_reducible rfl
  try simp only [Act.put, List.getElem_toArray, List.getElem_cons_succ, List.getElem_cons_zero, List.setIfInBounds_toArray, List.set_cons_zero, List.set_cons_succ]
  refine wpAnyH_take (i := 59) (v := ?_) rfl (by kernel_rfl) (by kernel_rfl) (by kernel_rfl) (fun _ _ _ h => h) (Or.inl ⟨by rfl, ?_⟩) (by assumption) ?_
  rotate_left 1
  · intro w hSw; (try dsimp only at hSw); go_simp; try with_reducible rfl
  try simp only [Act.put, List.getElem_toArray, List.getElem_cons_succ, List.getElem_cons_zero, List.setIfInBounds_toArray, List.set_cons_zero, List.set_cons_succ]
  refine wpAnyH_take (i := 60) (v := ?_) rfl (by kernel_rfl) (by kernel_rfl) (by kernel_rfl) (fun _ _ _ h => h) (Or.inl ⟨by rfl, ?_⟩) (by assumption) ?_
  rotate_left 1
  · intro w hSw; (try dsimp only at hSw); go_simp; try with_reducible rfl
  try simp only [Act.put, List.getElem_toArray, List.getElem_cons_succ, List.getElem_cons_zero, List.setIfInBounds_toArray, List.set_cons_zero, List.set_cons_succ]
  refine wpAnyH_take (i := 61) (v := ?_) rfl (by kernel_rfl) (by kernel_rfl) (by kernel_rfl) (fun _ _ _ h => h) (Or.inl ⟨by rfl, ?_⟩) (by assumption) ?_
  rotate_left 1
  · intro w hSw; (try dsimp only at hSw); go_simp; try with_reducible rfl
  try simp only [Act.put, List.getElem_toArray, List.getElem_cons_succ, List.getElem_cons_zero, List.setIfInBounds_toArray, List.set_cons_zero, List.set_cons_succ]
  refine wpAnyH_take (i := 62) (v := ?_) rfl (by kernel_rfl) (by kernel_rfl) (by kernel_rfl) (fun _ _ _ h => h) (Or.inl ⟨by rfl, ?_⟩) (by assumption) ?_
  rotate_left 1
  · intro w hSw; (try dsimp only at hSw); go_simp; try with_reducible rfl
  try simp only [Act.put, List.getElem_toArray, List.getElem_cons_succ, List.getElem_cons_zero, List.setIfInBounds_toArray, List.set_cons_zero, List.set_cons_succ]
  refine wpAnyH_done (by kernel_rfl) ?_ _
  go_wp2
  go_ret
  exact ⟨rfl, chain H8.below b11⟩
end Go.Proofs.YtngofpdpangajaaDoor
