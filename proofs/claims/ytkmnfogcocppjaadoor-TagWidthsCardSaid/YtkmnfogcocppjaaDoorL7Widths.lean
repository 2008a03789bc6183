/-
  The law TagWidths: a digest by a lesser width begins the one by a greater one; by 32 it is the whole of it; a leaf's node has its text's digest, and its balance; what may not be is told as zero.
  Conditions: block's table of constants and utf8's two tables hold what their texts lay (tied by the card; one is the form's constant).
-/
import Derived.Test.YtkmnfogcocppjaaDoorU7Awake
import Derived.Test.YtkmnfogcocppjaaDoorW7Laid
namespace Go.Proofs.YtkmnfogcocppjaaDoor
set_option linter.unusedVariables false
set_option linter.unusedSimpArgs false
set_option maxRecDepth 10000
open Go.ChangeShapes Go.WideShapes Go.ChangeAt Go.RowKit

set_option maxHeartbeats 2000000 in
theorem widths_long (x : Lf) (text : ByteArray) (n m : Int) (h : (300 < x.id.size ∨ 300 < x.salt.size) ∨ 1000 < text.size) (h1 : x.id.size ≤ 9223372036854775807) (h2 : x.salt.size ≤ 9223372036854775807) (h3 : text.size ≤ 9223372036854775807) (w : World) (hK : Tab w) (hT : TabU w) :
    Calls Tryd.prog 8 #[x.val, .string text, .int .i64 n, .int .i64 m] w (Tells (.bool true) w.heap.size w) := by
  have cL := fun u => long_any x h1 h2 u
  have cA := fun u hu hv => awake7_any u hu hv
  obtain ⟨p, i, s, h', l⟩ := x
  have B0 : Box (w.alloc (.cells (lfB p i s h' l) 26)) w.heap.size 26 (lfB p i s h' l) := Box.made w _ _
  have L0 : Below w.heap.size w (w.alloc (.cells (lfB p i s h' l) 26)) := by repeat (first | exact Below.refl _ _ | apply Below.drew | apply below_drewN | refine Below.alloc ?_ (by simp; try omega) _ | refine Below.setCell ?_ (by simp; try omega) _)
  have ev : Lf.val ⟨p, i, s, h', l⟩ = .agg (lfB p i s h' l) := rfl
  rw [ev] at cL ⊢
  clear ev
  have hA : (decide (300 < i.size) || decide (300 < s.size)) = true ∨ ((decide (300 < i.size) || decide (300 < s.size)) = false ∧ (1000 : Int) < (text.size : Int)) := by
    rcases h with (h | h) | h
    · exact Or.inl (by simp only at h; rw [decide_eq_true h]; rfl)
    · exact Or.inl (by simp only at h; rw [decide_eq_true h, Bool.or_true])
    · cases (decide (300 < i.size) || decide (300 < s.size)) with
      | true => exact Or.inl rfl
      | false => exact Or.inr ⟨rfl, by omega⟩
  simp only at cL
  generalize (decide (300 < i.size) || decide (300 < s.size)) = A at *
  clear h
  go_enter Tryd.func8, Tryd.ntmps8
  go_upto_region 1 with fail
  change Code.wp _ _ _ _ (w.alloc (.cells (lfB p i s h' l) 26))
  generalize w.alloc (.cells (lfB p i s h' l) 26) = W at *
  go_upto_region 3 with (first
    | (go_at_call 35; refine (cA _ (hK.call L0) (hT.call L0)).mono ?_; rintro e w1 ⟨rfl, j1⟩)
    | fail)
  have B1 := B0.call j1
  have L1 := chain L0 j1
  obtain ⟨⟨y0, y1, y2, y3, y4⟩, -, hin1⟩ := B1.five0
  rcases hA with rfl | ⟨rfl, ht⟩
  · go_wp2_with (first | (go_at_call 10; refine (cL _).mono ?_; rintro e w2 ⟨rfl, b1⟩))
    go_ret
    exact ⟨rfl, chain L1 b1⟩
  · go_wp2_with (first | (go_at_call 10; refine (cL _).mono ?_; rintro e w2 ⟨rfl, b1⟩))
    go_ret
    exact ⟨rfl, chain L1 b1⟩

set_option maxRecDepth 100000 in
set_option maxHeartbeats 8000000 in
theorem widths_none (x : Lf) (text : ByteArray) (n m : Int) (hn : mayW n = false) (h1 : x.id.size ≤ 300) (h2 : x.salt.size ≤ 300) (h3 : text.size ≤ 1000) (hh : Word x.h) (hl : Word x.l) (w : World) (hK : Tab w) (hT : TabU w) :
    Calls Tryd.prog 8 #[x.val, .string text, .int .i64 n, .int .i64 m] w (Tells (.bool true) w.heap.size w) := by
  have cL := fun u => long_any x (by omega) (by omega) u
  have cA := fun u hu hv => awake7_any u hu hv
  have hA : (decide (300 < x.id.size) || decide (300 < x.salt.size)) = false := by rw [decide_eq_false (show ¬ 300 < x.id.size by omega), decide_eq_false (show ¬ 300 < x.salt.size by omega)]; rfl
  rw [hA] at cL
  have ht : ¬ ((1000 : Int) < (text.size : Int)) := by omega
  have cD := fun u hu => digestT_any n text (by omega) u hu
  have cW := fun u => mayWidth_any n u
  have cN := fun u hu hv => leafNode_any n x (by omega) (by omega) hh hl u hu hv
  rw [show dgB n text = ⟨#[]⟩ from if_neg (by rw [hn]; decide)] at cD
  rw [hn] at cW
  rw [show nodeOf n x = Nd.zero from if_neg (fun k => by rw [hn] at k; exact absurd k.1 (by decide))] at cN
  have hz := fun u => eql_nd_same Nd.zero u
  simp only [Nd.val, Nd.zero] at hz cN
  have hw : ¬ (1 ≤ n) ∨ (1 ≤ n ∧ ¬ n ≤ 32) := by
    have h := of_decide_eq_false hn
    omega
  clear hA hn
  obtain ⟨p, i, s, h', l⟩ := x
  have B0 : Box (w.alloc (.cells (lfB p i s h' l) 26)) w.heap.size 26 (lfB p i s h' l) := Box.made w _ _
  have L0 : Below w.heap.size w (w.alloc (.cells (lfB p i s h' l) 26)) := by repeat (first | exact Below.refl _ _ | apply Below.drew | apply below_drewN | refine Below.alloc ?_ (by simp; try omega) _ | refine Below.setCell ?_ (by simp; try omega) _)
  have ev : Lf.val ⟨p, i, s, h', l⟩ = .agg (lfB p i s h' l) := rfl
  rw [ev] at cL cN ⊢
  clear ev
  go_enter Tryd.func8, Tryd.ntmps8
  go_upto_region 1 with fail
  change Code.wp _ _ _ _ (w.alloc (.cells (lfB p i s h' l) 26))
  generalize w.alloc (.cells (lfB p i s h' l) 26) = W at *
  go_upto_region 3 with (first
    | (go_at_call 35; refine (cA _ (hK.call L0) (hT.call L0)).mono ?_; rintro e w1 ⟨rfl, j1⟩)
    | fail)
  have B1 := B0.call j1
  have L1 := chain L0 j1
  obtain ⟨⟨y0, y1, y2, y3, y4⟩, -, hin1⟩ := B1.five0
  go_upto_region 5 with (first
    | (go_at_call 10; refine (cL _).mono ?_; rintro e w2 ⟨rfl, j2⟩)
    | fail)
  have B2 := B1.call j2
  have L2 := chain L1 j2
  clear y0 y1 y2 y3 y4 hin1
  go_upto_region 6 with (first
    | (go_at_call 23; refine (cD _ (hK.call L2)).mono ?_; rintro e w3 ⟨rfl, j3⟩)
    | fail)
  have B3 := B2.call j3
  have L3 := chain L2 j3
  rcases hw with hw | ⟨hw, hw2⟩
  · go_upto_region 7 with (first
      | (go_at_call 15; refine (cW _).mono ?_; rintro e w' ⟨rfl, rfl⟩)
      | fail)
    obtain ⟨⟨y0, y1, y2, y3, y4⟩, -, hin1⟩ := B3.five0
    go_wp2_with (first
      | (go_at_call 15; refine (cW _).mono ?_; rintro e w' ⟨rfl, rfl⟩)
      | (go_at_call 25; refine (cN _ (hK.call L3) (hT.call L3)).mono ?_; rintro e w4 ⟨rfl, j4⟩))
    go_ret
    exact ⟨rfl, chain L3 j4⟩
  · go_upto_region 7 with (first
      | (go_at_call 15; refine (cW _).mono ?_; rintro e w' ⟨rfl, rfl⟩)
      | fail)
    obtain ⟨⟨y0, y1, y2, y3, y4⟩, -, hin1⟩ := B3.five0
    go_wp2_with (first
      | (go_at_call 15; refine (cW _).mono ?_; rintro e w' ⟨rfl, rfl⟩)
      | (go_at_call 25; refine (cN _ (hK.call L3) (hT.call L3)).mono ?_; rintro e w4 ⟨rfl, j4⟩))
    go_ret
    exact ⟨rfl, chain L3 j4⟩

theorem ext_ext (R : ByteArray) (a b : Nat) (h : b ≤ a) : (R.extract 0 a).extract 0 b = R.extract 0 b := by
  apply ba_ext
  rw [ext_toList, ext_toList, ext_toList, List.drop_zero, List.drop_zero, List.drop_zero, List.take_take, Nat.min_eq_left h]
theorem ext_all (R : ByteArray) (h : R.size = 32) : R.extract 0 32 = R := by
  apply ba_ext
  rw [ext_toList, List.drop_zero, List.take_of_length_le (by rw [ba_size, h]; exact Nat.le_refl _)]
set_option maxRecDepth 100000 in
set_option maxHeartbeats 16000000 in
theorem widths_some (x : Lf) (text : ByteArray) (k : Nat) (m : Int) (k1 : 1 ≤ k) (k2 : k ≤ 32) (hm : -9223372036854775808 ≤ m ∧ m ≤ 9223372036854775807) (h1 : x.id.size ≤ 300) (h2 : x.salt.size ≤ 300) (h3 : text.size ≤ 1000) (hh : Word x.h) (hl : Word x.l) (w : World) (hK : Tab w) (hT : TabU w) :
    Calls Tryd.prog 8 #[x.val, .string text, .int .i64 k, .int .i64 m] w (Tells (.bool true) w.heap.size w) := by
  have cL := fun u => long_any x (by omega) (by omega) u
  have cA := fun u hu hv => awake7_any u hu hv
  have hA : (decide (300 < x.id.size) || decide (300 < x.salt.size)) = false := by rw [decide_eq_false (show ¬ 300 < x.id.size by omega), decide_eq_false (show ¬ 300 < x.salt.size by omega)]; rfl
  rw [hA] at cL
  have ht : ¬ ((1000 : Int) < (text.size : Int)) := by omega
  have hn : mayW (k : Int) = true := decide_eq_true (by omega)
  have cD := fun u hu => digestT_any k text (by omega) u hu
  have cE := fun u hu => digestT_any 32 text (by omega) u hu
  have cS := fun u hu => sum_any text (by omega) u hu
  have cW := fun u => mayWidth_any k u
  have cV := fun u => mayWidth_any m u
  have cN := fun u hu hv => leafNode_any k x (by omega) (by omega) hh hl u hu hv
  have cM := fun u hu => mayLeaf_any x (by omega) (by omega) u hu
  have cT := fun u hu => leafText_any x (by omega) (by omega) hh hl u hu
  have cQ := fun u hu => digestT_any k x.text (by have := text_bound x (by omega) (by omega); omega) u hu
  have cG := fun u hu => digestT_any m text (by omega) u hu
  have zR := digB_size text.data.toList
  rw [show dgB k text = (digB text.data.toList).extract 0 k from (if_pos hn).trans rfl] at cD
  rw [show dgB 32 text = digB text.data.toList from (if_pos (by decide)).trans (ext_all _ zR)] at cE
  have hG : mayW m = true → (k : Int) ≤ m → dgB m text = (digB text.data.toList).extract 0 m.toNat := fun h _ => if_pos h
  rw [hn] at cW
  generalize digB text.data.toList = R at *
  have zD : (R.extract 0 k).size = k := by rw [ByteArray.size_extract, zR]; omega
  obtain ⟨D, hD⟩ : ∃ D, R.extract 0 k = D := ⟨_, rfl⟩
  have zDi : ((D.size : Int) != (k : Int)) = false := by rw [← hD, zD]; simp
  rw [hD] at cD
  clear zD
  have hn1 : (1 : Int) ≤ (k : Int) := by omega
  have hn2 : (k : Int) ≤ 32 := by omega
  have hno : nodeOf k x = if x.may = true then ⟨dgB k x.text, x.h, x.l⟩ else Nd.zero := by
    unfold nodeOf
    by_cases hx : x.may = true
    · rw [if_pos ⟨hn, hx⟩, if_pos hx]
    · rw [if_neg (fun q => hx q.2), if_neg hx]
  rw [hno] at cN
  have hz := fun u => eql_nd_same Nd.zero u
  have hq := fun u => eql_nd_same ⟨dgB k x.text, x.h, x.l⟩ u
  simp only [Nd.val, Nd.zero] at hz hq
  generalize dgB (k : Int) x.text = Q at *
  generalize x.text = T at *
  clear hA hno
  have hmore : mayW m = false ∨ (mayW m = true ∧ ¬ (k : Int) ≤ m) ∨ (mayW m = true ∧ (k : Int) ≤ m ∧ ∃ M : ByteArray, dgB m text = M ∧ (k : Int) ≤ (M.size : Int) ∧ M.extract 0 k = D) := by
    cases hv : mayW m with
    | false => exact Or.inl rfl
    | true =>
      by_cases hkm : (k : Int) ≤ m
      · refine Or.inr (Or.inr ⟨rfl, hkm, R.extract 0 m.toNat, hG hv hkm, ?_, ?_⟩)
        · have := of_decide_eq_true hv
          rw [ByteArray.size_extract, zR]; omega
        · rw [ext_ext R _ _ (by omega), hD]
      · exact Or.inr (Or.inl ⟨rfl, hkm⟩)
  clear hG
  obtain ⟨p, i, s, h', l⟩ := x
  have B0 : Box (w.alloc (.cells (lfB p i s h' l) 26)) w.heap.size 26 (lfB p i s h' l) := Box.made w _ _
  have L0 : Below w.heap.size w (w.alloc (.cells (lfB p i s h' l) 26)) := by repeat (first | exact Below.refl _ _ | apply Below.drew | apply below_drewN | refine Below.alloc ?_ (by simp; try omega) _ | refine Below.setCell ?_ (by simp; try omega) _)
  have ev : Lf.val ⟨p, i, s, h', l⟩ = .agg (lfB p i s h' l) := rfl
  rw [ev] at cL cN cM cT ⊢
  simp only at cN hq
  clear ev
  generalize Lf.may ⟨p, i, s, h', l⟩ = V at *
  go_enter Tryd.func8, Tryd.ntmps8
  go_upto_region 1 with fail
  change Code.wp _ _ _ _ (w.alloc (.cells (lfB p i s h' l) 26))
  generalize w.alloc (.cells (lfB p i s h' l) 26) = W at *
  go_upto_region 3 with (first
    | (go_at_call 35; refine (cA _ (hK.call L0) (hT.call L0)).mono ?_; rintro e w1 ⟨rfl, j1⟩)
    | fail)
  have B1 := B0.call j1
  have L1 := chain L0 j1
  obtain ⟨⟨y0, y1, y2, y3, y4⟩, -, hin1⟩ := B1.five0
  go_upto_region 5 with (first
    | (go_at_call 10; refine (cL _).mono ?_; rintro e w2 ⟨rfl, j2⟩)
    | fail)
  have B2 := B1.call j2
  have L2 := chain L1 j2
  clear y0 y1 y2 y3 y4 hin1
  go_upto_region 6 with (first
    | (go_at_call 23; refine (cD _ (hK.call L2)).mono ?_; rintro e w3 ⟨rfl, j3⟩)
    | fail)
  have B3 := B2.call j3
  have L3 := chain L2 j3
  go_upto_region 8 with (first
    | (go_at_call 15; refine (cW _).mono ?_; rintro e w' ⟨rfl, rfl⟩)
    | fail)
  go_upto_region 9 with (first
    | (go_at_call 23; refine (cE _ (hK.call L3)).mono ?_; rintro e w4 ⟨rfl, j4⟩)
    | fail)
  have B4 := B3.call j4
  have L4 := chain L3 j4
  have hR : R.size = 32 := zR
  clear B0 B1 B2 B3 L0 L1 L2 L3 j1 j2 j3 j4 cA cL cD cE cW ht
  go_cut [88] (fun v W' => v = .bool false ∧ Below w.heap.size w W' ∧ Box W' w.heap.size 26 (lfB p i s h' l))
  case first =>
    clear hz hq cT cM cN cQ
    rcases hmore with hv | ⟨hv, hkm⟩ | ⟨hv, hkm, M, hM, zM, hMk⟩
    · rw [hv] at cV
      clear cG
      go_wp2_with (first
        | (go_at_call 36; refine (cS _ (hK.call L4)).mono ?_; rintro e w5 ⟨rfl, j5⟩)
        | (go_at_call 15; refine (cV _).mono ?_; rintro e w' ⟨rfl, rfl⟩))
      go_meet
      exact ⟨rfl, chain L4 j5, B4.call j5⟩
    · rw [hv] at cV
      clear cG
      go_wp2_with (first
        | (go_at_call 36; refine (cS _ (hK.call L4)).mono ?_; rintro e w5 ⟨rfl, j5⟩)
        | (go_at_call 15; refine (cV _).mono ?_; rintro e w' ⟨rfl, rfl⟩))
      go_meet
      exact ⟨rfl, chain L4 j5, B4.call j5⟩
    · rw [hv] at cV
      rw [hM] at cG
      clear hM
      go_wp2_with (first
        | (go_at_call 36; refine (cS _ (hK.call L4)).mono ?_; rintro e w5 ⟨rfl, j5⟩; have L5 := chain L4 j5)
        | (go_at_call 15; refine (cV _).mono ?_; rintro e w' ⟨rfl, rfl⟩)
        | (go_at_call 23; refine (cG _ (hK.call L5)).mono ?_; rintro e w6 ⟨rfl, j6⟩))
      go_meet
      exact ⟨rfl, chain L5 j6, (B4.call j5).call j6⟩
  case rest =>
    obtain ⟨rfl, L5, B5⟩ := hcut
    clear hmore cG cV cS L4 B4
    obtain ⟨⟨y0, y1, y2, y3, y4⟩, -, hin1⟩ := B5.five0
    cases V with
    | false =>
      rw [if_neg (by decide)] at cN
      simp only [Nd.zero, Nd.val] at cN
      go_upto_region 12 with (first
        | (go_at_call 25; refine (cN _ (hK.call L5) (hT.call L5)).mono ?_; rintro e w7 ⟨rfl, j7⟩)
        | fail)
      have H7 := ((Has.one B5 L5).call j7).add 35 #[.string ⟨#[]⟩, .int .u64 0, .int .u64 0]
      change Code.wp _ _ _ _ (w7.alloc (.cells #[.string ⟨#[]⟩, .int .u64 0, .int .u64 0] 35))
      generalize w7.heap.size = gn at *
      generalize w7.alloc (.cells #[.string ⟨#[]⟩, .int .u64 0, .int .u64 0] 35) = W7 at *
      clear y0 y1 y2 y3 y4 hin1
      obtain ⟨⟨y0, y1, y2, y3, y4⟩, -, hin1⟩ := (H7.box 1).five0
      go_upto_region 13 with (first
        | (go_at_call 17; refine (cM _ (hT.call H7.below)).mono ?_; rintro e w8 ⟨rfl, j8⟩)
        | fail)
      have H8 := H7.call j8
      obtain ⟨⟨z0, z1, z2⟩, -, -, -, hin2⟩ := (H8.box 0).three0
      go_wp2
      go_ret
      exact ⟨rfl, H8.below⟩
    | true =>
      rw [if_pos rfl] at cN
      simp only [Nd.val] at cN
      go_upto_region 12 with (first
        | (go_at_call 25; refine (cN _ (hK.call L5) (hT.call L5)).mono ?_; rintro e w7 ⟨rfl, j7⟩)
        | fail)
      have H7 := ((Has.one B5 L5).call j7).add 35 #[.string Q, .int .u64 h', .int .u64 l]
      change Code.wp _ _ _ _ (w7.alloc (.cells #[.string Q, .int .u64 h', .int .u64 l] 35))
      generalize w7.heap.size = gn at *
      generalize w7.alloc (.cells #[.string Q, .int .u64 h', .int .u64 l] 35) = W7 at *
      clear y0 y1 y2 y3 y4 hin1
      obtain ⟨⟨y0, y1, y2, y3, y4⟩, -, hin1⟩ := (H7.box 1).five0
      go_upto_region 14 with (first
        | (go_at_call 17; refine (cM _ (hT.call H7.below)).mono ?_; rintro e w8 ⟨rfl, j8⟩)
        | fail)
      have H8 := H7.call j8
      clear y0 y1 y2 y3 y4 hin1 H7 j7 j8 B5 L5
      have fact : ∀ u, Has w [(gn, 35, #[.string Q, .int .u64 h', .int .u64 l]), (w.heap.size, 26, lfB p i s h' l)] u →
          (u.cell? ⟨w.heap.size, 0, none⟩ = some (.bool p) ∧ u.cell? ⟨w.heap.size, 1, none⟩ = some (.string i) ∧ u.cell? ⟨w.heap.size, 2, none⟩ = some (.string s) ∧ u.cell? ⟨w.heap.size, 3, none⟩ = some (.int .u64 h') ∧ u.cell? ⟨w.heap.size, 4, none⟩ = some (.int .u64 l)) ∧
          (u.cell? ⟨gn, 0, none⟩ = some (.string Q) ∧ u.cell? ⟨gn, 1, none⟩ = some (.int .u64 h') ∧ u.cell? ⟨gn, 2, none⟩ = some (.int .u64 l)) := fun u h => ⟨(h.box 1).five0.1, (h.box 0).three0.1⟩
      have tabK : ∀ u, (Has w [(gn, 35, #[.string Q, .int .u64 h', .int .u64 l]), (w.heap.size, 26, lfB p i s h' l)] u ∧
          ((u.cell? ⟨w.heap.size, 0, none⟩ = some (.bool p) ∧ u.cell? ⟨w.heap.size, 1, none⟩ = some (.string i) ∧ u.cell? ⟨w.heap.size, 2, none⟩ = some (.string s) ∧ u.cell? ⟨w.heap.size, 3, none⟩ = some (.int .u64 h') ∧ u.cell? ⟨w.heap.size, 4, none⟩ = some (.int .u64 l)) ∧
          (u.cell? ⟨gn, 0, none⟩ = some (.string Q) ∧ u.cell? ⟨gn, 1, none⟩ = some (.int .u64 h') ∧ u.cell? ⟨gn, 2, none⟩ = some (.int .u64 l)))) → Tab u ∧ TabU u := fun u h => ⟨hK.call h.1.below, hT.call h.1.below⟩
      go_region_held3 (fun u => Has w [(gn, 35, #[.string Q, .int .u64 h', .int .u64 l]), (w.heap.size, 26, lfB p i s h' l)] u ∧
          ((u.cell? ⟨w.heap.size, 0, none⟩ = some (.bool p) ∧ u.cell? ⟨w.heap.size, 1, none⟩ = some (.string i) ∧ u.cell? ⟨w.heap.size, 2, none⟩ = some (.string s) ∧ u.cell? ⟨w.heap.size, 3, none⟩ = some (.int .u64 h') ∧ u.cell? ⟨w.heap.size, 4, none⟩ = some (.int .u64 l)) ∧
          (u.cell? ⟨gn, 0, none⟩ = some (.string Q) ∧ u.cell? ⟨gn, 1, none⟩ = some (.int .u64 h') ∧ u.cell? ⟨gn, 2, none⟩ = some (.int .u64 l))))
        (first
          | with_reducible exact held_drew fact H8
          | with_reducible exact held_keep fact (by assumption) (by assumption)
          | with_reducible assumption
          | fail)
        (first
          | (go_at_call 19; refine (cT _ (tabK _ (by assumption)).2).mono ?_; rintro e v1 ⟨rfl, q1⟩)
          | (go_at_call 23; refine (cQ _ (tabK _ (by assumption)).1).mono ?_; rintro e v2 ⟨rfl, q2⟩)
          | fail)
      all_goals go_wp2
      all_goals go_ret
      all_goals exact ⟨rfl, Has.below (And.left (by assumption))⟩

theorem tagWidths_core (H : Type) (enc : TypeId × Value → H) (W : World) (base : Nat) (args : Array Value) (ds gs : List (DataW H)) (before : List MemPlace)
    (hval : ∀ (j : Nat) t v, Tryd.f8.params[j]? = some t → args[j]? = some v → Value.okWide Tryd.prog W .any base t v)
    (hW : DataW.Whole enc Tryd.prog Tryd.f8.params.toList Rows.tagWidthsSpec.vars false W args.toList ds gs before) (hT : Tab W ∧ TabU W) :
    gs = [] ∧ ds.length = 4 ∧ Calls Tryd.prog 8 args W (Tells (.bool true) W.heap.size W) := by
  obtain ⟨p, q, hA, hV, -, -, -⟩ := hW
  obtain ⟨rfl, rfl⟩ := trodVars_none hV
  have hA : DataW.TrodAll enc Tryd.prog W 0 (fun _ => true) true Tryd.f8.params.toList args.toList ds p := hA
  rw [Tryd.params8] at hA hval
  obtain ⟨v0, vs0, d0, ds0, p0, ps0, e0, rfl, -, h0, hA⟩ := trodAll_cons hA
  obtain ⟨v1, vs1, d1, ds1, p1, ps1, rfl, rfl, -, h1, hA⟩ := trodAll_cons hA
  obtain ⟨v2, vs2, d2, ds2, p2, ps2, rfl, rfl, -, h2, hA⟩ := trodAll_cons hA
  obtain ⟨v3, vs3, d3, ds3, p3, ps3, rfl, rfl, -, h3, hA⟩ := trodAll_cons hA
  obtain ⟨rfl, rfl, rfl⟩ := trodAll_nil hA
  obtain rfl : args = #[v0, v1, v2, v3] := Array.ext' e0
  obtain ⟨x, rfl, z1, z2, z3, z4⟩ := open_leaf (hval 0 26 v0 rfl rfl) h0
  obtain ⟨text, rfl, rfl, rfl, z5⟩ := Go.ChangeMaps.open_string Tryd.underlying9 (hval 1 9 v1 rfl rfl) h1
  obtain ⟨n, rfl, -, -, bn⟩ := open_int Tryd.underlying3 (hval 2 3 v2 rfl rfl) h2
  obtain ⟨m, rfl, -, -, bm⟩ := open_int Tryd.underlying3 (hval 3 3 v3 rfl rfl) h3
  have hm := int64_of (x := m) (by simpa using bm)
  refine ⟨rfl, rfl, ?_⟩
  by_cases h : (300 < x.id.size ∨ 300 < x.salt.size) ∨ 1000 < text.size
  · exact widths_long x text n m h z1 z2 z5 W hT.1 hT.2
  · cases hn : mayW n with
    | false => exact widths_none x text n m hn (by omega) (by omega) (by omega) z3 z4 W hT.1 hT.2
    | true =>
      have hb := of_decide_eq_true hn
      obtain ⟨k, rfl⟩ := Int.eq_ofNat_of_zero_le (show 0 ≤ n by omega)
      exact widths_some x text k m (by omega) (by omega) hm (by omega) (by omega) (by omega) z3 z4 W hT.1 hT.2

set_option maxRecDepth 100000 in
theorem tagWidths_lifted (os : Os) (started : os.Started) (H : Type) (enc : TypeId × Value → H) :
    ReturnsInHanded {} Tryd.checked os 8 .any (fun w args => (Rows.tagWidthsSpec.pre enc Tryd.prog Tryd.f8 [] false w args ∧ laidMetH Tryd.prog laidA w) ∧ sizedMet enc Tryd.prog Tryd.f8 (OpenSpec.ofChange Rows.tagWidthsSpec) false w args)
      (Rows.tagWidthsSpec.post enc Tryd.prog Tryd.f8 false true false false) := by
  refine returnsInHanded_of_change_and (C := Tryd.checked) (X := fun w _ => laidMetH Tryd.prog laidA w) (fun _ _ _ hh h => h.of_heap hh) own_knob started (by kernel_rfl) Tryd.func8
    (ChangeSpec.witness_shaped (enc := enc) (C := Tryd.checked) (os := os) (X := fun w _ => laidMetH Tryd.prog laidA w) false (World.laidAll Tryd.prog os laidA) #[.agg #[.bool false, .string ⟨#[]⟩, .string ⟨#[]⟩, .int .u64 0, .int .u64 0], .string ⟨#[]⟩, .int .i64 0, .int .i64 0] 8 (World.laidAll_os _ _ _) (World.shaped_of_ZipB (by kernel_rfl) (by kernel_rfl)) (by kernel_rfl) (by kernel_rfl) (by kernel_rfl) (met_A os _)) ?_
  intro W base args ds gs before hval0 hW _ hwt hL _
  have hval : ∀ (j : Nat) t v, Tryd.f8.params[j]? = some t → args[j]? = some v → Value.okWide Tryd.prog W .any base t v := hval0
  obtain ⟨hg, hlen, hc⟩ := tagWidths_core H enc W base args ds gs before hval hW (tab_of_laidA hL)
  subst hg
  have hr : (Tryd.f8.params.toList.all fun t => Tryd.prog.readableRec t && decide (t < Tryd.prog.types.size)) = true := by kernel_rfl
  have hread : ∀ t ∈ Tryd.f8.params.toList, Tryd.prog.readableRec t = true ∧ t < Tryd.prog.types.size := fun t ht => by
    have h := List.all_eq_true.1 hr t ht
    rw [Bool.and_eq_true, decide_eq_true_eq] at h
    exact h
  refine hc.mono fun e W' ⟨he, hb⟩ => ?_
  subst he
  match ds, hlen with
  | [d0, d1, d2, d3], _ => exact ⟨_, rfl, law_post laid_out Tryd.underlying4 rfl hread rfl hW rfl rfl rfl hb⟩

theorem tagWidths_holds : Rows.TagWidthsSaid :=
  OpenClaim.holds_of_wide 8 Tryd.f8 rfl rfl rfl rfl rfl rfl rfl ⟨rfl, rfl, rfl, rfl, rfl⟩ rfl rfl rfl rfl rfl (by kernel_rfl) Tryd.func8 (by kernel_rfl)
    (of_decide_eq_true (by kernel_rfl)) (by unfold Func.isWrapper; first | (rw [if_pos (by decide +kernel)]; kernel_rfl) | (rw [if_neg (by decide +kernel)]; exact ⟨rfl, rfl⟩))
    (fun os started H enc _ => tagWidths_lifted os started H enc)

theorem tagWidths_card : Rows.TagWidthsCardSaid :=
  Claim7.holds_tied_plain_at .later [] [.data, .data, .pinned] true _ false
    tagWidths_holds (fun _ h => by cases h) (by kernel_rfl) (fun _ h => by cases h) tagWidths_row_tie rfl ⟨rfl, rfl⟩ (by kernel_rfl) rfl
    (fun f fn hf hfn => by
      obtain rfl : f = 8 := Option.some.inj ((show Tryd.prog.funcNamed "paymaster/paymasterlaw07.TagWidths" = some 8 by kernel_rfl).symm.trans hf) |>.symm
      obtain rfl : fn = Tryd.f8 := (Option.some.inj (Tryd.func8.symm.trans hfn)).symm
      exact ⟨by kernel_rfl, fun j t ht => by
        have hm : t ∈ Tryd.f8.params.toList := by simpa using Array.mem_of_getElem? ht
        have hall : (Tryd.f8.params.toList.all fun u => !Tryd.prog.wantsStandIn u) = true := by kernel_rfl
        exact (show Tryd.prog.wantsStandIn t = false by simpa using List.all_eq_true.1 hall t hm)⟩)
    (by kernel_rfl)

end Go.Proofs.YtkmnfogcocppjaaDoor
