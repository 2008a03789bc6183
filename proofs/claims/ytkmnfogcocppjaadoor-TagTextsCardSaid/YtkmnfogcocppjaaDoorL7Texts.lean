/-
  The law TagTexts: whether any text is an Id, any width, any leaf may be, the leaf's text, and the leaf whose text any is, is what the chapter says.
  Conditions: utf8's two tables hold what Go's library lays (one tied by the card, one the form's constant).
-/
import Derived.Test.YtkmnfogcocppjaaDoorR7Read
import Derived.Test.YtkmnfogcocppjaaDoorW7Laid
namespace Go.Proofs.YtkmnfogcocppjaaDoor
set_option linter.unusedVariables false
set_option linter.unusedSimpArgs false
set_option maxRecDepth 10000
open Go.ChangeShapes Go.WideShapes Go.ChangeAt Go.RowKit

set_option maxHeartbeats 1000000 in
theorem long_any (x : Lf) (h1 : x.id.size ≤ 9223372036854775807) (h2 : x.salt.size ≤ 9223372036854775807) (w : World) : Calls Tryd.prog 10 #[x.val] w (Tells (.bool (decide (300 < x.id.size) || decide (300 < x.salt.size))) w.heap.size w) := by
  obtain ⟨p, i, s, h, l⟩ := x
  simp only at h1 h2 ⊢
  have B0 : Box (w.alloc (.cells (lfB p i s h l) 26)) w.heap.size 26 (lfB p i s h l) := Box.made w _ _
  have L0 : Below w.heap.size w (w.alloc (.cells (lfB p i s h l) 26)) := by repeat (first | exact Below.refl _ _ | apply Below.drew | apply below_drewN | refine Below.alloc ?_ (by simp; try omega) _ | refine Below.setCell ?_ (by simp; try omega) _)
  show Calls _ _ #[.agg (lfB p i s h l)] _ _
  obtain ⟨A, hA⟩ : ∃ A, (decide (300 < i.size) || decide (300 < s.size)) = A := ⟨_, rfl⟩
  rw [hA]
  have HA := hideIt hA
  clear hA
  go_enter Tryd.func10, Tryd.ntmps10
  go_upto_region 1 with fail
  change Code.wp _ _ _ _ (w.alloc (.cells (lfB p i s h l) 26))
  generalize w.alloc (.cells (lfB p i s h l) 26) = W at *
  obtain ⟨⟨y0, y1, y2, y3, y4⟩, -, hin1⟩ := B0.five0
  by_cases a1 : (300 : Int) < (i.size : Int)
  · have e := HA.out
    rw [decide_eq_true (show 300 < i.size by omega), Bool.true_or] at e
    subst e
    go_wp2
    go_ret
    exact ⟨rfl, L0⟩
  · have e := HA.out
    rw [decide_eq_false (show ¬ 300 < i.size by omega), Bool.false_or] at e
    have e2 : decide ((300 : Int) < (s.size : Int)) = A := by rw [← e]; exact decide_eq_decide.2 (by omega)
    clear e HA
    go_wp2
    go_ret
    exact ⟨rfl, L0⟩
set_option maxHeartbeats 1000000 in
theorem rmayWidth7_any (n : Int) (w : World) : Calls Tryd.prog 16 #[.int .i64 n] w (Plain (.bool (decide (1 ≤ n ∧ n ≤ 32))) w) := by
  by_cases h1 : 1 ≤ n
  · obtain ⟨A, hA⟩ : ∃ A, decide (1 ≤ n ∧ n ≤ 32) = A := ⟨_, rfl⟩
    have e : decide (n ≤ 32) = A := by rw [← hA]; exact decide_eq_decide.2 ⟨fun h => ⟨h1, h⟩, fun h => h.2⟩
    rw [hA]
    clear hA
    go_enter Tryd.func16, Tryd.ntmps16
    go_wp2
    go_ret
    exact ⟨rfl, rfl⟩
  · rw [decide_eq_false (show ¬ (1 ≤ n ∧ n ≤ 32) from fun h => h1 h.1)]
    go_enter Tryd.func16, Tryd.ntmps16
    go_wp2
    go_ret
    exact ⟨rfl, rfl⟩
set_option maxHeartbeats 1000000 in
theorem umayWidth7_any (n : Int) (w : World) : Calls Tryd.prog 15 #[.int .i64 n] w (Plain (.bool (decide (1 ≤ n ∧ n ≤ 32))) w) := by
  by_cases h1 : 1 ≤ n
  · obtain ⟨A, hA⟩ : ∃ A, decide (1 ≤ n ∧ n ≤ 32) = A := ⟨_, rfl⟩
    have e : decide (n ≤ 32) = A := by rw [← hA]; exact decide_eq_decide.2 ⟨fun h => ⟨h1, h⟩, fun h => h.2⟩
    rw [hA]
    clear hA
    go_enter Tryd.func15, Tryd.ntmps15
    go_wp2
    go_ret
    exact ⟨rfl, rfl⟩
  · rw [decide_eq_false (show ¬ (1 ≤ n ∧ n ≤ 32) from fun h => h1 h.1)]
    go_enter Tryd.func15, Tryd.ntmps15
    go_wp2
    go_ret
    exact ⟨rfl, rfl⟩
theorem int64_of {x : Int} (h : (Lit.int .i64 x).wf = true) : -9223372036854775808 ≤ x ∧ x ≤ 9223372036854775807 := by
  simp [Lit.wf, IntKind.min, IntKind.max, IntKind.signed, IntKind.bits] at h
  omega
theorem eql_lf_same (x : Lf) (w : World) : (binOp .eql 26 x.val x.val).run Tryd.prog w = .ok (.bool true) w := by rw [run_eql_lf, Lf.same_self]

set_option maxHeartbeats 2000000 in
theorem texts_long (x : Lf) (text : ByteArray) (n : Int) (h : (300 < x.id.size ∨ 300 < x.salt.size) ∨ 1000 < text.size) (h1 : x.id.size ≤ 9223372036854775807) (h2 : x.salt.size ≤ 9223372036854775807) (h3 : text.size ≤ 9223372036854775807) (w : World) :
    Calls Tryd.prog 3 #[x.val, .string text, .int .i64 n] w (Tells (.bool true) w.heap.size w) := by
  have cL := fun u => long_any x h1 h2 u
  obtain ⟨p, i, s, h', l⟩ := x
  have B0 : Box (w.alloc (.cells (lfB p i s h' l) 26)) w.heap.size 26 (lfB p i s h' l) := Box.made w _ _
  have L0 : Below w.heap.size w (w.alloc (.cells (lfB p i s h' l) 26)) := by repeat (first | exact Below.refl _ _ | apply Below.drew | apply below_drewN | refine Below.alloc ?_ (by simp; try omega) _ | refine Below.setCell ?_ (by simp; try omega) _)
  have ev : Lf.val ⟨p, i, s, h', l⟩ = .agg (lfB p i s h' l) := rfl
  rw [ev] at cL ⊢
  clear ev
  have hA : (decide (300 < i.size) || decide (300 < s.size)) = true ∨ ((decide (300 < i.size) || decide (300 < s.size)) = false ∧ (1000 : Int) < (text.size : Int)) := by
    rcases h with (h | h) | h
    · exact Or.inl (by simp only at h; rw [decide_eq_true h]; rfl)
    · exact Or.inl (by simp only at h; rw [decide_eq_true h, Bool.or_true])
    · cases (decide (300 < i.size) || decide (300 < s.size)) with
      | true => exact Or.inl rfl
      | false => exact Or.inr ⟨rfl, by omega⟩
  simp only at cL
  generalize (decide (300 < i.size) || decide (300 < s.size)) = A at *
  clear h
  go_enter Tryd.func3, Tryd.ntmps3
  go_upto_region 1 with fail
  change Code.wp _ _ _ _ (w.alloc (.cells (lfB p i s h' l) 26))
  generalize w.alloc (.cells (lfB p i s h' l) 26) = W at *
  obtain ⟨⟨y0, y1, y2, y3, y4⟩, -, hin1⟩ := B0.five0
  rcases hA with rfl | ⟨rfl, ht⟩
  · go_wp2_with (first | (go_at_call 10; refine (cL _).mono ?_; rintro e w1 ⟨rfl, b1⟩))
    go_ret
    exact ⟨rfl, chain L0 b1⟩
  · go_wp2_with (first | (go_at_call 10; refine (cL _).mono ?_; rintro e w1 ⟨rfl, b1⟩))
    go_ret
    exact ⟨rfl, chain L0 b1⟩

set_option maxRecDepth 100000 in
set_option maxHeartbeats 8000000 in
theorem texts_short (x : Lf) (text : ByteArray) (n : Int) (h1 : x.id.size ≤ 300) (h2 : x.salt.size ≤ 300) (h3 : text.size ≤ 1000) (hh : Word x.h) (hl : Word x.l) (w : World) (hT : TabU w) :
    Calls Tryd.prog 3 #[x.val, .string text, .int .i64 n] w (Tells (.bool true) w.heap.size w) := by
  have cL := fun u => long_any x (by omega) (by omega) u
  have a1 := fun u hu => read_any text (by omega) u hu
  have b1 := fun u => rread_any text (by omega) u
  have a2 := fun u hu => mayId_any text (by omega) u hu
  have b2 := fun u => rmayId_any text (by omega) u
  have a3 := fun u => umayWidth7_any n u
  have b3 := fun u => rmayWidth7_any n u
  have a4 := fun u hu => mayLeaf_any x (by omega) (by omega) u hu
  have b4 := fun u => rmayLeaf_any x (by omega) (by omega) u
  have a5 := fun u hu => leafText_any x (by omega) (by omega) hh hl u hu
  have b5 := fun u => rleafText_any x (by omega) (by omega) hh hl u
  have hA : (decide (300 < x.id.size) || decide (300 < x.salt.size)) = false := by rw [decide_eq_false (show ¬ 300 < x.id.size by omega), decide_eq_false (show ¬ 300 < x.salt.size by omega)]; rfl
  rw [hA] at cL
  have ht : ¬ ((1000 : Int) < (text.size : Int)) := by omega
  have hx := fun u => eql_lf_same (rdL text) u
  clear hA
  unfold rdV at a1 b1
  generalize rdL text = y at *
  generalize (rd text).isSome = q at *
  generalize isId text.data.toList = A2 at *
  generalize decide (1 ≤ n ∧ n ≤ 32) = A3 at *
  generalize x.may = A4 at *
  generalize x.text = T at *
  obtain ⟨p, i, s, h', l⟩ := x
  have B0 : Box (w.alloc (.cells (lfB p i s h' l) 26)) w.heap.size 26 (lfB p i s h' l) := Box.made w _ _
  have L0 : Below w.heap.size w (w.alloc (.cells (lfB p i s h' l) 26)) := by repeat (first | exact Below.refl _ _ | apply Below.drew | apply below_drewN | refine Below.alloc ?_ (by simp; try omega) _ | refine Below.setCell ?_ (by simp; try omega) _)
  have ev : Lf.val ⟨p, i, s, h', l⟩ = .agg (lfB p i s h' l) := rfl
  rw [ev] at cL a4 b4 a5 b5 ⊢
  clear ev
  simp only [Lf.val] at a1 b1 hx
  go_enter Tryd.func3, Tryd.ntmps3
  go_upto_region 1 with fail
  change Code.wp _ _ _ _ (w.alloc (.cells (lfB p i s h' l) 26))
  generalize w.alloc (.cells (lfB p i s h' l) 26) = W at *
  have H0 : Has w [(w.heap.size, 26, lfB p i s h' l)] W := ⟨fun b hb => by
    obtain rfl : b = (w.heap.size, 26, lfB p i s h' l) := by simpa using hb
    exact B0, L0⟩
  obtain ⟨⟨y0, y1, y2, y3, y4⟩, -, hin1⟩ := B0.five0
  go_upto_region 3 with (first
    | (go_at_call 10; refine (cL _).mono ?_; rintro e w1 ⟨rfl, j1⟩)
    | fail)
  have H1 := H0.call j1
  clear y0 y1 y2 y3 y4 hin1
  go_upto_region 4 with (first
    | (go_at_call 11; refine (a1 _ (hT.call H1.below)).mono ?_; rintro e w2 ⟨rfl, j2⟩)
    | fail)
  have H2 := (H1.call j2).add 26 (lfB y.pad y.id y.salt y.h y.l)
  change Code.wp _ _ _ _ (w2.alloc (.cells (lfB y.pad y.id y.salt y.h y.l) 26))
  generalize w2.heap.size = ga at *
  generalize w2.alloc (.cells (lfB y.pad y.id y.salt y.h y.l) 26) = W2 at *
  go_upto_region 5 with (first
    | (go_at_call 12; refine (b1 _).mono ?_; rintro e w3 ⟨rfl, j3⟩)
    | fail)
  have H3 := (H2.call j3).add 26 (lfB y.pad y.id y.salt y.h y.l)
  change Code.wp _ _ _ _ (w3.alloc (.cells (lfB y.pad y.id y.salt y.h y.l) 26))
  generalize w3.heap.size = gb at *
  generalize w3.alloc (.cells (lfB y.pad y.id y.salt y.h y.l) 26) = W3 at *
  have fact : ∀ u, Has w [(gb, 26, lfB y.pad y.id y.salt y.h y.l), (ga, 26, lfB y.pad y.id y.salt y.h y.l), (w.heap.size, 26, lfB p i s h' l)] u →
      (u.cell? ⟨w.heap.size, 0, none⟩ = some (.bool p) ∧ u.cell? ⟨w.heap.size, 1, none⟩ = some (.string i) ∧ u.cell? ⟨w.heap.size, 2, none⟩ = some (.string s) ∧ u.cell? ⟨w.heap.size, 3, none⟩ = some (.int .u64 h') ∧ u.cell? ⟨w.heap.size, 4, none⟩ = some (.int .u64 l)) ∧
      (u.cell? ⟨ga, 0, none⟩ = some (.bool y.pad) ∧ u.cell? ⟨ga, 1, none⟩ = some (.string y.id) ∧ u.cell? ⟨ga, 2, none⟩ = some (.string y.salt) ∧ u.cell? ⟨ga, 3, none⟩ = some (.int .u64 y.h) ∧ u.cell? ⟨ga, 4, none⟩ = some (.int .u64 y.l)) ∧
      (u.cell? ⟨gb, 0, none⟩ = some (.bool y.pad) ∧ u.cell? ⟨gb, 1, none⟩ = some (.string y.id) ∧ u.cell? ⟨gb, 2, none⟩ = some (.string y.salt) ∧ u.cell? ⟨gb, 3, none⟩ = some (.int .u64 y.h) ∧ u.cell? ⟨gb, 4, none⟩ = some (.int .u64 y.l)) :=
    fun u h => ⟨(h.box 2).five0.1, (h.box 1).five0.1, (h.box 0).five0.1⟩
  have tabOf : ∀ u, (Has w [(gb, 26, lfB y.pad y.id y.salt y.h y.l), (ga, 26, lfB y.pad y.id y.salt y.h y.l), (w.heap.size, 26, lfB p i s h' l)] u ∧
      ((u.cell? ⟨w.heap.size, 0, none⟩ = some (.bool p) ∧ u.cell? ⟨w.heap.size, 1, none⟩ = some (.string i) ∧ u.cell? ⟨w.heap.size, 2, none⟩ = some (.string s) ∧ u.cell? ⟨w.heap.size, 3, none⟩ = some (.int .u64 h') ∧ u.cell? ⟨w.heap.size, 4, none⟩ = some (.int .u64 l)) ∧
      (u.cell? ⟨ga, 0, none⟩ = some (.bool y.pad) ∧ u.cell? ⟨ga, 1, none⟩ = some (.string y.id) ∧ u.cell? ⟨ga, 2, none⟩ = some (.string y.salt) ∧ u.cell? ⟨ga, 3, none⟩ = some (.int .u64 y.h) ∧ u.cell? ⟨ga, 4, none⟩ = some (.int .u64 y.l)) ∧
      (u.cell? ⟨gb, 0, none⟩ = some (.bool y.pad) ∧ u.cell? ⟨gb, 1, none⟩ = some (.string y.id) ∧ u.cell? ⟨gb, 2, none⟩ = some (.string y.salt) ∧ u.cell? ⟨gb, 3, none⟩ = some (.int .u64 y.h) ∧ u.cell? ⟨gb, 4, none⟩ = some (.int .u64 y.l)))) → TabU u := fun u h => hT.call h.1.below
  clear j1 j2 j3 H0 H1 H2 B0 L0 cL a1 b1
  go_region_held3 (fun u => Has w [(gb, 26, lfB y.pad y.id y.salt y.h y.l), (ga, 26, lfB y.pad y.id y.salt y.h y.l), (w.heap.size, 26, lfB p i s h' l)] u ∧
      ((u.cell? ⟨w.heap.size, 0, none⟩ = some (.bool p) ∧ u.cell? ⟨w.heap.size, 1, none⟩ = some (.string i) ∧ u.cell? ⟨w.heap.size, 2, none⟩ = some (.string s) ∧ u.cell? ⟨w.heap.size, 3, none⟩ = some (.int .u64 h') ∧ u.cell? ⟨w.heap.size, 4, none⟩ = some (.int .u64 l)) ∧
      (u.cell? ⟨ga, 0, none⟩ = some (.bool y.pad) ∧ u.cell? ⟨ga, 1, none⟩ = some (.string y.id) ∧ u.cell? ⟨ga, 2, none⟩ = some (.string y.salt) ∧ u.cell? ⟨ga, 3, none⟩ = some (.int .u64 y.h) ∧ u.cell? ⟨ga, 4, none⟩ = some (.int .u64 y.l)) ∧
      (u.cell? ⟨gb, 0, none⟩ = some (.bool y.pad) ∧ u.cell? ⟨gb, 1, none⟩ = some (.string y.id) ∧ u.cell? ⟨gb, 2, none⟩ = some (.string y.salt) ∧ u.cell? ⟨gb, 3, none⟩ = some (.int .u64 y.h) ∧ u.cell? ⟨gb, 4, none⟩ = some (.int .u64 y.l))))
    (first
      | with_reducible exact held_drew fact H3
      | with_reducible exact held_keep fact (by assumption) (by assumption)
      | with_reducible assumption
      | fail)
    (first
      | (go_at_call 13; refine (a2 _ (tabOf _ (by assumption))).mono ?_; rintro e v1 ⟨rfl, k1⟩)
      | (go_at_call 14; refine (b2 _).mono ?_; rintro e v2 ⟨rfl, rfl⟩)
      | (go_at_call 15; refine (a3 _).mono ?_; rintro e v3 ⟨rfl, rfl⟩)
      | (go_at_call 16; refine (b3 _).mono ?_; rintro e v4 ⟨rfl, rfl⟩)
      | (go_at_call 17; refine (a4 _ (tabOf _ (by assumption))).mono ?_; rintro e v5 ⟨rfl, k5⟩)
      | (go_at_call 18; refine (b4 _).mono ?_; rintro e v6 ⟨rfl, k6⟩)
      | (go_at_call 19; refine (a5 _ (tabOf _ (by assumption))).mono ?_; rintro e v7 ⟨rfl, k7⟩)
      | (go_at_call 20; refine (b5 _).mono ?_; rintro e v8 ⟨rfl, k8⟩)
      | fail)
  all_goals go_wp2
  all_goals go_ret
  all_goals exact ⟨rfl, Has.below (And.left (by assumption))⟩

theorem tagTexts_core (H : Type) (enc : TypeId × Value → H) (W : World) (base : Nat) (args : Array Value) (ds gs : List (DataW H)) (before : List MemPlace)
    (hval : ∀ (j : Nat) t v, Tryd.f3.params[j]? = some t → args[j]? = some v → Value.okWide Tryd.prog W .any base t v)
    (hW : DataW.Whole enc Tryd.prog Tryd.f3.params.toList Rows.tagTextsSpec.vars false W args.toList ds gs before) (hT : TabU W) :
    gs = [] ∧ ds.length = 3 ∧ Calls Tryd.prog 3 args W (Tells (.bool true) W.heap.size W) := by
  obtain ⟨p, q, hA, hV, -, -, -⟩ := hW
  obtain ⟨rfl, rfl⟩ := trodVars_none hV
  have hA : DataW.TrodAll enc Tryd.prog W 0 (fun _ => true) true Tryd.f3.params.toList args.toList ds p := hA
  rw [Tryd.params3] at hA hval
  obtain ⟨v0, vs0, d0, ds0, p0, ps0, e0, rfl, -, h0, hA⟩ := trodAll_cons hA
  obtain ⟨v1, vs1, d1, ds1, p1, ps1, rfl, rfl, -, h1, hA⟩ := trodAll_cons hA
  obtain ⟨v2, vs2, d2, ds2, p2, ps2, rfl, rfl, -, h2, hA⟩ := trodAll_cons hA
  obtain ⟨rfl, rfl, rfl⟩ := trodAll_nil hA
  obtain rfl : args = #[v0, v1, v2] := Array.ext' e0
  obtain ⟨x, rfl, z1, z2, z3, z4⟩ := open_leaf (hval 0 26 v0 rfl rfl) h0
  obtain ⟨text, rfl, rfl, rfl, z5⟩ := Go.ChangeMaps.open_string Tryd.underlying9 (hval 1 9 v1 rfl rfl) h1
  obtain ⟨n, rfl, -, -, bn⟩ := open_int Tryd.underlying3 (hval 2 3 v2 rfl rfl) h2
  refine ⟨rfl, rfl, ?_⟩
  by_cases h : (300 < x.id.size ∨ 300 < x.salt.size) ∨ 1000 < text.size
  · exact texts_long x text n h z1 z2 z5 W
  · exact texts_short x text n (by omega) (by omega) (by omega) z3 z4 W hT

set_option maxRecDepth 100000 in
theorem tagTexts_lifted (os : Os) (started : os.Started) (H : Type) (enc : TypeId × Value → H) :
    ReturnsInHanded {} Tryd.checked os 3 .any (fun w args => (Rows.tagTextsSpec.pre enc Tryd.prog Tryd.f3 [] false w args ∧ laidMetH Tryd.prog laidU w) ∧ sizedMet enc Tryd.prog Tryd.f3 (OpenSpec.ofChange Rows.tagTextsSpec) false w args)
      (Rows.tagTextsSpec.post enc Tryd.prog Tryd.f3 false true false false) := by
  refine returnsInHanded_of_change_and (C := Tryd.checked) (X := fun w _ => laidMetH Tryd.prog laidU w) (fun _ _ _ hh h => h.of_heap hh) own_knob started (by kernel_rfl) Tryd.func3
    (ChangeSpec.witness_shaped (enc := enc) (C := Tryd.checked) (os := os) (X := fun w _ => laidMetH Tryd.prog laidU w) false (World.laidAll Tryd.prog os laidU) #[.agg #[.bool false, .string ⟨#[]⟩, .string ⟨#[]⟩, .int .u64 0, .int .u64 0], .string ⟨#[]⟩, .int .i64 0] 8 (World.laidAll_os _ _ _) (World.shaped_of_ZipB (by kernel_rfl) (by kernel_rfl)) (by kernel_rfl) (by kernel_rfl) (by kernel_rfl) (met_U os _)) ?_
  intro W base args ds gs before hval0 hW _ hwt hL _
  have hval : ∀ (j : Nat) t v, Tryd.f3.params[j]? = some t → args[j]? = some v → Value.okWide Tryd.prog W .any base t v := hval0
  obtain ⟨hg, hlen, hc⟩ := tagTexts_core H enc W base args ds gs before hval hW (tab_of_laidU hL)
  subst hg
  have hr : (Tryd.f3.params.toList.all fun t => Tryd.prog.readableRec t && decide (t < Tryd.prog.types.size)) = true := by kernel_rfl
  have hread : ∀ t ∈ Tryd.f3.params.toList, Tryd.prog.readableRec t = true ∧ t < Tryd.prog.types.size := fun t ht => by
    have h := List.all_eq_true.1 hr t ht
    rw [Bool.and_eq_true, decide_eq_true_eq] at h
    exact h
  refine hc.mono fun e W' ⟨he, hb⟩ => ?_
  subst he
  match ds, hlen with
  | [d0, d1, d2], _ => exact ⟨_, rfl, law_post laid_out Tryd.underlying4 rfl hread rfl hW rfl rfl rfl hb⟩

theorem tagTexts_holds : Rows.TagTextsSaid :=
  OpenClaim.holds_of_wide 3 Tryd.f3 rfl rfl rfl rfl rfl rfl rfl ⟨rfl, rfl, rfl, rfl, rfl⟩ rfl rfl rfl rfl rfl (by kernel_rfl) Tryd.func3 (by kernel_rfl)
    (of_decide_eq_true (by kernel_rfl)) (by unfold Func.isWrapper; first | (rw [if_pos (by decide +kernel)]; kernel_rfl) | (rw [if_neg (by decide +kernel)]; exact ⟨rfl, rfl⟩))
    (fun os started H enc _ => tagTexts_lifted os started H enc)

theorem tagTexts_card : Rows.TagTextsCardSaid :=
  Claim7.holds_tied_plain_at .later [] [.data, .pinned] true _ false
    tagTexts_holds (fun _ h => by cases h) (by kernel_rfl) (fun _ h => by cases h) tagTexts_row_tie rfl ⟨rfl, rfl⟩ (by kernel_rfl) rfl
    (fun f fn hf hfn => by
      obtain rfl : f = 3 := Option.some.inj ((show Tryd.prog.funcNamed "paymaster/paymasterlaw07.TagTexts" = some 3 by kernel_rfl).symm.trans hf) |>.symm
      obtain rfl : fn = Tryd.f3 := (Option.some.inj (Tryd.func3.symm.trans hfn)).symm
      exact ⟨by kernel_rfl, fun j t ht => by
        have hm : t ∈ Tryd.f3.params.toList := by simpa using Array.mem_of_getElem? ht
        have hall : (Tryd.f3.params.toList.all fun u => !Tryd.prog.wantsStandIn u) = true := by kernel_rfl
        exact (show Tryd.prog.wantsStandIn t = false by simpa using List.all_eq_true.1 hall t hm)⟩)
    (by kernel_rfl)

end Go.Proofs.YtkmnfogcocppjaaDoor
