/-
  The law TagNodes: the text of a node with any two below it, the digest of any text, and any leaf's node, is what the chapter says.
  Conditions: block's table of constants and utf8's two tables hold what their texts lay (tied by the card; one is the form's constant).
-/
import Derived.Test.YtkmnfogcocppjaaDoorR7Node
import Derived.Test.YtkmnfogcocppjaaDoorU7Long
import Derived.Test.YtkmnfogcocppjaaDoorW7Laid
namespace Go.Proofs.YtkmnfogcocppjaaDoor
set_option linter.unusedVariables false
set_option linter.unusedSimpArgs false
set_option maxRecDepth 10000
open Go.ChangeShapes Go.WideShapes Go.ChangeAt Go.RowKit

abbrev ndB (s : ByteArray) (h l : Int) : Array Value := #[.string s, .int .u64 h, .int .u64 l]
set_option maxHeartbeats 2000000 in
theorem nodes_long (x : Lf) (a b : Nd) (text : ByteArray) (n : Int) (h : (300 < x.id.size ∨ 300 < x.salt.size) ∨ 100 < a.hash.size ∨ 100 < b.hash.size ∨ 1000 < text.size) (h1 : x.id.size ≤ 9223372036854775807) (h2 : x.salt.size ≤ 9223372036854775807) (h3 : text.size ≤ 9223372036854775807)
    (h4 : a.hash.size ≤ 9223372036854775807) (h5 : b.hash.size ≤ 9223372036854775807) (w : World) :
    Calls Tryd.prog 4 #[x.val, a.val, b.val, .string text, .int .i64 n] w (Tells (.bool true) w.heap.size w) := by
  have cL := fun u => long_any x h1 h2 u
  obtain ⟨p, i, s, h', l⟩ := x
  obtain ⟨sa, ha, la⟩ := a
  obtain ⟨sb, hb, lb⟩ := b
  have H0 : Has w [(w.heap.size + 1 + 1, 35, ndB sb hb lb), (w.heap.size + 1, 35, ndB sa ha la), (w.heap.size, 26, lfB p i s h' l)]
      (((w.alloc (.cells (lfB p i s h' l) 26)).alloc (.cells (ndB sa ha la) 35)).alloc (.cells (ndB sb hb lb) 35)) :=
    (((Has.start w).add 26 (lfB p i s h' l)).addAt 35 (ndB sa ha la) (by simp)).addAt 35 (ndB sb hb lb) (by simp)
  have ev : Lf.val ⟨p, i, s, h', l⟩ = .agg (lfB p i s h' l) := rfl
  have ea : Nd.val ⟨sa, ha, la⟩ = .agg (ndB sa ha la) := rfl
  have eb : Nd.val ⟨sb, hb, lb⟩ = .agg (ndB sb hb lb) := rfl
  rw [ev] at cL
  rw [ev, ea, eb]
  simp only at h4 h5
  have hA : (decide (300 < i.size) || decide (300 < s.size)) = true ∨ ((decide (300 < i.size) || decide (300 < s.size)) = false ∧ ((100 : Int) < (sa.size : Int) ∨ (¬ (100 : Int) < (sa.size : Int) ∧ ((100 : Int) < (sb.size : Int) ∨ (¬ (100 : Int) < (sb.size : Int) ∧ (1000 : Int) < (text.size : Int)))))) := by
    simp only at h
    by_cases q1 : 300 < i.size
    · exact Or.inl (by rw [decide_eq_true q1]; rfl)
    · by_cases q2 : 300 < s.size
      · exact Or.inl (by rw [decide_eq_true q2, Bool.or_true])
      · refine Or.inr ⟨by rw [decide_eq_false q1, decide_eq_false q2]; rfl, by omega⟩
  simp only at cL
  generalize (decide (300 < i.size) || decide (300 < s.size)) = A at *
  clear h ev ea eb
  go_enter Tryd.func4, Tryd.ntmps4
  go_upto_region 1 with fail
  change Code.wp _ _ _ _ (((w.alloc (.cells (lfB p i s h' l) 26)).alloc (.cells (ndB sa ha la) 35)).alloc (.cells (ndB sb hb lb) 35))
  generalize ((w.alloc (.cells (lfB p i s h' l) 26)).alloc (.cells (ndB sa ha la) 35)).alloc (.cells (ndB sb hb lb) 35) = W at *
  obtain ⟨⟨y0, y1, y2, y3, y4⟩, -, hin1⟩ := (H0.box 2).five0
  obtain ⟨⟨k0, k1, k2⟩, -, -, -, hin2⟩ := (H0.box 1).three0
  obtain ⟨⟨m0, m1, m2⟩, -, -, -, hin3⟩ := (H0.box 0).three0
  have L0 := H0.below
  rcases hA with rfl | ⟨rfl, ht⟩
  · go_wp2_with (first | (go_at_call 10; refine (cL _).mono ?_; rintro e w1 ⟨rfl, b1⟩))
    go_ret
    exact ⟨rfl, chain L0 b1⟩
  · have H0' := H0
    clear y0 y1 y2 y3 y4 k0 k1 k2 m0 m1 m2 hin1 hin2 hin3
    obtain ⟨⟨y0, y1, y2, y3, y4⟩, -, hin1⟩ := (H0.box 2).five0
    have fact : ∀ u, Below W.heap.size W u → u.cell? ⟨w.heap.size + 1, 0, none⟩ = some (.string sa) ∧ u.cell? ⟨w.heap.size + 1 + 1, 0, none⟩ = some (.string sb) := fun u hu => ⟨((H0.call hu).box 1).read 0, ((H0.call hu).box 0).read 0⟩
    clear H0'
    rcases ht with ht | ⟨hn1, ht | ⟨hn2, ht⟩⟩
    · go_wp2_with (first | (go_at_call 10; refine (cL _).mono ?_; rintro e w1 ⟨rfl, b1⟩; obtain ⟨t1, t2⟩ := fact _ b1))
      go_ret
      exact ⟨rfl, chain L0 b1⟩
    · go_wp2_with (first | (go_at_call 10; refine (cL _).mono ?_; rintro e w1 ⟨rfl, b1⟩; obtain ⟨t1, t2⟩ := fact _ b1))
      go_ret
      exact ⟨rfl, chain L0 b1⟩
    · go_wp2_with (first | (go_at_call 10; refine (cL _).mono ?_; rintro e w1 ⟨rfl, b1⟩; obtain ⟨t1, t2⟩ := fact _ b1))
      go_ret
      exact ⟨rfl, chain L0 b1⟩

set_option maxRecDepth 100000 in
set_option maxHeartbeats 8000000 in
theorem nodes_short (x : Lf) (a b : Nd) (text : ByteArray) (n : Int) (h1 : x.id.size ≤ 300) (h2 : x.salt.size ≤ 300) (h3 : text.size ≤ 1000) (h4 : a.hash.size ≤ 100) (h5 : b.hash.size ≤ 100) (hh : Word x.h) (hl : Word x.l)
    (a1 : Word a.h) (a0 : Word a.l) (b1 : Word b.h) (b0 : Word b.l) (w : World) (hK : Tab w) (hT : TabU w) :
    Calls Tryd.prog 4 #[x.val, a.val, b.val, .string text, .int .i64 n] w (Tells (.bool true) w.heap.size w) := by
  have cL := fun u => long_any x (by omega) (by omega) u
  have c1 := fun u => nodeText_any a b (by omega) (by omega) a1 a0 b1 b0 u
  have d1 := fun u => rnodeText_any a b (by omega) (by omega) a1 a0 b1 b0 u
  have c2 := fun u hu => digestT_any n text (by omega) u hu
  have d2 := fun u => rdigestT_any n text (by omega) u
  have c3 := fun u hu hv => leafNode_any n x (by omega) (by omega) hh hl u hu hv
  have d3 := fun u => rleafNode_any n x (by omega) (by omega) hh hl u
  have hA : (decide (300 < x.id.size) || decide (300 < x.salt.size)) = false := by rw [decide_eq_false (show ¬ 300 < x.id.size by omega), decide_eq_false (show ¬ 300 < x.salt.size by omega)]; rfl
  rw [hA] at cL
  have ht : ¬ ((1000 : Int) < (text.size : Int)) := by omega
  have hx := fun u => eql_nd_same (nodeOf n x) u
  have ta : ¬ ((100 : Int) < (a.hash.size : Int)) := by omega
  have tb : ¬ ((100 : Int) < (b.hash.size : Int)) := by omega
  clear hA
  generalize ndText a b = T at *
  generalize dgB n text = D at *
  generalize nodeOf n x = y at *
  obtain ⟨p, i, s, h', l⟩ := x
  obtain ⟨sa, ha, la⟩ := a
  obtain ⟨sb, hb, lb⟩ := b
  have H0 : Has w [(w.heap.size + 1 + 1, 35, ndB sb hb lb), (w.heap.size + 1, 35, ndB sa ha la), (w.heap.size, 26, lfB p i s h' l)]
      (((w.alloc (.cells (lfB p i s h' l) 26)).alloc (.cells (ndB sa ha la) 35)).alloc (.cells (ndB sb hb lb) 35)) :=
    (((Has.start w).add 26 (lfB p i s h' l)).addAt 35 (ndB sa ha la) (by simp)).addAt 35 (ndB sb hb lb) (by simp)
  have ev : Lf.val ⟨p, i, s, h', l⟩ = .agg (lfB p i s h' l) := rfl
  have ea : Nd.val ⟨sa, ha, la⟩ = .agg (ndB sa ha la) := rfl
  have eb : Nd.val ⟨sb, hb, lb⟩ = .agg (ndB sb hb lb) := rfl
  rw [ev] at cL c3 d3
  rw [ea, eb] at c1 d1
  rw [ev, ea, eb]
  simp only [Nd.val] at c3 d3 hx
  simp only at ta tb
  clear ev ea eb
  go_enter Tryd.func4, Tryd.ntmps4
  go_upto_region 1 with fail
  change Code.wp _ _ _ _ (((w.alloc (.cells (lfB p i s h' l) 26)).alloc (.cells (ndB sa ha la) 35)).alloc (.cells (ndB sb hb lb) 35))
  generalize ((w.alloc (.cells (lfB p i s h' l) 26)).alloc (.cells (ndB sa ha la) 35)).alloc (.cells (ndB sb hb lb) 35) = W at *
  obtain ⟨⟨y0, y1, y2, y3, y4⟩, -, hin1⟩ := (H0.box 2).five0
  obtain ⟨⟨k0, k1, k2⟩, -, -, -, hin2⟩ := (H0.box 1).three0
  obtain ⟨⟨m0, m1, m2⟩, -, -, -, hin3⟩ := (H0.box 0).three0
  have L0 := H0.below
  have fact0 : ∀ u, Below W.heap.size W u → u.cell? ⟨w.heap.size + 1, 0, none⟩ = some (.string sa) ∧ u.cell? ⟨w.heap.size + 1 + 1, 0, none⟩ = some (.string sb) := fun u hu => ⟨((H0.call hu).box 1).read 0, ((H0.call hu).box 0).read 0⟩
  clear k0 k1 k2 m0 m1 m2 hin2 hin3
  go_upto_region 3 with (first
    | (go_at_call 10; refine (cL _).mono ?_; rintro e w1 ⟨rfl, j1⟩; obtain ⟨t1, t2⟩ := fact0 _ j1)
    | fail)
  have H1 := H0.call j1
  clear y0 y1 y2 y3 y4 hin1 t1 t2 fact0 j1 H0
  have fact : ∀ u, Has w [(w.heap.size + 1 + 1, 35, ndB sb hb lb), (w.heap.size + 1, 35, ndB sa ha la), (w.heap.size, 26, lfB p i s h' l)] u →
      (u.cell? ⟨w.heap.size, 0, none⟩ = some (.bool p) ∧ u.cell? ⟨w.heap.size, 1, none⟩ = some (.string i) ∧ u.cell? ⟨w.heap.size, 2, none⟩ = some (.string s) ∧ u.cell? ⟨w.heap.size, 3, none⟩ = some (.int .u64 h') ∧ u.cell? ⟨w.heap.size, 4, none⟩ = some (.int .u64 l)) ∧
      (u.cell? ⟨w.heap.size + 1, 0, none⟩ = some (.string sa) ∧ u.cell? ⟨w.heap.size + 1, 1, none⟩ = some (.int .u64 ha) ∧ u.cell? ⟨w.heap.size + 1, 2, none⟩ = some (.int .u64 la)) ∧
      (u.cell? ⟨w.heap.size + 1 + 1, 0, none⟩ = some (.string sb) ∧ u.cell? ⟨w.heap.size + 1 + 1, 1, none⟩ = some (.int .u64 hb) ∧ u.cell? ⟨w.heap.size + 1 + 1, 2, none⟩ = some (.int .u64 lb)) :=
    fun u h => ⟨(h.box 2).five0.1, (h.box 1).three0.1, (h.box 0).three0.1⟩
  have tabK : ∀ u, (Has w [(w.heap.size + 1 + 1, 35, ndB sb hb lb), (w.heap.size + 1, 35, ndB sa ha la), (w.heap.size, 26, lfB p i s h' l)] u ∧
      ((u.cell? ⟨w.heap.size, 0, none⟩ = some (.bool p) ∧ u.cell? ⟨w.heap.size, 1, none⟩ = some (.string i) ∧ u.cell? ⟨w.heap.size, 2, none⟩ = some (.string s) ∧ u.cell? ⟨w.heap.size, 3, none⟩ = some (.int .u64 h') ∧ u.cell? ⟨w.heap.size, 4, none⟩ = some (.int .u64 l)) ∧
      (u.cell? ⟨w.heap.size + 1, 0, none⟩ = some (.string sa) ∧ u.cell? ⟨w.heap.size + 1, 1, none⟩ = some (.int .u64 ha) ∧ u.cell? ⟨w.heap.size + 1, 2, none⟩ = some (.int .u64 la)) ∧
      (u.cell? ⟨w.heap.size + 1 + 1, 0, none⟩ = some (.string sb) ∧ u.cell? ⟨w.heap.size + 1 + 1, 1, none⟩ = some (.int .u64 hb) ∧ u.cell? ⟨w.heap.size + 1 + 1, 2, none⟩ = some (.int .u64 lb)))) → Tab u ∧ TabU u := fun u h => ⟨hK.call h.1.below, hT.call h.1.below⟩
  go_region_held3 (fun u => Has w [(w.heap.size + 1 + 1, 35, ndB sb hb lb), (w.heap.size + 1, 35, ndB sa ha la), (w.heap.size, 26, lfB p i s h' l)] u ∧
      ((u.cell? ⟨w.heap.size, 0, none⟩ = some (.bool p) ∧ u.cell? ⟨w.heap.size, 1, none⟩ = some (.string i) ∧ u.cell? ⟨w.heap.size, 2, none⟩ = some (.string s) ∧ u.cell? ⟨w.heap.size, 3, none⟩ = some (.int .u64 h') ∧ u.cell? ⟨w.heap.size, 4, none⟩ = some (.int .u64 l)) ∧
      (u.cell? ⟨w.heap.size + 1, 0, none⟩ = some (.string sa) ∧ u.cell? ⟨w.heap.size + 1, 1, none⟩ = some (.int .u64 ha) ∧ u.cell? ⟨w.heap.size + 1, 2, none⟩ = some (.int .u64 la)) ∧
      (u.cell? ⟨w.heap.size + 1 + 1, 0, none⟩ = some (.string sb) ∧ u.cell? ⟨w.heap.size + 1 + 1, 1, none⟩ = some (.int .u64 hb) ∧ u.cell? ⟨w.heap.size + 1 + 1, 2, none⟩ = some (.int .u64 lb))))
    (first
      | with_reducible exact held_drew fact H1
      | with_reducible exact held_keep fact (by assumption) (by assumption)
      | with_reducible assumption
      | fail)
    (first
      | (go_at_call 21; refine (c1 _).mono ?_; rintro e v1 ⟨rfl, k1⟩)
      | (go_at_call 22; refine (d1 _).mono ?_; rintro e v2 ⟨rfl, k2⟩)
      | (go_at_call 23; refine (c2 _ (tabK _ (by assumption)).1).mono ?_; rintro e v3 ⟨rfl, k3⟩)
      | (go_at_call 24; refine (d2 _).mono ?_; rintro e v4 ⟨rfl, k4⟩)
      | (go_at_call 25; refine (c3 _ (tabK _ (by assumption)).1 (tabK _ (by assumption)).2).mono ?_; rintro e v5 ⟨rfl, k5⟩)
      | (go_at_call 26; refine (d3 _).mono ?_; rintro e v6 ⟨rfl, k6⟩)
      | fail)
  all_goals go_wp2
  all_goals go_ret
  all_goals exact ⟨rfl, Has.below (And.left (by assumption))⟩

theorem tagNodes_core (H : Type) (enc : TypeId × Value → H) (W : World) (base : Nat) (args : Array Value) (ds gs : List (DataW H)) (before : List MemPlace)
    (hval : ∀ (j : Nat) t v, Tryd.f4.params[j]? = some t → args[j]? = some v → Value.okWide Tryd.prog W .any base t v)
    (hW : DataW.Whole enc Tryd.prog Tryd.f4.params.toList Rows.tagNodesSpec.vars false W args.toList ds gs before) (hT : Tab W ∧ TabU W) :
    gs = [] ∧ ds.length = 5 ∧ Calls Tryd.prog 4 args W (Tells (.bool true) W.heap.size W) := by
  obtain ⟨p, q, hA, hV, -, -, -⟩ := hW
  obtain ⟨rfl, rfl⟩ := trodVars_none hV
  have hA : DataW.TrodAll enc Tryd.prog W 0 (fun _ => true) true Tryd.f4.params.toList args.toList ds p := hA
  rw [Tryd.params4] at hA hval
  obtain ⟨v0, vs0, d0, ds0, p0, ps0, e0, rfl, -, h0, hA⟩ := trodAll_cons hA
  obtain ⟨v1, vs1, d1, ds1, p1, ps1, rfl, rfl, -, h1, hA⟩ := trodAll_cons hA
  obtain ⟨v2, vs2, d2, ds2, p2, ps2, rfl, rfl, -, h2, hA⟩ := trodAll_cons hA
  obtain ⟨v3, vs3, d3, ds3, p3, ps3, rfl, rfl, -, h3, hA⟩ := trodAll_cons hA
  obtain ⟨v4, vs4, d4, ds4, p4, ps4, rfl, rfl, -, h4, hA⟩ := trodAll_cons hA
  obtain ⟨rfl, rfl, rfl⟩ := trodAll_nil hA
  obtain rfl : args = #[v0, v1, v2, v3, v4] := Array.ext' e0
  obtain ⟨x, rfl, z1, z2, z3, z4⟩ := open_leaf (hval 0 26 v0 rfl rfl) h0
  obtain ⟨a, rfl, z6, z7, z8⟩ := open_node (hval 1 35 v1 rfl rfl) h1
  obtain ⟨b, rfl, z9, z10, z11⟩ := open_node (hval 2 35 v2 rfl rfl) h2
  obtain ⟨text, rfl, rfl, rfl, z5⟩ := Go.ChangeMaps.open_string Tryd.underlying9 (hval 3 9 v3 rfl rfl) h3
  obtain ⟨n, rfl, -, -, bn⟩ := open_int Tryd.underlying3 (hval 4 3 v4 rfl rfl) h4
  refine ⟨rfl, rfl, ?_⟩
  by_cases h : (300 < x.id.size ∨ 300 < x.salt.size) ∨ 100 < a.hash.size ∨ 100 < b.hash.size ∨ 1000 < text.size
  · exact nodes_long x a b text n h z1 z2 z5 z6 z9 W
  · exact nodes_short x a b text n (by omega) (by omega) (by omega) (by omega) (by omega) z3 z4 z7 z8 z10 z11 W hT.1 hT.2

set_option maxRecDepth 100000 in
theorem tagNodes_lifted (os : Os) (started : os.Started) (H : Type) (enc : TypeId × Value → H) :
    ReturnsInHanded {} Tryd.checked os 4 .any (fun w args => (Rows.tagNodesSpec.pre enc Tryd.prog Tryd.f4 [] false w args ∧ laidMetH Tryd.prog laidA w) ∧ sizedMet enc Tryd.prog Tryd.f4 (OpenSpec.ofChange Rows.tagNodesSpec) false w args)
      (Rows.tagNodesSpec.post enc Tryd.prog Tryd.f4 false true false false) := by
  refine returnsInHanded_of_change_and (C := Tryd.checked) (X := fun w _ => laidMetH Tryd.prog laidA w) (fun _ _ _ hh h => h.of_heap hh) own_knob started (by kernel_rfl) Tryd.func4
    (ChangeSpec.witness_shaped (enc := enc) (C := Tryd.checked) (os := os) (X := fun w _ => laidMetH Tryd.prog laidA w) false (World.laidAll Tryd.prog os laidA) #[.agg #[.bool false, .string ⟨#[]⟩, .string ⟨#[]⟩, .int .u64 0, .int .u64 0], .agg #[.string ⟨#[]⟩, .int .u64 0, .int .u64 0], .agg #[.string ⟨#[]⟩, .int .u64 0, .int .u64 0], .string ⟨#[]⟩, .int .i64 0] 8 (World.laidAll_os _ _ _) (World.shaped_of_ZipB (by kernel_rfl) (by kernel_rfl)) (by kernel_rfl) (by kernel_rfl) (by kernel_rfl) (met_A os _)) ?_
  intro W base args ds gs before hval0 hW _ hwt hL _
  have hval : ∀ (j : Nat) t v, Tryd.f4.params[j]? = some t → args[j]? = some v → Value.okWide Tryd.prog W .any base t v := hval0
  obtain ⟨hg, hlen, hc⟩ := tagNodes_core H enc W base args ds gs before hval hW (tab_of_laidA hL)
  subst hg
  have hr : (Tryd.f4.params.toList.all fun t => Tryd.prog.readableRec t && decide (t < Tryd.prog.types.size)) = true := by kernel_rfl
  have hread : ∀ t ∈ Tryd.f4.params.toList, Tryd.prog.readableRec t = true ∧ t < Tryd.prog.types.size := fun t ht => by
    have h := List.all_eq_true.1 hr t ht
    rw [Bool.and_eq_true, decide_eq_true_eq] at h
    exact h
  refine hc.mono fun e W' ⟨he, hb⟩ => ?_
  subst he
  match ds, hlen with
  | [d0, d1, d2, d3, d4], _ => exact ⟨_, rfl, law_post laid_out Tryd.underlying4 rfl hread rfl hW rfl rfl rfl hb⟩

theorem tagNodes_holds : Rows.TagNodesSaid :=
  OpenClaim.holds_of_wide 4 Tryd.f4 rfl rfl rfl rfl rfl rfl rfl ⟨rfl, rfl, rfl, rfl, rfl⟩ rfl rfl rfl rfl rfl (by kernel_rfl) Tryd.func4 (by kernel_rfl)
    (of_decide_eq_true (by kernel_rfl)) (by unfold Func.isWrapper; first | (rw [if_pos (by decide +kernel)]; kernel_rfl) | (rw [if_neg (by decide +kernel)]; exact ⟨rfl, rfl⟩))
    (fun os started H enc _ => tagNodes_lifted os started H enc)

theorem tagNodes_card : Rows.TagNodesCardSaid :=
  Claim7.holds_tied_plain_at .later [] [.data, .data, .pinned] true _ false
    tagNodes_holds (fun _ h => by cases h) (by kernel_rfl) (fun _ h => by cases h) tagNodes_row_tie rfl ⟨rfl, rfl⟩ (by kernel_rfl) rfl
    (fun f fn hf hfn => by
      obtain rfl : f = 4 := Option.some.inj ((show Tryd.prog.funcNamed "paymaster/paymasterlaw07.TagNodes" = some 4 by kernel_rfl).symm.trans hf) |>.symm
      obtain rfl : fn = Tryd.f4 := (Option.some.inj (Tryd.func4.symm.trans hfn)).symm
      exact ⟨by kernel_rfl, fun j t ht => by
        have hm : t ∈ Tryd.f4.params.toList := by simpa using Array.mem_of_getElem? ht
        have hall : (Tryd.f4.params.toList.all fun u => !Tryd.prog.wantsStandIn u) = true := by kernel_rfl
        exact (show Tryd.prog.wantsStandIn t = false by simpa using List.all_eq_true.1 hall t hm)⟩)
    (by kernel_rfl)

end Go.Proofs.YtkmnfogcocppjaaDoor
