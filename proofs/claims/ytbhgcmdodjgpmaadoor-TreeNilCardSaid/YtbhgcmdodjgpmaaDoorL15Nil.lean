/-
  The law TreeNil: a tree that nobody made has nothing. Conditions: none.
-/
import Derived.Test.YtbhgcmdodjgpmaaDoorL15Law
namespace Go.Proofs.YtbhgcmdodjgpmaaDoor
set_option linter.unusedVariables false
set_option linter.unusedSimpArgs false
set_option maxRecDepth 10000
open Go.ChangeShapes Go.WideShapes Go.ChangeAt Go.RowKit

theorem ptr_size : (Tryd.prog.info? 29).map (fun i => (i.zero, i.size, i.bytes)) = some (some (.pointer none), 1, 8) := by kernel_rfl
set_option maxRecDepth 100000 in
set_option maxHeartbeats 8000000 in
theorem treeNil_any (lv : Int) (p : Nat) (hp : p < 18446744073709551616) (x : Lf) (hx : (x.id.size ≤ 9223372036854775807 ∧ x.salt.size ≤ 9223372036854775807) ∧ Word x.h ∧ Word x.l) (w : World) :
    Calls Tryd.prog 3 #[.int .i64 lv, .int .u64 p, x.val] w (Tells (.bool true) w.heap.size w) := by
  have cG := fun A c u hu => great15_any A c [x] (by simp) (fun y hy => by rw [List.mem_singleton.1 hy]; exact hx.1) u hu
  have hrow := fun u => lf_rowL u [x]
  have cN := fun v u hu => node15_no v lv p u hu
  have cL := fun v u hu => leaf15_no v p u hu
  have cR := fun v u hu => root15_no v u hu
  have cS := fun v u hu => set15_no v p x u hu
  have cW := fun v u hu => width15_no v u hu
  have cH := fun v u hu => height15_no v u hu
  have cV := fun v u hu => leaves15_no v u hu
  have cC := fun u => copy15_no (.pointer none) u (Or.inl rfl)
  have ez := fun u => run_neq_nd Nd.zero Nd.zero u
  have el := fun u => run_neq_lf Lf.zero Lf.zero u
  have er := fun u => run_neq_rt ⟨⟨#[]⟩, 0, 0, 0⟩ ⟨⟨#[]⟩, 0, 0, 0⟩ u
  rw [Nd.same_self] at ez
  have hl0 : Lf.zero.same Lf.zero = true := by decide +kernel
  have hr0 : RtP.same ⟨⟨#[]⟩, 0, 0, 0⟩ ⟨⟨#[]⟩, 0, 0, 0⟩ = true := by decide +kernel
  rw [hl0] at el
  rw [hr0] at er
  obtain ⟨gr, hgr⟩ : ∃ gr, greatLf [x] = gr := ⟨_, rfl⟩
  rw [hgr] at cG
  obtain ⟨xp, xi, xs, xh, xl⟩ := x
  simp only [Lf.val, Nd.val, Nd.zero, Lf.zero, RtP.val, rootV, List.length_cons, List.length_nil, Nat.zero_add, Bool.not_true] at cG cN cL cR cS ez el er
  show Calls _ _ #[_, _, .agg (lfB xp xi xs xh xl)] _ _
  have H0 := (Has.start w).add 26 (lfB xp xi xs xh xl)
  clear hgr hl0 hr0 hx
  go_enter Tryd.func3, Tryd.ntmps3
  go_upto_region 1 with fail
  change Code.wp _ _ _ _ (w.alloc (.cells (lfB xp xi xs xh xl) 26))
  obtain ⟨g5, hg5⟩ : ∃ g, w.heap.size = g := ⟨_, rfl⟩
  rw [hg5] at H0 ⊢
  generalize w.alloc (.cells (lfB xp xi xs xh xl) 26) = W0 at *
  obtain ⟨⟨x0, x1, x2, x3, x4⟩, -, xin⟩ := (H0.box 0).five0
  have H1 := H0.past (.cells (lfB xp xi xs xh xl) 26)
  have hr1 := hrow W0
  have hr2 : lfS.Row (W0.alloc (.cells (lfB xp xi xs xh xl) 26)) (W0.alloc (.cells (lfB xp xi xs xh xl) 26)).heap.size (some ⟨W0.heap.size, 0, none⟩) [⟨xp, xi, xs, xh, xl⟩] := hr1
  have cG2 := cG _ 1 _ hr2
  clear hr1 hr2 cG hrow
  cases gr with
  | true =>
    go_wp2_with (first | (go_at_call 7; refine cG2.mono ?_; rintro e w1 ⟨rfl, rfl⟩) | fail)
    go_ret
    exact ⟨rfl, by rw [← hg5] at H1; exact H1.below⟩
  | false =>
    go_upto_region 5 with (first | (go_at_call 7; refine cG2.mono ?_; rintro e w1 ⟨rfl, rfl⟩) | fail)
    obtain ⟨gl1, hgl1⟩ : ∃ g, W0.heap.size = g := ⟨_, rfl⟩
    have K0 := ((H0.past (.cells (lfB xp xi xs xh xl) 26)).addAt 33 #[.slice none 0 0, .slice none 0 0] (g := gl1 + 1) (by simp [hgl1])).addAt 29 #[.pointer none, .pointer (some ⟨gl1 + 1, 0, none⟩)] (g := gl1 + 2) (by simp [hgl1])
    rw [hgl1]
    simp only [Nat.add_assoc, Nat.reduceAdd]
    change Code.wp _ _ _ _ (((W0.alloc (.cells (lfB xp xi xs xh xl) 26)).alloc (.cells #[.slice none 0 0, .slice none 0 0] 33)).alloc (.cells #[.pointer none, .pointer (some ⟨gl1 + 1, 0, none⟩)] 29))
    generalize ((W0.alloc (.cells (lfB xp xi xs xh xl) 26)).alloc (.cells #[.slice none 0 0, .slice none 0 0] 33)).alloc (.cells #[.pointer none, .pointer (some ⟨gl1 + 1, 0, none⟩)] 29) = W3 at *
    have HG5 := hideIt hg5
    clear H1 H0 x0 x1 x2 x3 x4 xin cG2 hgl1 hg5
    go_wp2
    go_loopg [9] 2 (fun gk i wr => ∃ n : Int, i = .int .i64 n ∧ (n = 0 ∧ 2 ≤ gk ∨ n = 1 ∧ 1 ≤ gk ∨ n = 2) ∧ Has w [(gl1 + 2, 29, #[.pointer none, .pointer (some ⟨gl1 + 1, 0, none⟩)]), (gl1 + 1, 33, #[.slice none 0 0, .slice none 0 0]), (g5, 26, lfB xp xi xs xh xl)] wr)
    case atStart => exact ⟨0, rfl, Or.inl ⟨rfl, Nat.le_refl _⟩, K0⟩
    case round =>
      obtain ⟨n, rfl, hn, K⟩ := hrel
      obtain ⟨p0, p1, -, -, pin⟩ := (K.box 0).two
      clear K0
      rcases hn with ⟨rfl, hgk⟩ | ⟨rfl, hgk⟩ | rfl
      · have HG := hideIt hgk
        clear hgk
        have hNT : ∀ u, Has w [(gl1 + 2, 29, #[.pointer none, .pointer (some ⟨gl1 + 1, 0, none⟩)]), (gl1 + 1, 33, #[.slice none 0 0, .slice none 0 0]), (g5, 26, lfB xp xi xs xh xl)] u → NoTree u (.pointer none) := fun u hu => Or.inl rfl
        go_upto_region 9 with fail
        go_upto_region 10 with (first
          | (go_at_call 8; refine (cN _ _ (hNT _ K)).mono ?_; rintro e w1 ⟨rfl, b1⟩)
          | fail)
        have K1 := (K.call b1).add 36 (ndB ⟨#[]⟩ 0 0)
        change Code.wp _ _ _ _ (w1.alloc (.cells (ndB ⟨#[]⟩ 0 0) 36))
        obtain ⟨gn, hgn⟩ : ∃ g, w1.heap.size = g := ⟨_, rfl⟩
        rw [hgn] at K1 ⊢
        generalize w1.alloc (.cells (ndB ⟨#[]⟩ 0 0) 36) = W1 at *
        clear b1 hgn
        go_upto_region 11 with (first
          | (go_at_call 9; refine (cL _ _ (hNT _ K1.tail)).mono ?_; rintro e w2 ⟨rfl, b2⟩)
          | fail)
        have K2 := (K1.call b2).add 26 (lfB false ⟨#[]⟩ ⟨#[]⟩ 0 0)
        change Code.wp _ _ _ _ (w2.alloc (.cells (lfB false ⟨#[]⟩ ⟨#[]⟩ 0 0) 26))
        obtain ⟨gf, hgf⟩ : ∃ g, w2.heap.size = g := ⟨_, rfl⟩
        rw [hgf] at K2 ⊢
        generalize w2.alloc (.cells (lfB false ⟨#[]⟩ ⟨#[]⟩ 0 0) 26) = W2 at *
        clear b2 hgf K1 K
        obtain ⟨⟨y0, y1, y2, y3, y4⟩, -, yin⟩ := (K2.box 0).five0
        obtain ⟨z0, z1, z2, -, -, -, zin⟩ := (K2.box 1).three
        go_wp2_with (first
          | (go_at_call 10; refine (cR _ _ (hNT _ K2.tail.tail)).mono ?_; rintro e w5 ⟨rfl, b5⟩; have K5 := K2.call b5; obtain ⟨⟨x0, x1, x2, x3, x4⟩, -, xin⟩ := (K5.box 4).five0)
          | (go_at_call 11; refine (cS _ _ (hNT _ K5.tail.tail)).mono ?_; rintro e w6 ⟨rfl, b6⟩; have K6 := K5.call b6)
          | (go_at_call 12; refine (cW _ _ (hNT _ K6.tail.tail)).mono ?_; rintro e w7 ⟨rfl, rfl⟩)
          | (go_at_call 13; refine (cH _ _ (hNT _ K6.tail.tail)).mono ?_; rintro e w7 ⟨rfl, rfl⟩)
          | (go_at_call 14; refine (cV _ _ (hNT _ K6.tail.tail)).mono ?_; rintro e w7 ⟨rfl, rfl⟩)
          | fail)
        go_roundg 1
        case measure => have := HG.out; omega
        case rel => exact ⟨1, by go_num, Or.inr (Or.inl ⟨rfl, Nat.le_refl _⟩), K6.tail.tail⟩
      · have HG := hideIt hgk
        clear hgk
        have hNT : ∀ u, Has w [(gl1 + 2, 29, #[.pointer none, .pointer (some ⟨gl1 + 1, 0, none⟩)]), (gl1 + 1, 33, #[.slice none 0 0, .slice none 0 0]), (g5, 26, lfB xp xi xs xh xl)] u → NoTree u (.pointer (some ⟨gl1 + 1, 0, none⟩)) := fun u hu => Or.inr ⟨_, rfl, hu.box 1⟩
        go_upto_region 9 with fail
        go_upto_region 10 with (first
          | (go_at_call 8; refine (cN _ _ (hNT _ K)).mono ?_; rintro e w1 ⟨rfl, b1⟩)
          | fail)
        have K1 := (K.call b1).add 36 (ndB ⟨#[]⟩ 0 0)
        change Code.wp _ _ _ _ (w1.alloc (.cells (ndB ⟨#[]⟩ 0 0) 36))
        obtain ⟨gn, hgn⟩ : ∃ g, w1.heap.size = g := ⟨_, rfl⟩
        rw [hgn] at K1 ⊢
        generalize w1.alloc (.cells (ndB ⟨#[]⟩ 0 0) 36) = W1 at *
        clear b1 hgn
        go_upto_region 11 with (first
          | (go_at_call 9; refine (cL _ _ (hNT _ K1.tail)).mono ?_; rintro e w2 ⟨rfl, b2⟩)
          | fail)
        have K2 := (K1.call b2).add 26 (lfB false ⟨#[]⟩ ⟨#[]⟩ 0 0)
        change Code.wp _ _ _ _ (w2.alloc (.cells (lfB false ⟨#[]⟩ ⟨#[]⟩ 0 0) 26))
        obtain ⟨gf, hgf⟩ : ∃ g, w2.heap.size = g := ⟨_, rfl⟩
        rw [hgf] at K2 ⊢
        generalize w2.alloc (.cells (lfB false ⟨#[]⟩ ⟨#[]⟩ 0 0) 26) = W2 at *
        clear b2 hgf K1 K
        obtain ⟨⟨y0, y1, y2, y3, y4⟩, -, yin⟩ := (K2.box 0).five0
        obtain ⟨z0, z1, z2, -, -, -, zin⟩ := (K2.box 1).three
        go_wp2_with (first
          | (go_at_call 10; refine (cR _ _ (hNT _ K2.tail.tail)).mono ?_; rintro e w5 ⟨rfl, b5⟩; have K5 := K2.call b5; obtain ⟨⟨x0, x1, x2, x3, x4⟩, -, xin⟩ := (K5.box 4).five0)
          | (go_at_call 11; refine (cS _ _ (hNT _ K5.tail.tail)).mono ?_; rintro e w6 ⟨rfl, b6⟩; have K6 := K5.call b6)
          | (go_at_call 12; refine (cW _ _ (hNT _ K6.tail.tail)).mono ?_; rintro e w7 ⟨rfl, rfl⟩)
          | (go_at_call 13; refine (cH _ _ (hNT _ K6.tail.tail)).mono ?_; rintro e w7 ⟨rfl, rfl⟩)
          | (go_at_call 14; refine (cV _ _ (hNT _ K6.tail.tail)).mono ?_; rintro e w7 ⟨rfl, rfl⟩)
          | fail)
        go_roundg 0
        case measure => have := HG.out; omega
        case rel => exact ⟨2, by go_num, Or.inr (Or.inr rfl), K6.tail.tail⟩
      · go_wp2_with (first | (go_at_call 15; refine (cC _).mono ?_; rintro e w1 ⟨rfl, rfl⟩) | fail)
        go_ret
        exact ⟨rfl, K.below⟩
theorem treeNil_core (H : Type) (enc : TypeId × Value → H) (W : World) (base : Nat) (args : Array Value) (ds gs : List (DataW H)) (before : List MemPlace)
    (hval : ∀ (j : Nat) t v, Tryd.f3.params[j]? = some t → args[j]? = some v → Value.okWide Tryd.prog W .any base t v)
    (hW : DataW.Whole enc Tryd.prog Tryd.f3.params.toList Rows.treeNilSpec.vars false W args.toList ds gs before) (hT : Tab W ∧ TabU W) :
    gs = [] ∧ ds.length = 3 ∧ Calls Tryd.prog 3 args W (Tells (.bool true) W.heap.size W) := by
  obtain ⟨p, q, hA, hV, -, -, -⟩ := hW
  obtain ⟨rfl, rfl⟩ := trodVars_none hV
  have hA : DataW.TrodAll enc Tryd.prog W 0 (fun _ => true) true Tryd.f3.params.toList args.toList ds p := hA
  rw [Tryd.params3] at hA hval
  obtain ⟨v0, vs0, d0, ds0, p0, ps0, e0, rfl, -, h0, hA⟩ := trodAll_cons hA
  obtain ⟨v1, vs1, d1, ds1, p1, ps1, rfl, rfl, -, h1, hA⟩ := trodAll_cons hA
  obtain ⟨v2, vs2, d2, ds2, p2, ps2, rfl, rfl, -, h2, hA⟩ := trodAll_cons hA
  obtain ⟨rfl, rfl, rfl⟩ := trodAll_nil hA
  obtain rfl : args = #[v0, v1, v2] := Array.ext' e0
  obtain ⟨n, rfl, -, -, -⟩ := open_int Tryd.underlying3 (hval 0 3 v0 rfl rfl) h0
  obtain ⟨m, rfl, -, -, bm⟩ := open_int Tryd.underlying22 (hval 1 22 v1 rfl rfl) h1
  obtain ⟨x, rfl, z1, z2, z3, z4⟩ := open_leaf (hval 2 26 v2 rfl rfl) h2
  have hm := word_of bm
  obtain ⟨k, rfl⟩ := Int.eq_ofNat_of_zero_le hm.1
  have hk : k < 18446744073709551616 := by have := hm.2; omega
  exact ⟨rfl, rfl, treeNil_any n k hk x ⟨⟨z1, z2⟩, z3, z4⟩ W⟩

set_option maxRecDepth 100000 in
theorem treeNil_lifted (os : Os) (started : os.Started) (H : Type) (enc : TypeId × Value → H) :
    ReturnsInHanded {} Tryd.checked os 3 .any (fun w args => (Rows.treeNilSpec.pre enc Tryd.prog Tryd.f3 [] false w args ∧ laidMetH Tryd.prog laidA w) ∧ sizedMet enc Tryd.prog Tryd.f3 (OpenSpec.ofChange Rows.treeNilSpec) false w args)
      (Rows.treeNilSpec.post enc Tryd.prog Tryd.f3 false true false false) := by
  refine returnsInHanded_of_change_and (C := Tryd.checked) (X := fun w _ => laidMetH Tryd.prog laidA w) (fun _ _ _ hh h => h.of_heap hh) own_knob started (by kernel_rfl) Tryd.func3
    (ChangeSpec.witness_shaped (enc := enc) (C := Tryd.checked) (os := os) (X := fun w _ => laidMetH Tryd.prog laidA w) false (World.laidAll Tryd.prog os laidA) #[.int .i64 0, .int .u64 0, .agg #[.bool false, .string ⟨#[]⟩, .string ⟨#[]⟩, .int .u64 0, .int .u64 0]] 8 (World.laidAll_os _ _ _) (World.shaped_of_ZipB (by kernel_rfl) (by kernel_rfl)) (by kernel_rfl) (by kernel_rfl) (by kernel_rfl) (met_A os _)) ?_
  intro W base args ds gs before hval0 hW _ hwt hL _
  have hval : ∀ (j : Nat) t v, Tryd.f3.params[j]? = some t → args[j]? = some v → Value.okWide Tryd.prog W .any base t v := hval0
  obtain ⟨hg, hlen, hc⟩ := treeNil_core H enc W base args ds gs before hval hW (tab_of_laidA hL)
  subst hg
  have hr : (Tryd.f3.params.toList.all fun t => Tryd.prog.readableRec t && decide (t < Tryd.prog.types.size)) = true := by kernel_rfl
  have hread : ∀ t ∈ Tryd.f3.params.toList, Tryd.prog.readableRec t = true ∧ t < Tryd.prog.types.size := fun t ht => by
    have h := List.all_eq_true.1 hr t ht
    rw [Bool.and_eq_true, decide_eq_true_eq] at h
    exact h
  refine hc.mono fun e W' ⟨he, hb⟩ => ?_
  subst he
  match ds, hlen with
  | [d0, d1, d2], _ => exact ⟨_, rfl, law_post laid_out Tryd.underlying4 rfl hread rfl hW rfl rfl rfl hb⟩

theorem treeNil_holds : Rows.TreeNilSaid :=
  OpenClaim.holds_of_wide 3 Tryd.f3 rfl rfl rfl rfl rfl rfl rfl ⟨rfl, rfl, rfl, rfl, rfl⟩ rfl rfl rfl rfl rfl (by kernel_rfl) Tryd.func3 (by kernel_rfl)
    (of_decide_eq_true (by kernel_rfl)) (by unfold Func.isWrapper; first | (rw [if_pos (by decide +kernel)]; kernel_rfl) | (rw [if_neg (by decide +kernel)]; exact ⟨rfl, rfl⟩))
    (fun os started H enc _ => treeNil_lifted os started H enc)

theorem treeNil_card : Rows.TreeNilCardSaid :=
  Claim7.holds_tied_plain_at .later [] [.data, .data, .pinned] true _ false
    treeNil_holds (fun _ h => by cases h) (by kernel_rfl) (fun _ h => by cases h) treeNil_row_tie rfl ⟨rfl, rfl⟩ (by kernel_rfl) rfl
    (fun f fn hf hfn => by
      obtain rfl : f = 3 := Option.some.inj ((show Tryd.prog.funcNamed "paymaster/paymasterlaw15.TreeNil" = some 3 by kernel_rfl).symm.trans hf) |>.symm
      obtain rfl : fn = Tryd.f3 := (Option.some.inj (Tryd.func3.symm.trans hfn)).symm
      exact ⟨by kernel_rfl, fun j t ht => by
        have hm : t ∈ Tryd.f3.params.toList := by simpa using Array.mem_of_getElem? ht
        have hall : (Tryd.f3.params.toList.all fun u => !Tryd.prog.wantsStandIn u) = true := by kernel_rfl
        exact (show Tryd.prog.wantsStandIn t = false by simpa using List.all_eq_true.1 hall t hm)⟩)
    (by kernel_rfl)

end Go.Proofs.YtbhgcmdodjgpmaaDoor
