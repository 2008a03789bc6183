/-
  The first law of layer 3: any wide number and any number, or any wide one, make the sum that the definition gives; how they compare, and whether it is narrow, is what the definition says; no condition.
-/
import Derived.Test.YtpafamlegfdclaaR3All
import Derived.Test.YtpafamlegfdclaaE3Same
import Derived.Test.YtpafamlegfdclaaO3Open
namespace Go.Proofs.Ytpafamlegfdclaa
set_option linter.unusedVariables false
set_option linter.unusedSimpArgs false
open Go.ChangeShapes Go.WideShapes Go.ChangeAt Go.RowKit

set_option maxRecDepth 100000 in
set_option maxHeartbeats 16000000 in
theorem wadds_walk (H h l K j m ah al : Int) (a : Word H) (b : Word h) (c : Word l) (a' : Word K) (b' : Word j) (c' : Word m) (a1 : Word ah) (a0 : Word al) (w : World) :
    Calls Try.prog 3 #[wide H h l, wide K j m, .agg #[.int .u64 ah, .int .u64 al]] w (Tells (.bool true) w.heap.size w) := by
  have cP := fun u : World => plus_any H h l ah al a b c a1 a0 u
  have rP := fun u : World => rwplus_any H h l ah al a b c a1 a0 u
  have cA := fun u : World => and_any H h l K j m a b c a' b' c' u
  have rA := fun u : World => rwand_any H h l K j m a b c a' b' c' u
  have cC := fun u : World => wcmp_any H h l K j m b c b' c' u
  have rC := fun u : World => rwcmp_any H h l K j m b c b' c' u
  have cL := fun u : World => wless_any H h l K j m b c b' c' u
  have rL := fun u : World => rwless_any H h l K j m b c b' c' u
  have cN := fun u : World => narrow_any H h l a b c u
  have rN := fun u : World => rnarrow_any H h l a b c u
  rw [told] at cP rP cA rA
  have hq0 := fun u : World => neq_wide_same 0 ah al u
  have hq1 := fun u : World => neq_wide_same (wH (wv H h l + nv ah al)) (wh (wv H h l + nv ah al)) (wl (wv H h l + nv ah al)) u
  have hq2 := fun u : World => neq_wide_same (wH (wv H h l + wv K j m)) (wh (wv H h l + wv K j m)) (wl (wv H h l + wv K j m)) u
  have hq3 := fun u : World => eql_num_same (rh (wv H h l)) (rl (wv H h l)) u
  simp only [fit_tells] at cN rN
  generalize wH (wv H h l + nv ah al) = X at *
  generalize wh (wv H h l + nv ah al) = x at *
  generalize wl (wv H h l + nv ah al) = y at *
  generalize wH (wv H h l + wv K j m) = X' at *
  generalize wh (wv H h l + wv K j m) = x' at *
  generalize wl (wv H h l + wv K j m) = y' at *
  generalize cmpI (wv H h l) (wv K j m) = q at *
  generalize rh (wv H h l) = z at *
  generalize rl (wv H h l) = z' at *
  generalize re (wv H h l) = e' at *
  obtain ⟨lt, hlt⟩ : ∃ lt, decide (q < 0) = lt := ⟨_, rfl⟩
  rw [hlt] at cL rL
  clear hlt
  have K0 := ((((Has.start w).add 26 #[.int .u64 H, .int .u64 h, .int .u64 l]).addAt 26 #[.int .u64 K, .int .u64 j, .int .u64 m] (g := w.heap.size + 1) (by simp)).addAt 24 #[.int .u64 ah, .int .u64 al] (g := w.heap.size + 1 + 1) (by simp))
  go_enter Try.func3, Try.ntmps3
  go_upto_region 2 with (first
    | (go_at_call 9; refine (cN _).mono ?_; rintro e w1 ⟨rfl, h1⟩)
    | fail)
  have K1 := (K0.call h1).add 24 #[.int .u64 z, .int .u64 z']
  generalize w1.alloc (.cells #[.int .u64 z, .int .u64 z'] 24) = W1 at *
  obtain ⟨p1, p2, p3, p4, p5, p6, p7⟩ := (K1.box 3).three
  go_upto_region 3 with (first
    | (go_at_call 10; refine (rN _).mono ?_; rintro e w2 ⟨rfl, h2⟩)
    | fail)
  have K2 := (K1.call h2).add 24 #[.int .u64 z, .int .u64 z']
  generalize w2.alloc (.cells #[.int .u64 z, .int .u64 z'] 24) = W2 at *
  clear p1 p2 p3 p4 p5 p6 p7 K0 K1
  have fact : ∀ u, Has w [(w2.heap.size, 24, #[.int .u64 z, .int .u64 z']), (w1.heap.size, 24, #[.int .u64 z, .int .u64 z']), (w.heap.size + 1 + 1, 24, #[.int .u64 ah, .int .u64 al]), (w.heap.size + 1, 26, #[.int .u64 K, .int .u64 j, .int .u64 m]), (w.heap.size, 26, #[.int .u64 H, .int .u64 h, .int .u64 l])] u →
      u.cell? ⟨w2.heap.size, 0, none⟩ = some (.int .u64 z) ∧ u.cell? ⟨w2.heap.size, 1, none⟩ = some (.int .u64 z') ∧ u.cell? ⟨w1.heap.size, 0, none⟩ = some (.int .u64 z) ∧ u.cell? ⟨w1.heap.size, 1, none⟩ = some (.int .u64 z') ∧ u.cell? ⟨w.heap.size + 1 + 1, 0, none⟩ = some (.int .u64 ah) ∧ u.cell? ⟨w.heap.size + 1 + 1, 1, none⟩ = some (.int .u64 al) ∧ u.cell? ⟨w.heap.size + 1, 0, none⟩ = some (.int .u64 K) ∧ u.cell? ⟨w.heap.size + 1, 1, none⟩ = some (.int .u64 j) ∧ u.cell? ⟨w.heap.size + 1, 2, none⟩ = some (.int .u64 m) ∧ u.cell? ⟨w.heap.size, 0, none⟩ = some (.int .u64 H) ∧ u.cell? ⟨w.heap.size, 1, none⟩ = some (.int .u64 h) ∧ u.cell? ⟨w.heap.size, 2, none⟩ = some (.int .u64 l) := fun u hu => ⟨(hu.box 0).read 0, (hu.box 0).read 1, (hu.box 1).read 0, (hu.box 1).read 1, (hu.box 2).read 0, (hu.box 2).read 1, (hu.box 3).read 0, (hu.box 3).read 1, (hu.box 3).read 2, (hu.box 4).read 0, (hu.box 4).read 1, (hu.box 4).read 2⟩
  go_region_held3 (fun w' => Has w [(w2.heap.size, 24, #[.int .u64 z, .int .u64 z']), (w1.heap.size, 24, #[.int .u64 z, .int .u64 z']), (w.heap.size + 1 + 1, 24, #[.int .u64 ah, .int .u64 al]), (w.heap.size + 1, 26, #[.int .u64 K, .int .u64 j, .int .u64 m]), (w.heap.size, 26, #[.int .u64 H, .int .u64 h, .int .u64 l])] w' ∧
      w'.cell? ⟨w2.heap.size, 0, none⟩ = some (.int .u64 z) ∧ w'.cell? ⟨w2.heap.size, 1, none⟩ = some (.int .u64 z') ∧ w'.cell? ⟨w1.heap.size, 0, none⟩ = some (.int .u64 z) ∧ w'.cell? ⟨w1.heap.size, 1, none⟩ = some (.int .u64 z') ∧ w'.cell? ⟨w.heap.size + 1 + 1, 0, none⟩ = some (.int .u64 ah) ∧ w'.cell? ⟨w.heap.size + 1 + 1, 1, none⟩ = some (.int .u64 al) ∧ w'.cell? ⟨w.heap.size + 1, 0, none⟩ = some (.int .u64 K) ∧ w'.cell? ⟨w.heap.size + 1, 1, none⟩ = some (.int .u64 j) ∧ w'.cell? ⟨w.heap.size + 1, 2, none⟩ = some (.int .u64 m) ∧ w'.cell? ⟨w.heap.size, 0, none⟩ = some (.int .u64 H) ∧ w'.cell? ⟨w.heap.size, 1, none⟩ = some (.int .u64 h) ∧ w'.cell? ⟨w.heap.size, 2, none⟩ = some (.int .u64 l))
    (first | exact held_drew fact K2 | exact held_keep fact (by assumption) (by assumption) | exact held_past fact (by assumption) _ | fail)
    (first
      | (go_at_call 11; refine (wof_any _ _ _).mono ?_; rintro e y1 ⟨rfl, j1⟩)
      | (go_at_call 12; refine (rwof_any _ _ _).mono ?_; rintro e y2 ⟨rfl, j2⟩)
      | (go_at_call 13; refine (cP _).mono ?_; rintro e y3 ⟨rfl, j3⟩)
      | (go_at_call 14; refine (rP _).mono ?_; rintro e y4 ⟨rfl, j4⟩)
      | (go_at_call 15; refine (cA _).mono ?_; rintro e y5 ⟨rfl, j5⟩)
      | (go_at_call 16; refine (rA _).mono ?_; rintro e y6 ⟨rfl, j6⟩)
      | fail)
  have hh : ∃ Q, Has w [(w2.heap.size, 24, #[.int .u64 z, .int .u64 z']), (w1.heap.size, 24, #[.int .u64 z, .int .u64 z']), (w.heap.size + 1 + 1, 24, #[.int .u64 ah, .int .u64 al]), (w.heap.size + 1, 26, #[.int .u64 K, .int .u64 j, .int .u64 m]), (w.heap.size, 26, #[.int .u64 H, .int .u64 h, .int .u64 l])] y6 ∧ Q := ⟨_, by assumption⟩
  obtain ⟨Q, K6, -⟩ := hh
  obtain ⟨p1, p2, p3, p4, p5⟩ := (K6.box 0).two
  obtain ⟨q1, q2, q3, q4, q5⟩ := (K6.box 1).two
  obtain ⟨r1, r2, r3, r4, r5⟩ := (K6.box 2).two
  obtain ⟨s1, s2, s3, s4, s5, s6, s7⟩ := (K6.box 3).three
  obtain ⟨t1, t2, t3, t4, t5, t6, t7⟩ := (K6.box 4).three
  clear j1 j2 j3 j4 j5 j6 h1 h2
  go_upto_region 5 with fail
  go_region_held3 (fun w' => Has w [(w2.heap.size, 24, #[.int .u64 z, .int .u64 z']), (w1.heap.size, 24, #[.int .u64 z, .int .u64 z']), (w.heap.size + 1 + 1, 24, #[.int .u64 ah, .int .u64 al]), (w.heap.size + 1, 26, #[.int .u64 K, .int .u64 j, .int .u64 m]), (w.heap.size, 26, #[.int .u64 H, .int .u64 h, .int .u64 l])] w' ∧
      w'.cell? ⟨w2.heap.size, 0, none⟩ = some (.int .u64 z) ∧ w'.cell? ⟨w2.heap.size, 1, none⟩ = some (.int .u64 z') ∧ w'.cell? ⟨w1.heap.size, 0, none⟩ = some (.int .u64 z) ∧ w'.cell? ⟨w1.heap.size, 1, none⟩ = some (.int .u64 z') ∧ w'.cell? ⟨w.heap.size + 1 + 1, 0, none⟩ = some (.int .u64 ah) ∧ w'.cell? ⟨w.heap.size + 1 + 1, 1, none⟩ = some (.int .u64 al) ∧ w'.cell? ⟨w.heap.size + 1, 0, none⟩ = some (.int .u64 K) ∧ w'.cell? ⟨w.heap.size + 1, 1, none⟩ = some (.int .u64 j) ∧ w'.cell? ⟨w.heap.size + 1, 2, none⟩ = some (.int .u64 m) ∧ w'.cell? ⟨w.heap.size, 0, none⟩ = some (.int .u64 H) ∧ w'.cell? ⟨w.heap.size, 1, none⟩ = some (.int .u64 h) ∧ w'.cell? ⟨w.heap.size, 2, none⟩ = some (.int .u64 l))
    (first | exact held_drew fact K6 | exact held_keep fact (by assumption) (by assumption) | exact held_past fact (by assumption) _ | fail)
    (first
      | (go_at_call 17; refine (cC _).mono ?_; rintro e z1 ⟨rfl, j1⟩)
      | (go_at_call 18; refine (rC _).mono ?_; rintro e z2 ⟨rfl, j2⟩)
      | (go_at_call 19; refine (cL _).mono ?_; rintro e z3 ⟨rfl, j3⟩)
      | (go_at_call 20; refine (rL _).mono ?_; rintro e z4 ⟨rfl, j4⟩)
      | fail)
  go_wp2
  have hh : ∃ Q, Has w [(w2.heap.size, 24, #[.int .u64 z, .int .u64 z']), (w1.heap.size, 24, #[.int .u64 z, .int .u64 z']), (w.heap.size + 1 + 1, 24, #[.int .u64 ah, .int .u64 al]), (w.heap.size + 1, 26, #[.int .u64 K, .int .u64 j, .int .u64 m]), (w.heap.size, 26, #[.int .u64 H, .int .u64 h, .int .u64 l])] z4 ∧ Q := ⟨_, by assumption⟩
  obtain ⟨Q, K9, -⟩ := hh
  go_ret
  exact ⟨rfl, K9.below⟩

theorem wideAdds_core (H : Type) (enc : TypeId × Value → H) (W : World) (base : Nat) (args : Array Value) (ds gs : List (DataW H)) (before : List MemPlace)
    (hval : ∀ (j : Nat) t v, Try.f3.params[j]? = some t → args[j]? = some v → Value.okWide Try.prog W .any base t v)
    (hW : DataW.Whole enc Try.prog Try.f3.params.toList Rows.wideAddsSpec.vars false W args.toList ds gs before) :
    gs = [] ∧ ds.length = 3 ∧ Calls Try.prog 3 args W (Tells (.bool true) W.heap.size W) := by
  obtain ⟨p, q, hA, hV, -, -, -⟩ := hW
  obtain ⟨rfl, rfl⟩ := trodVars_none hV
  have hA : DataW.TrodAll enc Try.prog W 0 (fun _ => true) true Try.f3.params.toList args.toList ds p := hA
  rw [Try.params3] at hA hval
  obtain ⟨v0, v1, v2, d0, d1, d2, p0, p1, p2, rfl, rfl, -, h0, h1, h2⟩ := trodAll_three hA
  obtain ⟨H, h, l, rfl, a, b, c⟩ := open_wide (hval 0 _ v0 rfl rfl) h0
  obtain ⟨K, j, m, rfl, a', b', c'⟩ := open_wide (hval 1 _ v1 rfl rfl) h1
  obtain ⟨ah, al, rfl, a1, a0⟩ := open_num (hval 2 _ v2 rfl rfl) h2
  exact ⟨rfl, rfl, wadds_walk H h l K j m ah al a b c a' b' c' a1 a0 W⟩

set_option maxRecDepth 100000 in
theorem wideAdds_lifted (os : Os) (started : os.Started) (H : Type) (enc : TypeId × Value → H) :
    ReturnsInHanded {} Try.checked os 3 .any (Rows.wideAddsSpec.pre6 enc Try.prog Try.f3 Rows.wideAddsRow.domain false) (Rows.wideAddsSpec.post enc Try.prog Try.f3 false true false false) := by
  refine returnsInHanded_of_change (C := Try.checked) own_knob started (by kernel_rfl) Try.func3
    (ChangeSpec.witness6 (enc := enc) (C := Try.checked) false ⟨#[], #[.agg #[.int .u64 0, .int .u64 0, .int .u64 0], .agg #[.int .u64 0, .int .u64 0, .int .u64 0], .agg #[.int .u64 0, .int .u64 0]], []⟩ 8 (by kernel_rfl) (by kernel_rfl) (by kernel_rfl) (by kernel_rfl)) ?_
  intro W base args ds gs before hval hW _ _
  obtain ⟨hg, hlen, hc⟩ := wideAdds_core H enc W base args ds gs before hval hW
  subst hg
  have hr : (Try.f3.params.toList.all fun t => Try.prog.readableRec t && decide (t < Try.prog.types.size)) = true := by kernel_rfl
  have hread : ∀ t ∈ Try.f3.params.toList, Try.prog.readableRec t = true ∧ t < Try.prog.types.size := fun t ht => by
    have h := List.all_eq_true.1 hr t ht
    rw [Bool.and_eq_true, decide_eq_true_eq] at h
    exact h
  refine hc.mono fun e W' ⟨he, hb⟩ => ?_
  subst he
  match ds, hlen with
  | [d0, d1, d2], _ => exact ⟨_, rfl, law_post laid_out Try.underlying4 rfl hread rfl hW rfl rfl rfl hb⟩

theorem wideAdds_holds : Rows.WideAddsSaid :=
  OpenClaim.holds_of_wide 3 Try.f3 rfl rfl rfl rfl rfl rfl rfl ⟨rfl, rfl, rfl, rfl, rfl⟩ rfl rfl rfl rfl rfl (by kernel_rfl) Try.func3 (by kernel_rfl)
    (of_decide_eq_true (by kernel_rfl)) (by unfold Func.isWrapper; first | (rw [if_pos (by decide +kernel)]; kernel_rfl) | (rw [if_neg (by decide +kernel)]; exact ⟨rfl, rfl⟩))
    (fun os started H enc _ => wideAdds_lifted os started H enc)

end Go.Proofs.Ytpafamlegfdclaa
