/-
  The law BlockRounds: a round makes of any state what the document says, what undoes it undoes it, and the constants and the first state are the roots.
  Conditions: block's table of constants holds what the program's text lays (tied by the card).
-/
import Derived.Test.YtlceniljnejjeaaDoorH4Held
import Derived.Test.YtlceniljnejjeaaDoorW4Laid
import Derived.Test.YtlceniljnejjeaaDoorR4Next
import Derived.Test.YtlceniljnejjeaaDoorR5Table
namespace Go.Proofs.YtlceniljnejjeaaDoor
set_option linter.unusedVariables false
set_option linter.unusedSimpArgs false
open Go.ChangeShapes Go.WideShapes Go.ChangeAt Go.RowKit

set_option maxRecDepth 100000 in
set_option maxHeartbeats 4000000 in
theorem rounds_walk (s : St) (k : Int) (x : B32) (w : World) (hT : Tab w) : Calls Tryd.prog 3 #[.agg #[.int .u32 (iv s.a), .int .u32 (iv s.b), .int .u32 (iv s.c), .int .u32 (iv s.d), .int .u32 (iv s.e), .int .u32 (iv s.f), .int .u32 (iv s.g), .int .u32 (iv s.h)], .int .i64 k, .int .u32 (iv x)] w (Tells (.bool true) w.heap.size w) := by
  have H0 : Has w [(w.heap.size, 24, s.cs)] (w.alloc (.cells #[.int .u32 (iv s.a), .int .u32 (iv s.b), .int .u32 (iv s.c), .int .u32 (iv s.d), .int .u32 (iv s.e), .int .u32 (iv s.f), .int .u32 (iv s.g), .int .u32 (iv s.h)] 24)) := (Has.start w).add 24 #[.int .u32 (iv s.a), .int .u32 (iv s.b), .int .u32 (iv s.c), .int .u32 (iv s.d), .int .u32 (iv s.e), .int .u32 (iv s.f), .int .u32 (iv s.g), .int .u32 (iv s.h)]
  have t0 : Tab (w.alloc (.cells #[.int .u32 (iv s.a), .int .u32 (iv s.b), .int .u32 (iv s.c), .int .u32 (iv s.d), .int .u32 (iv s.e), .int .u32 (iv s.f), .int .u32 (iv s.g), .int .u32 (iv s.h)] 24)) := hT.past _
  have c1 := fun u => rround_any s k x u
  have c2 := fun u hu => round_any s k x u hu
  have c3 := fun u hu => unround_any (turned s (kAt k) x) k x u hu
  rw [unturned_turned] at c3
  have c4 := fun u hu => const_any k u hu
  have c5 := fun u => rconst_any k u
  have c6 := fun u => first_any u
  have c7 := fun u => rfirst_any u
  have c8 := fun u => start_any u
  generalize kAt k = kc at *
  generalize turned s kc x = F at *
  generalize st0 = Z at *
  have q1 := fun u => eql_st F u
  have q2 := fun u => eql_st s u
  have q3 := fun u => eql_st Z u
  have q4 := fun u => eql_a8 Z u
  go_enter Tryd.func3, Tryd.ntmps3
  go_upto_region 1 with fail
  generalize w.alloc _ = W0 at *
  obtain ⟨r0, r1, r2, r3, r4, r5, r6, r7⟩ := (H0.box 0).st
  have hin := (H0.box 0).inside
  go_upto_region 2 with (first | (go_at_call 13; refine (c1 _).mono ?_; rintro e w1 ⟨rfl, b1⟩; have H1 := (H0.call b1).add 23 F.cs; have t1 := (t0.call b1).past (.cells F.cs 23)))
  change Code.wp _ _ _ _ (w1.alloc (.cells F.cs 23))
  have hn7 : w.heap.size < w1.heap.size := Nat.lt_of_lt_of_le hin b1.size
  clear H0 t0 c1 b1 r0 r1 r2 r3 r4 r5 r6 r7 hin
  generalize w1.heap.size = n7 at *
  generalize w1.alloc (.cells F.cs 23) = W2 at *
  have fact : ∀ u, Has w [(n7, 23, F.cs), (w.heap.size, 24, s.cs)] u → (u.cell? ⟨n7, 0, none⟩ = some (.int .u32 (iv F.a)) ∧ u.cell? ⟨n7, 1, none⟩ = some (.int .u32 (iv F.b)) ∧ u.cell? ⟨n7, 2, none⟩ = some (.int .u32 (iv F.c)) ∧ u.cell? ⟨n7, 3, none⟩ = some (.int .u32 (iv F.d)) ∧ u.cell? ⟨n7, 4, none⟩ = some (.int .u32 (iv F.e)) ∧ u.cell? ⟨n7, 5, none⟩ = some (.int .u32 (iv F.f)) ∧ u.cell? ⟨n7, 6, none⟩ = some (.int .u32 (iv F.g)) ∧ u.cell? ⟨n7, 7, none⟩ = some (.int .u32 (iv F.h))) ∧ (u.cell? ⟨w.heap.size, 0, none⟩ = some (.int .u32 (iv s.a)) ∧ u.cell? ⟨w.heap.size, 1, none⟩ = some (.int .u32 (iv s.b)) ∧ u.cell? ⟨w.heap.size, 2, none⟩ = some (.int .u32 (iv s.c)) ∧ u.cell? ⟨w.heap.size, 3, none⟩ = some (.int .u32 (iv s.d)) ∧ u.cell? ⟨w.heap.size, 4, none⟩ = some (.int .u32 (iv s.e)) ∧ u.cell? ⟨w.heap.size, 5, none⟩ = some (.int .u32 (iv s.f)) ∧ u.cell? ⟨w.heap.size, 6, none⟩ = some (.int .u32 (iv s.g)) ∧ u.cell? ⟨w.heap.size, 7, none⟩ = some (.int .u32 (iv s.h))) ∧ n7 < u.heap.size ∧ w.heap.size < u.heap.size := fun u h => ⟨(h.box 0).st, (h.box 1).st, (h.box 0).inside, (h.box 1).inside⟩
  have S2 := heldT_start fact H1.drew (W := W2.drew) t1
  clear H1 t1 hT
  go_region_held3 (fun u => HasT w [(n7, 23, F.cs), (w.heap.size, 24, s.cs)] u ∧ (u.cell? ⟨n7, 0, none⟩ = some (.int .u32 (iv F.a)) ∧ u.cell? ⟨n7, 1, none⟩ = some (.int .u32 (iv F.b)) ∧ u.cell? ⟨n7, 2, none⟩ = some (.int .u32 (iv F.c)) ∧ u.cell? ⟨n7, 3, none⟩ = some (.int .u32 (iv F.d)) ∧ u.cell? ⟨n7, 4, none⟩ = some (.int .u32 (iv F.e)) ∧ u.cell? ⟨n7, 5, none⟩ = some (.int .u32 (iv F.f)) ∧ u.cell? ⟨n7, 6, none⟩ = some (.int .u32 (iv F.g)) ∧ u.cell? ⟨n7, 7, none⟩ = some (.int .u32 (iv F.h))) ∧ (u.cell? ⟨w.heap.size, 0, none⟩ = some (.int .u32 (iv s.a)) ∧ u.cell? ⟨w.heap.size, 1, none⟩ = some (.int .u32 (iv s.b)) ∧ u.cell? ⟨w.heap.size, 2, none⟩ = some (.int .u32 (iv s.c)) ∧ u.cell? ⟨w.heap.size, 3, none⟩ = some (.int .u32 (iv s.d)) ∧ u.cell? ⟨w.heap.size, 4, none⟩ = some (.int .u32 (iv s.e)) ∧ u.cell? ⟨w.heap.size, 5, none⟩ = some (.int .u32 (iv s.f)) ∧ u.cell? ⟨w.heap.size, 6, none⟩ = some (.int .u32 (iv s.g)) ∧ u.cell? ⟨w.heap.size, 7, none⟩ = some (.int .u32 (iv s.h))) ∧ n7 < u.heap.size ∧ w.heap.size < u.heap.size)
    (first
      | with_reducible exact S2
      | with_reducible assumption
      | with_reducible exact heldT_keep fact (by assumption) (by assumption)
      | fail)
    (first
      | (go_at_call 14; refine (c2 _ (tabOf (w := w) (l := [(n7, 23, F.cs), (w.heap.size, 24, s.cs)]) (C := fun u => (u.cell? ⟨n7, 0, none⟩ = some (.int .u32 (iv F.a)) ∧ u.cell? ⟨n7, 1, none⟩ = some (.int .u32 (iv F.b)) ∧ u.cell? ⟨n7, 2, none⟩ = some (.int .u32 (iv F.c)) ∧ u.cell? ⟨n7, 3, none⟩ = some (.int .u32 (iv F.d)) ∧ u.cell? ⟨n7, 4, none⟩ = some (.int .u32 (iv F.e)) ∧ u.cell? ⟨n7, 5, none⟩ = some (.int .u32 (iv F.f)) ∧ u.cell? ⟨n7, 6, none⟩ = some (.int .u32 (iv F.g)) ∧ u.cell? ⟨n7, 7, none⟩ = some (.int .u32 (iv F.h))) ∧ (u.cell? ⟨w.heap.size, 0, none⟩ = some (.int .u32 (iv s.a)) ∧ u.cell? ⟨w.heap.size, 1, none⟩ = some (.int .u32 (iv s.b)) ∧ u.cell? ⟨w.heap.size, 2, none⟩ = some (.int .u32 (iv s.c)) ∧ u.cell? ⟨w.heap.size, 3, none⟩ = some (.int .u32 (iv s.d)) ∧ u.cell? ⟨w.heap.size, 4, none⟩ = some (.int .u32 (iv s.e)) ∧ u.cell? ⟨w.heap.size, 5, none⟩ = some (.int .u32 (iv s.f)) ∧ u.cell? ⟨w.heap.size, 6, none⟩ = some (.int .u32 (iv s.g)) ∧ u.cell? ⟨w.heap.size, 7, none⟩ = some (.int .u32 (iv s.h))) ∧ n7 < u.heap.size ∧ w.heap.size < u.heap.size) (by assumption))).mono ?_; rintro e w2 ⟨rfl, b2⟩)
      | (go_at_call 15; refine (c3 _ (tabOf (w := w) (l := [(n7, 23, F.cs), (w.heap.size, 24, s.cs)]) (C := fun u => (u.cell? ⟨n7, 0, none⟩ = some (.int .u32 (iv F.a)) ∧ u.cell? ⟨n7, 1, none⟩ = some (.int .u32 (iv F.b)) ∧ u.cell? ⟨n7, 2, none⟩ = some (.int .u32 (iv F.c)) ∧ u.cell? ⟨n7, 3, none⟩ = some (.int .u32 (iv F.d)) ∧ u.cell? ⟨n7, 4, none⟩ = some (.int .u32 (iv F.e)) ∧ u.cell? ⟨n7, 5, none⟩ = some (.int .u32 (iv F.f)) ∧ u.cell? ⟨n7, 6, none⟩ = some (.int .u32 (iv F.g)) ∧ u.cell? ⟨n7, 7, none⟩ = some (.int .u32 (iv F.h))) ∧ (u.cell? ⟨w.heap.size, 0, none⟩ = some (.int .u32 (iv s.a)) ∧ u.cell? ⟨w.heap.size, 1, none⟩ = some (.int .u32 (iv s.b)) ∧ u.cell? ⟨w.heap.size, 2, none⟩ = some (.int .u32 (iv s.c)) ∧ u.cell? ⟨w.heap.size, 3, none⟩ = some (.int .u32 (iv s.d)) ∧ u.cell? ⟨w.heap.size, 4, none⟩ = some (.int .u32 (iv s.e)) ∧ u.cell? ⟨w.heap.size, 5, none⟩ = some (.int .u32 (iv s.f)) ∧ u.cell? ⟨w.heap.size, 6, none⟩ = some (.int .u32 (iv s.g)) ∧ u.cell? ⟨w.heap.size, 7, none⟩ = some (.int .u32 (iv s.h))) ∧ n7 < u.heap.size ∧ w.heap.size < u.heap.size) (by assumption))).mono ?_; rintro e w3 ⟨rfl, b3⟩)
      | (go_at_call 16; refine (c4 _ (tabOf (w := w) (l := [(n7, 23, F.cs), (w.heap.size, 24, s.cs)]) (C := fun u => (u.cell? ⟨n7, 0, none⟩ = some (.int .u32 (iv F.a)) ∧ u.cell? ⟨n7, 1, none⟩ = some (.int .u32 (iv F.b)) ∧ u.cell? ⟨n7, 2, none⟩ = some (.int .u32 (iv F.c)) ∧ u.cell? ⟨n7, 3, none⟩ = some (.int .u32 (iv F.d)) ∧ u.cell? ⟨n7, 4, none⟩ = some (.int .u32 (iv F.e)) ∧ u.cell? ⟨n7, 5, none⟩ = some (.int .u32 (iv F.f)) ∧ u.cell? ⟨n7, 6, none⟩ = some (.int .u32 (iv F.g)) ∧ u.cell? ⟨n7, 7, none⟩ = some (.int .u32 (iv F.h))) ∧ (u.cell? ⟨w.heap.size, 0, none⟩ = some (.int .u32 (iv s.a)) ∧ u.cell? ⟨w.heap.size, 1, none⟩ = some (.int .u32 (iv s.b)) ∧ u.cell? ⟨w.heap.size, 2, none⟩ = some (.int .u32 (iv s.c)) ∧ u.cell? ⟨w.heap.size, 3, none⟩ = some (.int .u32 (iv s.d)) ∧ u.cell? ⟨w.heap.size, 4, none⟩ = some (.int .u32 (iv s.e)) ∧ u.cell? ⟨w.heap.size, 5, none⟩ = some (.int .u32 (iv s.f)) ∧ u.cell? ⟨w.heap.size, 6, none⟩ = some (.int .u32 (iv s.g)) ∧ u.cell? ⟨w.heap.size, 7, none⟩ = some (.int .u32 (iv s.h))) ∧ n7 < u.heap.size ∧ w.heap.size < u.heap.size) (by assumption))).mono ?_; rintro e w4 ⟨rfl, rfl⟩)
      | (go_at_call 17; refine (c5 _).mono ?_; rintro e w5 ⟨rfl, b5⟩)
      | (go_at_call 18; refine (c6 _).mono ?_; rintro e w6 ⟨rfl, b6⟩)
      | (go_at_call 20; refine (c8 _).mono ?_; rintro e w8 ⟨rfl, b8⟩)
      | (go_at_call 19; refine (c7 _).mono ?_; rintro e w7 ⟨rfl, b7⟩)
      | fail)
  all_goals go_wp2_with fail
  all_goals
    have hh : ∃ Q, HasT w [(n7, 23, F.cs), (w.heap.size, 24, s.cs)] w7 ∧ Q := ⟨_, by assumption⟩
    obtain ⟨Q, hh, -⟩ := hh
    go_ret
    exact ⟨rfl, hh.1.below⟩

theorem blockRounds_core (H : Type) (enc : TypeId × Value → H) (W : World) (base : Nat) (args : Array Value) (ds gs : List (DataW H)) (before : List MemPlace)
    (hval : ∀ (j : Nat) t v, Tryd.f3.params[j]? = some t → args[j]? = some v → Value.okWide Tryd.prog W .any base t v)
    (hW : DataW.Whole enc Tryd.prog Tryd.f3.params.toList Rows.blockRoundsSpec.vars false W args.toList ds gs before) (hT : Tab W) :
    gs = [] ∧ ds.length = 3 ∧ Calls Tryd.prog 3 args W (Tells (.bool true) W.heap.size W) := by
  obtain ⟨p, q, hA, hV, -, -, -⟩ := hW
  obtain ⟨rfl, rfl⟩ := trodVars_none hV
  have hA : DataW.TrodAll enc Tryd.prog W 0 (fun _ => true) true Tryd.f3.params.toList args.toList ds p := hA
  rw [Tryd.params3] at hA hval
  obtain ⟨v0, vs0, d0, ds0, p0, ps0, e0, rfl, -, h0, hA⟩ := trodAll_cons hA
  obtain ⟨v1, vs1, d1, ds1, p1, ps1, rfl, rfl, -, h1, hA⟩ := trodAll_cons hA
  obtain ⟨v2, vs2, d2, ds2, p2, ps2, rfl, rfl, -, h2, hA⟩ := trodAll_cons hA
  obtain ⟨rfl, rfl, rfl⟩ := trodAll_nil hA
  obtain rfl : args = #[v0, v1, v2] := Array.ext' e0
  obtain ⟨st, rfl⟩ := open_st (hval 0 24 v0 rfl rfl) h0
  obtain ⟨n, rfl, -, -, -⟩ := open_int Tryd.underlying3 (hval 1 3 v1 rfl rfl) h1
  obtain ⟨x, rfl⟩ := open_u32 (hval 2 22 v2 rfl rfl) h2
  exact ⟨rfl, rfl, rounds_walk st n x W hT⟩

set_option maxRecDepth 100000 in
theorem blockRounds_lifted (os : Os) (started : os.Started) (H : Type) (enc : TypeId × Value → H) :
    ReturnsInHanded {} Tryd.checked os 3 .any (fun w args => (Rows.blockRoundsSpec.pre enc Tryd.prog Tryd.f3 [] false w args ∧ laidMetH Tryd.prog laidK w) ∧ sizedMet enc Tryd.prog Tryd.f3 (OpenSpec.ofChange Rows.blockRoundsSpec) false w args)
      (Rows.blockRoundsSpec.post enc Tryd.prog Tryd.f3 false true false false) := by
  refine returnsInHanded_of_change_and (C := Tryd.checked) (X := fun w _ => laidMetH Tryd.prog laidK w) (fun _ _ _ hh h => h.of_heap hh) own_knob started (by kernel_rfl) Tryd.func3
    (ChangeSpec.witness_shaped (enc := enc) (C := Tryd.checked) (os := os) (X := fun w _ => laidMetH Tryd.prog laidK w) false (World.doorLaid Tryd.prog 14 os) #[.agg #[.int .u32 0, .int .u32 0, .int .u32 0, .int .u32 0, .int .u32 0, .int .u32 0, .int .u32 0, .int .u32 0], .int .i64 0, .int .u32 0] 8 rfl (World.shaped_of_RefB (by kernel_rfl) (by kernel_rfl)) (by kernel_rfl) (by kernel_rfl) (by kernel_rfl) (door_met os _)) ?_
  intro W base args ds gs before hval0 hW _ hwt hL _
  have hval : ∀ (j : Nat) t v, Tryd.f3.params[j]? = some t → args[j]? = some v → Value.okWide Tryd.prog W .any base t v := hval0
  obtain ⟨hg, hlen, hc⟩ := blockRounds_core H enc W base args ds gs before hval hW (tab_of_laid hL)
  subst hg
  have hr : (Tryd.f3.params.toList.all fun t => Tryd.prog.readableRec t && decide (t < Tryd.prog.types.size)) = true := by kernel_rfl
  have hread : ∀ t ∈ Tryd.f3.params.toList, Tryd.prog.readableRec t = true ∧ t < Tryd.prog.types.size := fun t ht => by
    have h := List.all_eq_true.1 hr t ht
    rw [Bool.and_eq_true, decide_eq_true_eq] at h
    exact h
  refine hc.mono fun e W' ⟨he, hb⟩ => ?_
  subst he
  match ds, hlen with
  | [d0, d1, d2], _ => exact ⟨_, rfl, law_post laid_out Tryd.underlying4 rfl hread rfl hW rfl rfl rfl hb⟩

theorem blockRounds_holds : Rows.BlockRoundsSaid :=
  OpenClaim.holds_of_wide 3 Tryd.f3 rfl rfl rfl rfl rfl rfl rfl ⟨rfl, rfl, rfl, rfl, rfl⟩ rfl rfl rfl rfl rfl (by kernel_rfl) Tryd.func3 (by kernel_rfl)
    (of_decide_eq_true (by kernel_rfl)) (by unfold Func.isWrapper; first | (rw [if_pos (by decide +kernel)]; kernel_rfl) | (rw [if_neg (by decide +kernel)]; exact ⟨rfl, rfl⟩))
    (fun os started H enc _ => blockRounds_lifted os started H enc)

theorem blockRounds_card : Rows.BlockRoundsCardSaid :=
  Claim7.holds_tied_plain_at .later [] [.data] true _ false
    blockRounds_holds (fun _ h => by cases h) (by kernel_rfl) (fun _ h => by cases h) blockRounds_row_tie rfl ⟨rfl, rfl⟩ (by kernel_rfl) rfl
    (fun f fn hf hfn => by
      obtain rfl : f = 3 := Option.some.inj ((show Tryd.prog.funcNamed "paymaster/paymasterlaw04.BlockRounds" = some 3 by kernel_rfl).symm.trans hf) |>.symm
      obtain rfl : fn = Tryd.f3 := (Option.some.inj (Tryd.func3.symm.trans hfn)).symm
      exact ⟨by kernel_rfl, fun j t ht => by
        have hm : t ∈ Tryd.f3.params.toList := by simpa using Array.mem_of_getElem? ht
        have hall : (Tryd.f3.params.toList.all fun u => !Tryd.prog.wantsStandIn u) = true := by kernel_rfl
        exact (show Tryd.prog.wantsStandIn t = false by simpa using List.all_eq_true.1 hall t hm)⟩)
    (by kernel_rfl)

end Go.Proofs.YtlceniljnejjeaaDoor
