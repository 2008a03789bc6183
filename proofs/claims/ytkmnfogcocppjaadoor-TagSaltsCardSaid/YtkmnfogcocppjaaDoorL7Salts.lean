/-
  The law TagSalts: the salts, the pad's leaf and any Id's first slot are what the chapter says.
  Conditions: block's table of constants holds what the program's text lays (tied by the card).
-/
import Derived.Test.YtkmnfogcocppjaaDoorR7Salt
import Derived.Test.YtkmnfogcocppjaaDoorW7Laid
namespace Go.Proofs.YtkmnfogcocppjaaDoor
set_option linter.unusedVariables false
set_option linter.unusedSimpArgs false
set_option maxRecDepth 10000
open Go.ChangeShapes Go.WideShapes Go.ChangeAt Go.RowKit

theorem eql_lf_same (x : Lf) (w : World) : (binOp .eql 26 x.val x.val).run Tryd.prog w = .ok (.bool true) w := by rw [run_eql_lf, Lf.same_self]
theorem int64_of {x : Int} (h : (Lit.int .i64 x).wf = true) : -9223372036854775808 ≤ x ∧ x ≤ 9223372036854775807 := by
  simp [Lit.wf, IntKind.min, IntKind.max, IntKind.signed, IntKind.bits] at h
  omega
set_option maxHeartbeats 1000000 in
theorem tsalts_long (seed id : ByteArray) (n k : Int) (h : 300 < seed.size ∨ 300 < id.size) (h1 : seed.size ≤ 9223372036854775807) (h2 : id.size ≤ 9223372036854775807) (w : World) :
    Calls Tryd.prog 5 #[.string seed, .string id, .int .u64 n, .int .i64 k] w (Tells (.bool true) w.heap.size w) := by
  by_cases a1 : (300 : Int) < (seed.size : Int)
  · go_enter Tryd.func5, Tryd.ntmps5
    go_wp2
    go_ret
    exact ⟨rfl, Below.refl _ _⟩
  · have a2 : (300 : Int) < (id.size : Int) := by omega
    go_enter Tryd.func5, Tryd.ntmps5
    go_wp2
    go_ret
    exact ⟨rfl, Below.refl _ _⟩
set_option maxHeartbeats 4000000 in
theorem tsalts_short (seed id : ByteArray) (n k : Int) (hn : Word n) (h1 : seed.size ≤ 300) (h2 : id.size ≤ 300) (w : World) (hT : Tab w) :
    Calls Tryd.prog 5 #[.string seed, .string id, .int .u64 n, .int .i64 k] w (Tells (.bool true) w.heap.size w) := by
  have a1 : ¬ ((300 : Int) < (seed.size : Int)) := by omega
  have a2 : ¬ ((300 : Int) < (id.size : Int)) := by omega
  have c1 := fun u hu => salt_any seed id (by omega) (by omega) u hu
  have d1 := fun u => rsalt_any seed id (by omega) (by omega) u
  have c2 := fun u hu => padSalt_any seed n (by omega) hn u hu
  have d2 := fun u => rpadSalt_any seed n (by omega) hn u
  have c3 := fun u hu => pad_any seed n (by omega) hn u hu
  have d3 := fun u => rpad_any seed n (by omega) hn u
  have c4 := fun u hu => first7_any seed id k (by omega) (by omega) u hu
  have d4 := fun u => rfirst7_any seed id k (by omega) (by omega) u
  generalize saltB seed id = A at *
  generalize padSaltB seed n = B at *
  generalize padLf seed n = x at *
  generalize firstN seed id k = f at *
  have hx := fun u => eql_lf_same x u
  simp only [Lf.val] at c3 d3 hx
  go_enter Tryd.func5, Tryd.ntmps5
  go_wp2_with (first
    | (go_at_call 27; refine (c1 _ hT).mono ?_; rintro e w1 ⟨rfl, b1⟩; have L1 := b1)
    | (go_at_call 28; refine (d1 _).mono ?_; rintro e w2 ⟨rfl, b2⟩; have L2 := chain L1 b2)
    | (go_at_call 29; refine (c2 _ (hT.call L2)).mono ?_; rintro e w3 ⟨rfl, b3⟩; have L3 := chain L2 b3)
    | (go_at_call 30; refine (d2 _).mono ?_; rintro e w4 ⟨rfl, b4⟩; have L4 := chain L3 b4)
    | (go_at_call 31; refine (c3 _ (hT.call L4)).mono ?_; rintro e w5 ⟨rfl, b5⟩; have L5 := chain L4 b5)
    | (go_at_call 32; refine (d3 _).mono ?_; rintro e w6 ⟨rfl, b6⟩; have L6 := chain L5 b6)
    | (go_at_call 33; refine (c4 _ (hT.call L6)).mono ?_; rintro e w7 ⟨rfl, b7⟩; have L7 := chain L6 b7)
    | (go_at_call 34; refine (d4 _).mono ?_; rintro e w8 ⟨rfl, b8⟩; have L8 := chain L7 b8))
  go_ret
  exact ⟨rfl, L8⟩

theorem tagSalts_core (H : Type) (enc : TypeId × Value → H) (W : World) (base : Nat) (args : Array Value) (ds gs : List (DataW H)) (before : List MemPlace)
    (hval : ∀ (j : Nat) t v, Tryd.f5.params[j]? = some t → args[j]? = some v → Value.okWide Tryd.prog W .any base t v)
    (hW : DataW.Whole enc Tryd.prog Tryd.f5.params.toList Rows.tagSaltsSpec.vars false W args.toList ds gs before) (hT : Tab W) :
    gs = [] ∧ ds.length = 4 ∧ Calls Tryd.prog 5 args W (Tells (.bool true) W.heap.size W) := by
  obtain ⟨p, q, hA, hV, -, -, -⟩ := hW
  obtain ⟨rfl, rfl⟩ := trodVars_none hV
  have hA : DataW.TrodAll enc Tryd.prog W 0 (fun _ => true) true Tryd.f5.params.toList args.toList ds p := hA
  rw [Tryd.params5] at hA hval
  obtain ⟨v0, vs0, d0, ds0, p0, ps0, e0, rfl, -, h0, hA⟩ := trodAll_cons hA
  obtain ⟨v1, vs1, d1, ds1, p1, ps1, rfl, rfl, -, h1, hA⟩ := trodAll_cons hA
  obtain ⟨v2, vs2, d2, ds2, p2, ps2, rfl, rfl, -, h2, hA⟩ := trodAll_cons hA
  obtain ⟨v3, vs3, d3, ds3, p3, ps3, rfl, rfl, -, h3, hA⟩ := trodAll_cons hA
  obtain ⟨rfl, rfl, rfl⟩ := trodAll_nil hA
  obtain rfl : args = #[v0, v1, v2, v3] := Array.ext' e0
  obtain ⟨seed, rfl, rfl, rfl, z1⟩ := Go.ChangeMaps.open_string Tryd.underlying9 (hval 0 9 v0 rfl rfl) h0
  obtain ⟨id, rfl, rfl, rfl, z2⟩ := Go.ChangeMaps.open_string Tryd.underlying9 (hval 1 9 v1 rfl rfl) h1
  obtain ⟨n, rfl, -, -, bn⟩ := open_int Tryd.underlying22 (hval 2 22 v2 rfl rfl) h2
  obtain ⟨k, rfl, -, -, bk⟩ := open_int Tryd.underlying3 (hval 3 3 v3 rfl rfl) h3
  have hn := word_of (x := n) (by simpa using bn)
  refine ⟨rfl, rfl, ?_⟩
  by_cases h : 300 < seed.size ∨ 300 < id.size
  · exact tsalts_long seed id n k h z1 z2 W
  · exact tsalts_short seed id n k hn (by omega) (by omega) W hT

set_option maxRecDepth 100000 in
theorem tagSalts_lifted (os : Os) (started : os.Started) (H : Type) (enc : TypeId × Value → H) :
    ReturnsInHanded {} Tryd.checked os 5 .any (fun w args => (Rows.tagSaltsSpec.pre enc Tryd.prog Tryd.f5 [] false w args ∧ laidMetH Tryd.prog laidC w) ∧ sizedMet enc Tryd.prog Tryd.f5 (OpenSpec.ofChange Rows.tagSaltsSpec) false w args)
      (Rows.tagSaltsSpec.post enc Tryd.prog Tryd.f5 false true false false) := by
  refine returnsInHanded_of_change_and (C := Tryd.checked) (X := fun w _ => laidMetH Tryd.prog laidC w) (fun _ _ _ hh h => h.of_heap hh) own_knob started (by kernel_rfl) Tryd.func5
    (ChangeSpec.witness_shaped (enc := enc) (C := Tryd.checked) (os := os) (X := fun w _ => laidMetH Tryd.prog laidC w) false (World.laidAll Tryd.prog os laidC) #[.string ⟨#[]⟩, .string ⟨#[]⟩, .int .u64 0, .int .i64 0] 8 (World.laidAll_os _ _ _) (World.shaped_of_ZipB (by kernel_rfl) (by kernel_rfl)) (by kernel_rfl) (by kernel_rfl) (by kernel_rfl) (met_C os _)) ?_
  intro W base args ds gs before hval0 hW _ hwt hL _
  have hval : ∀ (j : Nat) t v, Tryd.f5.params[j]? = some t → args[j]? = some v → Value.okWide Tryd.prog W .any base t v := hval0
  obtain ⟨hg, hlen, hc⟩ := tagSalts_core H enc W base args ds gs before hval hW (tab_of_laidC hL)
  subst hg
  have hr : (Tryd.f5.params.toList.all fun t => Tryd.prog.readableRec t && decide (t < Tryd.prog.types.size)) = true := by kernel_rfl
  have hread : ∀ t ∈ Tryd.f5.params.toList, Tryd.prog.readableRec t = true ∧ t < Tryd.prog.types.size := fun t ht => by
    have h := List.all_eq_true.1 hr t ht
    rw [Bool.and_eq_true, decide_eq_true_eq] at h
    exact h
  refine hc.mono fun e W' ⟨he, hb⟩ => ?_
  subst he
  match ds, hlen with
  | [d0, d1, d2, d3], _ => exact ⟨_, rfl, law_post laid_out Tryd.underlying4 rfl hread rfl hW rfl rfl rfl hb⟩

theorem tagSalts_holds : Rows.TagSaltsSaid :=
  OpenClaim.holds_of_wide 5 Tryd.f5 rfl rfl rfl rfl rfl rfl rfl ⟨rfl, rfl, rfl, rfl, rfl⟩ rfl rfl rfl rfl rfl (by kernel_rfl) Tryd.func5 (by kernel_rfl)
    (of_decide_eq_true (by kernel_rfl)) (by unfold Func.isWrapper; first | (rw [if_pos (by decide +kernel)]; kernel_rfl) | (rw [if_neg (by decide +kernel)]; exact ⟨rfl, rfl⟩))
    (fun os started H enc _ => tagSalts_lifted os started H enc)

theorem tagSalts_card : Rows.TagSaltsCardSaid :=
  Claim7.holds_tied_plain_at .later [] [.data] true _ false
    tagSalts_holds (fun _ h => by cases h) (by kernel_rfl) (fun _ h => by cases h) tagSalts_row_tie rfl ⟨rfl, rfl⟩ (by kernel_rfl) rfl
    (fun f fn hf hfn => by
      obtain rfl : f = 5 := Option.some.inj ((show Tryd.prog.funcNamed "paymaster/paymasterlaw07.TagSalts" = some 5 by kernel_rfl).symm.trans hf) |>.symm
      obtain rfl : fn = Tryd.f5 := (Option.some.inj (Tryd.func5.symm.trans hfn)).symm
      exact ⟨by kernel_rfl, fun j t ht => by
        have hm : t ∈ Tryd.f5.params.toList := by simpa using Array.mem_of_getElem? ht
        have hall : (Tryd.f5.params.toList.all fun u => !Tryd.prog.wantsStandIn u) = true := by kernel_rfl
        exact (show Tryd.prog.wantsStandIn t = false by simpa using List.all_eq_true.1 hall t hm)⟩)
    (by kernel_rfl)

end Go.Proofs.YtkmnfogcocppjaaDoor
