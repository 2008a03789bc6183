/-
  The law OctetNil: nothing is written into a nil Out, a nil In is spoilt.
  Conditions: none of its own; that utf8's two tables hold what their texts lay is the form's constant (tied by the card), and isn't used.
-/
import Derived.Test.YtakhdhbalmcohaaDoorT8Write
import Derived.Test.YtakhdhbalmcohaaDoorU8Read
import Derived.Test.YtakhdhbalmcohaaDoorE8Num
import Derived.Test.YtakhdhbalmcohaaDoorW8Laid
namespace Go.Proofs.YtakhdhbalmcohaaDoor
set_option linter.unusedVariables false
set_option linter.unusedSimpArgs false
set_option maxRecDepth 10000
open Go.ChangeShapes Go.WideShapes Go.ChangeAt Go.RowKit

set_option maxHeartbeats 2000000 in
theorem nil_walk (x : Th) (ok : x.Ok) (w : World) : Calls Tryd.prog 4 #[x.val] w (Tells (.bool true) w.heap.size w) := by
  have hsz : (w.alloc (.cells (thC x) 37)).heap.size = w.heap.size + 1 := by simp
  cases hl : longT [x] with
  | true =>
    have ev : x.val = .agg #[.int .u8 x.k, .int .u64 x.h, .int .u64 x.l, .string x.s, .int .i64 x.m] := rfl
    rw [ev]
    have B0 := Box.made w 37 (thC x)
    have H0 := (Has.start w).addAt 37 (thC x) rfl
    have H1 := H0.addAt 37 (thC x) (g := w.heap.size + 1) (by simp)
    have hR := ThRow.one (H1.box 0)
    have cL := fun (u : World) hu => long_things (some ⟨w.heap.size + 1, 0, none⟩) 1 [x] (by show 1 ≤ _; omega) u hu
    obtain ⟨q0, q1, q2, q3, q4⟩ := B0.thing
    have hin := B0.inside
    go_enter Tryd.func4, Tryd.ntmps4
    go_upto_region 1 with fail
    change Code.wp _ _ _ _ (w.alloc (.cells (thC x) 37))
    generalize w.alloc (.cells (thC x) 37) = W at *
    rw [hl] at cL
    go_wp2_with (first
      | (go_at_call 8; refine (cL _ hR).mono ?_; rintro e w1 ⟨rfl, rfl⟩)
      | fail)
    go_ret
    exact ⟨rfl, H1.below⟩
  | false =>
    have hs : x.s.size ≤ 2000 := (longT_no hl).2 x (by simp)
    have cW := fun u => law_write_none x ok (by omega) u
    rw [show x.val = .agg #[.int .u8 x.k, .int .u64 x.h, .int .u64 x.l, .string x.s, .int .i64 x.m] from rfl] at cW
    have c1 := fun u => out_done_none u
    have c2 := fun u => in_spoil_none u
    have c3 := fun u => in_byte_none u
    have c4 := fun u => in_num_none u
    have c5 := fun u => in_wide_none u
    have c6 := fun u => in_flag_none u
    have c7 := fun u => in_text_none u
    have c8 := fun u => in_spoilt_none u
    have c9 := fun u => in_rest_none u
    have c10 := fun u => in_close_none u
    have hz := fun u => eql_n8_same 0 0 u
    have ev : x.val = .agg #[.int .u8 x.k, .int .u64 x.h, .int .u64 x.l, .string x.s, .int .i64 x.m] := rfl
    rw [ev]
    have B0 := Box.made w 37 (thC x)
    have H0 := (Has.start w).addAt 37 (thC x) rfl
    have H1 := H0.addAt 37 (thC x) (g := w.heap.size + 1) (by simp)
    have hR := ThRow.one (H1.box 0)
    have cL := fun (u : World) hu => long_things (some ⟨w.heap.size + 1, 0, none⟩) 1 [x] (by show 1 ≤ _; omega) u hu
    obtain ⟨q0, q1, q2, q3, q4⟩ := B0.thing
    have hin := B0.inside
    go_enter Tryd.func4, Tryd.ntmps4
    go_upto_region 1 with fail
    change Code.wp _ _ _ _ (w.alloc (.cells (thC x) 37))
    generalize w.alloc (.cells (thC x) 37) = W at *
    rw [hl] at cL
    go_upto_region 5 with (first
      | (go_at_call 8; refine (cL _ hR).mono ?_; rintro e w1 ⟨rfl, rfl⟩)
      | fail)
    have H2 := H1
    change Code.wp _ _ _ _ (W.alloc (.cells (thC x) 37))
    generalize W.alloc (.cells (thC x) 37) = W2 at *
    clear q0 q1 q2 q3 q4 hin
    obtain ⟨q0, q1, q2, q3, q4⟩ := (H2.box 1).thing
    have hin := (H2.box 1).inside
    go_wp2_with (first
      | (go_at_call 12; refine (cW _).mono ?_; rintro e w2 ⟨rfl, b2⟩)
      | (go_at_call 14; refine (c1 _).mono ?_; rintro e w3 ⟨rfl, rfl⟩)
      | (go_at_call 15; refine (c2 _).mono ?_; rintro e w4 ⟨rfl, rfl⟩)
      | (go_at_call 16; refine (c3 _).mono ?_; rintro e w5 ⟨rfl, b5⟩)
      | (go_at_call 17; refine (c4 _).mono ?_; rintro e w6 ⟨rfl, b6⟩)
      | (go_at_call 18; refine (c5 _).mono ?_; rintro e w7 ⟨rfl, b7⟩)
      | (go_at_call 19; refine (c6 _).mono ?_; rintro e w8 ⟨rfl, b8⟩)
      | (go_at_call 20; refine (c7 _).mono ?_; rintro e w9 ⟨rfl, b9⟩)
      | (go_at_call 21; refine (c8 _).mono ?_; rintro e w10 ⟨rfl, rfl⟩)
      | (go_at_call 22; refine (c9 _).mono ?_; rintro e w11 ⟨rfl, rfl⟩)
      | (go_at_call 23; refine (c10 _).mono ?_; rintro e w12 ⟨rfl, rfl⟩))
    go_ret
    exact ⟨rfl, chain (chain (chain (chain (chain (chain H2.below b2) b5) b6) b7) b8) b9⟩

theorem octetNil_core (H : Type) (enc : TypeId × Value → H) (W : World) (base : Nat) (args : Array Value) (ds gs : List (DataW H)) (before : List MemPlace)
    (hval : ∀ (j : Nat) t v, Tryd.f4.params[j]? = some t → args[j]? = some v → Value.okWide Tryd.prog W .any base t v)
    (hW : DataW.Whole enc Tryd.prog Tryd.f4.params.toList Rows.octetNilSpec.vars false W args.toList ds gs before) (hT : True) :
    gs = [] ∧ ds.length = 1 ∧ Calls Tryd.prog 4 args W (Tells (.bool true) W.heap.size W) := by
  obtain ⟨p, q, hA, hV, -, -, -⟩ := hW
  obtain ⟨rfl, rfl⟩ := trodVars_none hV
  have hA : DataW.TrodAll enc Tryd.prog W 0 (fun _ => true) true Tryd.f4.params.toList args.toList ds p := hA
  rw [Tryd.params4] at hA hval
  obtain ⟨v0, vs0, d0, ds0, p0, ps0, e0, rfl, -, h0, hA⟩ := trodAll_cons hA
  obtain ⟨rfl, rfl, rfl⟩ := trodAll_nil hA
  obtain rfl : args = #[v0] := Array.ext' e0
  obtain ⟨x, rfl, ok⟩ := open_thing (hval 0 37 v0 rfl rfl) h0
  exact ⟨rfl, rfl, nil_walk x ok W⟩

set_option maxRecDepth 100000 in
theorem octetNil_lifted (os : Os) (started : os.Started) (H : Type) (enc : TypeId × Value → H) :
    ReturnsInHanded {} Tryd.checked os 4 .any (fun w args => (Rows.octetNilSpec.pre enc Tryd.prog Tryd.f4 [] false w args ∧ laidMetH Tryd.prog laidU w) ∧ sizedMet enc Tryd.prog Tryd.f4 (OpenSpec.ofChange Rows.octetNilSpec) false w args)
      (Rows.octetNilSpec.post enc Tryd.prog Tryd.f4 false true false false) := by
  refine returnsInHanded_of_change_and (C := Tryd.checked) (X := fun w _ => laidMetH Tryd.prog laidU w) (fun _ _ _ hh h => h.of_heap hh) own_knob started (by kernel_rfl) Tryd.func4
    (ChangeSpec.witness_shaped (enc := enc) (C := Tryd.checked) (os := os) (X := fun w _ => laidMetH Tryd.prog laidU w) false (World.laidAll Tryd.prog os laidU) #[.agg #[.int .u8 0, .int .u64 0, .int .u64 0, .string ⟨#[]⟩, .int .i64 0]] 8 (World.laidAll_os _ _ _) (World.shaped_of_ZipB (by kernel_rfl) (by kernel_rfl)) (by kernel_rfl) (by kernel_rfl) (by kernel_rfl) (met_U os _)) ?_
  intro W base args ds gs before hval0 hW _ hwt hL _
  have hval : ∀ (j : Nat) t v, Tryd.f4.params[j]? = some t → args[j]? = some v → Value.okWide Tryd.prog W .any base t v := hval0
  obtain ⟨hg, hlen, hc⟩ := octetNil_core H enc W base args ds gs before hval hW (tab_of_laidU hL)
  subst hg
  have hr : (Tryd.f4.params.toList.all fun t => Tryd.prog.readableRec t && decide (t < Tryd.prog.types.size)) = true := by kernel_rfl
  have hread : ∀ t ∈ Tryd.f4.params.toList, Tryd.prog.readableRec t = true ∧ t < Tryd.prog.types.size := fun t ht => by
    have h := List.all_eq_true.1 hr t ht
    rw [Bool.and_eq_true, decide_eq_true_eq] at h
    exact h
  refine hc.mono fun e W' ⟨he, hb⟩ => ?_
  subst he
  match ds, hlen with
  | [d0], _ => exact ⟨_, rfl, law_post laid_out Tryd.underlying4 rfl hread rfl hW rfl rfl rfl hb⟩

theorem octetNil_holds : Rows.OctetNilSaid :=
  OpenClaim.holds_of_wide 4 Tryd.f4 rfl rfl rfl rfl rfl rfl rfl ⟨rfl, rfl, rfl, rfl, rfl⟩ rfl rfl rfl rfl rfl (by kernel_rfl) Tryd.func4 (by kernel_rfl)
    (of_decide_eq_true (by kernel_rfl)) (by unfold Func.isWrapper; first | (rw [if_pos (by decide +kernel)]; kernel_rfl) | (rw [if_neg (by decide +kernel)]; exact ⟨rfl, rfl⟩))
    (fun os started H enc _ => octetNil_lifted os started H enc)

theorem octetNil_card : Rows.OctetNilCardSaid :=
  Claim7.holds_tied_plain_at .later [] [.data, .pinned] true _ false
    octetNil_holds (fun _ h => by cases h) (by kernel_rfl) (fun _ h => by cases h) octetNil_row_tie rfl ⟨rfl, rfl⟩ (by kernel_rfl) rfl
    (fun f fn hf hfn => by
      obtain rfl : f = 4 := Option.some.inj ((show Tryd.prog.funcNamed "paymaster/paymasterlaw08.OctetNil" = some 4 by kernel_rfl).symm.trans hf) |>.symm
      obtain rfl : fn = Tryd.f4 := (Option.some.inj (Tryd.func4.symm.trans hfn)).symm
      exact ⟨by kernel_rfl, fun j t ht => by
        have hm : t ∈ Tryd.f4.params.toList := by simpa using Array.mem_of_getElem? ht
        have hall : (Tryd.f4.params.toList.all fun u => !Tryd.prog.wantsStandIn u) = true := by kernel_rfl
        exact (show Tryd.prog.wantsStandIn t = false by simpa using List.all_eq_true.1 hall t hm)⟩)
    (by kernel_rfl)

end Go.Proofs.YtakhdhbalmcohaaDoor
