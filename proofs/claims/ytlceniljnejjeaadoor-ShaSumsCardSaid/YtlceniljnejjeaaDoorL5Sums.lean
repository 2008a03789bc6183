/-
  The law ShaSums: the digest of a text, its digits, and the padding of any length, are what the document says.
  Conditions: block's table of constants holds what the program's text lays (tied by the card).
-/
import Derived.Test.YtlceniljnejjeaaDoorU5Awake
import Derived.Test.YtlceniljnejjeaaDoorR5Sum
import Derived.Test.YtlceniljnejjeaaDoorR5Hex
import Derived.Test.YtlceniljnejjeaaDoorU5Hex
import Derived.Test.YtlceniljnejjeaaDoorH4Held
import Derived.Test.YtlceniljnejjeaaDoorW4Laid
namespace Go.Proofs.YtlceniljnejjeaaDoor
set_option linter.unusedVariables false
set_option linter.unusedSimpArgs false
open Go.ChangeShapes Go.WideShapes Go.ChangeAt Go.RowKit

set_option maxHeartbeats 1000000 in
theorem sums_long (s : ByteArray) (n : Nat) (h : 2000 < s.size) (hm : s.size ≤ 9223372036854775807) (w : World) : Calls Tryd.prog 6 #[.string s, .int .u64 n] w (Tells (.bool true) w.heap.size w) := by
  have h1 : (2000 : Int) < (s.size : Int) := by omega
  go_enter Tryd.func6, Tryd.ntmps6
  go_wp2
  go_ret
  exact ⟨rfl, Below.refl _ _⟩

set_option maxHeartbeats 4000000 in
theorem sums_short (s : ByteArray) (n : Nat) (hn : n < 18446744073709551616) (hs : s.size ≤ 2000) (w : World) (hT : Tab w) : Calls Tryd.prog 6 #[.string s, .int .u64 n] w (Tells (.bool true) w.heap.size w) := by
  have h1 : ¬ ((2000 : Int) < (s.size : Int)) := by omega
  have c1 := fun u hu => sum_any s (by omega) u hu
  have c2 := fun u => rsum_any s (by omega) u
  have c3 := fun u => padding_any n hn u
  have c4 := fun u => rpadding_any n hn u
  have c5 := fun u => padding_any s.size (by omega) u
  have c6 := fun u => rpadding_any s.size (by omega) u
  have c7 := fun u => hex_any s (by omega) u
  have c8 := fun u => rhex_any s (by omega) u
  have e1 : (s.size : Int) % 18446744073709551616 = (s.size : Int) := by omega
  generalize digB s.data.toList = D at *
  generalize padB n = P1 at *
  generalize padB s.size = P2 at *
  generalize hexB s = X at *
  obtain ⟨m, hm⟩ : ∃ m, s.size = m := ⟨_, rfl⟩
  rw [hm] at h1 c5 c6 e1
  have hmi : (s.size : Int) = (m : Int) := by omega
  clear hm
  go_enter Tryd.func6, Tryd.ntmps6
  go_wp2_with (first
    | (go_at_call 27; refine (c1 _ hT).mono ?_; rintro e w1 ⟨rfl, b1⟩)
    | (go_at_call 28; refine (c2 _).mono ?_; rintro e w2 ⟨rfl, b2⟩)
    | (go_at_call_of 29 (Value.int .u64 n); refine (c3 _).mono ?_; rintro e w3 ⟨rfl, b3⟩)
    | (go_at_call_of 30 (Value.int .u64 n); refine (c4 _).mono ?_; rintro e w4 ⟨rfl, b4⟩)
    | (go_at_call_of 29 (Value.int .u64 m); refine (c5 _).mono ?_; rintro e w5 ⟨rfl, b5⟩)
    | (go_at_call_of 30 (Value.int .u64 m); refine (c6 _).mono ?_; rintro e w6 ⟨rfl, b6⟩)
    | (go_at_call 31; refine (c7 _).mono ?_; rintro e w7 ⟨rfl, b7⟩)
    | (go_at_call 32; refine (c8 _).mono ?_; rintro e w8 ⟨rfl, b8⟩))
  go_ret
  exact ⟨rfl, chain (chain (chain (chain (chain (chain (chain b1 b2) b3) b4) b5) b6) b7) b8⟩

theorem shaSums_core (H : Type) (enc : TypeId × Value → H) (W : World) (base : Nat) (args : Array Value) (ds gs : List (DataW H)) (before : List MemPlace)
    (hval : ∀ (j : Nat) t v, Tryd.f6.params[j]? = some t → args[j]? = some v → Value.okWide Tryd.prog W .any base t v)
    (hW : DataW.Whole enc Tryd.prog Tryd.f6.params.toList Rows.shaSumsSpec.vars false W args.toList ds gs before) (hT : Tab W) :
    gs = [] ∧ ds.length = 2 ∧ Calls Tryd.prog 6 args W (Tells (.bool true) W.heap.size W) := by
  obtain ⟨p, q, hA, hV, -, -, -⟩ := hW
  obtain ⟨rfl, rfl⟩ := trodVars_none hV
  have hA : DataW.TrodAll enc Tryd.prog W 0 (fun _ => true) true Tryd.f6.params.toList args.toList ds p := hA
  rw [Tryd.params6] at hA hval
  obtain ⟨v0, vs0, d0, ds0, p0, ps0, e0, rfl, -, h0, hA⟩ := trodAll_cons hA
  obtain ⟨v1, vs1, d1, ds1, p1, ps1, rfl, rfl, -, h1, hA⟩ := trodAll_cons hA
  obtain ⟨rfl, rfl, rfl⟩ := trodAll_nil hA
  obtain rfl : args = #[v0, v1] := Array.ext' e0
  obtain ⟨s, rfl, rfl, rfl, hs⟩ := Go.ChangeMaps.open_string Tryd.underlying9 (hval 0 9 v0 rfl rfl) h0
  obtain ⟨n, rfl, -, -, bn⟩ := open_int Tryd.underlying42 (hval 1 42 v1 rfl rfl) h1
  refine ⟨rfl, rfl, ?_⟩
  obtain ⟨x0, x1⟩ := word_of (x := n) (by simpa using bn)
  obtain ⟨n, rfl⟩ := Int.eq_ofNat_of_zero_le x0
  by_cases h : 2000 < s.size
  · exact sums_long s n h hs W
  · exact sums_short s n (by omega) (by omega) W hT

set_option maxRecDepth 100000 in
theorem shaSums_lifted (os : Os) (started : os.Started) (H : Type) (enc : TypeId × Value → H) :
    ReturnsInHanded {} Tryd.checked os 6 .any (fun w args => (Rows.shaSumsSpec.pre enc Tryd.prog Tryd.f6 [] false w args ∧ laidMetH Tryd.prog laidK w) ∧ sizedMet enc Tryd.prog Tryd.f6 (OpenSpec.ofChange Rows.shaSumsSpec) false w args)
      (Rows.shaSumsSpec.post enc Tryd.prog Tryd.f6 false true false false) := by
  refine returnsInHanded_of_change_and (C := Tryd.checked) (X := fun w _ => laidMetH Tryd.prog laidK w) (fun _ _ _ hh h => h.of_heap hh) own_knob started (by kernel_rfl) Tryd.func6
    (ChangeSpec.witness_shaped (enc := enc) (C := Tryd.checked) (os := os) (X := fun w _ => laidMetH Tryd.prog laidK w) false (World.doorLaid Tryd.prog 14 os) #[.string ⟨#[]⟩, .int .u64 0] 8 rfl (World.shaped_of_RefB (by kernel_rfl) (by kernel_rfl)) (by kernel_rfl) (by kernel_rfl) (by kernel_rfl) (door_met os _)) ?_
  intro W base args ds gs before hval0 hW _ hwt hL _
  have hval : ∀ (j : Nat) t v, Tryd.f6.params[j]? = some t → args[j]? = some v → Value.okWide Tryd.prog W .any base t v := hval0
  obtain ⟨hg, hlen, hc⟩ := shaSums_core H enc W base args ds gs before hval hW (tab_of_laid hL)
  subst hg
  have hr : (Tryd.f6.params.toList.all fun t => Tryd.prog.readableRec t && decide (t < Tryd.prog.types.size)) = true := by kernel_rfl
  have hread : ∀ t ∈ Tryd.f6.params.toList, Tryd.prog.readableRec t = true ∧ t < Tryd.prog.types.size := fun t ht => by
    have h := List.all_eq_true.1 hr t ht
    rw [Bool.and_eq_true, decide_eq_true_eq] at h
    exact h
  refine hc.mono fun e W' ⟨he, hb⟩ => ?_
  subst he
  match ds, hlen with
  | [d0, d1], _ => exact ⟨_, rfl, law_post laid_out Tryd.underlying4 rfl hread rfl hW rfl rfl rfl hb⟩

theorem shaSums_holds : Rows.ShaSumsSaid :=
  OpenClaim.holds_of_wide 6 Tryd.f6 rfl rfl rfl rfl rfl rfl rfl ⟨rfl, rfl, rfl, rfl, rfl⟩ rfl rfl rfl rfl rfl (by kernel_rfl) Tryd.func6 (by kernel_rfl)
    (of_decide_eq_true (by kernel_rfl)) (by unfold Func.isWrapper; first | (rw [if_pos (by decide +kernel)]; kernel_rfl) | (rw [if_neg (by decide +kernel)]; exact ⟨rfl, rfl⟩))
    (fun os started H enc _ => shaSums_lifted os started H enc)

theorem shaSums_card : Rows.ShaSumsCardSaid :=
  Claim7.holds_tied_plain_at .later [] [.data] true _ false
    shaSums_holds (fun _ h => by cases h) (by kernel_rfl) (fun _ h => by cases h) shaSums_row_tie rfl ⟨rfl, rfl⟩ (by kernel_rfl) rfl
    (fun f fn hf hfn => by
      obtain rfl : f = 6 := Option.some.inj ((show Tryd.prog.funcNamed "paymaster/paymasterlaw05.ShaSums" = some 6 by kernel_rfl).symm.trans hf) |>.symm
      obtain rfl : fn = Tryd.f6 := (Option.some.inj (Tryd.func6.symm.trans hfn)).symm
      exact ⟨by kernel_rfl, fun j t ht => by
        have hm : t ∈ Tryd.f6.params.toList := by simpa using Array.mem_of_getElem? ht
        have hall : (Tryd.f6.params.toList.all fun u => !Tryd.prog.wantsStandIn u) = true := by kernel_rfl
        exact (show Tryd.prog.wantsStandIn t = false by simpa using List.all_eq_true.1 hall t hm)⟩)
    (by kernel_rfl)

end Go.Proofs.YtlceniljnejjeaaDoor
