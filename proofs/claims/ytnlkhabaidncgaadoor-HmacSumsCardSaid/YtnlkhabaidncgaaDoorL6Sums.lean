/-
  The law HmacSums: the mac of any text by any key, its first bytes, its number, the key's block, and whether any text is the mac, is what the document says.
  Conditions: block's table of constants holds what the program's text lays (tied by the card).
-/
import Derived.Test.YtnlkhabaidncgaaDoorU6Sum
import Derived.Test.YtnlkhabaidncgaaDoorR6With
import Derived.Test.YtnlkhabaidncgaaDoorD6Jefe
import Derived.Test.YtnlkhabaidncgaaDoorW4Laid
namespace Go.Proofs.YtnlkhabaidncgaaDoor
set_option linter.unusedVariables false
set_option linter.unusedSimpArgs false
open Go.ChangeShapes Go.WideShapes Go.ChangeAt Go.RowKit

set_option maxHeartbeats 1000000 in
theorem hsums_long (key text mac : ByteArray) (n : Int) (h : 1000 < key.size ∨ 1000 < text.size ∨ 1000 < mac.size) (hk : key.size ≤ 9223372036854775807) (ht : text.size ≤ 9223372036854775807) (hm : mac.size ≤ 9223372036854775807) (w : World) :
    Calls Tryd.prog 3 #[.string key, .string text, .string mac, .int .i64 n] w (Tells (.bool true) w.heap.size w) := by
  by_cases h1 : (1000 : Int) < (key.size : Int)
  · go_enter Tryd.func3, Tryd.ntmps3
    go_wp2
    go_ret
    exact ⟨rfl, Below.refl _ _⟩
  · by_cases h2 : (1000 : Int) < (text.size : Int)
    · go_enter Tryd.func3, Tryd.ntmps3
      go_wp2
      go_ret
      exact ⟨rfl, Below.refl _ _⟩
    · have h3 : (1000 : Int) < (mac.size : Int) := by omega
      go_enter Tryd.func3, Tryd.ntmps3
      go_wp2
      go_ret
      exact ⟨rfl, Below.refl _ _⟩

set_option maxRecDepth 100000 in
set_option maxHeartbeats 1000000 in
theorem hsums_short (key text mac : ByteArray) (n : Int) (hn : -9223372036854775808 ≤ n ∧ n ≤ 9223372036854775807) (hk : key.size ≤ 1000) (ht : text.size ≤ 1000) (hm : mac.size ≤ 1000) (w : World) (hT : Tab w) :
    Calls Tryd.prog 3 #[.string key, .string text, .string mac, .int .i64 n] w (Tells (.bool true) w.heap.size w) := by
  have h1 : ¬ ((1000 : Int) < (key.size : Int)) := by omega
  have h2 : ¬ ((1000 : Int) < (text.size : Int)) := by omega
  have h3 : ¬ ((1000 : Int) < (mac.size : Int)) := by omega
  have c1 := fun u => rhsum_any key text (by omega) (by omega) u
  have c2 := fun u hu => hsum_any key text (by omega) (by omega) u hu
  have c3 := fun u hu => hblock_any key (by omega) u hu
  have c4 := fun u => rblock_any key (by omega) u
  have c5 := fun u hu => hfirst_any key text (by omega) (by omega) n hn u hu
  have c6 := fun u => rhfirst_any key text (by omega) (by omega) n u
  have c7 := fun u hu => hnumber_any key text (by omega) (by omega) u hu
  have c8 := fun u => rhnumber_any key text (by omega) (by omega) u
  have c9 := fun u hu => his_any key text mac (by omega) (by omega) u hu
  have ca := fun u hu => his_any key text (macB key text.data.toList) (by omega) (by omega) u hu
  have es : ((macB key text.data.toList).toList == (macB key text.data.toList).toList) = true := by rw [same_str, decide_eq_true rfl]
  rw [es] at ca
  clear es hk ht hm
  generalize firB (macB key text.data.toList) n = F at *
  generalize macN key text.data.toList = N at *
  generalize macB key text.data.toList = R at *
  generalize kblk key = B at *
  obtain ⟨d, hd⟩ : ∃ d, (mac.toList == R.toList) = d := ⟨_, rfl⟩
  rw [hd] at c9
  go_enter Tryd.func3, Tryd.ntmps3
  go_wp2_with (first
    | (go_at_call 10; refine (c1 _).mono ?_; rintro e w1 ⟨rfl, b1⟩; have t1 := hT.call b1)
    | (go_at_call 11; refine (c2 _ t1).mono ?_; rintro e w2 ⟨rfl, b2⟩; have t2 := t1.call b2)
    | (go_at_call 12; refine (c3 _ t2).mono ?_; rintro e w3 ⟨rfl, b3⟩; have t3 := t2.call b3)
    | (go_at_call 13; refine (c4 _).mono ?_; rintro e w4 ⟨rfl, b4⟩; have t4 := t3.call b4)
    | (go_at_call 14; refine (c5 _ t4).mono ?_; rintro e w5 ⟨rfl, b5⟩; have t5 := t4.call b5)
    | (go_at_call 15; refine (c6 _).mono ?_; rintro e w6 ⟨rfl, b6⟩; have t6 := t5.call b6)
    | (go_at_call 16; refine (c7 _ t6).mono ?_; rintro e w7 ⟨rfl, b7⟩; have t7 := t6.call b7)
    | (go_at_call 17; refine (c8 _).mono ?_; rintro e w8 ⟨rfl, b8⟩; have t8 := t7.call b8)
    | (go_at_call_of 18 (Value.string mac); refine (c9 _ t8).mono ?_; rintro e w9 ⟨rfl, b9⟩; have t9 := t8.call b9)
    | (go_at_call_of 18 (Value.string R); refine (ca _ t9).mono ?_; rintro e wa ⟨rfl, ba⟩))
  go_ret
  exact ⟨rfl, chain (chain (chain (chain (chain (chain (chain (chain (chain b1 b2) b3) b4) b5) b6) b7) b8) b9) ba⟩

theorem int_of {x : Int} (h : (Lit.int .i64 x).wf = true) : -9223372036854775808 ≤ x ∧ x ≤ 9223372036854775807 := by
  simp [Lit.wf, IntKind.min, IntKind.max, IntKind.signed, IntKind.bits] at h
  omega
theorem hmacSums_core (H : Type) (enc : TypeId × Value → H) (W : World) (base : Nat) (args : Array Value) (ds gs : List (DataW H)) (before : List MemPlace)
    (hval : ∀ (j : Nat) t v, Tryd.f3.params[j]? = some t → args[j]? = some v → Value.okWide Tryd.prog W .any base t v)
    (hW : DataW.Whole enc Tryd.prog Tryd.f3.params.toList Rows.hmacSumsSpec.vars false W args.toList ds gs before) (hT : Tab W) :
    gs = [] ∧ ds.length = 4 ∧ Calls Tryd.prog 3 args W (Tells (.bool true) W.heap.size W) := by
  obtain ⟨p, q, hA, hV, -, -, -⟩ := hW
  obtain ⟨rfl, rfl⟩ := trodVars_none hV
  have hA : DataW.TrodAll enc Tryd.prog W 0 (fun _ => true) true Tryd.f3.params.toList args.toList ds p := hA
  rw [Tryd.params3] at hA hval
  obtain ⟨v0, vs0, d0, ds0, p0, ps0, e0, rfl, -, h0, hA⟩ := trodAll_cons hA
  obtain ⟨v1, vs1, d1, ds1, p1, ps1, rfl, rfl, -, h1, hA⟩ := trodAll_cons hA
  obtain ⟨v2, vs2, d2, ds2, p2, ps2, rfl, rfl, -, h2, hA⟩ := trodAll_cons hA
  obtain ⟨v3, vs3, d3, ds3, p3, ps3, rfl, rfl, -, h3, hA⟩ := trodAll_cons hA
  obtain ⟨rfl, rfl, rfl⟩ := trodAll_nil hA
  obtain rfl : args = #[v0, v1, v2, v3] := Array.ext' e0
  obtain ⟨key, rfl, rfl, rfl, hk⟩ := Go.ChangeMaps.open_string Tryd.underlying9 (hval 0 9 v0 rfl rfl) h0
  obtain ⟨text, rfl, rfl, rfl, ht⟩ := Go.ChangeMaps.open_string Tryd.underlying9 (hval 1 9 v1 rfl rfl) h1
  obtain ⟨mac, rfl, rfl, rfl, hm⟩ := Go.ChangeMaps.open_string Tryd.underlying9 (hval 2 9 v2 rfl rfl) h2
  obtain ⟨n, rfl, -, -, bn⟩ := open_int Tryd.underlying3 (hval 3 3 v3 rfl rfl) h3
  have hn := int_of (x := n) (by simpa using bn)
  refine ⟨rfl, rfl, ?_⟩
  by_cases h : 1000 < key.size ∨ 1000 < text.size ∨ 1000 < mac.size
  · exact hsums_long key text mac n h hk ht hm W
  · exact hsums_short key text mac n hn (by omega) (by omega) (by omega) W hT

set_option maxRecDepth 100000 in
theorem hmacSums_lifted (os : Os) (started : os.Started) (H : Type) (enc : TypeId × Value → H) :
    ReturnsInHanded {} Tryd.checked os 3 .any (fun w args => (Rows.hmacSumsSpec.pre enc Tryd.prog Tryd.f3 [] false w args ∧ laidMetH Tryd.prog laidK w) ∧ sizedMet enc Tryd.prog Tryd.f3 (OpenSpec.ofChange Rows.hmacSumsSpec) false w args)
      (Rows.hmacSumsSpec.post enc Tryd.prog Tryd.f3 false true false false) := by
  refine returnsInHanded_of_change_and (C := Tryd.checked) (X := fun w _ => laidMetH Tryd.prog laidK w) (fun _ _ _ hh h => h.of_heap hh) own_knob started (by kernel_rfl) Tryd.func3
    (ChangeSpec.witness_shaped (enc := enc) (C := Tryd.checked) (os := os) (X := fun w _ => laidMetH Tryd.prog laidK w) false (World.doorLaid Tryd.prog 14 os) #[.string ⟨#[]⟩, .string ⟨#[]⟩, .string ⟨#[]⟩, .int .i64 0] 8 rfl (World.shaped_of_RefB (by kernel_rfl) (by kernel_rfl)) (by kernel_rfl) (by kernel_rfl) (by kernel_rfl) (door_met os _)) ?_
  intro W base args ds gs before hval0 hW _ hwt hL _
  have hval : ∀ (j : Nat) t v, Tryd.f3.params[j]? = some t → args[j]? = some v → Value.okWide Tryd.prog W .any base t v := hval0
  obtain ⟨hg, hlen, hc⟩ := hmacSums_core H enc W base args ds gs before hval hW (tab_of_laid hL)
  subst hg
  have hr : (Tryd.f3.params.toList.all fun t => Tryd.prog.readableRec t && decide (t < Tryd.prog.types.size)) = true := by kernel_rfl
  have hread : ∀ t ∈ Tryd.f3.params.toList, Tryd.prog.readableRec t = true ∧ t < Tryd.prog.types.size := fun t ht => by
    have h := List.all_eq_true.1 hr t ht
    rw [Bool.and_eq_true, decide_eq_true_eq] at h
    exact h
  refine hc.mono fun e W' ⟨he, hb⟩ => ?_
  subst he
  match ds, hlen with
  | [d0, d1, d2, d3], _ => exact ⟨_, rfl, law_post laid_out Tryd.underlying4 rfl hread rfl hW rfl rfl rfl hb⟩

theorem hmacSums_holds : Rows.HmacSumsSaid :=
  OpenClaim.holds_of_wide 3 Tryd.f3 rfl rfl rfl rfl rfl rfl rfl ⟨rfl, rfl, rfl, rfl, rfl⟩ rfl rfl rfl rfl rfl (by kernel_rfl) Tryd.func3 (by kernel_rfl)
    (of_decide_eq_true (by kernel_rfl)) (by unfold Func.isWrapper; first | (rw [if_pos (by decide +kernel)]; kernel_rfl) | (rw [if_neg (by decide +kernel)]; exact ⟨rfl, rfl⟩))
    (fun os started H enc _ => hmacSums_lifted os started H enc)

theorem hmacSums_card : Rows.HmacSumsCardSaid :=
  Claim7.holds_tied_plain_at .later [] [.data] true _ false
    hmacSums_holds (fun _ h => by cases h) (by kernel_rfl) (fun _ h => by cases h) hmacSums_row_tie rfl ⟨rfl, rfl⟩ (by kernel_rfl) rfl
    (fun f fn hf hfn => by
      obtain rfl : f = 3 := Option.some.inj ((show Tryd.prog.funcNamed "paymaster/paymasterlaw06.HmacSums" = some 3 by kernel_rfl).symm.trans hf) |>.symm
      obtain rfl : fn = Tryd.f3 := (Option.some.inj (Tryd.func3.symm.trans hfn)).symm
      exact ⟨by kernel_rfl, fun j t ht => by
        have hm : t ∈ Tryd.f3.params.toList := by simpa using Array.mem_of_getElem? ht
        have hall : (Tryd.f3.params.toList.all fun u => !Tryd.prog.wantsStandIn u) = true := by kernel_rfl
        exact (show Tryd.prog.wantsStandIn t = false by simpa using List.all_eq_true.1 hall t hm)⟩)
    (by kernel_rfl)

end Go.Proofs.YtnlkhabaidncgaaDoor
