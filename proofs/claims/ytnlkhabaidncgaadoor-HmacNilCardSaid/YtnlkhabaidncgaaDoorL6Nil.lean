/-
  The law HmacNil: a nil running one, and one that nobody made, takes nothing, and tells ErrNil.
  Conditions: block's table of constants holds what the program's text lays (tied by the card).
-/
import Derived.Test.YtnlkhabaidncgaaDoorU6New
import Derived.Test.YtnlkhabaidncgaaDoorW4Laid
namespace Go.Proofs.YtnlkhabaidncgaaDoor
set_option linter.unusedVariables false
set_option linter.unusedSimpArgs false
open Go.ChangeShapes Go.WideShapes Go.ChangeAt Go.RowKit

def macZ : Array Value := #[.bool false, .int .u32 0, .int .u32 0, .int .u32 0, .int .u32 0, .int .u32 0, .int .u32 0, .int .u32 0, .int .u32 0, .string ⟨#[]⟩, .int .u64 0, .string ⟨#[]⟩]

set_option maxHeartbeats 2000000 in
theorem nil_walk (s : ByteArray) (hm : s.size ≤ 9223372036854775807) (w : World) : Calls Tryd.prog 5 #[.string s] w (Tells (.bool true) w.heap.size w) := by
  by_cases h : (1000 : Int) < (s.size : Int)
  · go_enter Tryd.func5, Tryd.ntmps5
    go_wp2
    go_ret
    exact ⟨rfl, Below.refl _ _⟩
  · have B0 := Box.made w 47 macZ
    have B1 := B0.past (.cells #[.pointer none, .pointer (some ⟨w.heap.size, 0, none⟩)] 31)
    have B2 := Box.made (w.alloc (.cells macZ 47)) 31 #[.pointer none, .pointer (some ⟨w.heap.size, 0, none⟩)]
    have hb : Below w.heap.size w ((w.alloc (.cells macZ 47)).alloc (.cells #[.pointer none, .pointer (some ⟨w.heap.size, 0, none⟩)] 31)) := ((Below.refl _ w).alloc (Nat.le_refl _) _).alloc (by simp) _
    rw [size_alloc1] at B2
    go_enter Tryd.func5, Tryd.ntmps5
    go_upto_region 5 with fail
    change Code.wp _ _ _ _ ((w.alloc (.cells macZ 47)).alloc (.cells #[.pointer none, .pointer (some ⟨w.heap.size, 0, none⟩)] 31))
    generalize (w.alloc (.cells macZ 47)).alloc (.cells #[.pointer none, .pointer (some ⟨w.heap.size, 0, none⟩)] 31) = W at *
    have c0 : W.cell? ⟨w.heap.size + 1, 0, none⟩ = some (.pointer none) := B2.read 0
    have c1 : W.cell? ⟨w.heap.size + 1, 1, none⟩ = some (.pointer (some ⟨w.heap.size, 0, none⟩)) := B2.read 1
    have z0 : W.cell? ⟨w.heap.size, 0, none⟩ = some (.bool false) := B1.read 0
    have hin := B1.inside
    have N0 : Nob W (.pointer none) := .inl rfl
    have N1 : Nob W (.pointer (some ⟨w.heap.size, 0, none⟩)) := .inr ⟨_, rfl, z0, hin⟩
    have s0 := macsum_nob _ W N0
    have s1 := macsum_nob _ W N1
    have w0 := macwrite_nob _ s W N0
    have w1 := macwrite_nob _ s W N1
    have k0 := maccopy_nob _ W N0
    go_wp2
    go_loopg [5] 2 (fun gk i wr => ∃ k : Nat, k ≤ 2 ∧ gk = 2 - k ∧ i = .int .i64 k ∧ wr = W)
    case atStart => exact ⟨0, by omega, rfl, rfl, rfl⟩
    case round =>
      obtain ⟨k, hk, hgk, rfl, rfl⟩ := hrel
      have HG := hideIt hgk
      clear hgk
      rcases (by omega : k = 0 ∨ k = 1 ∨ k = 2) with rfl | rfl | rfl
      · go_wp2_with (first
          | (go_at_call 22; refine s0.mono ?_; rintro e w' ⟨rfl, rfl⟩)
          | (go_at_call 21; refine w0.mono ?_; rintro e w' ⟨rfl, rfl⟩))
        go_roundg 1
        case measure => have := HG.out; omega
        case rel => exact ⟨1, by decide, by decide, rfl, rfl⟩
      · go_wp2_with (first
          | (go_at_call 22; refine s1.mono ?_; rintro e w' ⟨rfl, rfl⟩)
          | (go_at_call 21; refine w1.mono ?_; rintro e w' ⟨rfl, rfl⟩))
        go_roundg 0
        case measure => have := HG.out; omega
        case rel => exact ⟨2, by decide, by decide, rfl, rfl⟩
      · go_wp2_with (first
          | (go_at_call 23; refine k0.mono ?_; rintro e w' ⟨rfl, rfl⟩))
        go_ret
        exact ⟨rfl, hb⟩

theorem hmacNil_core (H : Type) (enc : TypeId × Value → H) (W : World) (base : Nat) (args : Array Value) (ds gs : List (DataW H)) (before : List MemPlace)
    (hval : ∀ (j : Nat) t v, Tryd.f5.params[j]? = some t → args[j]? = some v → Value.okWide Tryd.prog W .any base t v)
    (hW : DataW.Whole enc Tryd.prog Tryd.f5.params.toList Rows.hmacNilSpec.vars false W args.toList ds gs before) (hT : Tab W) :
    gs = [] ∧ ds.length = 1 ∧ Calls Tryd.prog 5 args W (Tells (.bool true) W.heap.size W) := by
  obtain ⟨p, q, hA, hV, -, -, -⟩ := hW
  obtain ⟨rfl, rfl⟩ := trodVars_none hV
  have hA : DataW.TrodAll enc Tryd.prog W 0 (fun _ => true) true Tryd.f5.params.toList args.toList ds p := hA
  rw [Tryd.params5] at hA hval
  obtain ⟨v0, vs0, d0, ds0, p0, ps0, e0, rfl, -, h0, hA⟩ := trodAll_cons hA
  obtain ⟨rfl, rfl, rfl⟩ := trodAll_nil hA
  obtain rfl : args = #[v0] := Array.ext' e0
  obtain ⟨s, rfl, rfl, rfl, hs⟩ := Go.ChangeMaps.open_string Tryd.underlying9 (hval 0 9 v0 rfl rfl) h0
  exact ⟨rfl, rfl, nil_walk s hs W⟩

set_option maxRecDepth 100000 in
theorem hmacNil_lifted (os : Os) (started : os.Started) (H : Type) (enc : TypeId × Value → H) :
    ReturnsInHanded {} Tryd.checked os 5 .any (fun w args => (Rows.hmacNilSpec.pre enc Tryd.prog Tryd.f5 [] false w args ∧ laidMetH Tryd.prog laidK w) ∧ sizedMet enc Tryd.prog Tryd.f5 (OpenSpec.ofChange Rows.hmacNilSpec) false w args)
      (Rows.hmacNilSpec.post enc Tryd.prog Tryd.f5 false true false false) := by
  refine returnsInHanded_of_change_and (C := Tryd.checked) (X := fun w _ => laidMetH Tryd.prog laidK w) (fun _ _ _ hh h => h.of_heap hh) own_knob started (by kernel_rfl) Tryd.func5
    (ChangeSpec.witness_shaped (enc := enc) (C := Tryd.checked) (os := os) (X := fun w _ => laidMetH Tryd.prog laidK w) false (World.doorLaid Tryd.prog 14 os) #[.string ⟨#[]⟩] 8 rfl (World.shaped_of_RefB (by kernel_rfl) (by kernel_rfl)) (by kernel_rfl) (by kernel_rfl) (by kernel_rfl) (door_met os _)) ?_
  intro W base args ds gs before hval0 hW _ hwt hL _
  have hval : ∀ (j : Nat) t v, Tryd.f5.params[j]? = some t → args[j]? = some v → Value.okWide Tryd.prog W .any base t v := hval0
  obtain ⟨hg, hlen, hc⟩ := hmacNil_core H enc W base args ds gs before hval hW (tab_of_laid hL)
  subst hg
  have hr : (Tryd.f5.params.toList.all fun t => Tryd.prog.readableRec t && decide (t < Tryd.prog.types.size)) = true := by kernel_rfl
  have hread : ∀ t ∈ Tryd.f5.params.toList, Tryd.prog.readableRec t = true ∧ t < Tryd.prog.types.size := fun t ht => by
    have h := List.all_eq_true.1 hr t ht
    rw [Bool.and_eq_true, decide_eq_true_eq] at h
    exact h
  refine hc.mono fun e W' ⟨he, hb⟩ => ?_
  subst he
  match ds, hlen with
  | [d0], _ => exact ⟨_, rfl, law_post laid_out Tryd.underlying4 rfl hread rfl hW rfl rfl rfl hb⟩

theorem hmacNil_holds : Rows.HmacNilSaid :=
  OpenClaim.holds_of_wide 5 Tryd.f5 rfl rfl rfl rfl rfl rfl rfl ⟨rfl, rfl, rfl, rfl, rfl⟩ rfl rfl rfl rfl rfl (by kernel_rfl) Tryd.func5 (by kernel_rfl)
    (of_decide_eq_true (by kernel_rfl)) (by unfold Func.isWrapper; first | (rw [if_pos (by decide +kernel)]; kernel_rfl) | (rw [if_neg (by decide +kernel)]; exact ⟨rfl, rfl⟩))
    (fun os started H enc _ => hmacNil_lifted os started H enc)

theorem hmacNil_card : Rows.HmacNilCardSaid :=
  Claim7.holds_tied_plain_at .later [] [.data] true _ false
    hmacNil_holds (fun _ h => by cases h) (by kernel_rfl) (fun _ h => by cases h) hmacNil_row_tie rfl ⟨rfl, rfl⟩ (by kernel_rfl) rfl
    (fun f fn hf hfn => by
      obtain rfl : f = 5 := Option.some.inj ((show Tryd.prog.funcNamed "paymaster/paymasterlaw06.HmacNil" = some 5 by kernel_rfl).symm.trans hf) |>.symm
      obtain rfl : fn = Tryd.f5 := (Option.some.inj (Tryd.func5.symm.trans hfn)).symm
      exact ⟨by kernel_rfl, fun j t ht => by
        have hm : t ∈ Tryd.f5.params.toList := by simpa using Array.mem_of_getElem? ht
        have hall : (Tryd.f5.params.toList.all fun u => !Tryd.prog.wantsStandIn u) = true := by kernel_rfl
        exact (show Tryd.prog.wantsStandIn t = false by simpa using List.all_eq_true.1 hall t hm)⟩)
    (by kernel_rfl)

end Go.Proofs.YtnlkhabaidncgaaDoor
