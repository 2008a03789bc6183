/-
  The law SlotsLeaves: all leaves of any accounts, or the error, are the document's. Conditions: none.
-/
import Derived.Test.YtngofpdpangajaaDoorU12Leaves
import Derived.Test.YtngofpdpangajaaDoorR12Leaves
import Derived.Test.YtngofpdpangajaaDoorE12Same
import Derived.Test.YtngofpdpangajaaDoorS10Same
import Derived.Test.YtngofpdpangajaaDoorW7Laid
import Derived.ChangeMaps
namespace Go.Proofs.YtngofpdpangajaaDoor
set_option linter.unusedVariables false
set_option linter.unusedSimpArgs false
set_option maxRecDepth 10000
open Go.ChangeShapes Go.WideShapes Go.ChangeAt Go.RowKit Go.Sort

set_option maxHeartbeats 2000000 in
theorem leaves12_long (seed : ByteArray) (h : Int) (A : Option Addr) (c : Nat) (l : List Ac) (m1 : l.length ≤ 9223372036854775807) (hl : 200 < seed.size ∨ longA l = true ∨ (6 < h ∧ h ≤ 10)) (w : World) (hR : AcRow w w.heap.size A l) :
    Calls Tryd.prog 5 #[.string seed, .int .i64 h, .slice A l.length c] w (Tells (.bool true) w.heap.size w) := by
  have cX := fun u hu => longA_any A c l m1 u hu
  by_cases h1 : 200 < seed.size
  · have h1i : (200 : Int) < (seed.size : Int) := by omega
    go_enter Tryd.func5, Tryd.ntmps5
    go_wp2_with fail
    go_ret
    exact ⟨rfl, by repeat (first | exact Below.refl _ _ | apply Below.drew | apply below_drewN | refine Below.alloc ?_ (by simp; try omega) _ | refine Below.setCell ?_ (by simp; try omega) _)⟩
  · have h1i : ¬ ((200 : Int) < (seed.size : Int)) := by omega
    cases h2 : longA l with
    | true =>
      rw [h2] at cX
      go_enter Tryd.func5, Tryd.ntmps5
      go_wp2_with (first
        | (go_at_call 10; refine (cX _ hR).mono ?_; rintro e w2 ⟨rfl, rfl⟩)
        | fail)
      go_ret
      exact ⟨rfl, by repeat (first | exact Below.refl _ _ | apply Below.drew | apply below_drewN | refine Below.alloc ?_ (by simp; try omega) _ | refine Below.setCell ?_ (by simp; try omega) _)⟩
    | false =>
      rw [h2] at cX hl
      have h3 : 6 < h ∧ h ≤ 10 := by
        rcases hl with h | h | h
        · exact absurd h h1
        · cases h
        · exact h
      obtain ⟨h4, h5⟩ := h3
      have h6 : ¬ (10 < h) := by omega
      go_enter Tryd.func5, Tryd.ntmps5
      go_wp2_with (first
        | (go_at_call 10; refine (cX _ hR).mono ?_; rintro e w2 ⟨rfl, rfl⟩)
        | fail)
      go_ret
      exact ⟨rfl, by repeat (first | exact Below.refl _ _ | apply Below.drew | apply below_drewN | refine Below.alloc ?_ (by simp; try omega) _ | refine Below.setCell ?_ (by simp; try omega) _)⟩
set_option maxRecDepth 100000 in
set_option maxHeartbeats 4000000 in
theorem leaves12_bad (seed : ByteArray) (h : Int) (A : Option Addr) (c : Nat) (l : List Ac) (h1 : seed.size ≤ 200) (l1 : longA l = false) (m1 : l.length ≤ 200) (z1 : ∀ x ∈ l, x.id.size ≤ 200 ∧ x.salt.size ≤ 200) (o1 : AllAc l) (hh : ¬ 6 < h ∨ 10 < h)
    (hE : wrongE seed h l ≠ 0) (w : World) (hR : AcRow w w.heap.size A l) (hT : TabU w) :
    Calls Tryd.prog 5 #[.string seed, .int .i64 h, .slice A l.length c] w (Tells (.bool true) w.heap.size w) := by
  have cX := fun u hu => longA_any A c l (by omega) u hu
  rw [l1] at cX
  have h1i : ¬ ((200 : Int) < (seed.size : Int)) := by omega
  have hz6 : ∀ x ∈ l, x.id.size ≤ 1000000 ∧ x.salt.size ≤ 1000000 := fun x k => by have := z1 x k; omega
  have hww := wrong_word seed h l
  obtain ⟨E, hEE⟩ : ∃ E, wrongE seed h l = E := ⟨_, rfl⟩
  have cA := fun u hu hv => sleaves_bad seed h A c l (by omega) o1 hz6 E hEE (by rw [← hEE]; exact hE) u hu hv
  have cB := fun u hu => rleaves_bad seed h A c l (by omega) o1 hz6 E hEE (by rw [← hEE]; exact hE) u hu
  have cS := fun u => rsameLf_any none none 0 0 [] (by simp) u (LfRow.nil _ _ _) (LfRow.nil _ _ _)
  rw [List.length_nil] at cS
  rw [hEE] at hww hE
  have hwE : IntKind.i64.wrap E = E := by rw [IntKind.wrap_i64]; omega
  have heq : (E == E) = true := by simp
  clear hEE hww
  generalize l.length = M at *
  rcases hh with hh | hh
  · go_enter Tryd.func5, Tryd.ntmps5
    go_wp2_with (first
      | (go_at_call 10; refine (cX _ hR).mono ?_; rintro e w2 ⟨rfl, rfl⟩)
      | (go_at_call 26; refine (cA _ hR hT).mono ?_; rintro e w3 ⟨rfl, j3⟩)
      | (go_at_call 27; refine (cB _ ((hR.call j3).more j3.size)).mono ?_; rintro e w4 ⟨rfl, j4⟩)
      | (go_at_call 28; refine (cS _).mono ?_; rintro e w5 ⟨rfl, j5⟩)
      | fail)
    go_ret
    exact ⟨rfl, chain (chain j3 j4) j5⟩
  · have h6 : 6 < h := by omega
    have h7 : ¬ h ≤ 10 := by omega
    go_enter Tryd.func5, Tryd.ntmps5
    go_wp2_with (first
      | (go_at_call 10; refine (cX _ hR).mono ?_; rintro e w2 ⟨rfl, rfl⟩)
      | (go_at_call 26; refine (cA _ hR hT).mono ?_; rintro e w3 ⟨rfl, j3⟩)
      | (go_at_call 27; refine (cB _ ((hR.call j3).more j3.size)).mono ?_; rintro e w4 ⟨rfl, j4⟩)
      | (go_at_call 28; refine (cS _).mono ?_; rintro e w5 ⟨rfl, j5⟩)
      | fail)
    go_ret
    exact ⟨rfl, chain (chain j3 j4) j5⟩
set_option maxRecDepth 100000 in
set_option maxHeartbeats 4000000 in
theorem leaves12_ok (seed : ByteArray) (h : Int) (A : Option Addr) (c : Nat) (l : List Ac) (h1 : seed.size ≤ 200) (l1 : longA l = false) (m1 : l.length ≤ 200) (z1 : ∀ x ∈ l, x.id.size ≤ 200 ∧ x.salt.size ≤ 200) (o1 : AllAc l) (hh : ¬ 6 < h ∨ 10 < h)
    (hE : wrongE seed h l = 0) (w : World) (hR : AcRow w w.heap.size A l) (hT : TabU w) (hK : Tab w) :
    Calls Tryd.prog 5 #[.string seed, .int .i64 h, .slice A l.length c] w (Tells (.bool true) w.heap.size w) := by
  have cX := fun u hu => longA_any A c l (by omega) u hu
  rw [l1] at cX
  have h1i : ¬ ((200 : Int) < (seed.size : Int)) := by omega
  have hz6 : ∀ x ∈ l, x.id.size ≤ 1000000 ∧ x.salt.size ≤ 1000000 := fun x k => by have := z1 x k; omega
  obtain ⟨-, -, hma⟩ := wrong_no hE
  obtain ⟨n, rfl, hn, -⟩ := mayA_P hma
  have hpb := pw_bd n hn
  obtain ⟨N, hN⟩ := Int.eq_ofNat_of_zero_le (show 0 ≤ pw n by omega)
  have cA := fun u hu hv hx => sleaves_any seed (by omega) n A c l (by omega) o1 hz6 hE N hN u hu hv hx
  have cB := fun u hu => rleaves_any seed (by omega) n A c l (by omega) o1 hz6 hE N hN u hu
  have hLl := leaves_len seed l N
  generalize leavesL seed l N = L at *
  have cS := fun X Y d e u hu hv => rsameLf_any X Y d e L (by omega) u hu hv
  rw [hLl] at cS
  have h6 : ¬ (6 < (n : Int)) := by omega
  clear hE hma hpb hN hh hLl
  generalize l.length = M at *
  go_enter Tryd.func5, Tryd.ntmps5
  go_wp2_with (first
    | (go_at_call 10; refine (cX _ hR).mono ?_; rintro e w2 ⟨rfl, rfl⟩)
    | (go_at_call 26; refine (cA _ hR hT hK).mono ?_; rintro e w3 ⟨j3, g, rfl, -, X3⟩)
    | (go_at_call 27; refine (cB _ ((hR.call j3).more j3.size)).mono ?_; rintro e w4 ⟨j4, A', c', rfl, X4⟩)
    | (go_at_call 28; refine (cS _ _ _ _ _ ((X3.row.call j4).more j4.size) X4).mono ?_; rintro e w5 ⟨rfl, j5⟩)
    | fail)
  go_ret
  exact ⟨rfl, chain (chain j3 j4) j5⟩

theorem slotsLeaves_core (H : Type) (enc : TypeId × Value → H) (W : World) (base : Nat) (args : Array Value) (ds gs : List (DataW H)) (before : List MemPlace)
    (hval : ∀ (j : Nat) t v, Tryd.f5.params[j]? = some t → args[j]? = some v → Value.okWide Tryd.prog W .any base t v)
    (hW : DataW.Whole enc Tryd.prog Tryd.f5.params.toList Rows.slotsLeavesSpec.vars false W args.toList ds gs before) (hT : Tab W ∧ TabU W) :
    gs = [] ∧ ds.length = 3 ∧ Calls Tryd.prog 5 args W (Tells (.bool true) W.heap.size W) := by
  obtain ⟨p, q, hA, hV, -, -, -⟩ := hW
  obtain ⟨rfl, rfl⟩ := trodVars_none hV
  have hA : DataW.TrodAll enc Tryd.prog W 0 (fun _ => true) true Tryd.f5.params.toList args.toList ds p := hA
  rw [Tryd.params5] at hA hval
  obtain ⟨v0, vs0, d0, ds0, p0, ps0, e0, rfl, -, h0, hA⟩ := trodAll_cons hA
  obtain ⟨v1, vs1, d1, ds1, p1, ps1, rfl, rfl, -, h1, hA⟩ := trodAll_cons hA
  obtain ⟨v2, vs2, d2, ds2, p2, ps2, rfl, rfl, -, h2, hA⟩ := trodAll_cons hA
  obtain ⟨rfl, rfl, rfl⟩ := trodAll_nil hA
  obtain rfl : args = #[v0, v1, v2] := Array.ext' e0
  obtain ⟨seed, rfl, -, -, z0⟩ := Go.ChangeMaps.open_string Tryd.underlying9 (hval 0 9 v0 rfl rfl) h0
  obtain ⟨h, rfl, -, -, -⟩ := open_int Tryd.underlying3 (hval 1 3 v1 rfl rfl) h1
  obtain ⟨A, c, l, rfl, x1, -, -, x2, x3⟩ := open_accs (hval 2 22 v2 rfl rfl) h2
  refine ⟨rfl, rfl, ?_⟩
  by_cases hl : 200 < seed.size ∨ longA l = true ∨ (6 < h ∧ h ≤ 10)
  · exact leaves12_long seed h A c l x1 hl W x3
  · rw [not_or, not_or] at hl
    obtain ⟨k1, k2, k3⟩ := hl
    have k2 : longA l = false := by cases e : longA l; rfl; exact absurd e k2
    obtain ⟨m1, z1⟩ := longA_no k2
    by_cases hE : wrongE seed h l = 0
    · exact leaves12_ok seed h A c l (by omega) k2 m1 z1 x2 (by omega) hE W x3 hT.2 hT.1
    · exact leaves12_bad seed h A c l (by omega) k2 m1 z1 x2 (by omega) hE W x3 hT.2

set_option maxRecDepth 100000 in
theorem slotsLeaves_lifted (os : Os) (started : os.Started) (H : Type) (enc : TypeId × Value → H) :
    ReturnsInHanded {} Tryd.checked os 5 .any (fun w args => (Rows.slotsLeavesSpec.pre enc Tryd.prog Tryd.f5 [] false w args ∧ laidMetH Tryd.prog laidA w) ∧ sizedMet enc Tryd.prog Tryd.f5 (OpenSpec.ofChange Rows.slotsLeavesSpec) false w args)
      (Rows.slotsLeavesSpec.post enc Tryd.prog Tryd.f5 false true false false) := by
  refine returnsInHanded_of_change_and (C := Tryd.checked) (X := fun w _ => laidMetH Tryd.prog laidA w) (fun _ _ _ hh h => h.of_heap hh) own_knob started (by kernel_rfl) Tryd.func5
    (ChangeSpec.witness_shaped (enc := enc) (C := Tryd.checked) (os := os) (X := fun w _ => laidMetH Tryd.prog laidA w) false (World.laidAll Tryd.prog os laidA) #[.string ⟨#[]⟩, .int .i64 0, .slice none 0 0] 8 (World.laidAll_os _ _ _) (World.shaped_of_ZipB (by kernel_rfl) (by kernel_rfl)) (by kernel_rfl) (by kernel_rfl) (by kernel_rfl) (met_A os _)) ?_
  intro W base args ds gs before hval0 hW _ hwt hL _
  have hval : ∀ (j : Nat) t v, Tryd.f5.params[j]? = some t → args[j]? = some v → Value.okWide Tryd.prog W .any base t v := hval0
  obtain ⟨hg, hlen, hc⟩ := slotsLeaves_core H enc W base args ds gs before hval hW (tab_of_laidA hL)
  subst hg
  have hr : (Tryd.f5.params.toList.all fun t => Tryd.prog.readableRec t && decide (t < Tryd.prog.types.size)) = true := by kernel_rfl
  have hread : ∀ t ∈ Tryd.f5.params.toList, Tryd.prog.readableRec t = true ∧ t < Tryd.prog.types.size := fun t ht => by
    have h := List.all_eq_true.1 hr t ht
    rw [Bool.and_eq_true, decide_eq_true_eq] at h
    exact h
  refine hc.mono fun e W' ⟨he, hb⟩ => ?_
  subst he
  match ds, hlen with
  | [d0, d1, d2], _ => exact ⟨_, rfl, law_post laid_out Tryd.underlying4 rfl hread rfl hW rfl rfl rfl hb⟩

theorem slotsLeaves_holds : Rows.SlotsLeavesSaid :=
  OpenClaim.holds_of_wide 5 Tryd.f5 rfl rfl rfl rfl rfl rfl rfl ⟨rfl, rfl, rfl, rfl, rfl⟩ rfl rfl rfl rfl rfl (by kernel_rfl) Tryd.func5 (by kernel_rfl)
    (of_decide_eq_true (by kernel_rfl)) (by unfold Func.isWrapper; first | (rw [if_pos (by decide +kernel)]; kernel_rfl) | (rw [if_neg (by decide +kernel)]; exact ⟨rfl, rfl⟩))
    (fun os started H enc _ => slotsLeaves_lifted os started H enc)

theorem slotsLeaves_card : Rows.SlotsLeavesCardSaid :=
  Claim7.holds_tied_plain_at .later [] [.data, .data, .pinned] true _ false
    slotsLeaves_holds (fun _ h => by cases h) (by kernel_rfl) (fun _ h => by cases h) slotsLeaves_row_tie rfl ⟨rfl, rfl⟩ (by kernel_rfl) rfl
    (fun f fn hf hfn => by
      obtain rfl : f = 5 := Option.some.inj ((show Tryd.prog.funcNamed "paymaster/paymasterlaw12.SlotsLeaves" = some 5 by kernel_rfl).symm.trans hf) |>.symm
      obtain rfl : fn = Tryd.f5 := (Option.some.inj (Tryd.func5.symm.trans hfn)).symm
      exact ⟨by kernel_rfl, fun j t ht => by
        have hm : t ∈ Tryd.f5.params.toList := by simpa using Array.mem_of_getElem? ht
        have hall : (Tryd.f5.params.toList.all fun u => !Tryd.prog.wantsStandIn u) = true := by kernel_rfl
        exact (show Tryd.prog.wantsStandIn t = false by simpa using List.all_eq_true.1 hall t hm)⟩)
    (by kernel_rfl)

end Go.Proofs.YtngofpdpangajaaDoor
