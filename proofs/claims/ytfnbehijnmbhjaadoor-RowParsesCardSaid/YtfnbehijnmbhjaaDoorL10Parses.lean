/-
  The law RowParses: the row of any line, or what is wrong with it, and any row's line, is what the chapter says.
  Conditions: utf8's two tables hold what their texts lay (tied by the card; one is the form's constant).
-/
import Derived.Test.YtfnbehijnmbhjaaDoorR10Row
import Derived.Test.YtfnbehijnmbhjaaDoorE10Same
import Derived.Test.YtfnbehijnmbhjaaDoorT10Row
import Derived.Test.YtfnbehijnmbhjaaDoorW10Laid
import Derived.ChangeMaps
namespace Go.Proofs.YtfnbehijnmbhjaaDoor
set_option linter.unusedVariables false
set_option linter.unusedSimpArgs false
set_option maxRecDepth 10000
open Go.ChangeShapes Go.WideShapes Go.ChangeAt Go.RowKit

theorem eql_rw_same (x : Rw) (w : World) : (binOp .eql 26 x.val x.val).run Tryd.prog w = .ok (.bool true) w := by rw [run_eql_rw, Rw.same_self]
theorem neq_rw_same (x : Rw) (w : World) : (binOp .neq 26 x.val x.val).run Tryd.prog w = .ok (.bool false) w := by rw [run_neq_rw, Rw.same_self]; rfl

set_option maxHeartbeats 2000000 in
theorem rparses_long (s : ByteArray) (x : Rw) (h : 300 < s.size ∨ 200 < x.id.size) (w : World) :
    Calls Tryd.prog 3 #[.string s, x.val] w (Tells (.bool true) w.heap.size w) := by
  obtain ⟨i, a, b⟩ := x
  have H0 := (Has.start w).add 26 (rwB i a b)
  have hh : (300 : Int) < (s.size : Int) ∨ (¬ (300 : Int) < (s.size : Int) ∧ (200 : Int) < (i.size : Int)) := by simp only at h; omega
  clear h
  change Calls Tryd.prog 3 #[.string s, .agg (rwB i a b)] w _
  go_enter Tryd.func3, Tryd.ntmps3
  go_upto_region 1 with fail
  change Code.wp _ _ _ _ (w.alloc (.cells (rwB i a b) 26))
  generalize w.alloc (.cells (rwB i a b) 26) = W at *
  obtain ⟨y0, y1, y2, g0, g1, g2, hin1⟩ := (H0.box 0).three
  rcases hh with hh | ⟨h1, hh⟩
  · go_wp2
    go_ret
    exact ⟨rfl, H0.below⟩
  · go_wp2
    go_ret
    exact ⟨rfl, H0.below⟩
set_option maxRecDepth 100000 in
set_option maxHeartbeats 4000000 in
theorem rparses_short (s : ByteArray) (x : Rw) (h1 : s.size ≤ 300) (h2 : x.id.size ≤ 200) (hx : x.ok) (w : World) (hT : TabU w) :
    Calls Tryd.prog 3 #[.string s, x.val] w (Tells (.bool true) w.heap.size w) := by
  have cP := fun u hu => rowparse_any s (by omega) u hu
  have cQ := fun u => rrowparse_any s (by omega) u
  have cT := fun u hu => rowtext_any x hx (by omega) u hu
  have cU := fun u => rrowtext_any x hx (by omega) u
  have hq := fun u => eql_rw_same (parR s.data.toList).1 u
  generalize parR s.data.toList = q at *
  generalize tolR x = t at *
  obtain ⟨⟨qi, qh, ql⟩, e⟩ := q
  obtain ⟨t, f⟩ := t
  obtain ⟨i, a, b⟩ := x
  simp only [Rw.val] at cP cQ cT cU hq ⊢
  have H0 := (Has.start w).add 26 (rwB i a b)
  have k1 : ¬ (300 : Int) < (s.size : Int) := by omega
  have k2 : ¬ (200 : Int) < (i.size : Int) := by simp only at h2; omega
  clear h1 h2 hx
  go_enter Tryd.func3, Tryd.ntmps3
  go_upto_region 1 with fail
  change Code.wp _ _ _ _ (w.alloc (.cells (rwB i a b) 26))
  generalize w.alloc (.cells (rwB i a b) 26) = W at *
  obtain ⟨y0, y1, y2, g0, g1, g2, hin1⟩ := (H0.box 0).three
  go_upto_region 4 with (first
    | (go_at_call 10; refine (cP _ (hT.call H0.below)).mono ?_; rintro e1 w1 ⟨rfl, j1⟩; have H1 := H0.call j1)
    | fail)
  have H2 := H1.add 26 (rwB qi qh ql)
  change Code.wp _ _ _ _ (w1.alloc (.cells (rwB qi qh ql) 26))
  generalize w1.alloc (.cells (rwB qi qh ql) 26) = W2 at *
  generalize w1.heap.size = n1 at *
  go_upto_region 5 with (first
    | (go_at_call 11; refine (cQ _).mono ?_; rintro e1 w3 ⟨rfl, j3⟩; have H3 := H2.call j3)
    | fail)
  have H4 := H3.add 26 (rwB qi qh ql)
  change Code.wp _ _ _ _ (w3.alloc (.cells (rwB qi qh ql) 26))
  generalize w3.alloc (.cells (rwB qi qh ql) 26) = W4 at *
  generalize w3.heap.size = n3 at *
  clear y0 y1 y2 g0 g1 g2 hin1
  obtain ⟨y0, y1, y2, g0, g1, g2, hin1⟩ := (H4.box 2).three
  go_upto_region 6 with (first
    | (go_at_call 12; refine (cT _ (hT.call H4.below)).mono ?_; rintro e1 w5 ⟨rfl, j5⟩; have H5 := H4.call j5)
    | fail)
  clear y0 y1 y2 g0 g1 g2 hin1
  obtain ⟨y0, y1, y2, g0, g1, g2, hin1⟩ := (H5.box 2).three
  go_upto_region 7 with (first
    | (go_at_call 13; refine (cU _).mono ?_; rintro e1 w6 ⟨rfl, j6⟩; have H6 := H5.call j6)
    | fail)
  clear y0 y1 y2 g0 g1 g2 hin1
  obtain ⟨y0, y1, y2, g0, g1, g2, hin1⟩ := (H6.box 1).three
  obtain ⟨z0, z1, z2, -, -, -, hin2⟩ := (H6.box 0).three
  go_wp2
  go_ret
  exact ⟨rfl, H6.below⟩

theorem rowParses_core (H : Type) (enc : TypeId × Value → H) (W : World) (base : Nat) (args : Array Value) (ds gs : List (DataW H)) (before : List MemPlace)
    (hval : ∀ (j : Nat) t v, Tryd.f3.params[j]? = some t → args[j]? = some v → Value.okWide Tryd.prog W .any base t v)
    (hW : DataW.Whole enc Tryd.prog Tryd.f3.params.toList Rows.rowParsesSpec.vars false W args.toList ds gs before) (hT : TabU W) :
    gs = [] ∧ ds.length = 2 ∧ Calls Tryd.prog 3 args W (Tells (.bool true) W.heap.size W) := by
  obtain ⟨p, q, hA, hV, -, -, -⟩ := hW
  obtain ⟨rfl, rfl⟩ := trodVars_none hV
  have hA : DataW.TrodAll enc Tryd.prog W 0 (fun _ => true) true Tryd.f3.params.toList args.toList ds p := hA
  rw [Tryd.params3] at hA hval
  obtain ⟨v0, vs0, d0, ds0, p0, ps0, e0, rfl, -, h0, hA⟩ := trodAll_cons hA
  obtain ⟨v1, vs1, d1, ds1, p1, ps1, rfl, rfl, -, h1, hA⟩ := trodAll_cons hA
  obtain ⟨rfl, rfl, rfl⟩ := trodAll_nil hA
  obtain rfl : args = #[v0, v1] := Array.ext' e0
  obtain ⟨s, rfl, rfl, rfl, z5⟩ := Go.ChangeMaps.open_string Tryd.underlying9 (hval 0 9 v0 rfl rfl) h0
  obtain ⟨x, rfl, z1, z2⟩ := open_rw (hval 1 26 v1 rfl rfl) h1
  refine ⟨rfl, rfl, ?_⟩
  by_cases h : 300 < s.size ∨ 200 < x.id.size
  · exact rparses_long s x h W
  · exact rparses_short s x (by omega) (by omega) z2 W hT

set_option maxRecDepth 100000 in
theorem rowParses_lifted (os : Os) (started : os.Started) (H : Type) (enc : TypeId × Value → H) :
    ReturnsInHanded {} Tryd.checked os 3 .any (fun w args => (Rows.rowParsesSpec.pre enc Tryd.prog Tryd.f3 [] false w args ∧ laidMetH Tryd.prog laidU w) ∧ sizedMet enc Tryd.prog Tryd.f3 (OpenSpec.ofChange Rows.rowParsesSpec) false w args)
      (Rows.rowParsesSpec.post enc Tryd.prog Tryd.f3 false true false false) := by
  refine returnsInHanded_of_change_and (C := Tryd.checked) (X := fun w _ => laidMetH Tryd.prog laidU w) (fun _ _ _ hh h => h.of_heap hh) own_knob started (by kernel_rfl) Tryd.func3
    (ChangeSpec.witness_shaped (enc := enc) (C := Tryd.checked) (os := os) (X := fun w _ => laidMetH Tryd.prog laidU w) false (World.laidAll Tryd.prog os laidU) #[.string ⟨#[]⟩, .agg #[.string ⟨#[]⟩, .int .u64 0, .int .u64 0]] 8 (World.laidAll_os _ _ _) (World.shaped_of_ZipB (by kernel_rfl) (by kernel_rfl)) (by kernel_rfl) (by kernel_rfl) (by kernel_rfl) (met_U os _)) ?_
  intro W base args ds gs before hval0 hW _ hwt hL _
  have hval : ∀ (j : Nat) t v, Tryd.f3.params[j]? = some t → args[j]? = some v → Value.okWide Tryd.prog W .any base t v := hval0
  obtain ⟨hg, hlen, hc⟩ := rowParses_core H enc W base args ds gs before hval hW (tab_of_laidU hL)
  subst hg
  have hr : (Tryd.f3.params.toList.all fun t => Tryd.prog.readableRec t && decide (t < Tryd.prog.types.size)) = true := by kernel_rfl
  have hread : ∀ t ∈ Tryd.f3.params.toList, Tryd.prog.readableRec t = true ∧ t < Tryd.prog.types.size := fun t ht => by
    have h := List.all_eq_true.1 hr t ht
    rw [Bool.and_eq_true, decide_eq_true_eq] at h
    exact h
  refine hc.mono fun e W' ⟨he, hb⟩ => ?_
  subst he
  match ds, hlen with
  | [d0, d1], _ => exact ⟨_, rfl, law_post laid_out Tryd.underlying4 rfl hread rfl hW rfl rfl rfl hb⟩

theorem rowParses_holds : Rows.RowParsesSaid :=
  OpenClaim.holds_of_wide 3 Tryd.f3 rfl rfl rfl rfl rfl rfl rfl ⟨rfl, rfl, rfl, rfl, rfl⟩ rfl rfl rfl rfl rfl (by kernel_rfl) Tryd.func3 (by kernel_rfl)
    (of_decide_eq_true (by kernel_rfl)) (by unfold Func.isWrapper; first | (rw [if_pos (by decide +kernel)]; kernel_rfl) | (rw [if_neg (by decide +kernel)]; exact ⟨rfl, rfl⟩))
    (fun os started H enc _ => rowParses_lifted os started H enc)

theorem rowParses_card : Rows.RowParsesCardSaid :=
  Claim7.holds_tied_plain_at .later [] [.data, .pinned] true _ false
    rowParses_holds (fun _ h => by cases h) (by kernel_rfl) (fun _ h => by cases h) rowParses_row_tie rfl ⟨rfl, rfl⟩ (by kernel_rfl) rfl
    (fun f fn hf hfn => by
      obtain rfl : f = 3 := Option.some.inj ((show Tryd.prog.funcNamed "paymaster/paymasterlaw10.RowParses" = some 3 by kernel_rfl).symm.trans hf) |>.symm
      obtain rfl : fn = Tryd.f3 := (Option.some.inj (Tryd.func3.symm.trans hfn)).symm
      exact ⟨by kernel_rfl, fun j t ht => by
        have hm : t ∈ Tryd.f3.params.toList := by simpa using Array.mem_of_getElem? ht
        have hall : (Tryd.f3.params.toList.all fun u => !Tryd.prog.wantsStandIn u) = true := by kernel_rfl
        exact (show Tryd.prog.wantsStandIn t = false by simpa using List.all_eq_true.1 hall t hm)⟩)
    (by kernel_rfl)

end Go.Proofs.YtfnbehijnmbhjaaDoor
