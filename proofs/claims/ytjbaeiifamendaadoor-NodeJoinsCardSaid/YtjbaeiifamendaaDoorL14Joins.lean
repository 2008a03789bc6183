/-
  The law NodeJoins: any two nodes as one, by any width, and whether one is of it, is what the chapter says. Conditions: none.
-/
import Derived.Test.YtjbaeiifamendaaDoorL14Law
import Derived.Test.YtjbaeiifamendaaDoorM14Ref
namespace Go.Proofs.YtjbaeiifamendaaDoor
set_option linter.unusedVariables false
set_option linter.unusedSimpArgs false
set_option maxRecDepth 10000
open Go.ChangeShapes Go.WideShapes Go.ChangeAt Go.RowKit

theorem nd_row2 (w : World) (x y : Nd) : ndS.Row (w.alloc (.cells #[.string x.hash, .int .u64 x.h, .int .u64 x.l, .string y.hash, .int .u64 y.h, .int .u64 y.l] 26)) (w.heap.size + 1) (some ⟨w.heap.size, 0, none⟩) [x, y] := by
  have h := Sh.row_box (S := ndS) (d := [x, y]) (Box.made w 26 (ndS.flat [x, y]).toArray)
  rw [World.size_alloc] at h
  exact h
set_option maxRecDepth 100000 in
set_option maxHeartbeats 4000000 in
theorem nodeJoins_any (n : Int) (x y : Nd) (hx : x.fine) (hy : y.fine) (w : World) (hT : Tab w) : Calls Tryd.prog 3 #[.int .i64 n, x.val, y.val] w (Tells (.bool true) w.heap.size w) := by
  have cG := fun (A : Option Addr) u hu => great_any A 2 [x, y] (by simp) (fun z hz => by
    simp only [List.mem_cons, List.not_mem_nil, or_false] at hz
    rcases hz with rfl | rfl
    · exact hx.1
    · exact hy.1) u hu
  have hrow := fun u => nd_row2 u x y
  have hno := @greatN_no [x, y]
  obtain ⟨s, h, l⟩ := x
  obtain ⟨z, j, m⟩ := y
  obtain ⟨V, hV⟩ : ∃ V, greatN [⟨s, h, l⟩, ⟨z, j, m⟩] = V := ⟨_, rfl⟩
  rw [hV] at cG hno
  show Calls _ _ #[.int .i64 n, .agg (ndB s h l), .agg (ndB z j m)] _ _
  have H0 := ((Has.start w).add 26 (ndB s h l)).addAt 26 (ndB z j m) (g := w.heap.size + 1) (by simp)
  go_enter Tryd.func3, Tryd.ntmps3
  go_upto_region 1 with fail
  change Code.wp _ _ _ _ ((w.alloc (.cells (ndB s h l) 26)).alloc (.cells (ndB z j m) 26))
  generalize (w.alloc (.cells (ndB s h l) 26)).alloc (.cells (ndB z j m) 26) = W0 at *
  obtain ⟨p0, p1, p2, -, -, -, hin1⟩ := (H0.box 1).three
  obtain ⟨q0, q1, q2, -, -, -, hin2⟩ := (H0.box 0).three
  have hr0 := (hrow W0).more (B' := (W0.alloc (.cells #[.string s, .int .u64 h, .int .u64 l, .string z, .int .u64 j, .int .u64 m] 26)).heap.size) (by simp)
  have H1 := H0.past (.cells #[.string s, .int .u64 h, .int .u64 l, .string z, .int .u64 j, .int .u64 m] 26)
  cases V with
  | true =>
    go_wp2_with (first | (go_at_call 9; refine (cG _ _ hr0).mono ?_; rintro e w1 ⟨rfl, b1⟩) | fail)
    go_ret
    exact ⟨rfl, (H1.call b1).below⟩
  | false =>
    obtain ⟨-, hsz⟩ := hno rfl
    have h1 : s.size ≤ 1000000 := Nat.le_trans (hsz ⟨s, h, l⟩ (by simp)) (by decide)
    have h2 : z.size ≤ 1000000 := Nat.le_trans (hsz ⟨z, j, m⟩ (by simp)) (by decide)
    have cJ := fun u hu => Join14_any n ⟨s, h, l⟩ ⟨z, j, m⟩ h1 h2 hx.2 hy.2 u hu
    have dJ := fun u => rjoin14_any n ⟨s, h, l⟩ ⟨z, j, m⟩ h1 h2 hx.2 hy.2 u
    have cO := fun u => of14_any n ⟨s, h, l⟩ u
    have dO := fun u => rof14_any n ⟨s, h, l⟩ u
    have he := fun u => eql_nd_self (joinN n ⟨s, h, l⟩ ⟨z, j, m⟩).1 u
    obtain ⟨⟨⟨js, jh, jl⟩, je⟩, hJ⟩ : ∃ V, joinN n ⟨s, h, l⟩ ⟨z, j, m⟩ = V := ⟨_, rfl⟩
    obtain ⟨O, hO⟩ : ∃ O, Nd.of n ⟨s, h, l⟩ = O := ⟨_, rfl⟩
    rw [hJ] at cJ dJ he
    rw [hO] at cO dO
    simp only [Nd.val] at cJ dJ cO dO he
    clear hx hy hsz h1 h2 hJ hO hno hrow
    go_upto_region 3 with (first
      | (go_at_call 9; refine (cG _ _ hr0).mono ?_; rintro e w1 ⟨rfl, b1⟩; have K1 := H1.call b1; obtain ⟨x0, x1, x2, -, -, -, hin3⟩ := (K1.box 1).three; obtain ⟨y0, y1, y2, -, -, -, hin4⟩ := (K1.box 0).three)
      | fail)
    clear p0 p1 p2 hin1 q0 q1 q2 hin2 hr0 H1 cG
    go_upto_region 4 with (first
      | (go_at_call 10; refine (cJ _ (hT.call K1.below)).mono ?_; rintro e w2 ⟨rfl, b2⟩; have K2 := (K1.call b2).add 26 (ndB js jh jl))
      | fail)
    obtain ⟨g, hg⟩ : ∃ g, w2.heap.size = g := ⟨_, rfl⟩
    rw [hg] at K2 ⊢
    change Code.wp _ _ _ _ (w2.alloc (.cells (ndB js jh jl) 26))
    generalize w2.alloc (.cells (ndB js jh jl) 26) = W2 at *
    clear x0 x1 x2 hin3 y0 y1 y2 hin4 cJ b2
    obtain ⟨x0, x1, x2, -, -, -, hin3⟩ := (K2.box 2).three
    obtain ⟨y0, y1, y2, -, -, -, hin4⟩ := (K2.box 1).three
    go_upto_region 5 with (first
      | (go_at_call 11; refine (dJ _).mono ?_; rintro e w3 ⟨rfl, b3⟩; have K3 := (K2.call b3).add 26 (ndB js jh jl))
      | fail)
    obtain ⟨g2, hg2⟩ : ∃ g, w3.heap.size = g := ⟨_, rfl⟩
    rw [hg2] at K3 ⊢
    change Code.wp _ _ _ _ (w3.alloc (.cells (ndB js jh jl) 26))
    generalize w3.alloc (.cells (ndB js jh jl) 26) = W3 at *
    clear x0 x1 x2 hin3 y0 y1 y2 hin4 dJ b3 K2 K1 H0
    have fact : ∀ u, Has w [(g2, 26, ndB js jh jl), (g, 26, ndB js jh jl), (w.heap.size + 1, 26, ndB z j m), (w.heap.size, 26, ndB s h l)] u →
        (u.cell? ⟨g2, 0, none⟩ = some (.string js) ∧ u.cell? ⟨g2, 1, none⟩ = some (.int .u64 jh) ∧ u.cell? ⟨g2, 2, none⟩ = some (.int .u64 jl)) ∧
        (u.cell? ⟨g, 0, none⟩ = some (.string js) ∧ u.cell? ⟨g, 1, none⟩ = some (.int .u64 jh) ∧ u.cell? ⟨g, 2, none⟩ = some (.int .u64 jl)) ∧
        (u.cell? ⟨w.heap.size, 0, none⟩ = some (.string s) ∧ u.cell? ⟨w.heap.size, 1, none⟩ = some (.int .u64 h) ∧ u.cell? ⟨w.heap.size, 2, none⟩ = some (.int .u64 l)) :=
      fun u h => ⟨(h.box 0).three0.1, (h.box 1).three0.1, (h.box 3).three0.1⟩
    go_region_held3 (fun u => Has w [(g2, 26, ndB js jh jl), (g, 26, ndB js jh jl), (w.heap.size + 1, 26, ndB z j m), (w.heap.size, 26, ndB s h l)] u ∧
        ((u.cell? ⟨g2, 0, none⟩ = some (.string js) ∧ u.cell? ⟨g2, 1, none⟩ = some (.int .u64 jh) ∧ u.cell? ⟨g2, 2, none⟩ = some (.int .u64 jl)) ∧
        (u.cell? ⟨g, 0, none⟩ = some (.string js) ∧ u.cell? ⟨g, 1, none⟩ = some (.int .u64 jh) ∧ u.cell? ⟨g, 2, none⟩ = some (.int .u64 jl)) ∧
        (u.cell? ⟨w.heap.size, 0, none⟩ = some (.string s) ∧ u.cell? ⟨w.heap.size, 1, none⟩ = some (.int .u64 h) ∧ u.cell? ⟨w.heap.size, 2, none⟩ = some (.int .u64 l))))
      (first
        | with_reducible exact held_drew fact K3
        | with_reducible exact held_keep fact (by assumption) (by assumption)
        | with_reducible assumption
        | fail)
      (first
        | (go_at_call 12; refine (cO _).mono ?_; rintro e v1 ⟨rfl, k1⟩)
        | (go_at_call 13; refine (dO _).mono ?_; rintro e v2 ⟨rfl, k2⟩)
        | fail)
    all_goals go_wp2
    all_goals go_ret
    all_goals exact ⟨rfl, Has.below (And.left (by assumption))⟩

theorem nodeJoins_core (H : Type) (enc : TypeId × Value → H) (W : World) (base : Nat) (args : Array Value) (ds gs : List (DataW H)) (before : List MemPlace)
    (hval : ∀ (j : Nat) t v, Tryd.f3.params[j]? = some t → args[j]? = some v → Value.okWide Tryd.prog W .any base t v)
    (hW : DataW.Whole enc Tryd.prog Tryd.f3.params.toList Rows.nodeJoinsSpec.vars false W args.toList ds gs before) (hT : Tab W) :
    gs = [] ∧ ds.length = 3 ∧ Calls Tryd.prog 3 args W (Tells (.bool true) W.heap.size W) := by
  obtain ⟨p, q, hA, hV, -, -, -⟩ := hW
  obtain ⟨rfl, rfl⟩ := trodVars_none hV
  have hA : DataW.TrodAll enc Tryd.prog W 0 (fun _ => true) true Tryd.f3.params.toList args.toList ds p := hA
  rw [Tryd.params3] at hA hval
  obtain ⟨v0, vs0, d0, ds0, p0, ps0, e0, rfl, -, h0, hA⟩ := trodAll_cons hA
  obtain ⟨v1, vs1, d1, ds1, p1, ps1, rfl, rfl, -, h1, hA⟩ := trodAll_cons hA
  obtain ⟨v2, vs2, d2, ds2, p2, ps2, rfl, rfl, -, h2, hA⟩ := trodAll_cons hA
  obtain ⟨rfl, rfl, rfl⟩ := trodAll_nil hA
  obtain rfl : args = #[v0, v1, v2] := Array.ext' e0
  obtain ⟨n, rfl, -, -, bn⟩ := open_int Tryd.underlying3 (hval 0 3 v0 rfl rfl) h0
  obtain ⟨x, rfl, hx⟩ := open_nd (hval 1 26 v1 rfl rfl) h1
  obtain ⟨y, rfl, hy⟩ := open_nd (hval 2 26 v2 rfl rfl) h2
  exact ⟨rfl, rfl, nodeJoins_any n x y hx hy W hT⟩

set_option maxRecDepth 100000 in
theorem nodeJoins_lifted (os : Os) (started : os.Started) (H : Type) (enc : TypeId × Value → H) :
    ReturnsInHanded {} Tryd.checked os 3 .any (fun w args => (Rows.nodeJoinsSpec.pre enc Tryd.prog Tryd.f3 [] false w args ∧ laidMetH Tryd.prog laidK w) ∧ sizedMet enc Tryd.prog Tryd.f3 (OpenSpec.ofChange Rows.nodeJoinsSpec) false w args)
      (Rows.nodeJoinsSpec.post enc Tryd.prog Tryd.f3 false true false false) := by
  refine returnsInHanded_of_change_and (C := Tryd.checked) (X := fun w _ => laidMetH Tryd.prog laidK w) (fun _ _ _ hh h => h.of_heap hh) own_knob started (by kernel_rfl) Tryd.func3
    (ChangeSpec.witness_shaped (enc := enc) (C := Tryd.checked) (os := os) (X := fun w _ => laidMetH Tryd.prog laidK w) false (World.doorLaid Tryd.prog 14 os) #[.int .i64 0, .agg #[.string ⟨#[]⟩, .int .u64 0, .int .u64 0], .agg #[.string ⟨#[]⟩, .int .u64 0, .int .u64 0]] 8 rfl (World.shaped_of_RefB (by kernel_rfl) (by kernel_rfl)) (by kernel_rfl) (by kernel_rfl) (by kernel_rfl) (door_met os _)) ?_
  intro W base args ds gs before hval0 hW _ hwt hL _
  have hval : ∀ (j : Nat) t v, Tryd.f3.params[j]? = some t → args[j]? = some v → Value.okWide Tryd.prog W .any base t v := hval0
  obtain ⟨hg, hlen, hc⟩ := nodeJoins_core H enc W base args ds gs before hval hW (tab_of_laid hL)
  subst hg
  have hr : (Tryd.f3.params.toList.all fun t => Tryd.prog.readableRec t && decide (t < Tryd.prog.types.size)) = true := by kernel_rfl
  have hread : ∀ t ∈ Tryd.f3.params.toList, Tryd.prog.readableRec t = true ∧ t < Tryd.prog.types.size := fun t ht => by
    have h := List.all_eq_true.1 hr t ht
    rw [Bool.and_eq_true, decide_eq_true_eq] at h
    exact h
  refine hc.mono fun e W' ⟨he, hb⟩ => ?_
  subst he
  match ds, hlen with
  | [d0, d1, d2], _ => exact ⟨_, rfl, law_post laid_out Tryd.underlying4 rfl hread rfl hW rfl rfl rfl hb⟩

theorem nodeJoins_holds : Rows.NodeJoinsSaid :=
  OpenClaim.holds_of_wide 3 Tryd.f3 rfl rfl rfl rfl rfl rfl rfl ⟨rfl, rfl, rfl, rfl, rfl⟩ rfl rfl rfl rfl rfl (by kernel_rfl) Tryd.func3 (by kernel_rfl)
    (of_decide_eq_true (by kernel_rfl)) (by unfold Func.isWrapper; first | (rw [if_pos (by decide +kernel)]; kernel_rfl) | (rw [if_neg (by decide +kernel)]; exact ⟨rfl, rfl⟩))
    (fun os started H enc _ => nodeJoins_lifted os started H enc)

theorem nodeJoins_card : Rows.NodeJoinsCardSaid :=
  Claim7.holds_tied_plain_at .later [] [.data] true _ false
    nodeJoins_holds (fun _ h => by cases h) (by kernel_rfl) (fun _ h => by cases h) nodeJoins_row_tie rfl ⟨rfl, rfl⟩ (by kernel_rfl) rfl
    (fun f fn hf hfn => by
      obtain rfl : f = 3 := Option.some.inj ((show Tryd.prog.funcNamed "paymaster/paymasterlaw14.NodeJoins" = some 3 by kernel_rfl).symm.trans hf) |>.symm
      obtain rfl : fn = Tryd.f3 := (Option.some.inj (Tryd.func3.symm.trans hfn)).symm
      exact ⟨by kernel_rfl, fun j t ht => by
        have hm : t ∈ Tryd.f3.params.toList := by simpa using Array.mem_of_getElem? ht
        have hall : (Tryd.f3.params.toList.all fun u => !Tryd.prog.wantsStandIn u) = true := by kernel_rfl
        exact (show Tryd.prog.wantsStandIn t = false by simpa using List.all_eq_true.1 hall t hm)⟩)
    (by kernel_rfl)

end Go.Proofs.YtjbaeiifamendaaDoor
