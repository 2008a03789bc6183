/-
  The law RowAll: what any line, and any text, tells, is what the chapter says.
  Conditions: utf8's two tables hold what their texts lay (tied by the card; one is the form's constant).
-/
import Derived.Test.YtfnbehijnmbhjaaDoorR10All
import Derived.Test.YtfnbehijnmbhjaaDoorS10Same
import Derived.Test.YtfnbehijnmbhjaaDoorW10Laid
import Derived.ChangeMaps
namespace Go.Proofs.YtfnbehijnmbhjaaDoor
set_option linter.unusedVariables false
set_option linter.unusedSimpArgs false
set_option maxRecDepth 10000
open Go.ChangeShapes Go.WideShapes Go.ChangeAt Go.RowKit

theorem neq_rw_self (x : Rw) (w : World) : (binOp .neq 26 x.val x.val).run Tryd.prog w = .ok (.bool false) w := by rw [run_neq_rw, Rw.same_self]; rfl
/-- A line, opened. -/
theorem open_line {H : Type} {enc : TypeId × Value → H} {W : World} {base : Nat} {v : Value} {d : DataW H} {p : List MemPlace} (hval : Value.okWide Tryd.prog W .any base 38 v)
    (h : DataW.Trod enc Tryd.prog W 0 (fun _ => true) true 38 v d p) : ∃ (n : Int) (s : ByteArray) (k e : Int), v = .agg #[.int .i64 n, .string s, .int .u8 k, .int .i64 e] ∧ s.size ≤ 9223372036854775807 := by
  obtain ⟨cs, rfl, hsz⟩ := okWide_struct Tryd.underlying38 hval
  have hsz4 : cs.size = 4 := hsz.trans (show Tryd.prog.cellsOf 38 = 4 by kernel_rfl)
  obtain ⟨c0, c1, c2, c3, rfl⟩ : ∃ c0 c1 c2 c3, cs = #[c0, c1, c2, c3] := by
    obtain ⟨l⟩ := cs
    match l, hsz4 with
    | [c0, c1, c2, c3], _ => exact ⟨c0, c1, c2, c3, rfl⟩
  obtain ⟨fuel, hf⟩ := h
  obtain ⟨y0, y1, y2, y3, n, -, -, t0, t1, t2, t3⟩ := Go.Joins.trod_struct4 Tryd.underlying38 hf
  have o0 : Tryd.prog.cellsOf 3 = 1 := by kernel_rfl
  have o1 : Tryd.prog.cellsOf 9 = 1 := by kernel_rfl
  have o2 : Tryd.prog.cellsOf 5 = 1 := by kernel_rfl
  have o3 : Tryd.prog.cellsOf 27 = 1 := by kernel_rfl
  have t0' : DataW.trod enc Tryd.prog W 0 (fun _ => true) true n 3 [c0] = some y0 := by simpa [Value.cells, o0] using t0
  have t1' : DataW.trod enc Tryd.prog W 0 (fun _ => true) true n 9 [c1] = some y1 := by simpa [Value.cells, o1] using t1
  have t2' : DataW.trod enc Tryd.prog W 0 (fun _ => true) true n 5 [c2] = some y2 := by simpa [Value.cells, o2] using t2
  have t3' : DataW.trod enc Tryd.prog W 0 (fun _ => true) true n 27 [c3] = some y3 := by simpa [Value.cells, o3] using t3
  obtain ⟨a, ea, -, -⟩ := DataW.trod_int Tryd.underlying3 t0'
  obtain ⟨s, es, -, ws⟩ := DataW.trod_string Tryd.underlying9 t1'
  obtain ⟨b, eb, -, -⟩ := DataW.trod_int Tryd.underlying5 t2'
  obtain ⟨c, ec, -, -⟩ := DataW.trod_int Tryd.underlying27 t3'
  simp at ea es eb ec
  subst ea es eb ec
  exact ⟨a, s, b, c, rfl, ws⟩

set_option maxHeartbeats 2000000 in
theorem rall_long (n : Int) (s : ByteArray) (k e : Int) (text : ByteArray) (h : 300 < s.size ∨ 3000 < text.size) (w : World) :
    Calls Tryd.prog 4 #[.agg #[.int .i64 n, .string s, .int .u8 k, .int .i64 e], .string text] w (Tells (.bool true) w.heap.size w) := by
  have H0 := (Has.start w).add 38 (lnB n s k e)
  change Calls Tryd.prog 4 #[.agg (lnB n s k e), .string text] w _
  have hh : (300 : Int) < (s.size : Int) ∨ (¬ (300 : Int) < (s.size : Int) ∧ (3000 : Int) < (text.size : Int)) := by omega
  clear h
  go_enter Tryd.func4, Tryd.ntmps4
  go_upto_region 1 with fail
  change Code.wp _ _ _ _ (w.alloc (.cells (lnB n s k e) 38))
  generalize w.alloc (.cells (lnB n s k e) 38) = W at *
  obtain ⟨y0, y1, y2, y3, hin1⟩ := (H0.box 0).four0
  rcases hh with hh | ⟨h1, hh⟩
  · go_wp2
    go_ret
    exact ⟨rfl, H0.below⟩
  · go_wp2
    go_ret
    exact ⟨rfl, H0.below⟩

set_option maxRecDepth 100000 in
set_option maxHeartbeats 8000000 in
theorem rall_short (n : Int) (s : ByteArray) (k e : Int) (text : ByteArray) (h1 : s.size ≤ 300) (h2 : text.size ≤ 3000) (w : World) (hT : TabU w) :
    Calls Tryd.prog 4 #[.agg #[.int .i64 n, .string s, .int .u8 k, .int .i64 e], .string text] w (Tells (.bool true) w.heap.size w) := by
  have cO := fun u hu => rowof_any n s k e (by omega) u hu
  have cP := fun u => rrowparse_any s (by omega) u
  have cA := fun u hu => rowall_any text (by omega) u hu
  have cB := fun u => rrowall_any text (by omega) u
  have hlen : (allRows (linesL text.data.toList)).length ≤ 1000000000 := by
    have h3 : (allRows (linesL text.data.toList)).length ≤ (linesL text.data.toList).length := by
      unfold allRows
      split
      · exact rowsF_len _
      · simp
    have h4 := List.count_le_length (l := text.data.toList) (a := (10 : UInt8))
    rw [ba_size] at h4
    rw [linesL, numb_len, split_len] at h3
    unfold linesL
    omega
  generalize allRows (linesL text.data.toList) = al at *
  generalize errF (linesL text.data.toList) = ef at *
  have k1 : ¬ (300 : Int) < (s.size : Int) := by omega
  have k2 : ¬ (3000 : Int) < (text.size : Int) := by omega
  clear h1 h2
  by_cases hk : e ≠ 0 ∨ k ≠ 2
  · have er : ofR s.data.toList k e = (Rw.zero, false, e) := if_pos hk
    rw [er] at cO
    have hq := fun u => neq_rw_self Rw.zero u
    simp only [Rw.val, Rw.zero] at cO hq
    have cO2 : ∀ u, TabU u → Calls Tryd.prog 14 #[.agg (lnB n s k e)] u (Tells (.tuple #[.agg #[.string ⟨#[]⟩, .int .u64 0, .int .u64 0], .bool false, .int .i64 e]) u.heap.size u) := cO
    have H0 := (Has.start w).add 38 (lnB n s k e)
    change Calls Tryd.prog 4 #[.agg (lnB n s k e), .string text] w _
    have hk2 : ¬ e = 0 ∨ (e = 0 ∧ ¬ k = 2) := by omega
    clear er cP hk cO
    go_enter Tryd.func4, Tryd.ntmps4
    go_upto_region 1 with fail
    change Code.wp _ _ _ _ (w.alloc (.cells (lnB n s k e) 38))
    generalize w.alloc (.cells (lnB n s k e) 38) = W at *
    obtain ⟨y0, y1, y2, y3, hin1⟩ := (H0.box 0).four0
    change Code.wp _ _ _ _ W
    go_upto_region 4 with (first
      | (go_at_call 14; refine (cO2 _ (hT.call H0.below)).mono ?_; rintro e1 w1 ⟨rfl, j1⟩; have H1 := H0.call j1)
      | fail)
    have H2 := H1.add 26 (rwB ⟨#[]⟩ 0 0)
    change Code.wp _ _ _ _ (w1.alloc (.cells (rwB ⟨#[]⟩ 0 0) 26))
    generalize w1.alloc (.cells (rwB ⟨#[]⟩ 0 0) 26) = W2 at *
    generalize w1.heap.size = g1 at *
    have H3 := H2
    clear y0 y1 y2 y3 hin1
    obtain ⟨y0, y1, y2, y3, hin1⟩ := (H2.box 1).four0
    obtain ⟨z0, z1, z2, -, -, -, hin2⟩ := (H2.box 0).three
    rcases hk2 with hk2 | ⟨rfl, hk2⟩
    · go_upto_region 10 with fail
      clear y0 y1 y2 y3 z0 z1 z2
      go_upto_region 12 with (first
        | (go_at_call 15; refine (cA _ (hT.call H3.below)).mono ?_; rintro e1 w4 ⟨v4, rfl, hO4, j4⟩
           obtain ⟨A4, c4, rfl, -, hR4⟩ := rows_of_own hO4
           have H4 := H3.call j4)
        | (go_at_call 16; refine (cB _).mono ?_; rintro e1 w5 ⟨v5, rfl, hO5, j5⟩
           obtain ⟨A5, c5, rfl, -, hR5⟩ := rows_of_own hO5
           have H5 := H4.call j5
           have hR45 := (hR4.call j5).more j5.size)
        | fail)
      have cS := rsame_any A4 A5 c4 c5 _ hlen w5 hR45 hR5
      clear hO4 hO5
      go_wp2_with (first
        | (go_at_call 17; refine cS.mono ?_; rintro e1 w6 ⟨rfl, j6⟩)
        | fail)
      go_ret
      exact ⟨rfl, (H5.call j6).below⟩
    · go_upto_region 10 with fail
      clear y0 y1 y2 y3 z0 z1 z2
      go_upto_region 12 with (first
        | (go_at_call 15; refine (cA _ (hT.call H3.below)).mono ?_; rintro e1 w4 ⟨v4, rfl, hO4, j4⟩
           obtain ⟨A4, c4, rfl, -, hR4⟩ := rows_of_own hO4
           have H4 := H3.call j4)
        | (go_at_call 16; refine (cB _).mono ?_; rintro e1 w5 ⟨v5, rfl, hO5, j5⟩
           obtain ⟨A5, c5, rfl, -, hR5⟩ := rows_of_own hO5
           have H5 := H4.call j5
           have hR45 := (hR4.call j5).more j5.size)
        | fail)
      have cS := rsame_any A4 A5 c4 c5 _ hlen w5 hR45 hR5
      clear hO4 hO5
      go_wp2_with (first
        | (go_at_call 17; refine cS.mono ?_; rintro e1 w6 ⟨rfl, j6⟩)
        | fail)
      go_ret
      exact ⟨rfl, (H5.call j6).below⟩
  · have er : ofR s.data.toList k e = ((parR s.data.toList).1, decide ((parR s.data.toList).2 = 0), ((parR s.data.toList).2 : Int)) := if_neg hk
    rw [er] at cO
    obtain ⟨rfl, rfl⟩ : e = 0 ∧ k = 2 := by omega
    clear er hk
    generalize parR s.data.toList = q at *
    have hq := fun u => neq_rw_self q.1 u
    obtain ⟨⟨i, h, l⟩, z⟩ := q
    simp only [Rw.val] at cO cP hq
    have hz : ((z : Int) == 0) = decide (z = 0) := by rw [Bool.eq_iff_iff]; simp
    generalize decide (z = 0) = zb at *
    have cO2 : ∀ u, TabU u → Calls Tryd.prog 14 #[.agg (lnB n s 2 0)] u (Tells (.tuple #[.agg #[.string i, .int .u64 h, .int .u64 l], .bool zb, .int .i64 z]) u.heap.size u) := cO
    have H0 := (Has.start w).add 38 (lnB n s 2 0)
    change Calls Tryd.prog 4 #[.agg (lnB n s 2 0), .string text] w _
    clear cO
    go_enter Tryd.func4, Tryd.ntmps4
    go_upto_region 1 with fail
    change Code.wp _ _ _ _ (w.alloc (.cells (lnB n s 2 0) 38))
    generalize w.alloc (.cells (lnB n s 2 0) 38) = W at *
    obtain ⟨y0, y1, y2, y3, hin1⟩ := (H0.box 0).four0
    go_upto_region 4 with (first
      | (go_at_call 14; refine (cO2 _ (hT.call H0.below)).mono ?_; rintro e1 w1 ⟨rfl, j1⟩; have H1 := H0.call j1)
      | fail)
    have H2 := H1.add 26 (rwB i h l)
    change Code.wp _ _ _ _ (w1.alloc (.cells (rwB i h l) 26))
    generalize w1.alloc (.cells (rwB i h l) 26) = W2 at *
    generalize w1.heap.size = g1 at *
    clear y0 y1 y2 y3 hin1
    obtain ⟨y0, y1, y2, y3, hin1⟩ := (H2.box 1).four0
    go_upto_region 8 with (first
      | (go_at_call 11; refine (cP _).mono ?_; rintro e1 w2 ⟨rfl, j2⟩; have H22 := H2.call j2)
      | fail)
    have H3 := H22.add 26 (rwB i h l)
    change Code.wp _ _ _ _ (w2.alloc (.cells (rwB i h l) 26))
    generalize w2.alloc (.cells (rwB i h l) 26) = W3 at *
    generalize w2.heap.size = g2 at *
    obtain ⟨z0, z1, z2, -, -, -, hin2⟩ := (H3.box 1).three
    obtain ⟨x0, x1, x2, -, -, -, hin3⟩ := (H3.box 0).three
    clear y0 y1 y2 y3
    go_upto_region 10 with fail
    clear x0 x1 x2 z0 z1 z2
    go_upto_region 12 with (first
      | (go_at_call 15; refine (cA _ (hT.call H3.below)).mono ?_; rintro e1 w4 ⟨v4, rfl, hO4, j4⟩
         obtain ⟨A4, c4, rfl, -, hR4⟩ := rows_of_own hO4
         have H4 := H3.call j4)
      | (go_at_call 16; refine (cB _).mono ?_; rintro e1 w5 ⟨v5, rfl, hO5, j5⟩
         obtain ⟨A5, c5, rfl, -, hR5⟩ := rows_of_own hO5
         have H5 := H4.call j5
         have hR45 := (hR4.call j5).more j5.size)
      | fail)
    have cS := rsame_any A4 A5 c4 c5 _ hlen w5 hR45 hR5
    clear hO4 hO5
    go_wp2_with (first
      | (go_at_call 17; refine cS.mono ?_; rintro e1 w6 ⟨rfl, j6⟩)
      | fail)
    go_ret
    exact ⟨rfl, (H5.call j6).below⟩

theorem rowAll_core (H : Type) (enc : TypeId × Value → H) (W : World) (base : Nat) (args : Array Value) (ds gs : List (DataW H)) (before : List MemPlace)
    (hval : ∀ (j : Nat) t v, Tryd.f4.params[j]? = some t → args[j]? = some v → Value.okWide Tryd.prog W .any base t v)
    (hW : DataW.Whole enc Tryd.prog Tryd.f4.params.toList Rows.rowAllSpec.vars false W args.toList ds gs before) (hT : TabU W) :
    gs = [] ∧ ds.length = 2 ∧ Calls Tryd.prog 4 args W (Tells (.bool true) W.heap.size W) := by
  obtain ⟨p, q, hA, hV, -, -, -⟩ := hW
  obtain ⟨rfl, rfl⟩ := trodVars_none hV
  have hA : DataW.TrodAll enc Tryd.prog W 0 (fun _ => true) true Tryd.f4.params.toList args.toList ds p := hA
  rw [Tryd.params4] at hA hval
  obtain ⟨v0, vs0, d0, ds0, p0, ps0, e0, rfl, -, h0, hA⟩ := trodAll_cons hA
  obtain ⟨v1, vs1, d1, ds1, p1, ps1, rfl, rfl, -, h1, hA⟩ := trodAll_cons hA
  obtain ⟨rfl, rfl, rfl⟩ := trodAll_nil hA
  obtain rfl : args = #[v0, v1] := Array.ext' e0
  obtain ⟨n, s, k, e, rfl, z1⟩ := open_line (hval 0 38 v0 rfl rfl) h0
  obtain ⟨text, rfl, rfl, rfl, z5⟩ := Go.ChangeMaps.open_string Tryd.underlying9 (hval 1 9 v1 rfl rfl) h1
  refine ⟨rfl, rfl, ?_⟩
  by_cases h : 300 < s.size ∨ 3000 < text.size
  · exact rall_long n s k e text h W
  · exact rall_short n s k e text (by omega) (by omega) W hT

set_option maxRecDepth 100000 in
theorem rowAll_lifted (os : Os) (started : os.Started) (H : Type) (enc : TypeId × Value → H) :
    ReturnsInHanded {} Tryd.checked os 4 .any (fun w args => (Rows.rowAllSpec.pre enc Tryd.prog Tryd.f4 [] false w args ∧ laidMetH Tryd.prog laidU w) ∧ sizedMet enc Tryd.prog Tryd.f4 (OpenSpec.ofChange Rows.rowAllSpec) false w args)
      (Rows.rowAllSpec.post enc Tryd.prog Tryd.f4 false true false false) := by
  refine returnsInHanded_of_change_and (C := Tryd.checked) (X := fun w _ => laidMetH Tryd.prog laidU w) (fun _ _ _ hh h => h.of_heap hh) own_knob started (by kernel_rfl) Tryd.func4
    (ChangeSpec.witness_shaped (enc := enc) (C := Tryd.checked) (os := os) (X := fun w _ => laidMetH Tryd.prog laidU w) false (World.laidAll Tryd.prog os laidU) #[.agg #[.int .i64 0, .string ⟨#[]⟩, .int .u8 0, .int .i64 0], .string ⟨#[]⟩] 8 (World.laidAll_os _ _ _) (World.shaped_of_ZipB (by kernel_rfl) (by kernel_rfl)) (by kernel_rfl) (by kernel_rfl) (by kernel_rfl) (met_U os _)) ?_
  intro W base args ds gs before hval0 hW _ hwt hL _
  have hval : ∀ (j : Nat) t v, Tryd.f4.params[j]? = some t → args[j]? = some v → Value.okWide Tryd.prog W .any base t v := hval0
  obtain ⟨hg, hlen, hc⟩ := rowAll_core H enc W base args ds gs before hval hW (tab_of_laidU hL)
  subst hg
  have hr : (Tryd.f4.params.toList.all fun t => Tryd.prog.readableRec t && decide (t < Tryd.prog.types.size)) = true := by kernel_rfl
  have hread : ∀ t ∈ Tryd.f4.params.toList, Tryd.prog.readableRec t = true ∧ t < Tryd.prog.types.size := fun t ht => by
    have h := List.all_eq_true.1 hr t ht
    rw [Bool.and_eq_true, decide_eq_true_eq] at h
    exact h
  refine hc.mono fun e W' ⟨he, hb⟩ => ?_
  subst he
  match ds, hlen with
  | [d0, d1], _ => exact ⟨_, rfl, law_post laid_out Tryd.underlying4 rfl hread rfl hW rfl rfl rfl hb⟩

theorem rowAll_holds : Rows.RowAllSaid :=
  OpenClaim.holds_of_wide 4 Tryd.f4 rfl rfl rfl rfl rfl rfl rfl ⟨rfl, rfl, rfl, rfl, rfl⟩ rfl rfl rfl rfl rfl (by kernel_rfl) Tryd.func4 (by kernel_rfl)
    (of_decide_eq_true (by kernel_rfl)) (by unfold Func.isWrapper; first | (rw [if_pos (by decide +kernel)]; kernel_rfl) | (rw [if_neg (by decide +kernel)]; exact ⟨rfl, rfl⟩))
    (fun os started H enc _ => rowAll_lifted os started H enc)

theorem rowAll_card : Rows.RowAllCardSaid :=
  Claim7.holds_tied_plain_at .later [] [.data, .pinned] true _ false
    rowAll_holds (fun _ h => by cases h) (by kernel_rfl) (fun _ h => by cases h) rowAll_row_tie rfl ⟨rfl, rfl⟩ (by kernel_rfl) rfl
    (fun f fn hf hfn => by
      obtain rfl : f = 4 := Option.some.inj ((show Tryd.prog.funcNamed "paymaster/paymasterlaw10.RowAll" = some 4 by kernel_rfl).symm.trans hf) |>.symm
      obtain rfl : fn = Tryd.f4 := (Option.some.inj (Tryd.func4.symm.trans hfn)).symm
      exact ⟨by kernel_rfl, fun j t ht => by
        have hm : t ∈ Tryd.f4.params.toList := by simpa using Array.mem_of_getElem? ht
        have hall : (Tryd.f4.params.toList.all fun u => !Tryd.prog.wantsStandIn u) = true := by kernel_rfl
        exact (show Tryd.prog.wantsStandIn t = false by simpa using List.all_eq_true.1 hall t hm)⟩)
    (by kernel_rfl)

end Go.Proofs.YtfnbehijnmbhjaaDoor
