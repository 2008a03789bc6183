/-
  The law LinesRunes: the runes of any text, and the text of any runes, are what the chapter says, or ErrUtf. Conditions: none.
-/
import Derived.Test.YtpblnhphkikfaaaR9Runes
import Derived.Test.YtpblnhphkikfaaaR9Text
import Derived.Test.YtpblnhphkikfaaaR9Same
import Derived.Test.YtpblnhphkikfaaaW0Lift
import Derived.ChangeMaps
import Derived.ChangeSlices
namespace Go.Proofs.Ytpblnhphkikfaaa
set_option linter.unusedVariables false
set_option linter.unusedSimpArgs false
set_option maxRecDepth 10000
open Go.ChangeShapes Go.WideShapes Go.ChangeAt Go.RowKit

/-- A row of the call's own is a row of runes. -/
theorem own_runes {W : World} {b : Nat} {v : Value} {r : List Nat} (h : W.ownsRow b 21 1 v r.length (runeCs r)) :
    ∃ A c, v = .slice A (r.map fun c : Nat => (c : Int)).length c ∧ (A = none → r = []) ∧ RuneRow W W.heap.size A (r.map fun c : Nat => (c : Int)) := by
  by_cases h0 : 0 < r.length
  · obtain ⟨g, cap, rfl, -, hg, -, -, hc, -⟩ := own_row h h0
    refine ⟨some ⟨g, 0, none⟩, cap, by rw [List.length_map], (fun h => nomatch h), fun i x hx => ⟨_, rfl, hg, ?_⟩⟩
    have e1 : (⟨g, 0, none⟩ : Addr).add i = ⟨g, i, none⟩ := by simp [Addr.add]; exact fun hj => hj.symm
    rw [e1]
    refine hc i _ ?_
    rw [List.getElem?_map] at hx
    unfold runeCs
    rw [List.getElem?_map]
    obtain ⟨y, hy, rfl⟩ := Option.map_eq_some_iff.1 hx
    rw [hy]
    rfl
  · have e : r = [] := List.eq_nil_of_length_eq_zero (by omega)
    subst e
    rcases h.2 with ⟨h1, -⟩ | ⟨g, cap, cur, h1, -⟩
    · exact ⟨none, 0, h1, fun _ => rfl, fun i x hx => by simp at hx⟩
    · exact ⟨_, _, h1, fun _ => rfl, fun i x hx => by simp at hx⟩

set_option maxHeartbeats 2000000 in
theorem lrunes_long (s : ByteArray) (A : Option Addr) (c : Nat) (l : List Int) (h : 1000 < s.size ∨ 300 < l.length) (w : World) :
    Calls Try.prog 4 #[.string s, .slice A l.length c] w (Tells (.bool true) w.heap.size w) := by
  by_cases h1 : 1000 < s.size
  · have h1i : (1000 : Int) < (s.size : Int) := by omega
    clear h
    go_enter Try.func4, Try.ntmps4
    go_wp2
    go_ret
    exact ⟨rfl, Below.refl _ _⟩
  · have h2 : (300 : Int) < (l.length : Int) := by omega
    have h1i : ¬ ((1000 : Int) < (s.size : Int)) := by omega
    clear h
    go_enter Try.func4, Try.ntmps4
    go_wp2
    go_ret
    exact ⟨rfl, Below.refl _ _⟩

set_option maxRecDepth 100000 in
set_option maxHeartbeats 4000000 in
theorem lrunes_short (s : ByteArray) (hs : s.size ≤ 1000) (A : Option Addr) (c : Nat) (l : List Int) (hl : l.length ≤ 300) (hz : ∀ r ∈ l, -2147483648 ≤ r ∧ r ≤ 2147483647) (w : World) (hr : RuneRow w w.heap.size A l) :
    Calls Try.prog 4 #[.string s, .slice A l.length c] w (Tells (.bool true) w.heap.size w) := by
  have cU := fun u => runes_any s (by omega) u
  have cR := fun u => rrunes_any s (by omega) u
  have cT := fun u hu => text_any A c l (by omega) u hu
  have cX := fun u hu => rtext_any A c l (by omega) hz u hu
  have hsi : ¬ ((1000 : Int) < (s.size : Int)) := by omega
  have hli : ¬ ((300 : Int) < (l.length : Int)) := by omega
  have hll : ∀ r, runesL s.data.toList = some r → r.length ≤ 1000 := fun r h => by have := (runesL_len _ _ h).1; rw [ba_size] at this; omega
  obtain ⟨X, hX⟩ : ∃ X, runesL s.data.toList = X := ⟨_, rfl⟩
  rw [hX] at cU cR hll
  clear hX hz
  obtain ⟨t, n, hR⟩ : ∃ (t : ByteArray) (n : Int), (if okAll l then (#[.string (bA (textZ l)), .int .i64 0] : Array Value) else #[.string ⟨#[]⟩, .int .i64 90]) = #[.string t, .int .i64 n] := by
    by_cases h : okAll l = true
    · exact ⟨_, _, if_pos h⟩
    · exact ⟨_, _, if_neg h⟩
  rw [hR] at cT cX
  clear hR
  go_enter Try.func4, Try.ntmps4
  go_upto_region 5 with (first
    | (go_at_call 17; refine (cU _).mono ?_; rintro e w1 ⟨v1, e1, rfl, hA1, b1⟩)
    | (go_at_call 18; refine (cR _).mono ?_; rintro e w2 ⟨v2, e2, rfl, hA2, b2⟩))
  have L2 := chain b1 b2
  have hr2 : RuneRow w2 w2.heap.size A l := (hr.call L2).more L2.size
  clear cU cR
  cases X with
  | none =>
    obtain ⟨rfl, rfl⟩ := hA1
    obtain ⟨rfl, rfl⟩ := hA2
    have cS := fun u => sameRunes_any none none 0 0 [] [] (by simp) u (fun i x hx => by simp at hx) (fun i x hx => by simp at hx)
    rw [decide_eq_true rfl] at cS
    go_wp2_with (first
      | (go_at_call 19; refine (cT _ hr2).mono ?_; rintro e w' ⟨rfl, rfl⟩)
      | (go_at_call 20; refine (cX _ hr2).mono ?_; rintro e w3 ⟨rfl, b3⟩)
      | (go_at_call 21; refine (cS _).mono ?_; rintro e w4 ⟨rfl, b4⟩))
    go_ret
    exact ⟨rfl, chain (chain L2 b3) b4⟩
  | some r =>
    obtain ⟨rfl, h1⟩ := hA1
    obtain ⟨rfl, h2⟩ := hA2
    have hlr := hll r rfl
    obtain ⟨A1, c1, rfl, -, q1⟩ := own_runes (own_below h1 b2)
    obtain ⟨A2, c2, rfl, -, q2⟩ := own_runes h2
    have hlm : (r.map fun c : Nat => (c : Int)).length ≤ 1000000 := by rw [List.length_map]; omega
    generalize (r.map fun c : Nat => (c : Int)) = m at *
    have cS := fun u h1 h2 => sameRunes_any A1 A2 c1 c2 m m hlm u h1 h2
    rw [decide_eq_true rfl] at cS
    clear h1 h2 hll
    go_wp2_with (first
      | (go_at_call 19; refine (cT _ hr2).mono ?_; rintro e w' ⟨rfl, rfl⟩)
      | (go_at_call 20; refine (cX _ hr2).mono ?_; rintro e w3 ⟨rfl, b3⟩)
      | (go_at_call 21; refine (cS _ ((q1.call b3).more b3.size) ((q2.call b3).more b3.size)).mono ?_; rintro e w4 ⟨rfl, b4⟩))
    go_ret
    exact ⟨rfl, chain (chain L2 b3) b4⟩
theorem open_runes {H : Type} {enc : TypeId × Value → H} {W : World} {base : Nat} {v : Value} {d : DataW H} {p : List MemPlace} (hval : Value.okWide Try.prog W .any base 39 v)
    (h : DataW.Trod enc Try.prog W 0 (fun _ => true) true 39 v d p) :
    ∃ (A : Option Addr) (c : Nat) (l : List Int), v = .slice A l.length c ∧ (∀ r ∈ l, -2147483648 ≤ r ∧ r ≤ 2147483647) ∧ RuneRow W W.heap.size A l := by
  obtain ⟨a', len, cap, rfl⟩ := okWide_slice Try.underlying39 hval
  obtain ⟨fuel, hf⟩ := h
  have hC : Try.prog.cellsOf 21 = 1 := by kernel_rfl
  rcases Go.ChangeShapes.open_ints Try.underlying39 Try.underlying21 hC hf with ⟨hcs, -⟩ | ⟨a, len', cap', zs, hcs, -, hl, hm, hz, -, hcell, hwf⟩
  · have hcell : Value.slice a' len cap = .slice none 0 0 := by simpa [Value.cells] using hcs
    injection hcell with e1 e2 e3
    subst e1 e2 e3
    exact ⟨none, 0, [], rfl, fun r hr => by simp at hr, fun i s hs => by simp at hs⟩
  · have hv : Value.slice a' len cap = .slice (some a) len' cap' := by simpa [Value.cells] using hcs
    injection hv with e1 e2 e3
    subst e1 e2 e3
    simp only [if_true] at hz
    have hlt : (zs.take len).length = len := by rw [List.length_take]; omega
    refine ⟨some a, cap, zs.take len, by rw [hlt], fun r hr => ?_, fun i s hs => ?_⟩
    · have := hwf r (List.mem_of_mem_take hr)
      simp [Lit.wf, IntKind.min, IntKind.max, IntKind.signed, IntKind.bits] at this
      omega
    · obtain ⟨hi, e⟩ := List.getElem?_eq_some_iff.1 hs
      rw [hlt] at hi
      have hc := hcell i (by omega)
      have e2 : zs.getD i 0 = s := by
        rw [← e, List.getElem_take, List.getD_eq_getElem?_getD, List.getElem?_eq_getElem (by omega)]; rfl
      rw [e2] at hc
      have := World.block_lt_of_cell? _ _ hc
      rw [addr_block] at this
      exact ⟨a, rfl, this, hc⟩

theorem linesRunes_core (H : Type) (enc : TypeId × Value → H) (W : World) (base : Nat) (args : Array Value) (ds gs : List (DataW H)) (before : List MemPlace)
    (hval : ∀ (j : Nat) t v, Try.f4.params[j]? = some t → args[j]? = some v → Value.okWide Try.prog W .any base t v)
    (hW : DataW.Whole enc Try.prog Try.f4.params.toList Rows.linesRunesSpec.vars false W args.toList ds gs before) :
    gs = [] ∧ ds.length = 2 ∧ Calls Try.prog 4 args W (Tells (.bool true) W.heap.size W) := by
  obtain ⟨p, q, hA, hV, -, -, -⟩ := hW
  obtain ⟨rfl, rfl⟩ := trodVars_none hV
  have hA : DataW.TrodAll enc Try.prog W 0 (fun _ => true) true Try.f4.params.toList args.toList ds p := hA
  rw [Try.params4] at hA hval
  obtain ⟨v0, vs0, d0, ds0, p0, ps0, e0, rfl, -, h0, hA⟩ := trodAll_cons hA
  obtain ⟨v1, vs1, d1, ds1, p1, ps1, rfl, rfl, -, h1, hA⟩ := trodAll_cons hA
  obtain ⟨rfl, rfl, rfl⟩ := trodAll_nil hA
  obtain rfl : args = #[v0, v1] := Array.ext' e0
  obtain ⟨s, rfl, rfl, rfl, hs⟩ := Go.ChangeMaps.open_string Try.underlying9 (hval 0 9 v0 rfl rfl) h0
  obtain ⟨A, c, l, rfl, hz, hr⟩ := open_runes (hval 1 39 v1 rfl rfl) h1
  refine ⟨rfl, rfl, ?_⟩
  by_cases h : 1000 < s.size ∨ 300 < l.length
  · exact lrunes_long s A c l h W
  · exact lrunes_short s (by omega) A c l (by omega) hz W hr

set_option maxRecDepth 100000 in
theorem linesRunes_lifted (os : Os) (started : os.Started) (H : Type) (enc : TypeId × Value → H) :
    ReturnsInHanded {} Try.checked os 4 .any (Rows.linesRunesSpec.pre6 enc Try.prog Try.f4 Rows.linesRunesRow.domain false) (Rows.linesRunesSpec.post enc Try.prog Try.f4 false true false false) := by
  refine returnsInHanded_of_change (C := Try.checked) own_knob started (by kernel_rfl) Try.func4
    (ChangeSpec.witness6 (enc := enc) (C := Try.checked) false ⟨#[], #[.string ⟨#[]⟩, .slice none 0 0], []⟩ 8 (by kernel_rfl) (by kernel_rfl) (by kernel_rfl) (by kernel_rfl)) ?_
  intro W base args ds gs before hval hW _ _
  obtain ⟨hg, hlen, hc⟩ := linesRunes_core H enc W base args ds gs before hval hW
  subst hg
  have hr : (Try.f4.params.toList.all fun t => Try.prog.readableRec t && decide (t < Try.prog.types.size)) = true := by kernel_rfl
  have hread : ∀ t ∈ Try.f4.params.toList, Try.prog.readableRec t = true ∧ t < Try.prog.types.size := fun t ht => by
    have h := List.all_eq_true.1 hr t ht
    rw [Bool.and_eq_true, decide_eq_true_eq] at h
    exact h
  refine hc.mono fun e W' ⟨he, hb⟩ => ?_
  subst he
  match ds, hlen with
  | [d0, d1], _ => exact ⟨_, rfl, law_post laid_out Try.underlying4 rfl hread rfl hW rfl rfl rfl hb⟩

theorem linesRunes_holds : Rows.LinesRunesSaid :=
  OpenClaim.holds_of_wide 4 Try.f4 rfl rfl rfl rfl rfl rfl rfl ⟨rfl, rfl, rfl, rfl, rfl⟩ rfl rfl rfl rfl rfl (by kernel_rfl) Try.func4 (by kernel_rfl)
    (of_decide_eq_true (by kernel_rfl)) (by unfold Func.isWrapper; first | (rw [if_pos (by decide +kernel)]; kernel_rfl) | (rw [if_neg (by decide +kernel)]; exact ⟨rfl, rfl⟩))
    (fun os started H enc _ => linesRunes_lifted os started H enc)

end Go.Proofs.Ytpblnhphkikfaaa
