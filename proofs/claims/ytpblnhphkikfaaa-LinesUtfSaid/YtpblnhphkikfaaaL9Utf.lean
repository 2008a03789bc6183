/-
  The law LinesUtf: a text's runes have its text; runes' text has these; a rune has from one to four bytes. Conditions: none.
-/
import Derived.Test.YtpblnhphkikfaaaL9Runes
import Derived.Test.YtpblnhphkikfaaaD9Utf
import Derived.Test.YtpblnhphkikfaaaU9Awake
namespace Go.Proofs.Ytpblnhphkikfaaa
set_option linter.unusedVariables false
set_option linter.unusedSimpArgs false
set_option maxRecDepth 10000
open Go.ChangeShapes Go.WideShapes Go.ChangeAt Go.RowKit

set_option maxHeartbeats 2000000 in
theorem lutf_long (s : ByteArray) (A : Option Addr) (c : Nat) (l : List Int) (h : 1000 < s.size ∨ 300 < l.length) (w : World) :
    Calls Try.prog 7 #[.string s, .slice A l.length c] w (Tells (.bool true) w.heap.size w) := by
  have cA := awake_any w
  by_cases h1 : 1000 < s.size
  · have h1i : (1000 : Int) < (s.size : Int) := by omega
    clear h
    go_enter Try.func7, Try.ntmps7
    go_wp2_with (first | (go_at_call 25; refine cA.mono ?_; rintro e w1 ⟨rfl, b1⟩))
    go_ret
    exact ⟨rfl, b1⟩
  · have h2 : (300 : Int) < (l.length : Int) := by omega
    have h1i : ¬ ((1000 : Int) < (s.size : Int)) := by omega
    clear h
    go_enter Try.func7, Try.ntmps7
    go_wp2_with (first | (go_at_call 25; refine cA.mono ?_; rintro e w1 ⟨rfl, b1⟩))
    go_ret
    exact ⟨rfl, b1⟩

/-- A row of the call's own that holds these runes, read again: it is the row. -/
theorem runes_again (t : ByteArray) (l : List Int) (h : okAll l = true) (ht : t = bA (textZ l)) (hs : t.size ≤ 1000000000) (u : World) :
    Calls Try.prog 17 #[.string t] u fun e W => ∃ A c, e = .returned (.tuple #[.slice A l.length c, .int .i64 0]) ∧ RuneRow W W.heap.size A l ∧ Below u.heap.size u W := by
  obtain ⟨r, h1, h2⟩ := runes_text l h
  refine (runes_any t hs u).mono ?_
  rintro e W ⟨v, err, rfl, hA, b⟩
  subst ht
  rw [bA_list, h1] at hA
  obtain ⟨rfl, ho⟩ := hA
  obtain ⟨A, c, rfl, -, q⟩ := own_runes ho
  rw [h2] at q
  have e : (r.map fun c : Nat => (c : Int)).length = l.length := by rw [h2]
  exact ⟨A, c, by rw [e], q, b⟩
theorem textZ_len (l : List Int) : (textZ l).length ≤ 4 * l.length := by
  induction l with
  | nil => simp [textZ]
  | cons x l ih =>
    have := (enc_len x.toNat).2
    simp only [textZ, List.flatMap_cons, List.length_append, List.length_cons] at ih ⊢
    omega

set_option maxRecDepth 100000 in
set_option maxHeartbeats 4000000 in
theorem lutf_short (s : ByteArray) (hs : s.size ≤ 1000) (A : Option Addr) (c : Nat) (l : List Int) (hl : l.length ≤ 300) (hz : ∀ r ∈ l, -2147483648 ≤ r ∧ r ≤ 2147483647) (w : World) (hr : RuneRow w w.heap.size A l) :
    Calls Try.prog 7 #[.string s, .slice A l.length c] w (Tells (.bool true) w.heap.size w) := by
  have cA := awake_any w
  have cU := fun u => runes_any s (by omega) u
  have hsi : ¬ ((1000 : Int) < (s.size : Int)) := by omega
  have hli : ¬ ((300 : Int) < (l.length : Int)) := by omega
  have hall : ∀ r, runesL s.data.toList = some r → bA (textZ (r.map fun c : Nat => (c : Int))) = s ∧ okAll (r.map fun c : Nat => (c : Int)) = true ∧ (r.map fun c : Nat => (c : Int)).length ≤ s.size ∧ s.size ≤ 4 * (r.map fun c : Nat => (c : Int)).length := fun r h => by
    obtain ⟨h1, h2⟩ := text_runes _ _ _ (Nat.le_refl _) h
    have h3 := runesL_len _ _ h
    rw [ba_size] at h3
    exact ⟨by rw [h1, bA_of], h2, by rw [List.length_map]; exact h3.1, by rw [List.length_map]; exact h3.2⟩
  obtain ⟨X, hX⟩ : ∃ X, runesL s.data.toList = X := ⟨_, rfl⟩
  rw [hX] at cU hall
  clear hX
  go_enter Try.func7, Try.ntmps7
  go_upto_region 6 with (first
    | (go_at_call 25; refine cA.mono ?_; rintro e w1 ⟨rfl, b1⟩)
    | (go_at_call 17; refine (cU _).mono ?_; rintro e w2 ⟨v, err, rfl, hA, b2⟩))
  have L2 := chain b1 b2
  have hr2 : RuneRow w2 w2.heap.size A l := (hr.call L2).more L2.size
  clear cU cA
  cases X with
  | none =>
    obtain ⟨rfl, rfl⟩ := hA
    clear hall
    go_upto_region 12 with fail
    cases hok : okAll l
    · have cT2 := fun u hu => text_any A c l (by omega) u hu
      rw [hok] at cT2
      simp only [Bool.false_eq_true, if_false] at cT2
      clear hz
      go_wp2_with (first
        | (go_at_call 19; refine (cT2 _ hr2).mono ?_; rintro e w' ⟨rfl, rfl⟩))
      go_ret
      exact ⟨rfl, L2⟩
    · have cT2 := fun u hu => text_any A c l (by omega) u hu
      rw [hok] at cT2
      simp only [if_true] at cT2
      have cU2 := fun u => runes_again (bA (textZ l)) l hok rfl (by rw [bA_size]; have := textZ_len l; omega) u
      have cS := fun A1 c1 u h1 h2 => sameRunes_any A1 A c1 c l l (by omega) u h1 h2
      rw [decide_eq_true rfl] at cS
      generalize bA (textZ l) = q at *
      clear hz
      go_wp2_with (first
        | (go_at_call 19; refine (cT2 _ hr2).mono ?_; rintro e w' ⟨rfl, rfl⟩)
        | (go_at_call 17; refine (cU2 _).mono ?_; rintro e w3 ⟨A1, c1, rfl, q1, b3⟩)
        | (go_at_call 21; refine (cS A1 c1 _ q1 (((hr2).call b3).more b3.size)).mono ?_; rintro e w4 ⟨rfl, b4⟩))
      go_ret
      exact ⟨rfl, chain (chain (L2) b3) b4⟩
  | some r =>
    obtain ⟨rfl, h1⟩ := hA
    obtain ⟨e1, e2, e3, e4⟩ := hall r rfl
    obtain ⟨A1, c1, rfl, -, q1⟩ := own_runes h1
    clear h1 hall
    generalize (r.map fun c : Nat => (c : Int)) = m at *
    have cT := text_any A1 c1 m (by omega) w2 q1
    rw [e2] at cT
    simp only [if_true] at cT
    rw [e1] at cT
    have hm1 : ¬ ((s.size : Int) < (m.length : Int)) := by omega
    have hm2 : IntKind.i64.wrap (4 * (m.length : Int)) = ((4 * m.length : Nat) : Int) := by rw [IntKind.wrap_i64]; omega
    have hm3 : ¬ (((4 * m.length : Nat) : Int) < (s.size : Int)) := by omega
    have hm4 : ¬ ((4 * (m.length : Int)) < (s.size : Int)) := by omega
    clear e1 e2
    go_upto_region 12 with (first
      | (go_at_call 19; refine cT.mono ?_; rintro e w' ⟨rfl, rfl⟩))
    clear cT e3 e4 hm1 hm2 hm3 hm4
    cases hok : okAll l
    · have cT2 := fun u hu => text_any A c l (by omega) u hu
      rw [hok] at cT2
      simp only [Bool.false_eq_true, if_false] at cT2
      clear hz
      go_wp2_with (first
        | (go_at_call 19; refine (cT2 _ hr2).mono ?_; rintro e w' ⟨rfl, rfl⟩))
      go_ret
      exact ⟨rfl, L2⟩
    · have cT2 := fun u hu => text_any A c l (by omega) u hu
      rw [hok] at cT2
      simp only [if_true] at cT2
      have cU2 := fun u => runes_again (bA (textZ l)) l hok rfl (by rw [bA_size]; have := textZ_len l; omega) u
      have cS := fun A1 c1 u h1 h2 => sameRunes_any A1 A c1 c l l (by omega) u h1 h2
      rw [decide_eq_true rfl] at cS
      generalize bA (textZ l) = q at *
      clear hz
      go_wp2_with (first
        | (go_at_call 19; refine (cT2 _ hr2).mono ?_; rintro e w' ⟨rfl, rfl⟩)
        | (go_at_call 17; refine (cU2 _).mono ?_; rintro e w3 ⟨A1, c1, rfl, q1, b3⟩)
        | (go_at_call 21; refine (cS A1 c1 _ q1 (((hr2).call b3).more b3.size)).mono ?_; rintro e w4 ⟨rfl, b4⟩))
      go_ret
      exact ⟨rfl, chain (chain (L2) b3) b4⟩

theorem linesUtf_core (H : Type) (enc : TypeId × Value → H) (W : World) (base : Nat) (args : Array Value) (ds gs : List (DataW H)) (before : List MemPlace)
    (hval : ∀ (j : Nat) t v, Try.f7.params[j]? = some t → args[j]? = some v → Value.okWide Try.prog W .any base t v)
    (hW : DataW.Whole enc Try.prog Try.f7.params.toList Rows.linesUtfSpec.vars false W args.toList ds gs before) :
    gs = [] ∧ ds.length = 2 ∧ Calls Try.prog 7 args W (Tells (.bool true) W.heap.size W) := by
  obtain ⟨p, q, hA, hV, -, -, -⟩ := hW
  obtain ⟨rfl, rfl⟩ := trodVars_none hV
  have hA : DataW.TrodAll enc Try.prog W 0 (fun _ => true) true Try.f7.params.toList args.toList ds p := hA
  rw [Try.params7] at hA hval
  obtain ⟨v0, vs0, d0, ds0, p0, ps0, e0, rfl, -, h0, hA⟩ := trodAll_cons hA
  obtain ⟨v1, vs1, d1, ds1, p1, ps1, rfl, rfl, -, h1, hA⟩ := trodAll_cons hA
  obtain ⟨rfl, rfl, rfl⟩ := trodAll_nil hA
  obtain rfl : args = #[v0, v1] := Array.ext' e0
  obtain ⟨s, rfl, rfl, rfl, hs⟩ := Go.ChangeMaps.open_string Try.underlying9 (hval 0 9 v0 rfl rfl) h0
  obtain ⟨A, c, l, rfl, hz, hr⟩ := open_runes (hval 1 39 v1 rfl rfl) h1
  refine ⟨rfl, rfl, ?_⟩
  by_cases h : 1000 < s.size ∨ 300 < l.length
  · exact lutf_long s A c l h W
  · exact lutf_short s (by omega) A c l (by omega) hz W hr

set_option maxRecDepth 100000 in
theorem linesUtf_lifted (os : Os) (started : os.Started) (H : Type) (enc : TypeId × Value → H) :
    ReturnsInHanded {} Try.checked os 7 .any (Rows.linesUtfSpec.pre6 enc Try.prog Try.f7 Rows.linesUtfRow.domain false) (Rows.linesUtfSpec.post enc Try.prog Try.f7 false true false false) := by
  refine returnsInHanded_of_change (C := Try.checked) own_knob started (by kernel_rfl) Try.func7
    (ChangeSpec.witness6 (enc := enc) (C := Try.checked) false ⟨#[], #[.string ⟨#[]⟩, .slice none 0 0], []⟩ 8 (by kernel_rfl) (by kernel_rfl) (by kernel_rfl) (by kernel_rfl)) ?_
  intro W base args ds gs before hval hW _ _
  obtain ⟨hg, hlen, hc⟩ := linesUtf_core H enc W base args ds gs before hval hW
  subst hg
  have hr : (Try.f7.params.toList.all fun t => Try.prog.readableRec t && decide (t < Try.prog.types.size)) = true := by kernel_rfl
  have hread : ∀ t ∈ Try.f7.params.toList, Try.prog.readableRec t = true ∧ t < Try.prog.types.size := fun t ht => by
    have h := List.all_eq_true.1 hr t ht
    rw [Bool.and_eq_true, decide_eq_true_eq] at h
    exact h
  refine hc.mono fun e W' ⟨he, hb⟩ => ?_
  subst he
  match ds, hlen with
  | [d0, d1], _ => exact ⟨_, rfl, law_post laid_out Try.underlying4 rfl hread rfl hW rfl rfl rfl hb⟩

theorem linesUtf_holds : Rows.LinesUtfSaid :=
  OpenClaim.holds_of_wide 7 Try.f7 rfl rfl rfl rfl rfl rfl rfl ⟨rfl, rfl, rfl, rfl, rfl⟩ rfl rfl rfl rfl rfl (by kernel_rfl) Try.func7 (by kernel_rfl)
    (of_decide_eq_true (by kernel_rfl)) (by unfold Func.isWrapper; first | (rw [if_pos (by decide +kernel)]; kernel_rfl) | (rw [if_neg (by decide +kernel)]; exact ⟨rfl, rfl⟩))
    (fun os started H enc _ => linesUtf_lifted os started H enc)

end Go.Proofs.Ytpblnhphkikfaaa
