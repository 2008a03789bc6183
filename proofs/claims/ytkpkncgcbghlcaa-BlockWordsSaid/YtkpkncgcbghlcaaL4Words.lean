/-
  The law BlockWords: for every text the program's words are the document's, and what is told is the caller's own.
  Conditions: none (a text of more than 200 bytes is answered true by the law itself).
-/
import Derived.Test.YtkpkncgcbghlcaaU4Words
import Derived.Test.YtkpkncgcbghlcaaR4Words
import Derived.Test.YtkpkncgcbghlcaaU4Same
import Derived.Test.YtkpkncgcbghlcaaW0Lift
namespace Go.Proofs.Ytkpkncgcbghlcaa
set_option linter.unusedVariables false
set_option linter.unusedSimpArgs false
open Go.ChangeShapes Go.WideShapes Go.ChangeAt Go.RowKit

theorem reads_box {w : World} {g : Nat} {t : TypeId} {l : List B32} (h : Box w g t (arr l)) : ReadsAt w g 0 l := fun j hj => by rw [Nat.zero_add, h.read j, arr_at l j hj]
theorem reads_row {w : World} {base g c n : Nat} {t : TypeId} {l : List B32} (hl : l.length = n) (h : w.ownsRow base t 1 (.slice (some ⟨g, 0, none⟩) n c) n (w32s l)) : ReadsAt w g 0 l := fun j hj => by
  rw [Nat.zero_add, h.cellAt j (by omega)]
  simp [w32s, List.getD_eq_getElem?_getD, hj]

set_option maxHeartbeats 4000000 in
theorem words_walk (s : ByteArray) (hm : s.size ≤ 9223372036854775807) (w : World) : Calls Try.prog 3 #[.string s] w (Tells (.bool true) w.heap.size w) := by
  by_cases h200 : 200 < s.size
  · go_enter Try.func3, Try.ntmps3
    go_wp2
    go_ret
    exact ⟨rfl, Below.refl _ _⟩
  by_cases hs : s.size = 64
  · have c1 := fun u => rwords_ok s hs u
    have c2 := fun u => words_ok s hs u
    have hl64 := words64_len s.data.toList
    generalize words64 s.data.toList = l at *
    go_enter Try.func3, Try.ntmps3
    go_wp2_with (first
      | (go_at_call 4; refine (c1 _).mono ?_; rintro e w1 ⟨v, rfl, hown, hb1⟩))
    rw [hl64] at hown
    obtain ⟨g, cap, rfl, q1, q2, q3, q4, q5, q6⟩ := own_row hown (by omega)
    have hr : ReadsAt w1 g 0 l := reads_row hl64 hown
    clear c1 hown q5 q6 q3 q4
    go_loopg [5, 6, 7, 8] 2 (fun gk i _ _ _ wr => ∃ k : Nat, k ≤ 2 ∧ gk = 2 - k ∧ i = .int .i64 k ∧ Below w1.heap.size w1 wr)
    case atStart => exact ⟨0, by omega, rfl, rfl, Below.refl _ _⟩
    case round =>
      obtain ⟨k, hk, hgk, rfl, hbel⟩ := hrel
      have HG := hideIt hgk
      clear hgk
      by_cases hlt : k < 2
      · have hsz := hbel.size
        have hr1 : ReadsAt wr g 0 l := fun j hj => by rw [hbel.cell (p := ⟨g, 0 + j, none⟩) q2]; exact hr j hj
        clear hr
        go_wp2_with (first
          | (go_at_call 5; refine (c2 _).mono ?_; rintro e w2 ⟨rfl, hbx, hb2⟩
             have hr2 : ReadsAt w2 g 0 l := fun j hj => by rw [hb2.cell (p := ⟨g, 0 + j, none⟩) (Nat.lt_of_lt_of_le q2 hsz)]; exact hr1 j hj
             have hr3 := reads_box hbx
             have c3 := fun (n : Nat) => same_yes wr.heap.size 0 64 g 0 cap 64 l hl64 (by decide) w2 hr3 hr2
             clear hr1 hr2 hr3)
          | (go_at_call 6; refine (c3 0).mono ?_; rintro e w3 ⟨rfl, q, rfl⟩))
        have hb4 : Below w1.heap.size w1 (w2.drewN q) := below_drewN (hbel.trans (hb2.mono hsz)) q
        have hbx2 : Box (w2.drewN q) wr.heap.size 29 (arr l) := hbx.draws q
        have hsz3 : (arr l).size = 64 := by rw [arr_size, hl64]
        generalize w2.drewN q = w4 at *
        clear c2 c3 hbx hb2 hbel
        generalize wr.heap.size = H0 at *
        go_loopg [8] 64 (fun gk i w5 => ∃ j : Nat, j ≤ 64 ∧ gk = 64 - j ∧ i = .int .i64 j ∧ ∃ cs : Array Value, cs.size = 64 ∧ Box w5 H0 29 cs ∧ Below w1.heap.size w1 w5)
        case atStart => exact ⟨0, by omega, rfl, rfl, _, hsz3, hbx2, hb4⟩
        case round =>
          clear hb4 hbx2 hsz3
          obtain ⟨j, hj, hgj, rfl, cs, hcs, hbx, hbl⟩ := hrel
          have HJ := hideIt hgj
          clear hgj
          by_cases hlt2 : j < 64
          · obtain ⟨u, hu⟩ : ∃ u, cs[j]? = some u := ⟨_, Array.getElem?_eq_getElem (by omega)⟩
            have hc : wr.cell? ⟨H0, j, none⟩ = some u := by rw [hbx.read, hu]
            have hf := hbx.free j
            clear hu
            go_wp2
            go_roundg (64 - (j + 1))
            case measure => have := HJ.out; omega
            case rel => exact ⟨j + 1, by omega, rfl, by go_num, _, by simpa using hcs, hbx.wrote j _, hbl.setCell hsz _⟩
          · have e : j = 64 := by omega
            subst e
            clear HJ
            go_wp2
            go_roundg (2 - (k + 1))
            case measure => have := HG.out; omega
            case rel => exact ⟨k + 1, by omega, rfl, by go_num, hbl⟩
      · have e : k = 2 := by omega
        subst e
        clear c2 hr HG
        go_wp2
        go_ret
        exact ⟨rfl, chain hb1 hbel⟩
  · have c1 := fun u => rwords_no s hs hm u
    have c2 := fun u => words_no s hs hm u
    have c3 := fun u => same_nil u
    go_enter Try.func3, Try.ntmps3
    go_wp2_with (first
      | (go_at_call 4; refine (c1 _).mono ?_; rintro e w1 ⟨rfl, rfl⟩))
    go_loopg [5, 6, 7, 8] 2 (fun gk i _ _ _ wr => ∃ k : Nat, k ≤ 2 ∧ gk = 2 - k ∧ i = .int .i64 k ∧ wr = w)
    case atStart => exact ⟨0, by omega, rfl, rfl, rfl⟩
    case round =>
      obtain ⟨k, hk, hgk, rfl, rfl⟩ := hrel
      have HG := hideIt hgk
      clear hgk
      by_cases hlt : k < 2
      · go_wp2_with (first
          | (go_at_call 5; refine (c2 _).mono ?_; rintro e w2 ⟨rfl, rfl⟩)
          | (go_at_call 6; refine (c3 _).mono ?_; rintro e w3 ⟨rfl, rfl⟩))
        go_loopg [8] 0 (fun gk i w5 => i = .int .i64 0 ∧ w5 = wr)
        case atStart => exact ⟨rfl, rfl⟩
        case round =>
          obtain ⟨rfl, rfl⟩ := hrel
          go_wp2
          go_roundg (2 - (k + 1))
          case measure => have := HG.out; omega
          case rel => exact ⟨k + 1, by omega, rfl, by go_num, rfl⟩
      · have e : k = 2 := by omega
        subst e
        clear HG
        go_wp2
        go_ret
        exact ⟨rfl, Below.refl _ _⟩

theorem blockWords_core (H : Type) (enc : TypeId × Value → H) (W : World) (base : Nat) (args : Array Value) (ds gs : List (DataW H)) (before : List MemPlace)
    (hval : ∀ (j : Nat) t v, Try.f3.params[j]? = some t → args[j]? = some v → Value.okWide Try.prog W .any base t v)
    (hW : DataW.Whole enc Try.prog Try.f3.params.toList Rows.blockWordsSpec.vars false W args.toList ds gs before) :
    gs = [] ∧ ds.length = 1 ∧ Calls Try.prog 3 args W (Tells (.bool true) W.heap.size W) := by
  obtain ⟨p, q, hA, hV, -, -, -⟩ := hW
  obtain ⟨rfl, rfl⟩ := trodVars_none hV
  have hA : DataW.TrodAll enc Try.prog W 0 (fun _ => true) true Try.f3.params.toList args.toList ds p := hA
  rw [Try.params3] at hA hval
  obtain ⟨v0, d0, rfl, rfl, h0⟩ := trodAll_one hA
  obtain ⟨s, rfl, rfl, rfl, hs⟩ := Go.ChangeMaps.open_string Try.underlying9 (hval 0 9 v0 rfl rfl) h0
  exact ⟨rfl, rfl, words_walk s hs W⟩

set_option maxRecDepth 100000 in
theorem blockWords_lifted (os : Os) (started : os.Started) (H : Type) (enc : TypeId × Value → H) :
    ReturnsInHanded {} Try.checked os 3 .any (Rows.blockWordsSpec.pre6 enc Try.prog Try.f3 Rows.blockWordsRow.domain false) (Rows.blockWordsSpec.post enc Try.prog Try.f3 false true false false) := by
  refine returnsInHanded_of_change (C := Try.checked) own_knob started (by kernel_rfl) Try.func3
    (ChangeSpec.witness6 (enc := enc) (C := Try.checked) false ⟨#[], #[.string ⟨#[]⟩], []⟩ 8 (by kernel_rfl) (by kernel_rfl) (by kernel_rfl) (by kernel_rfl)) ?_
  intro W base args ds gs before hval hW _ _
  obtain ⟨hg, hlen, hc⟩ := blockWords_core H enc W base args ds gs before hval hW
  subst hg
  have hr : (Try.f3.params.toList.all fun t => Try.prog.readableRec t && decide (t < Try.prog.types.size)) = true := by kernel_rfl
  have hread : ∀ t ∈ Try.f3.params.toList, Try.prog.readableRec t = true ∧ t < Try.prog.types.size := fun t ht => by
    have h := List.all_eq_true.1 hr t ht
    rw [Bool.and_eq_true, decide_eq_true_eq] at h
    exact h
  refine hc.mono fun e W' ⟨he, hb⟩ => ?_
  subst he
  match ds, hlen with
  | [d0], _ => exact ⟨_, rfl, law_post laid_out Try.underlying4 rfl hread rfl hW rfl rfl rfl hb⟩

theorem blockWords_holds : Rows.BlockWordsSaid :=
  OpenClaim.holds_of_wide 3 Try.f3 rfl rfl rfl rfl rfl rfl rfl ⟨rfl, rfl, rfl, rfl, rfl⟩ rfl rfl rfl rfl rfl (by kernel_rfl) Try.func3 (by kernel_rfl)
    (of_decide_eq_true (by kernel_rfl)) (by unfold Func.isWrapper; first | (rw [if_pos (by decide +kernel)]; kernel_rfl) | (rw [if_neg (by decide +kernel)]; exact ⟨rfl, rfl⟩))
    (fun os started H enc _ => blockWords_lifted os started H enc)

end Go.Proofs.Ytkpkncgcbghlcaa
