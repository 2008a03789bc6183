/-
  The law LinesJoins: any lines are joined as the chapter says, or ErrArg; they stay. Conditions: none.
-/
import Derived.Test.YtpblnhphkikfaaaR9Join
import Derived.Test.YtpblnhphkikfaaaR9Same
import Derived.Test.YtpblnhphkikfaaaW0Lift
import Derived.ChangeMaps
namespace Go.Proofs.Ytpblnhphkikfaaa
set_option linter.unusedVariables false
set_option linter.unusedSimpArgs false
set_option maxRecDepth 10000
open Go.ChangeShapes Go.WideShapes Go.ChangeAt Go.RowKit

theorem joinB_len (ss : List ByteArray) (n : Nat) (h : ∀ s ∈ ss, s.size ≤ n) : (joinB ss).length ≤ ss.length * (n + 1) := by
  induction ss with
  | nil => simp [joinB, joinL]
  | cons a r ih =>
    have h1 := ih fun s hs => h s (by simp [hs])
    have h2 := h a (by simp)
    cases r with
    | nil => simp [joinB, joinL]; omega
    | cons b r =>
      have e : joinB (a :: b :: r) = a.data.toList ++ 10 :: joinB (b :: r) := rfl
      rw [e, List.length_append, List.length_cons, ba_size]
      simp only [List.length_cons] at h1 ⊢
      rw [Nat.add_mul]
      omega
theorem own_texts {W : World} {b : Nat} {v : Value} {ss : List ByteArray} (h : W.ownsRow b 9 1 v ss.length (ss.map Value.string)) : ∃ A c, v = .slice A ss.length c ∧ StrRow W W.heap.size A ss := by
  by_cases h0 : 0 < ss.length
  · obtain ⟨g, cap, rfl, -, hg, -, -, hc, -⟩ := own_row h h0
    refine ⟨some ⟨g, 0, none⟩, cap, rfl, fun i x hx => ⟨_, rfl, hg, ?_⟩⟩
    have e1 : (⟨g, 0, none⟩ : Addr).add i = ⟨g, i, none⟩ := by simp [Addr.add]; exact fun hj => hj.symm
    rw [e1]
    refine hc i _ ?_
    rw [List.getElem?_map, hx]
    rfl
  · have e : ss = [] := List.eq_nil_of_length_eq_zero (by omega)
    subst e
    rcases h.2 with ⟨h1, -⟩ | ⟨g, cap, cur, h1, -⟩
    · exact ⟨none, 0, h1, fun i x hx => by simp at hx⟩
    · exact ⟨_, _, h1, fun i x hx => by simp at hx⟩
theorem StrRow.more {w : World} {B B' : Nat} {A : Option Addr} {ss : List ByteArray} (h : StrRow w B A ss) (hb : B ≤ B') : StrRow w B' A ss := fun i s hs => by
  obtain ⟨ad, e, hl, hc⟩ := h i s hs
  exact ⟨ad, e, Nat.lt_of_lt_of_le hl hb, hc⟩

set_option maxRecDepth 100000 in
set_option maxHeartbeats 4000000 in
theorem ljoins_any (A : Option Addr) (c : Nat) (ss : List ByteArray) (hA : A = none → c = 0) (w : World) (hr : StrRow w w.heap.size A ss) :
    Calls Try.prog 5 #[.slice A ss.length c] w (Tells (.bool true) w.heap.size w) := by
  obtain ⟨i0, hi, hz0, hz1, hz2'⟩ := info_parts info_str
  by_cases h100 : 100 < ss.length
  · have h100i : (100 : Int) < (ss.length : Int) := by omega
    go_enter Try.func5, Try.ntmps5
    go_wp2
    go_ret
    exact ⟨rfl, Below.refl _ _⟩
  · have h100i : ¬ ((100 : Int) < (ss.length : Int)) := by omega
    go_enter Try.func5, Try.ntmps5
    go_wp2
    go_loopg [3] ss.length (fun gk i wr => ∃ k : Nat, k ≤ ss.length ∧ gk = ss.length - k ∧ i = .int .i64 k ∧ wr = w ∧ Hid (∀ s ∈ ss.take k, s.size ≤ 200))
    case atStart => exact ⟨0, by omega, rfl, rfl, rfl, by simp [Hid]⟩
    case round =>
      obtain ⟨k, hk, hgk, rfl, rfl, hsz⟩ := hrel
      have HG := hideIt hgk
      clear hgk
      by_cases hlt : k < ss.length
      · obtain ⟨s, hs⟩ : ∃ s, ss[k]? = some s := ⟨_, List.getElem?_eq_getElem hlt⟩
        have htk : ss.take (k + 1) = ss.take k ++ [s] := by
          rw [List.take_add_one, hs]; rfl
        obtain ⟨ad, rfl, hadl, hac⟩ := hr k s hs
        have hadw : (ad.add k).block < wr.heap.size := by rw [addr_block]; exact hadl
        have hlti : (k : Int) < (ss.length : Int) := by omega
        by_cases h200 : 200 < s.size
        · have h200i : (200 : Int) < (s.size : Int) := by omega
          clear htk hs
          go_wp2
          go_ret
          exact ⟨rfl, Below.refl _ _⟩
        · have h200i : ¬ ((200 : Int) < (s.size : Int)) := by omega
          have hn : ∀ x ∈ ss.take (k + 1), x.size ≤ 200 := fun x hx => by
            rw [htk] at hx
            rcases List.mem_append.1 hx with hx | hx
            · exact hsz.out x hx
            · obtain rfl := List.mem_singleton.1 hx; omega
          have HN := hideIt hn
          clear htk hs hn hsz
          go_wp2
          go_roundg (ss.length - (k + 1))
          case measure => have := HG.out; omega
          case rel => exact ⟨k + 1, by omega, rfl, by go_num, rfl, HN⟩
      · have e : k = ss.length := by omega
        subst e
        have hz2 := hsz.out
        rw [List.take_length] at hz2
        have hjl := joinB_len ss 200 hz2
        have hjl : (joinB ss).length ≤ 1000000 := by omega
        have hz2 : ∀ s ∈ ss, s.size ≤ 1000000 := fun s hs => by have := hz2 s hs; omega
        clear hsz HG
        rcases A with _ | ad
        · have hnil : ss = [] := by
            cases ss with
            | nil => rfl
            | cons x r => obtain ⟨ad, e, -⟩ := hr 0 x rfl; cases e
          have hc0 := hA rfl
          subst hc0
          subst hnil
          go_upto_region 9 with fail
          obtain ⟨W1, hW1⟩ : ∃ W1, wr.alloc (.cells #[] 9) = W1 := ⟨_, rfl⟩
          have L1 : Below wr.heap.size wr W1 := by rw [← hW1]; exact chainA (Below.refl _ _) _
          rw [hW1]
          have hmine : StrRow W1 W1.heap.size (some ⟨wr.heap.size, 0, none⟩) [] := fun i s hs => by simp at hs
          clear hW1
          simp only [List.length_nil] at h100 h100i hk hlt ⊢
          have hr1 : StrRow W1 W1.heap.size none ([]:List ByteArray) := (hr.call L1).more L1.size
          have cJ := join_any (some ⟨wr.heap.size,0,none⟩) 0 ([]:List ByteArray) (by first | omega | decide) hjl W1 hmine
          have cR := fun u hu => rjoin_any none 0 ([]:List ByteArray) (by first | omega | decide) hz2 hjl u hu
          obtain ⟨t, n, hR⟩ : ∃ (t : ByteArray) (n : Int), (if any10 ([]:List ByteArray) then (#[.string ⟨#[]⟩, .int .i64 2] : Array Value) else #[.string (bA (joinB ([]:List ByteArray))), .int .i64 0]) = #[.string t, .int .i64 n] := by
            by_cases h : any10 ([]:List ByteArray) = true
            · exact ⟨_, _, if_pos h⟩
            · exact ⟨_, _, if_neg h⟩
          rw [hR] at cJ cR
          have cS := fun u h1 h2 => same_any (some ⟨wr.heap.size,0,none⟩) none 0 0 ([]:List ByteArray) (by first | omega | decide) u h1 h2
          clear hR hz2 hjl
          go_wp2_with (first
            | (go_at_call 22; refine cJ.mono ?_; rintro e w2 ⟨rfl, b2⟩)
            | (go_at_call 23; refine (cR _ ((hr1.call b2).more b2.size)).mono ?_; rintro e w3 ⟨rfl, b3⟩; have b23 := chain b2 b3)
            | (go_at_call 24; refine (cS _ ((hmine.call b23).more b23.size) ((hr1.call b23).more b23.size)).mono ?_; rintro e w4 ⟨rfl, b4⟩))
          go_ret
          exact ⟨rfl, chain (chain L1 b23) b4⟩
        · have own0 : (wr.alloc (.cells #[] 9)).ownsRow wr.heap.size 9 1 (.slice (some ⟨wr.heap.size, 0, none⟩) 0 0) 0 [] :=
            ⟨rfl, .inr ⟨wr.heap.size, 0, #[], rfl, Nat.le_refl _, Box.made wr _ _, Nat.le_refl _, by unfold maxLen; omega, rfl, rfl⟩⟩
          have hnews : ∀ j u, (ss.map Value.string)[j]? = some u → (wr.alloc (.cells #[] 9)).cell? (ad.add j) = some u := fun j u hu => by
            rw [List.getElem?_map] at hu
            obtain ⟨x, hx, rfl⟩ := Option.map_eq_some_iff.1 hu
            obtain ⟨ad', e, h1, h2⟩ := hr.call (chainA (Below.refl _ _) (.cells #[] 9)) j x hx
            injection e with e
            subst e
            exact h2
          have h1s : ∀ u ∈ ss.map Value.string, u.oneCell' = true := fun u hu => by
            obtain ⟨x, -, rfl⟩ := List.mem_map.1 hu
            rfl
          go_upto_region 9 with (first
            | (at_builtin; refine wpList_append_own (w := wr.alloc (.cells #[] 9)) rfl _ _ 22 rfl wr.heap.size 9 i0 (.string ⟨#[]⟩) 1 16 Try.underlying22 hi hz0 hz1 hz2' rfl (by decide) _ 0 [] rfl own0 ad ss.length c (ss.map Value.string) rfl (by simp) hnews h1s (by unfold maxLen; omega) (by omega) (by simp) ?_; intro v' W1 hown' hg _))
          have L1 : Below wr.heap.size wr W1 := ((Below.refl _ wr).alloc (Nat.le_refl _) _).grown hg (by simp) (fun k hk => (own0.lt k hk).1)
          have hown2 : W1.ownsRow wr.heap.size 9 1 v' ss.length (ss.map Value.string) := by simpa using hown'
          obtain ⟨A1, c1, rfl, hmine⟩ := own_texts hown2
          clear hown' hown2 hg hnews h1s own0
          have hr1 : StrRow W1 W1.heap.size (some ad) ss := (hr.call L1).more L1.size
          have cJ := join_any A1 c1 ss (by first | omega | decide) hjl W1 hmine
          have cR := fun u hu => rjoin_any (some ad) c ss (by first | omega | decide) hz2 hjl u hu
          obtain ⟨t, n, hR⟩ : ∃ (t : ByteArray) (n : Int), (if any10 ss then (#[.string ⟨#[]⟩, .int .i64 2] : Array Value) else #[.string (bA (joinB ss)), .int .i64 0]) = #[.string t, .int .i64 n] := by
            by_cases h : any10 ss = true
            · exact ⟨_, _, if_pos h⟩
            · exact ⟨_, _, if_neg h⟩
          rw [hR] at cJ cR
          have cS := fun u h1 h2 => same_any A1 (some ad) c1 c ss (by first | omega | decide) u h1 h2
          clear hR hz2 hjl
          go_wp2_with (first
            | (go_at_call 22; refine cJ.mono ?_; rintro e w2 ⟨rfl, b2⟩)
            | (go_at_call 23; refine (cR _ ((hr1.call b2).more b2.size)).mono ?_; rintro e w3 ⟨rfl, b3⟩; have b23 := chain b2 b3)
            | (go_at_call 24; refine (cS _ ((hmine.call b23).more b23.size) ((hr1.call b23).more b23.size)).mono ?_; rintro e w4 ⟨rfl, b4⟩))
          go_ret
          exact ⟨rfl, chain (chain L1 b23) b4⟩

theorem linesJoins_core (H : Type) (enc : TypeId × Value → H) (W : World) (base : Nat) (args : Array Value) (ds gs : List (DataW H)) (before : List MemPlace)
    (hval : ∀ (j : Nat) t v, Try.f5.params[j]? = some t → args[j]? = some v → Value.okWide Try.prog W .any base t v)
    (hW : DataW.Whole enc Try.prog Try.f5.params.toList Rows.linesJoinsSpec.vars false W args.toList ds gs before) :
    gs = [] ∧ ds.length = 1 ∧ Calls Try.prog 5 args W (Tells (.bool true) W.heap.size W) := by
  obtain ⟨p, q, hA, hV, -, -, -⟩ := hW
  obtain ⟨rfl, rfl⟩ := trodVars_none hV
  have hA : DataW.TrodAll enc Try.prog W 0 (fun _ => true) true Try.f5.params.toList args.toList ds p := hA
  rw [Try.params5] at hA hval
  obtain ⟨v0, vs0, d0, ds0, p0, ps0, e0, rfl, -, h0, hA⟩ := trodAll_cons hA
  obtain ⟨rfl, rfl, rfl⟩ := trodAll_nil hA
  obtain rfl : args = #[v0] := Array.ext' e0
  obtain ⟨A, c, ss, rfl, hm, hn, hr⟩ := open_texts (hval 0 22 v0 rfl rfl) h0
  exact ⟨rfl, rfl, ljoins_any A c ss hn W hr⟩

set_option maxRecDepth 100000 in
theorem linesJoins_lifted (os : Os) (started : os.Started) (H : Type) (enc : TypeId × Value → H) :
    ReturnsInHanded {} Try.checked os 5 .any (Rows.linesJoinsSpec.pre6 enc Try.prog Try.f5 Rows.linesJoinsRow.domain false) (Rows.linesJoinsSpec.post enc Try.prog Try.f5 false true false false) := by
  refine returnsInHanded_of_change (C := Try.checked) own_knob started (by kernel_rfl) Try.func5
    (ChangeSpec.witness6 (enc := enc) (C := Try.checked) false ⟨#[], #[.slice none 0 0], []⟩ 8 (by kernel_rfl) (by kernel_rfl) (by kernel_rfl) (by kernel_rfl)) ?_
  intro W base args ds gs before hval hW _ _
  obtain ⟨hg, hlen, hc⟩ := linesJoins_core H enc W base args ds gs before hval hW
  subst hg
  have hr : (Try.f5.params.toList.all fun t => Try.prog.readableRec t && decide (t < Try.prog.types.size)) = true := by kernel_rfl
  have hread : ∀ t ∈ Try.f5.params.toList, Try.prog.readableRec t = true ∧ t < Try.prog.types.size := fun t ht => by
    have h := List.all_eq_true.1 hr t ht
    rw [Bool.and_eq_true, decide_eq_true_eq] at h
    exact h
  refine hc.mono fun e W' ⟨he, hb⟩ => ?_
  subst he
  match ds, hlen with
  | [d0], _ => exact ⟨_, rfl, law_post laid_out Try.underlying4 rfl hread rfl hW rfl rfl rfl hb⟩

theorem linesJoins_holds : Rows.LinesJoinsSaid :=
  OpenClaim.holds_of_wide 5 Try.f5 rfl rfl rfl rfl rfl rfl rfl ⟨rfl, rfl, rfl, rfl, rfl⟩ rfl rfl rfl rfl rfl (by kernel_rfl) Try.func5 (by kernel_rfl)
    (of_decide_eq_true (by kernel_rfl)) (by unfold Func.isWrapper; first | (rw [if_pos (by decide +kernel)]; kernel_rfl) | (rw [if_neg (by decide +kernel)]; exact ⟨rfl, rfl⟩))
    (fun os started H enc _ => linesJoins_lifted os started H enc)

end Go.Proofs.Ytpblnhphkikfaaa
