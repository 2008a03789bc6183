/-
  The law OctetReads: whatever is asked of any bytes is what the chapter says.
  Conditions: none.
-/
import Derived.Test.YtakhdhbalmcohaaT8Same
import Derived.ChangeMaps5
namespace Go.Proofs.Ytakhdhbalmcohaa
set_option linter.unusedVariables false
set_option linter.unusedSimpArgs false
set_option maxRecDepth 10000
open Go.ChangeShapes Go.WideShapes Go.ChangeAt Go.RowKit

theorem rest_opF (st : Option (List UInt8)) : restN (nxt (opF st)) ≤ restN st := by
  refine nxt_rest (fun x hx => ?_)
  cases st with
  | none => cases hx
  | some l => cases l with
    | nil => cases hx
    | cons c r =>
      have hx : (if 1 < c.toNat then none else some (decide (c.toNat = 1), r)) = some x := hx
      split at hx
      · cases hx
      · injection hx with hx
        subst hx
        exact ⟨_, rfl, by show r.length ≤ (c :: r).length; rw [List.length_cons]; omega⟩
theorem rest_opT (m : Nat) (st : Option (List UInt8)) : restN (nxt (opT m st)) ≤ restN st := by
  refine nxt_rest (fun x hx => ?_)
  cases st with
  | none => cases hx
  | some l =>
    obtain ⟨g1, g2, e⟩ := rText_some (m := m) (l := l) (s := x.1) (r := x.2) hx
    exact ⟨l, rfl, by rw [e]; simp only [List.length_append]; omega⟩
theorem rest_opR (k m : Nat) (st : Option (List UInt8)) : restN (nxt (opR k m st)) ≤ restN st := by
  have hk5 : k % 5 < 5 := Nat.mod_lt _ (by decide)
  rcases (show k % 5 = 0 ∨ k % 5 = 1 ∨ k % 5 = 2 ∨ k % 5 = 3 ∨ k % 5 = 4 by omega) with hk | hk | hk | hk | hk
  · rw [(opR_0 (m := m) hk st).2]; exact rest_opB st
  · rw [(opR_1 (m := m) hk st).2]; exact rest_opN 8 st
  · rw [(opR_2 (m := m) hk st).2]; exact rest_opN 16 st
  · rw [(opR_3 (m := m) hk st).2]; exact rest_opF st
  · rw [(opR_4 (m := m) hk st).2.2.2]; exact rest_opT m st
theorem close_done (st : Option (List UInt8)) : (closeN st == 0) = decide (st = some []) ∧ (closeN st == 80) = !(decide (st = some [])) := by
  unfold closeN
  by_cases h : st = some []
  · rw [if_pos h, decide_eq_true h]; exact ⟨rfl, rfl⟩
  · rw [if_neg h, decide_eq_false h]; exact ⟨rfl, rfl⟩

set_option maxHeartbeats 2000000 in
theorem reads_long (s : ByteArray) (A : Option Addr) (c : Nat) (xs : List Th) (hm : xs.length ≤ 9223372036854775807) (h : 3000 < s.size ∨ longT xs = true) (w : World) (hr : ThRow w w.heap.size A xs) :
    Calls Try.prog 3 #[.string s, .slice A xs.length c] w (Tells (.bool true) w.heap.size w) := by
  have cL := long_things A c xs hm w hr
  by_cases h1 : 3000 < s.size
  · have h2 : (3000 : Int) < (s.size : Int) := by omega
    go_enter Try.func3, Try.ntmps3
    go_wp2_with (first | (go_at_call 4; refine cL.mono ?_; rintro e w1 ⟨rfl, rfl⟩))
    go_ret
    exact ⟨rfl, Below.refl _ _⟩
  · have h2 : ¬ ((3000 : Int) < (s.size : Int)) := by omega
    have h3 : longT xs = true := by rcases h with h | h; omega; exact h
    rw [h3] at cL
    go_enter Try.func3, Try.ntmps3
    go_wp2_with (first | (go_at_call 4; refine cL.mono ?_; rintro e w1 ⟨rfl, rfl⟩))
    go_ret
    exact ⟨rfl, Below.refl _ _⟩

set_option maxRecDepth 100000 in
set_option maxHeartbeats 8000000 in
theorem reads_short (s : ByteArray) (A : Option Addr) (c : Nat) (xs : List Th) (hs : s.size ≤ 3000) (hl : longT xs = false) (ok : AllOk xs) (w : World) (hr : ThRow w w.heap.size A xs) :
    Calls Try.prog 3 #[.string s, .slice A xs.length c] w (Tells (.bool true) w.heap.size w) := by
  obtain ⟨h200, -⟩ := longT_no hl
  have cL := long_things A c xs (by omega) w hr
  rw [hl] at cL
  have cO := fun u => in_open s (by omega) u
  have h2 : ¬ ((3000 : Int) < (s.size : Int)) := by omega
  have HO := hideIt ok
  clear ok hl
  have hsl : s.data.toList.length = s.size := osize s
  go_enter Try.func3, Try.ntmps3
  go_upto_region 4 with (first
    | (go_at_call 4; refine cL.mono ?_; rintro e w1 ⟨rfl, rfl⟩)
    | (go_at_call 5; refine (cO _).mono ?_; rintro e w2 ⟨gi, rfl, hgi, I2, L2⟩)
    | fail)
  have X3 : RInS (w2.alloc (.cells #[.string s, .bool false] 28)) w2.heap.size (some s.data.toList) := by
    have := Box.made w2 28 #[.string s, .bool false]
    show Box _ _ _ #[.string (ofL s.data.toList), .bool false]
    rw [ofL_data]
    exact this
  have I3 := I2.call (w' := w2.alloc (.cells #[.string s, .bool false] 28)) ((Below.refl _ w2).alloc (Nat.le_refl _) _)
  have L3 := chainA L2 (.cells #[.string s, .bool false] 28)
  have hix : gi ≠ w2.heap.size := by have := I2.inside; omega
  have hgx := L2.size
  change Code.wp _ _ _ _ (w2.alloc (.cells #[.string s, .bool false] 28))
  clear cL cO I2 L2
  generalize w2.alloc (.cells #[.string s, .bool false] 28) = W3 at *
  generalize w2.heap.size = gx at *
  go_wp2
  go_loopg [7] xs.length (fun gk i wr => ∃ (k : Nat) (st : Option (List UInt8)), k ≤ xs.length ∧ gk = xs.length - k ∧ i = .int .i64 k ∧ InS wr gi st ∧ RInS wr gx st ∧ restN st ≤ 3000 ∧ Below w.heap.size w wr)
  case atStart => exact ⟨0, _, Nat.zero_le _, rfl, rfl, I3, X3, by show s.data.toList.length ≤ _; omega, L3⟩
  case round =>
    clear I3 X3 L3
    obtain ⟨k, st, hkl, hgk, rfl, I, X, hz, L⟩ := hrel
    have HG := hideIt hgk
    clear hgk
    by_cases hlt : k < xs.length
    · obtain ⟨x, hx⟩ : ∃ x, xs[k]? = some x := ⟨_, List.getElem?_eq_getElem hlt⟩
      obtain ⟨ad, rfl, hb, hq⟩ := hr k x hx
      have b1 : (k : Int) < (xs.length : Int) := by omega
      have cS := fun u hI hX => law_same x (HO.out x (List.mem_of_getElem? hx)) gi gx hix st (by omega) u hI hX
      simp only [Th.val] at cS
      have hz2 := rest_opR x.k x.m.toNat st
      obtain ⟨N, hN⟩ : ∃ N, nxt (opR x.k x.m.toNat st) = N := ⟨_, rfl⟩
      rw [hN] at cS hz2
      obtain ⟨c1, c2⟩ := close_done N
      have c3 := restN_size N
      clear hx hr hN
      have keep : ∀ (u : World), Off (fun i => i = gi ∨ i = gx) wr.drew u → ThAt u (ad.add (k * 5)) x ∧ (ad.add (k * 5)).block < u.heap.size := fun u hu => by
        have h1 : (ad.add (k * 5)).block = ad.block := o8_block _ _
        refine ⟨hq.keep ?_, ?_⟩
        · rw [h1]
          refine (hu.block _ (Nat.lt_of_lt_of_le hb L.size) ?_).trans (L.block _ hb)
          rintro (e | e) <;> omega
        · rw [h1]; exact Nat.lt_of_lt_of_le (Nat.lt_of_lt_of_le hb L.size) hu.size
      have F0 := keep wr.drew (Off.refl _ _)
      have I1 : InS wr.drew gi st := I
      have X1 : RInS wr.drew gx st := X
      have LD : Below w.heap.size w wr.drew := L.drew
      unfold ThAt at keep F0
      have cs := fun u (hu : InS u gi N) => in_spoilt u gi N hu
      have cr := fun u (hu : InS u gi N) => in_rest u gi N hu
      have cc := fun u (hu : InS u gi N) => in_close u gi N hu
      have cd := fun u (hu : RInS u gx N) => r_done u gx N hu
      have cells : ∀ u, RInS u gx N → u.cell? ⟨gx, 0, none⟩ = some (.string (rS N)) ∧ u.cell? ⟨gx, 1, none⟩ = some (.bool N.isNone) ∧ gx < u.heap.size := fun u hu => by
        obtain ⟨a0, a1, a2, a3, a4⟩ := Box.two (show Box u gx 28 #[.string (rS N), .bool N.isNone] from hu)
        exact ⟨a0, a1, a4⟩
      obtain ⟨bN, hbN⟩ : ∃ b, N.isNone = b := ⟨_, rfl⟩
      obtain ⟨nN', hnN⟩ : ∃ n, restN N = n := ⟨_, rfl⟩
      obtain ⟨cN, hcN⟩ : ∃ c, closeN N = c := ⟨_, rfl⟩
      obtain ⟨qN, hqN⟩ : ∃ q, decide (N = some []) = q := ⟨_, rfl⟩
      obtain ⟨sN, hsN⟩ : ∃ s, rS N = s := ⟨_, rfl⟩
      simp only [hbN, hsN] at cells
      simp only [hbN] at cs
      simp only [hnN] at cr
      simp only [hcN] at cc
      simp only [hqN] at cd
      rw [hcN, hqN] at c1 c2
      rw [hsN, hnN] at c3
      have hzz : nN' ≤ 3000 := by omega
      have HZZ := hideIt (show restN N ≤ 3000 by omega)
      have e1 : (bN != bN) = false := by simp
      have e2 : ((nN' : Int) != (nN' : Int)) = false := by simp
      have e3 : (qN != qN) = false := by simp
      clear hbN hnN hcN hqN hsN hz2 hz
      go_upto_region 9 with fail
      obtain ⟨⟨f0, f1, f2, f3, f4⟩, f5⟩ := F0
      go_cut [62] from 28 to 62 (fun s wx => s = .bool false ∧ InS wx gi N ∧ RInS wx gx N ∧ Off (fun i => i = gi ∨ i = gx) wr wx)
      case first =>
       go_region_with
        (first
          | (go_at_call 6; refine (cS _ I1 X1).mono ?_; rintro e w1 ⟨rfl, s1, s2, k1⟩; obtain ⟨a0, a1, a2⟩ := cells _ s2)
          | (go_at_call 7; refine (cs _ s1).mono ?_; rintro e w2 ⟨rfl, rfl⟩)
          | (go_at_call 8; refine (cr _ s1).mono ?_; rintro e w2 ⟨rfl, rfl⟩)
          | (go_at_call 9; refine (cc _ s1).mono ?_; rintro e w2 ⟨rfl, rfl⟩)
          | (go_at_call 10; refine (cd _ s2).mono ?_; rintro e w2 ⟨rfl, rfl⟩)
          | fail)
       all_goals go_wp2_with fail
       all_goals go_meet
       all_goals exact ⟨rfl, s1, s2, ((Off.refl _ wr).drew).trans k1⟩
      case rest =>
        obtain ⟨rfl, s1, s2, k1⟩ := hcut
        go_wp2
        go_roundg (xs.length - (k + 1))
        case measure => have := HG.out; omega
        case rel => exact ⟨k + 1, N, by omega, rfl, by go_num, s1, s2, HZZ.out, L.trans (k1.below (by rintro i (e | e) <;> omega) L.size)⟩
    · have e : k = xs.length := by omega
      subst e
      have cc := in_close wr gi st I
      have cd := r_done wr gx st X
      obtain ⟨c1, c2⟩ := close_done st
      have cP := in_spoil wr gi st I
      have cs := fun u (hu : InS u gi none) => in_spoilt u gi none hu
      have cr := fun u (hu : InS u gi none) => in_rest u gi none hu
      have cB := fun u (hu : InS u gi none) => in_byte u gi none hu
      have cc2 := fun u (hu : InS u gi none) => in_close u gi none hu
      rw [show (none : Option (List UInt8)).isNone = true from rfl] at cs
      rw [show restN none = 0 from rfl] at cr
      rw [show closeN none = 80 from rfl] at cc2
      rw [show bV (opB none) = 0 from rfl, show nxt (opB none) = none from rfl] at cB
      generalize closeN st = cl at *
      generalize decide (st = some []) = q at *
      have e3 : ((!q) == q) = false := by cases q <;> rfl
      clear hr c1
      go_wp2_with (first
        | (go_at_call_of 9 (Value.pointer (some ⟨gi, 0, none⟩)); refine cc.mono ?_; rintro e w5 ⟨rfl, rfl⟩)
        | (go_at_call 10; refine cd.mono ?_; rintro e w5 ⟨rfl, rfl⟩)
        | (go_at_call 11; refine cP.mono ?_; rintro e w6 ⟨rfl, s6, k6⟩)
        | (go_at_call 7; refine (cs _ s6).mono ?_; rintro e w7 ⟨rfl, rfl⟩)
        | (go_at_call 8; refine (cr _ s6).mono ?_; rintro e w7 ⟨rfl, rfl⟩)
        | (go_at_call 12; refine (cB _ s6).mono ?_; rintro e w8 ⟨rfl, s8, k8⟩)
        | (go_at_call 9; refine (cc2 _ s8).mono ?_; rintro e w9 ⟨rfl, rfl⟩))
      go_ret
      exact ⟨rfl, (L.trans (k6.below (fun i hi => by have : i = gi := hi; omega) L.size)).trans (k8.below (fun i hi => by have : i = gi := hi; omega) (Nat.le_trans L.size k6.size))⟩

theorem octetReads_core (H : Type) (enc : TypeId × Value → H) (W : World) (base : Nat) (args : Array Value) (ds gs : List (DataW H)) (before : List MemPlace)
    (hval : ∀ (j : Nat) t v, Try.f3.params[j]? = some t → args[j]? = some v → Value.okWide Try.prog W .any base t v)
    (hW : DataW.Whole enc Try.prog Try.f3.params.toList Rows.octetReadsSpec.vars false W args.toList ds gs before) :
    gs = [] ∧ ds.length = 2 ∧ Calls Try.prog 3 args W (Tells (.bool true) W.heap.size W) := by
  obtain ⟨p, q, hA, hV, -, -, -⟩ := hW
  obtain ⟨rfl, rfl⟩ := trodVars_none hV
  have hA : DataW.TrodAll enc Try.prog W 0 (fun _ => true) true Try.f3.params.toList args.toList ds p := hA
  rw [Try.params3] at hA hval
  obtain ⟨v0, vs0, d0, ds0, p0, ps0, e0, rfl, -, h0, hA⟩ := trodAll_cons hA
  obtain ⟨v1, vs1, d1, ds1, p1, ps1, rfl, rfl, -, h1, hA⟩ := trodAll_cons hA
  obtain ⟨rfl, rfl, rfl⟩ := trodAll_nil hA
  obtain rfl : args = #[v0, v1] := Array.ext' e0
  obtain ⟨s, rfl, rfl, rfl, hs⟩ := Go.ChangeMaps.open_string Try.underlying9 (hval 0 9 v0 rfl rfl) h0
  obtain ⟨A, c, xs, rfl, hm, ok, hr⟩ := open_things (hval 1 22 v1 rfl rfl) h1
  refine ⟨rfl, rfl, ?_⟩
  by_cases h : 3000 < s.size ∨ longT xs = true
  · exact reads_long s A c xs hm h W hr
  · refine reads_short s A c xs (by omega) ?_ ok W hr
    cases hl : longT xs with
    | false => rfl
    | true => exact absurd (Or.inr hl) h

set_option maxRecDepth 100000 in
theorem octetReads_lifted (os : Os) (started : os.Started) (H : Type) (enc : TypeId × Value → H) :
    ReturnsInHanded {} Try.checked os 3 .any (Rows.octetReadsSpec.pre6 enc Try.prog Try.f3 Rows.octetReadsRow.domain false) (Rows.octetReadsSpec.post enc Try.prog Try.f3 false true false false) := by
  refine returnsInHanded_of_change (C := Try.checked) own_knob started (by kernel_rfl) Try.func3
    (ChangeSpec.witness6 (enc := enc) (C := Try.checked) false ⟨#[], #[.string ⟨#[]⟩, .slice none 0 0], []⟩ 8 (by kernel_rfl) (by kernel_rfl) (by kernel_rfl) (by kernel_rfl)) ?_
  intro W base args ds gs before hval hW _ _
  obtain ⟨hg, hlen, hc⟩ := octetReads_core H enc W base args ds gs before hval hW
  subst hg
  have hr : (Try.f3.params.toList.all fun t => Try.prog.readableRec t && decide (t < Try.prog.types.size)) = true := by kernel_rfl
  have hread : ∀ t ∈ Try.f3.params.toList, Try.prog.readableRec t = true ∧ t < Try.prog.types.size := fun t ht => by
    have h := List.all_eq_true.1 hr t ht
    rw [Bool.and_eq_true, decide_eq_true_eq] at h
    exact h
  refine hc.mono fun e W' ⟨he, hb⟩ => ?_
  subst he
  match ds, hlen with
  | [d0, d1], _ => exact ⟨_, rfl, law_post laid_out Try.underlying4 rfl hread rfl hW rfl rfl rfl hb⟩

theorem octetReads_holds : Rows.OctetReadsSaid :=
  OpenClaim.holds_of_wide 3 Try.f3 rfl rfl rfl rfl rfl rfl rfl ⟨rfl, rfl, rfl, rfl, rfl⟩ rfl rfl rfl rfl rfl (by kernel_rfl) Try.func3 (by kernel_rfl)
    (of_decide_eq_true (by kernel_rfl)) (by unfold Func.isWrapper; first | (rw [if_pos (by decide +kernel)]; kernel_rfl) | (rw [if_neg (by decide +kernel)]; exact ⟨rfl, rfl⟩))
    (fun os started H enc _ => octetReads_lifted os started H enc)

end Go.Proofs.Ytakhdhbalmcohaa
