/-
  The law of layer 2: what has a text is parsed from it; what is parsed has just that text; any number, any text of at most 300 bytes.
-/
import Derived.Test.YtieieafjakcnpaaD2Awake
import Derived.Test.YtieieafjakcnpaaW0Lift
import Derived.ChangeMaps5
import Derived.Deep.DeepCutAuto
namespace Go.Proofs.Ytieieafjakcnpaa
set_option linter.unusedVariables false
set_option linter.unusedSimpArgs false
open Go.ChangeShapes Go.WideShapes Go.ChangeAt Go.RowKit

theorem nv_toNat {h l : Int} (a : Word h) (b : Word l) : (((nv h l).toNat : Nat) : Int) = nv h l := by
  have := nv_word a b; omega
theorem writB_decL (n : Nat) : writB (decL n) = true := (writB_iff _).2 (decL_written n)
/-- A number's text is parsed to it. -/
theorem parse_back (ah al : Int) (a1 : Word ah) (a0 : Word al) (w : World) :
    Calls Try.prog 9 #[.string (str (decL (nv ah al).toNat))] w fun e w' => e = .returned (.tuple #[.agg #[.int .u64 ah, .int .u64 al], .int .i64 0]) ∧ Below w.heap.size w w' := by
  have h39 := decL_39 (n := (nv ah al).toNat) (by have := nv_word a1 a0; omega)
  refine (parse_any _ (by rw [str_size]; omega) w).mono fun e w' ⟨he, hb⟩ => ⟨?_, hb⟩
  have hr : room (pv (decL (nv ah al).toNat) : Int) = true := by rw [pv_decL, nv_toNat a1 a0]; exact room_iff.2 (nv_word a1 a0)
  obtain ⟨e1, e2, e3⟩ := par_yes (writB_decL _) hr
  rw [he, str_data, e1, e2, e3, pv_decL, nv_toNat a1 a0, rh_nv a1 a0, rl_nv a1 a0]

set_option maxRecDepth 100000 in
set_option maxHeartbeats 8000000 in
theorem dback_walk (ah al : Int) (a1 : Word ah) (a0 : Word al) (s : ByteArray) (hs : s.size ≤ 9223372036854775807) (w : World) :
    Calls Try.prog 5 #[.agg #[.int .u64 ah, .int .u64 al], .string s] w (Tells (.bool true) w.heap.size w) := by
  have P0 : OneIn w ah al (w.alloc (.cells #[.int .u64 ah, .int .u64 al] 24)) := ⟨Box.made w 24 #[.int .u64 ah, .int .u64 al], by repeat (first | exact Below.refl _ _ | apply Below.drew | apply below_drewN | refine Below.alloc ?_ (by simp; try omega) _ | refine Below.setCell ?_ (by simp; try omega) _)⟩
  have cT := fun u : World => text_any ah al a1 a0 u
  have cB := fun u : World => parse_back ah al a1 a0 u
  obtain ⟨t, ht⟩ : ∃ t, str (decL (nv ah al).toNat) = t := ⟨_, rfl⟩
  rw [ht] at cT cB
  clear ht
  by_cases h300 : 300 < s.size
  · have h300' : (300 : Int) < (s.size : Int) := by omega
    go_enter Try.func5, Try.ntmps5
    go_wp2_with (first
      | (go_at_call 20; refine (dawake_any _).mono ?_; rintro e w1 ⟨rfl, h1⟩))
    go_ret
    exact ⟨rfl, (P0.call h1).2⟩
  · have h300' : ¬ (300 : Int) < (s.size : Int) := by omega
    obtain ⟨l, hl⟩ : ∃ l, s.data.toList = l := ⟨_, rfl⟩
    have hsl : l.length = s.size := by rw [← hl]; simp
    have hstr : str l = s := by rw [← hl]; rfl
    have cP := fun u : World => parse_any s hs u
    rw [hl] at cP
    have hq := fun u : World => run_neq_num ah al ah al u
    have hq2 := fun u : World => run_eql_num 0 0 0 0 u
    have hq' : ∀ u : World, (binOp .neq 24 (.agg #[.int .u64 ah, .int .u64 al]) (.agg #[.int .u64 ah, .int .u64 al])).run Try.prog u = .ok (.bool false) u := fun u => by rw [hq]; simp
    have hq2' : ∀ u : World, (binOp .eql 24 (.agg #[.int .u64 0, .int .u64 0]) (.agg #[.int .u64 0, .int .u64 0])).run Try.prog u = .ok (.bool true) u := fun u => by rw [hq2]; rfl
    clear hq hq2 hl
    go_enter Try.func5, Try.ntmps5
    go_upto_region 6 with (first
      | (go_at_call 20; refine (dawake_any _).mono ?_; rintro e w1 ⟨rfl, h1⟩
         have P1 := P0.call h1
         obtain ⟨p1, p2, p3⟩ := P1.1.num)
      | (go_at_call 11; refine (cT _).mono ?_; rintro e w2 ⟨rfl, h2⟩)
      | (go_at_call 9; refine (cB _).mono ?_; rintro e w3 ⟨rfl, h3⟩))
    have P2 := ((P1.call h2).call h3).past (.cells #[.int .u64 ah, .int .u64 al] 24)
    have B2 := Box.made w3 24 #[.int .u64 ah, .int .u64 al]
    generalize w3.alloc (.cells #[.int .u64 ah, .int .u64 al] 24) = W at *
    clear p1 p2 p3
    obtain ⟨p1, p2, p3⟩ := P2.1.num
    obtain ⟨q1, q2, q3⟩ := B2.num
    clear P0 P1 h1 h2 cT cB h3 B2
    cases hb : writB l
    · obtain ⟨e1, e2, e3⟩ := par_no hb
      have cP' := fun u : World => (cP u).mono fun e w' (hf : ParseTells _ _ _ _ _) => (⟨by rw [hf.1, e1, e2, e3], hf.2⟩ : e = .returned (.tuple #[.agg #[.int .u64 0, .int .u64 0], .int .i64 20]) ∧ Below u.heap.size u w')
      clear e1 e2 e3 cP hb hsl hstr
      go_wp2_with (first
        | (go_at_call 9; refine (cP' _).mono ?_; rintro e w4 ⟨rfl, h4⟩))
      go_ret
      exact ⟨rfl, ((P2.call h4).past _).2⟩
    · cases hr : room (pv l : Int)
      · obtain ⟨e1, e2, e3⟩ := par_big hb hr
        have cP' := fun u : World => (cP u).mono fun e w' (hf : ParseTells _ _ _ _ _) => (⟨by rw [hf.1, e1, e2, e3], hf.2⟩ : e = .returned (.tuple #[.agg #[.int .u64 0, .int .u64 0], .int .i64 10]) ∧ Below u.heap.size u w')
        have h39 : (39 : Int) ≤ (s.size : Int) := by
          rcases Nat.lt_or_ge s.size 39 with h | h
          · have h1 := pv_lt ((writB_iff l).1 hb).1
            have h2 : (10 : Nat) ^ l.length ≤ 10 ^ 38 := Nat.pow_le_pow_right (by decide) (by omega)
            have h3 : (10 : Nat) ^ 38 ≤ 340282366920938463463374607431768211455 := by decide
            exact absurd (show room (pv l : Int) = true from room_iff.2 ⟨by omega, by omega⟩) (by rw [hr]; decide)
          · omega
        clear e1 e2 e3 cP hb hsl hstr hr
        go_wp2_with (first
          | (go_at_call 9; refine (cP' _).mono ?_; rintro e w4 ⟨rfl, h4⟩))
        go_ret
        exact ⟨rfl, ((P2.call h4).past _).2⟩
      · obtain ⟨e1, e2, e3⟩ := par_yes hb hr
        obtain ⟨x, hx⟩ : ∃ x, rh (pv l : Int) = x := ⟨_, rfl⟩
        obtain ⟨y, hy⟩ : ∃ y, rl (pv l : Int) = y := ⟨_, rfl⟩
        have wx : Word x := by rw [← hx]; exact rh_word _
        have wy : Word y := by rw [← hy]; exact rl_word _
        have hxy : nv x y = (pv l : Int) := by rw [← hx, ← hy]; exact nv_r hr
        have cP' := fun u : World => (cP u).mono fun e w' (hf : ParseTells _ _ _ _ _) => (⟨by rw [hf.1, e1, e2, e3, hx, hy], hf.2⟩ : e = .returned (.tuple #[.agg #[.int .u64 x, .int .u64 y], .int .i64 0]) ∧ Below u.heap.size u w')
        have cT2 := fun u : World => text_any x y wx wy u
        rw [hxy, Int.toNat_natCast, decL_pv ((writB_iff l).1 hb), hstr] at cT2
        clear e1 e2 e3 cP hb hsl hstr hr hx hy hxy
        go_upto_region 9 with (first
          | (go_at_call 9; refine (cP' _).mono ?_; rintro e w4 ⟨rfl, h4⟩))
        have P3 := (P2.call h4).past (.cells #[.int .u64 x, .int .u64 y] 24)
        have B3 := Box.made w4 24 #[.int .u64 x, .int .u64 y]
        generalize w4.alloc (.cells #[.int .u64 x, .int .u64 y] 24) = V at *
        obtain ⟨r1, r2, r3⟩ := B3.num
        clear p1 p2 p3 q1 q2 q3
        go_wp2_with (first
          | (go_at_call 11; refine (cT2 _).mono ?_; rintro e w5 ⟨rfl, h5⟩))
        go_ret
        exact ⟨rfl, (P3.call h5).2⟩

theorem decimalBack_core (H : Type) (enc : TypeId × Value → H) (W : World) (base : Nat) (args : Array Value) (ds gs : List (DataW H)) (before : List MemPlace)
    (hval : ∀ (j : Nat) t v, Try.f5.params[j]? = some t → args[j]? = some v → Value.okWide Try.prog W .any base t v)
    (hW : DataW.Whole enc Try.prog Try.f5.params.toList Rows.decimalBackSpec.vars false W args.toList ds gs before) :
    gs = [] ∧ ds.length = 2 ∧ Calls Try.prog 5 args W (Tells (.bool true) W.heap.size W) := by
  obtain ⟨p, q, hA, hV, -, -, -⟩ := hW
  obtain ⟨rfl, rfl⟩ := trodVars_none hV
  have hA : DataW.TrodAll enc Try.prog W 0 (fun _ => true) true Try.f5.params.toList args.toList ds p := hA
  rw [Try.params5] at hA hval
  obtain ⟨v0, v1, d0, d1, p0, p1, rfl, rfl, -, h0, h1⟩ := trodAll_two hA
  obtain ⟨ah, al, rfl, a1, a0⟩ := open_num (hval 0 _ v0 rfl rfl) h0
  obtain ⟨s, rfl, rfl, rfl, hs⟩ := Go.ChangeMaps.open_string Try.underlying9 (hval 1 9 v1 rfl rfl) h1
  have hs' : s.size ≤ 9223372036854775807 := by unfold maxLen at hs; omega
  exact ⟨rfl, rfl, dback_walk ah al a1 a0 s hs' W⟩

set_option maxRecDepth 100000 in
theorem decimalBack_lifted (os : Os) (started : os.Started) (H : Type) (enc : TypeId × Value → H) :
    ReturnsInHanded {} Try.checked os 5 .any (Rows.decimalBackSpec.pre6 enc Try.prog Try.f5 Rows.decimalBackRow.domain false) (Rows.decimalBackSpec.post enc Try.prog Try.f5 false true false false) := by
  refine returnsInHanded_of_change (C := Try.checked) own_knob started (by kernel_rfl) Try.func5
    (ChangeSpec.witness6 (enc := enc) (C := Try.checked) false ⟨#[], #[.agg #[.int .u64 0, .int .u64 0], .string ⟨#[]⟩], []⟩ 8 (by kernel_rfl) (by kernel_rfl) (by kernel_rfl) (by kernel_rfl)) ?_
  intro W base args ds gs before hval hW _ _
  obtain ⟨hg, hlen, hc⟩ := decimalBack_core H enc W base args ds gs before hval hW
  subst hg
  have hr : (Try.f5.params.toList.all fun t => Try.prog.readableRec t && decide (t < Try.prog.types.size)) = true := by kernel_rfl
  have hread : ∀ t ∈ Try.f5.params.toList, Try.prog.readableRec t = true ∧ t < Try.prog.types.size := fun t ht => by
    have h := List.all_eq_true.1 hr t ht
    rw [Bool.and_eq_true, decide_eq_true_eq] at h
    exact h
  refine hc.mono fun e W' ⟨he, hb⟩ => ?_
  subst he
  match ds, hlen with
  | [d0, d1], _ => exact ⟨_, rfl, law_post laid_out Try.underlying4 rfl hread rfl hW rfl rfl rfl hb⟩

theorem decimalBack_holds : Rows.DecimalBackSaid :=
  OpenClaim.holds_of_wide 5 Try.f5 rfl rfl rfl rfl rfl rfl rfl ⟨rfl, rfl, rfl, rfl, rfl⟩ rfl rfl rfl rfl rfl (by kernel_rfl) Try.func5 (by kernel_rfl)
    (of_decide_eq_true (by kernel_rfl)) (by unfold Func.isWrapper; first | (rw [if_pos (by decide +kernel)]; kernel_rfl) | (rw [if_neg (by decide +kernel)]; exact ⟨rfl, rfl⟩))
    (fun os started H enc _ => decimalBack_lifted os started H enc)

end Go.Proofs.Ytieieafjakcnpaa
