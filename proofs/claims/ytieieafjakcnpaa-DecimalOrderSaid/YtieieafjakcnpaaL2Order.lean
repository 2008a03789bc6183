/-
  The law of layer 2 on order: of two numbers the less one has the shorter text, or one as long that is less byte by byte; any two numbers, no condition.
-/
import Derived.Test.YtieieafjakcnpaaL2Back
import Derived.Deep.RegionHeld3
namespace Go.Proofs.Ytieieafjakcnpaa
set_option linter.unusedVariables false
set_option linter.unusedSimpArgs false
open Go.ChangeShapes Go.WideShapes Go.ChangeAt Go.RowKit

theorem bytesLess_irrefl : ∀ l : List UInt8, Op.bytesLess l l = false
  | [] => rfl
  | c :: r => by
    simp only [Op.bytesLess, bytesLess_irrefl r]
    simp
theorem nv_eq {ah al bh bl : Int} (a1 : Word ah) (a0 : Word al) (b1 : Word bh) (b0 : Word bl) : (ah == bh && al == bl) = decide (nv ah al = nv bh bl) := by
  obtain ⟨_, _⟩ := a1; obtain ⟨_, _⟩ := a0; obtain ⟨_, _⟩ := b1; obtain ⟨_, _⟩ := b0
  rw [Bool.eq_iff_iff]
  simp only [Bool.and_eq_true, beq_iff_eq, decide_eq_true_eq]
  constructor
  · rintro ⟨rfl, rfl⟩; rfl
  · intro h; unfold nv at h; exact ⟨by omega, by omega⟩
/-- The texts of two numbers: how long, which is less, whether they are the same. -/
theorem texts_two {ah al bh bl : Int} (a1 : Word ah) (a0 : Word al) (b1 : Word bh) (b0 : Word bl) {x y : List UInt8} (hx : decL (nv ah al).toNat = x) (hy : decL (nv bh bl).toNat = y) :
    (decide (x.length < y.length) || (decide (x.length = y.length) && Op.bytesLess x y)) = decide (cmpI (nv ah al) (nv bh bl) < 0) ∧ (x == y) = (ah == bh && al == bl) := by
  have wa := nv_word a1 a0
  have wb := nv_word b1 b0
  subst hx hy
  constructor
  · rw [decL_order]
    congr 1
    rw [eq_iff_iff]
    unfold cmpI
    constructor
    · intro h; rw [if_pos (by omega)]; omega
    · intro h
      rcases Int.lt_trichotomy (nv ah al) (nv bh bl) with h1 | h1 | h1
      · omega
      · rw [if_neg (by omega), if_pos h1] at h; omega
      · rw [if_neg (by omega), if_neg (by omega)] at h; omega
  · rw [nv_eq a1 a0 b1 b0, Bool.eq_iff_iff, beq_iff_eq, decide_eq_true_eq]
    constructor
    · intro h; have := decL_inj h; omega
    · intro h; rw [h]

set_option maxRecDepth 100000 in
set_option maxHeartbeats 8000000 in
theorem dorder_walk (ah al bh bl : Int) (a1 : Word ah) (a0 : Word al) (b1 : Word bh) (b0 : Word bl) (w : World) :
    Calls Try.prog 6 #[.agg #[.int .u64 ah, .int .u64 al], .agg #[.int .u64 bh, .int .u64 bl]] w (Tells (.bool true) w.heap.size w) := by
  have AB0 : AB w ah al bh bl ((w.alloc (.cells #[.int .u64 ah, .int .u64 al] 24)).alloc (.cells #[.int .u64 bh, .int .u64 bl] 24)) := by
    refine ⟨(Box.made w 24 #[.int .u64 ah, .int .u64 al]).past _, ?_, by repeat (first | exact Below.refl _ _ | apply Below.drew | apply below_drewN | refine Below.alloc ?_ (by simp; try omega) _ | refine Below.setCell ?_ (by simp; try omega) _)⟩
    have := Box.made (w.alloc (.cells #[.int .u64 ah, .int .u64 al] 24)) 24 #[.int .u64 bh, .int .u64 bl]
    simpa using this
  obtain ⟨x, hx⟩ : ∃ x, decL (nv ah al).toNat = x := ⟨_, rfl⟩
  obtain ⟨y, hy⟩ : ∃ y, decL (nv bh bl).toNat = y := ⟨_, rfl⟩
  obtain ⟨t1, t2⟩ := texts_two a1 a0 b1 b0 hx hy
  have cA := fun u : World => text_any ah al a1 a0 u
  have cB := fun u : World => text_any bh bl b1 b0 u
  have cD := fun u : World => ndigits_any ah al a1 a0 u
  have cC := fun u : World => cmp_any ah al bh bl a1 a0 b1 b0 u
  have hxl : x.length ≤ 39 := by rw [← hx]; exact decL_39 (by have := nv_word a1 a0; omega)
  have hyl : y.length ≤ 39 := by rw [← hy]; exact decL_39 (by have := nv_word b1 b0; omega)
  rw [hx] at cA cD
  rw [hy] at cB
  clear hx hy
  obtain ⟨c, hc⟩ : ∃ c, cmpI (nv ah al) (nv bh bl) = c := ⟨_, rfl⟩
  rw [hc] at t1 cC
  clear hc
  obtain ⟨sx, hsx⟩ : ∃ sx, str x = sx := ⟨_, rfl⟩
  obtain ⟨sy, hsy⟩ : ∃ sy, str y = sy := ⟨_, rfl⟩
  have zx : sx.size = x.length := by rw [← hsx, str_size]
  have zy : sy.size = y.length := by rw [← hsy, str_size]
  have lx : sx.toList = x := by rw [← hsx, str_toList]
  have ly : sy.toList = y := by rw [← hsy, str_toList]
  rw [hsx] at cA
  rw [hsy] at cB
  clear hsx hsy
  have hq := fun u : World => run_eql_num ah al bh bl u
  rw [← t2] at hq
  have T1 := hideIt t1
  have T2 := hideIt t2
  clear t1 t2
  go_enter Try.func6, Try.ntmps6
  go_upto_region 3 with (first
    | (go_at_call 20; refine (dawake_any _).mono ?_; rintro e w1 ⟨rfl, h1⟩))
  have AB1 := AB0.call h1
  obtain ⟨p1, p2, p3, p4, p5, p6⟩ := AB1.cells
  clear AB0 h1
  go_cut [5, 6] (fun s5 s6 wx => s5 = .string sx ∧ s6 = .string sy ∧ AB w ah al bh bl wx)
  case first =>
    go_region_held3 (fun w' => Below w1.heap.size w1 w' ∧ w'.cell? ⟨w.heap.size, 0, none⟩ = some (.int .u64 ah) ∧ w'.cell? ⟨w.heap.size, 1, none⟩ = some (.int .u64 al) ∧
        w'.cell? ⟨w.heap.size + 1, 0, none⟩ = some (.int .u64 bh) ∧ w'.cell? ⟨w.heap.size + 1, 1, none⟩ = some (.int .u64 bl))
      (first
        | exact keep_first (by assumption) (by assumption) (fun hb => ⟨hb, (AB1.call hb).cells.1, (AB1.call hb).cells.2.1, (AB1.call hb).cells.2.2.1, (AB1.call hb).cells.2.2.2.1⟩)
        | exact ⟨(Below.refl _ _).drew, p1, p2, p3, p4⟩)
      (first
        | (go_at_call_of 11 (Value.int IntKind.u64 ah); (with_reducible refine (cA _).mono ?_); rintro e w2 ⟨rfl, h2⟩)
        | (go_at_call_of 11 (Value.int IntKind.u64 bh); (with_reducible refine (cB _).mono ?_); rintro e w3 ⟨rfl, h3⟩))
    all_goals go_wp2_with fail
    all_goals go_meet
    have hh : ∃ Q, Below w1.heap.size w1 w3 ∧ Q := ⟨_, by assumption⟩
    obtain ⟨Q, hh, -⟩ := hh
    exact ⟨rfl, rfl, AB1.call hh⟩
  case rest =>
    obtain ⟨rfl, rfl, AB2⟩ := hcut
    clear p1 p2 p3 p4 p5 p6 AB1 cA cB
    obtain ⟨p1, p2, p3, p4, p5, p6⟩ := AB2.cells
    obtain ⟨d, hd⟩ : ∃ d, (x == y) = d := ⟨_, rfl⟩
    rw [hd] at hq
    have hd2 : (sx.toList == sy.toList) = d := by rw [lx, ly, hd]
    obtain ⟨e, he⟩ : ∃ e, Op.bytesLess x y = e := ⟨_, rfl⟩
    have he2 : Op.bytesLess sx.toList sy.toList = e := by rw [lx, ly, he]
    have ht1 := T1.out
    rw [he] at ht1
    clear lx ly hd he T1 T2
    rcases Nat.lt_trichotomy x.length y.length with h | h | h
    · have hc : c < 0 := by
        rw [decide_eq_true h, Bool.true_or] at ht1
        exact of_decide_eq_true ht1.symm
      have h' : (x.length : Int) < (y.length : Int) := by omega
      clear ht1
      go_wp2_with (first
        | (go_at_call 21; refine (cC _).mono ?_; rintro e1 w4 ⟨rfl, h4⟩
           have AB3 := AB2.call h4
           obtain ⟨q1, q2, q3, q4, q5, q6⟩ := AB3.cells)
        | (go_at_call 17; refine (cD _).mono ?_; rintro e1 w5 ⟨rfl, h5⟩))
      go_ret
      exact ⟨rfl, (AB3.call h5).2.2⟩
    · have h' : ¬ (x.length : Int) < (y.length : Int) := by omega
      have h2 : (x.length : Int) = (y.length : Int) := by omega
      rw [decide_eq_false (by omega : ¬ x.length < y.length), decide_eq_true h, Bool.false_or, Bool.true_and] at ht1
      cases e
      · have hc : ¬ c < 0 := of_decide_eq_false ht1.symm
        clear ht1 h
        go_wp2_with (first
          | (go_at_call 21; refine (cC _).mono ?_; rintro e1 w4 ⟨rfl, h4⟩
             have AB3 := AB2.call h4
             obtain ⟨q1, q2, q3, q4, q5, q6⟩ := AB3.cells)
          | (go_at_call 17; refine (cD _).mono ?_; rintro e1 w5 ⟨rfl, h5⟩))
        go_ret
        exact ⟨by show Ending.returned (.bool (!decide (c < 0))) = _; rw [decide_eq_false (by omega : ¬ c < 0)]; rfl, (AB3.call h5).2.2⟩
      · have hc : c < 0 := of_decide_eq_true ht1.symm
        clear ht1 h
        go_wp2_with (first
          | (go_at_call 21; refine (cC _).mono ?_; rintro e1 w4 ⟨rfl, h4⟩
             have AB3 := AB2.call h4
             obtain ⟨q1, q2, q3, q4, q5, q6⟩ := AB3.cells)
          | (go_at_call 17; refine (cD _).mono ?_; rintro e1 w5 ⟨rfl, h5⟩))
        go_ret
        exact ⟨rfl, (AB3.call h5).2.2⟩
    · have h' : ¬ (x.length : Int) < (y.length : Int) := by omega
      have h2 : ¬ (x.length : Int) = (y.length : Int) := by omega
      have hc : ¬ c < 0 := by
        rw [decide_eq_false (by omega : ¬ x.length < y.length), decide_eq_false (by omega : ¬ x.length = y.length), Bool.false_or, Bool.false_and] at ht1
        exact of_decide_eq_false ht1.symm
      clear ht1
      go_wp2_with (first
        | (go_at_call 21; refine (cC _).mono ?_; rintro e1 w4 ⟨rfl, h4⟩
           have AB3 := AB2.call h4
           obtain ⟨q1, q2, q3, q4, q5, q6⟩ := AB3.cells)
        | (go_at_call 17; refine (cD _).mono ?_; rintro e1 w5 ⟨rfl, h5⟩))
      go_ret
      exact ⟨by show Ending.returned (.bool (!decide (c < 0))) = _; rw [decide_eq_false (by omega : ¬ c < 0)]; rfl, (AB3.call h5).2.2⟩

theorem decimalOrder_core (H : Type) (enc : TypeId × Value → H) (W : World) (base : Nat) (args : Array Value) (ds gs : List (DataW H)) (before : List MemPlace)
    (hval : ∀ (j : Nat) t v, Try.f6.params[j]? = some t → args[j]? = some v → Value.okWide Try.prog W .any base t v)
    (hW : DataW.Whole enc Try.prog Try.f6.params.toList Rows.decimalOrderSpec.vars false W args.toList ds gs before) :
    gs = [] ∧ ds.length = 2 ∧ Calls Try.prog 6 args W (Tells (.bool true) W.heap.size W) := by
  obtain ⟨p, q, hA, hV, -, -, -⟩ := hW
  obtain ⟨rfl, rfl⟩ := trodVars_none hV
  have hA : DataW.TrodAll enc Try.prog W 0 (fun _ => true) true Try.f6.params.toList args.toList ds p := hA
  rw [Try.params6] at hA hval
  obtain ⟨v0, v1, d0, d1, p0, p1, rfl, rfl, -, h0, h1⟩ := trodAll_two hA
  obtain ⟨ah, al, rfl, a1, a0⟩ := open_num (hval 0 _ v0 rfl rfl) h0
  obtain ⟨bh, bl, rfl, b1, b0⟩ := open_num (hval 1 _ v1 rfl rfl) h1
  exact ⟨rfl, rfl, dorder_walk ah al bh bl a1 a0 b1 b0 W⟩

set_option maxRecDepth 100000 in
theorem decimalOrder_lifted (os : Os) (started : os.Started) (H : Type) (enc : TypeId × Value → H) :
    ReturnsInHanded {} Try.checked os 6 .any (Rows.decimalOrderSpec.pre6 enc Try.prog Try.f6 Rows.decimalOrderRow.domain false) (Rows.decimalOrderSpec.post enc Try.prog Try.f6 false true false false) := by
  refine returnsInHanded_of_change (C := Try.checked) own_knob started (by kernel_rfl) Try.func6
    (ChangeSpec.witness6 (enc := enc) (C := Try.checked) false ⟨#[], #[.agg #[.int .u64 0, .int .u64 0], .agg #[.int .u64 0, .int .u64 0]], []⟩ 8 (by kernel_rfl) (by kernel_rfl) (by kernel_rfl) (by kernel_rfl)) ?_
  intro W base args ds gs before hval hW _ _
  obtain ⟨hg, hlen, hc⟩ := decimalOrder_core H enc W base args ds gs before hval hW
  subst hg
  have hr : (Try.f6.params.toList.all fun t => Try.prog.readableRec t && decide (t < Try.prog.types.size)) = true := by kernel_rfl
  have hread : ∀ t ∈ Try.f6.params.toList, Try.prog.readableRec t = true ∧ t < Try.prog.types.size := fun t ht => by
    have h := List.all_eq_true.1 hr t ht
    rw [Bool.and_eq_true, decide_eq_true_eq] at h
    exact h
  refine hc.mono fun e W' ⟨he, hb⟩ => ?_
  subst he
  match ds, hlen with
  | [d0, d1], _ => exact ⟨_, rfl, law_post laid_out Try.underlying4 rfl hread rfl hW rfl rfl rfl hb⟩

theorem decimalOrder_holds : Rows.DecimalOrderSaid :=
  OpenClaim.holds_of_wide 6 Try.f6 rfl rfl rfl rfl rfl rfl rfl ⟨rfl, rfl, rfl, rfl, rfl⟩ rfl rfl rfl rfl rfl (by kernel_rfl) Try.func6 (by kernel_rfl)
    (of_decide_eq_true (by kernel_rfl)) (by unfold Func.isWrapper; first | (rw [if_pos (by decide +kernel)]; kernel_rfl) | (rw [if_neg (by decide +kernel)]; exact ⟨rfl, rfl⟩))
    (fun os started H enc _ => decimalOrder_lifted os started H enc)

end Go.Proofs.Ytieieafjakcnpaa
