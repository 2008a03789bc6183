/-
  The law of layer 3 on rows: the sum of any numbers, and whether two rows are balanced, is what the definition says; the numbers stay; any rows (of more than 200 numbers the law says nothing).
-/
import Derived.Test.YtpafamlegfdclaaR3Sum
import Derived.Test.YtpafamlegfdclaaC3Nums
import Derived.Test.YtpafamlegfdclaaE3Same
import Derived.Test.YtpafamlegfdclaaF3Flat
namespace Go.Proofs.Ytpafamlegfdclaa
set_option linter.unusedVariables false
set_option linter.unusedSimpArgs false
open Go.ChangeShapes Go.WideShapes Go.ChangeAt Go.RowKit

theorem allnum_none : AllNum [] := fun x hx => by simp at hx
set_option maxRecDepth 100000 in
set_option maxHeartbeats 16000000 in
theorem wall_walk (A B : Option Addr) (c d : Nat) (xs ys : List (Int × Int)) (hx : AllNum xs) (hy : AllNum ys) (hA : A = none → xs = []) (hcm : xs.length ≤ maxLen) (hdm : ys.length ≤ maxLen) (w : World)
    (hr : NumRow w w.heap.size A xs) (hs : NumRow w w.heap.size B ys) :
    Calls Try.prog 4 #[.slice A xs.length c, .slice B ys.length d] w (Tells (.bool true) w.heap.size w) := by
  obtain ⟨i0, hi, hz0, hz1, hz2⟩ := info_parts info_num2
  unfold maxLen at hcm hdm
  by_cases h200 : 200 < xs.length
  · have h200' : (200 : Int) < (xs.length : Int) := by omega
    go_enter Try.func4, Try.ntmps4
    go_wp2
    go_ret
    exact ⟨rfl, Below.refl _ _⟩
  · have h200' : ¬ (200 : Int) < (xs.length : Int) := by omega
    by_cases k200 : 200 < ys.length
    · have k200' : (200 : Int) < (ys.length : Int) := by omega
      go_enter Try.func4, Try.ntmps4
      go_wp2
      go_ret
      exact ⟨rfl, Below.refl _ _⟩
    · have k200' : ¬ (200 : Int) < (ys.length : Int) := by omega
      go_enter Try.func4, Try.ntmps4
      go_upto_region 3 with fail
      go_cut [5] (fun s5 wx => ∃ C cb, s5 = .slice C xs.length cb ∧ NumRow wx wx.heap.size C xs ∧ Below w.heap.size w wx)
      case first =>
        rcases A with _ | ad
        · have hnil := hA rfl
          subst hnil
          go_wp2
          go_meet
          exact ⟨some ⟨w.heap.size, 0, none⟩, 0, rfl, fun i x y h => by simp at h, by repeat (first | exact Below.refl _ _ | apply Below.drew | apply below_drewN | refine Below.alloc ?_ (by simp; try omega) _ | refine Below.setCell ?_ (by simp; try omega) _)⟩
        · have own0 : (w.alloc (.cells #[] 24)).ownsRow w.heap.size 24 2 (.slice (some ⟨w.heap.size, 0, none⟩) 0 0) 0 (flat []) :=
            ⟨rfl, .inr ⟨w.heap.size, 0, #[], rfl, Nat.le_refl _, Box.made w _ _, Nat.le_refl _, by unfold maxLen; omega, rfl, rfl⟩⟩
          go_wp2_with (first
            | (at_builtin; refine wpList_append_own (w := w.alloc (.cells #[] 24)) rfl _ _ 40 rfl w.heap.size 24 i0 _ 2 16 Try.underlying40 hi hz0 hz1 hz2 rfl (by decide) _ 0 (flat []) rfl own0 ad xs.length c (flat xs) rfl (flat_length xs) ?_ (flat_one xs) (by unfold maxLen; omega) (by omega) (by simp) ?_))
          · intro j u hu
            exact (((Below.refl _ w).alloc (Nat.le_refl _) _).cell (by rw [add_block]; exact flat_block hr hu)).trans (flat_at hr hu)
          · intro v' w' hown' hg _
            have hbl : Below w.heap.size w w' := ((Below.refl _ w).alloc (Nat.le_refl _) _).grown hg (by simp) (fun k hk => by simp [Value.ownBlock] at hk; omega)
            have hown2 : w'.ownsRow w.heap.size 24 2 v' xs.length (flat xs) := by simpa [show flat [] = [] from rfl] using hown'
            obtain ⟨-, C, cb, rfl, hnum⟩ := own_nums hown2
            clear hown'
            go_wp2_with fail
            all_goals go_meet
            exact ⟨C, cb, rfl, hnum, hbl⟩
      case rest =>
        obtain ⟨C, cb, rfl, hC, hbl⟩ := hcut
        have hr0 := (hr.call hbl).more hbl.size
        have hs0 := (hs.call hbl).more hbl.size
        have c1 := fun (u : World) (hu : Below wc.heap.size wc u) => all_any C cb xs hx (by omega) u ((hC.call hu).more hu.size)
        have c2 := fun (u : World) (hu : Below wc.heap.size wc u) => rwall_any A c xs hx (by omega) u ((hr0.call hu).more hu.size)
        have c3 := fun (u : World) (hu : Below wc.heap.size wc u) => balanced_any C B cb d xs ys hx hy (by omega) (by omega) u ((hC.call hu).more hu.size) ((hs0.call hu).more hu.size)
        have c4 := fun (u : World) (hu : Below wc.heap.size wc u) => rwall_any B d ys hy (by omega) u ((hs0.call hu).more hu.size)
        have e1 := sums_same hx (by omega) hy (by omega)
        have hq1 := fun u : World => run_eql_wide (wH (sumN xs)) (wh (sumN xs)) (wl (sumN xs)) (wH (sumN ys)) (wh (sumN ys)) (wl (sumN ys)) u
        rw [e1] at hq1
        have hq2 := fun u : World => neq_wide_same (wH (sumN xs)) (wh (sumN xs)) (wl (sumN xs)) u
        rw [told] at c1 c2 c4
        generalize decide (sumN xs = sumN ys) = t at *
        generalize wH (sumN xs) = X at *
        generalize wh (sumN xs) = x at *
        generalize wl (sumN xs) = y at *
        generalize wH (sumN ys) = X' at *
        generalize wh (sumN ys) = x' at *
        generalize wl (sumN ys) = y' at *
        clear e1
        have b0 : Below wc.heap.size wc wc := Below.refl _ _
        have et : (t != t) = false := by cases t <;> rfl
        go_upto_if 5 with (first
          | (go_at_call 21; ((with_reducible refine (c1 _ b0).mono ?_); rintro e u1 ⟨rfl, h1⟩))
          | (go_at_call 22; ((with_reducible refine (c2 _ h1).mono ?_); rintro e u2 ⟨rfl, h2⟩; have b2 := chain h1 h2))
          | (go_at_call 23; ((with_reducible refine (c3 _ b2).mono ?_); rintro e u3 ⟨rfl, h3⟩; have b3 := chain b2 h3))
          | (go_at_call 22; ((with_reducible refine (c2 _ b3).mono ?_); rintro e u4 ⟨rfl, h4⟩; have b4 := chain b3 h4))
          | (go_at_call 22; ((with_reducible refine (c4 _ b4).mono ?_); rintro e u5 ⟨rfl, h5⟩; have b5 := chain b4 h5))
          | fail)
        have hrA := (hr0.call b5).more b5.size
        have hrB := (hC.call b5).more b5.size
        have L5 := chain hbl b5
        clear c1 c2 c3 c4 hq1 hq2 h1 h2 h3 h4 h5 b0 b2 b3 b4 b5
        go_loopg [6] xs.length (fun gk i wr => ∃ k : Nat, k ≤ xs.length ∧ gk = xs.length - k ∧ i = .int .i64 k ∧ Below u5.heap.size u5 wr)
        case atStart => exact ⟨0, by omega, rfl, rfl, Below.refl _ _⟩
        case round =>
          obtain ⟨k, hk, rfl, rfl, hbr⟩ := hrel
          by_cases hlt : k < xs.length
          · obtain ⟨p, hp⟩ : ∃ p : Int × Int, xs[k] = p := ⟨_, rfl⟩
            obtain ⟨ad, rfl, had, c0, c1⟩ := hrA k p.1 p.2 (by rw [List.getElem?_eq_getElem hlt, hp])
            obtain ⟨bd, rfl, hbd, d0, d1⟩ := hrB k p.1 p.2 (by rw [List.getElem?_eq_getElem hlt, hp])
            have hab : (ad.add (k * 2)).block < u5.heap.size := by rw [add_block]; exact had
            have hbb : (bd.add (k * 2)).block < u5.heap.size := by rw [add_block]; exact hbd
            have c1 : u5.cell? ⟨(ad.add (k * 2)).block, (ad.add (k * 2)).off + 1, none⟩ = some (.int .u64 p.2) := by
              have e : (⟨(ad.add (k * 2)).block, (ad.add (k * 2)).off + 1, none⟩ : Addr) = ad.add (k * 2 + 1) := by rw [← add_two]; rfl
              rw [e]; exact c1
            have d1 : u5.cell? ⟨(bd.add (k * 2)).block, (bd.add (k * 2)).off + 1, none⟩ = some (.int .u64 p.2) := by
              have e : (⟨(bd.add (k * 2)).block, (bd.add (k * 2)).off + 1, none⟩ : Addr) = bd.add (k * 2 + 1) := by rw [← add_two]; rfl
              rw [e]; exact d1
            have c0' : wr.cell? (ad.add (k * 2)) = some (.int .u64 p.1) := (hbr.cell hab).trans c0
            have c1' : wr.cell? ⟨(ad.add (k * 2)).block, (ad.add (k * 2)).off + 1, none⟩ = some (.int .u64 p.2) := (hbr.cell (p := ⟨(ad.add (k * 2)).block, (ad.add (k * 2)).off + 1, none⟩) hab).trans c1
            have d0' : wr.cell? (bd.add (k * 2)) = some (.int .u64 p.1) := (hbr.cell hbb).trans d0
            have d1' : wr.cell? ⟨(bd.add (k * 2)).block, (bd.add (k * 2)).off + 1, none⟩ = some (.int .u64 p.2) := (hbr.cell (p := ⟨(bd.add (k * 2)).block, (bd.add (k * 2)).off + 1, none⟩) hbb).trans d1
            have i0' : (0 : Int) ≤ (k : Int) := by omega
            have i1' : (k : Int) < (xs.length : Int) := by omega
            have hqn := fun u : World => neq_num_same p.1 p.2 u
            clear c0 c1 d0 d1 hp
            go_upto_region 9 with fail
            go_quiet (fail)
            go_wp2
            go_roundg (xs.length - (k + 1))
            case measure => omega
            case rel => exact ⟨k + 1, by omega, rfl, by go_num, (below_drewN hbr _)⟩
          · have e : k = xs.length := by omega
            subst e
            go_wp2
            go_ret
            exact ⟨rfl, chain L5 hbr⟩

theorem wideAll_core (H : Type) (enc : TypeId × Value → H) (W : World) (base : Nat) (args : Array Value) (ds gs : List (DataW H)) (before : List MemPlace)
    (hval : ∀ (j : Nat) t v, Try.f4.params[j]? = some t → args[j]? = some v → Value.okWide Try.prog W .any base t v)
    (hW : DataW.Whole enc Try.prog Try.f4.params.toList Rows.wideAllSpec.vars false W args.toList ds gs before) :
    gs = [] ∧ ds.length = 2 ∧ Calls Try.prog 4 args W (Tells (.bool true) W.heap.size W) := by
  obtain ⟨p, q, hA, hV, -, -, -⟩ := hW
  obtain ⟨rfl, rfl⟩ := trodVars_none hV
  have hA : DataW.TrodAll enc Try.prog W 0 (fun _ => true) true Try.f4.params.toList args.toList ds p := hA
  rw [Try.params4] at hA hval
  obtain ⟨v0, v1, d0, d1, p0, p1, rfl, rfl, -, h0, h1⟩ := trodAll_two hA
  refine ⟨rfl, rfl, ?_⟩
  rcases open_nums (hval 0 _ v0 rfl rfl) h0 with rfl | ⟨a, len, cap, xs, rfl, hl, hm, rfl, hx, hr⟩ <;>
    rcases open_nums (hval 1 _ v1 rfl rfl) h1 with rfl | ⟨b, len', cap', ys, rfl, hl', hm', rfl, hy, hs⟩
  · exact wall_walk none none 0 0 [] [] allnum_none allnum_none (fun _ => rfl) (by simp) (by simp) W (fun i x y h => by simp at h) (fun i x y h => by simp at h)
  · exact wall_walk none (some b) 0 cap' [] ys allnum_none hy (fun _ => rfl) (by simp) (Nat.le_trans hl' hm') W (fun i x y h => by simp at h) hs
  · exact wall_walk (some a) none cap 0 xs [] hx allnum_none (fun h => by cases h) (Nat.le_trans hl hm) (by simp) W hr (fun i x y h => by simp at h)
  · exact wall_walk (some a) (some b) cap cap' xs ys hx hy (fun h => by cases h) (Nat.le_trans hl hm) (Nat.le_trans hl' hm') W hr hs

set_option maxRecDepth 100000 in
theorem wideAll_lifted (os : Os) (started : os.Started) (H : Type) (enc : TypeId × Value → H) :
    ReturnsInHanded {} Try.checked os 4 .any (Rows.wideAllSpec.pre6 enc Try.prog Try.f4 Rows.wideAllRow.domain false) (Rows.wideAllSpec.post enc Try.prog Try.f4 false true false false) := by
  refine returnsInHanded_of_change (C := Try.checked) own_knob started (by kernel_rfl) Try.func4
    (ChangeSpec.witness6 (enc := enc) (C := Try.checked) false ⟨#[], #[.slice none 0 0, .slice none 0 0], []⟩ 8 (by kernel_rfl) (by kernel_rfl) (by kernel_rfl) (by kernel_rfl)) ?_
  intro W base args ds gs before hval hW _ _
  obtain ⟨hg, hlen, hc⟩ := wideAll_core H enc W base args ds gs before hval hW
  subst hg
  have hr : (Try.f4.params.toList.all fun t => Try.prog.readableRec t && decide (t < Try.prog.types.size)) = true := by kernel_rfl
  have hread : ∀ t ∈ Try.f4.params.toList, Try.prog.readableRec t = true ∧ t < Try.prog.types.size := fun t ht => by
    have h := List.all_eq_true.1 hr t ht
    rw [Bool.and_eq_true, decide_eq_true_eq] at h
    exact h
  refine hc.mono fun e W' ⟨he, hb⟩ => ?_
  subst he
  match ds, hlen with
  | [d0, d1], _ => exact ⟨_, rfl, law_post laid_out Try.underlying4 rfl hread rfl hW rfl rfl rfl hb⟩

theorem wideAll_holds : Rows.WideAllSaid :=
  OpenClaim.holds_of_wide 4 Try.f4 rfl rfl rfl rfl rfl rfl rfl ⟨rfl, rfl, rfl, rfl, rfl⟩ rfl rfl rfl rfl rfl (by kernel_rfl) Try.func4 (by kernel_rfl)
    (of_decide_eq_true (by kernel_rfl)) (by unfold Func.isWrapper; first | (rw [if_pos (by decide +kernel)]; kernel_rfl) | (rw [if_neg (by decide +kernel)]; exact ⟨rfl, rfl⟩))
    (fun os started H enc _ => wideAll_lifted os started H enc)

end Go.Proofs.Ytpafamlegfdclaa
