/-
  The law of layer 1 on sums and bytes: the sum of any row of numbers, the number of any text, and the bytes of each number are what the chapter says; the numbers stay.
-/
import Derived.Test.YtohdphbomjhgaaaL1SumsN
import Derived.Test.YtohdphbomjhgaaaR1Sum
import Derived.Test.YtohdphbomjhgaaaR1Bytes
import Derived.Test.YtohdphbomjhgaaaR1From
import Derived.BigQuiet
import Derived.ChangeMaps5
import Derived.Deep.QuietTactic
import Derived.Deep.RegionHeld3
namespace Go.Proofs.Ytohdphbomjhgaaa
set_option linter.unusedVariables false
set_option linter.unusedSimpArgs false
open Go.ChangeShapes Go.WideShapes Go.ChangeAt Go.RowKit

theorem info_num2 : (Try.prog.info? 24).map (fun i => (i.zero, i.size, i.bytes)) = some (some (.agg #[.int .u64 0, .int .u64 0]), 2, 16) := by kernel_rfl

theorem flat_one (xs : List (Int × Int)) : ∀ u ∈ flat xs, u.oneCell' = true := by
  intro u hu
  simp only [flat, List.mem_flatMap] at hu
  obtain ⟨x, -, hu⟩ := hu
  simp at hu
  rcases hu with rfl | rfl <;> rfl
theorem flat_half {xs : List (Int × Int)} {j : Nat} {u : Value} (hu : (flat xs)[j]? = some u) : ∃ i x y, xs[i]? = some (x, y) ∧ ((j = i * 2 ∧ u = .int .u64 x) ∨ (j = i * 2 + 1 ∧ u = .int .u64 y)) := by
  have hj : j < xs.length * 2 := by rw [← flat_length]; exact (List.getElem?_eq_some_iff.1 hu).1
  have hi : j / 2 < xs.length := by omega
  obtain ⟨c0, c1⟩ := flat_get xs (j / 2) (xs[j / 2]).1 (xs[j / 2]).2 (List.getElem?_eq_getElem hi)
  refine ⟨j / 2, (xs[j / 2]).1, (xs[j / 2]).2, List.getElem?_eq_getElem hi, ?_⟩
  rcases Nat.mod_two_eq_zero_or_one j with h | h
  · left
    have e : j = j / 2 * 2 := by omega
    rw [← e, hu] at c0
    exact ⟨e, Option.some.inj c0⟩
  · right
    have e : j = j / 2 * 2 + 1 := by omega
    rw [← e, hu] at c1
    exact ⟨e, Option.some.inj c1⟩
theorem flat_at {w : World} {B : Nat} {ad : Addr} {xs : List (Int × Int)} (hr : NumRow w B (some ad) xs) {j : Nat} {u : Value} (hu : (flat xs)[j]? = some u) : w.cell? (ad.add j) = some u := by
  obtain ⟨i, x, y, hx, h | h⟩ := flat_half hu
  · obtain ⟨ad', e, -, h1, h2⟩ := hr i x y hx
    injection e with e; subst e
    rw [h.1, h.2]; exact h1
  · obtain ⟨ad', e, -, h1, h2⟩ := hr i x y hx
    injection e with e; subst e
    rw [h.1, h.2]; exact h2
theorem flat_block {w : World} {B : Nat} {ad : Addr} {xs : List (Int × Int)} (hr : NumRow w B (some ad) xs) {j : Nat} {u : Value} (hu : (flat xs)[j]? = some u) : ad.block < B := by
  obtain ⟨i, x, y, hx, -⟩ := flat_half hu
  obtain ⟨ad', e, hl, -, -⟩ := hr i x y hx
  injection e with e; subst e
  exact hl

set_option maxRecDepth 100000 in
set_option maxHeartbeats 16000000 in
theorem bytes_walk (A : Option Addr) (c : Nat) (xs : List (Int × Int)) (hx : AllNum xs) (hA : A = none → xs = []) (hcm : xs.length ≤ maxLen) (s : ByteArray) (hmax : s.size ≤ 9223372036854775807) (w : World) (hr : NumRow w w.heap.size A xs) :
    Calls Try.prog 5 #[.slice A xs.length c, .string s] w (Tells (.bool true) w.heap.size w) := by
  obtain ⟨i0, hi, hz0, hz1, hz2⟩ := info_parts info_num2
  unfold maxLen at hcm
  by_cases h200 : 200 < xs.length
  · have h200' : (200 : Int) < (xs.length : Int) := by omega
    go_enter Try.func5, Try.ntmps5
    go_wp2
    go_ret
    exact ⟨rfl, Below.refl _ _⟩
  · by_cases h100 : 100 < s.size
    · have h100' : (100 : Int) < (s.size : Int) := by omega
      have h200' : ¬ (200 : Int) < (xs.length : Int) := by omega
      go_enter Try.func5, Try.ntmps5
      go_wp2
      go_ret
      exact ⟨rfl, Below.refl _ _⟩
    · have h100' : ¬ (100 : Int) < (s.size : Int) := by omega
      have h200' : ¬ (200 : Int) < (xs.length : Int) := by omega
      go_enter Try.func5, Try.ntmps5
      go_upto_region 3 with fail
      go_cut [5] (fun s5 wx => ∃ B cb, s5 = .slice B xs.length cb ∧ NumRow wx wx.heap.size B xs ∧ Below w.heap.size w wx)
      case first =>
        rcases A with _ | ad
        · have hnil := hA rfl
          subst hnil
          go_wp2
          go_meet
          exact ⟨some ⟨w.heap.size, 0, none⟩, 0, rfl, fun i x y h => by simp at h, by repeat (first | exact Below.refl _ _ | apply Below.drew | apply below_drewN | refine Below.alloc ?_ (by simp; try omega) _ | refine Below.setCell ?_ (by simp; try omega) _)⟩
        · have own0 : (w.alloc (.cells #[] 24)).ownsRow w.heap.size 24 2 (.slice (some ⟨w.heap.size, 0, none⟩) 0 0) 0 (flat []) :=
            ⟨rfl, .inr ⟨w.heap.size, 0, #[], rfl, Nat.le_refl _, Box.made w _ _, Nat.le_refl _, by unfold maxLen; omega, rfl, rfl⟩⟩
          go_wp2_with (first
            | (at_builtin; refine wpList_append_own (w := w.alloc (.cells #[] 24)) rfl _ _ 41 rfl w.heap.size 24 i0 _ 2 16 Try.underlying41 hi hz0 hz1 hz2 rfl (by decide) _ 0 (flat []) rfl own0 ad xs.length c (flat xs) rfl (flat_length xs) ?_ (flat_one xs) (by unfold maxLen; omega) (by omega) (by simp) ?_))
          · intro j u hu
            exact (((Below.refl _ w).alloc (Nat.le_refl _) _).cell (by rw [add_block]; exact flat_block hr hu)).trans (flat_at hr hu)
          · intro v' w' hown' hg _
            have hbl : Below w.heap.size w w' := ((Below.refl _ w).alloc (Nat.le_refl _) _).grown hg (by simp) (fun k hk => by simp [Value.ownBlock] at hk; omega)
            have hown2 : w'.ownsRow w.heap.size 24 2 v' xs.length (flat xs) := by simpa [show flat [] = [] from rfl] using hown'
            obtain ⟨-, B, cb, rfl, hnum⟩ := own_nums hown2
            clear hown'
            go_wp2_with fail
            all_goals go_meet
            exact ⟨B, cb, rfl, hnum, hbl⟩
      case rest =>
        obtain ⟨B, cb, rfl, hB, hbl⟩ := hcut
        have hr1 := hr.call hbl
        have cS1 := sum_any B cb xs hx (by omega) wc hB
        go_upto_region 5 with (first
          | (go_at_call 24; refine cS1.mono ?_; rintro e w2 ⟨rfl, h2⟩))
        have L2 := chainA (chain hbl h2) (.cells #[.int .u64 (rh (sumN xs)), .int .u64 (rl (sumN xs))] 24)
        have K2 : Below wc.heap.size wc (w2.alloc (.cells #[.int .u64 (rh (sumN xs)), .int .u64 (rl (sumN xs))] 24)) := chainA h2 _
        have X2 := Box.made w2 24 #[.int .u64 (rh (sumN xs)), .int .u64 (rl (sumN xs))]
        generalize w2.alloc (.cells #[.int .u64 (rh (sumN xs)), .int .u64 (rl (sumN xs))] 24) = W2 at *
        have cS2 := rsum_any A c xs hx (by omega) W2 ((hr.call L2).more L2.size)
        go_upto_region 6 with (first
          | (go_at_call 25; refine cS2.mono ?_; rintro e w3 ⟨rfl, h3⟩))
        have L3 := chainA (chain L2 h3) (.cells #[.int .u64 (rh (sumN xs)), .int .u64 (rl (sumN xs))] 24)
        have K3 := chainA (chain K2 h3) (.cells #[.int .u64 (rh (sumN xs)), .int .u64 (rl (sumN xs))] 24)
        have X3 := (X2.call h3).past (.cells #[.int .u64 (rh (sumN xs)), .int .u64 (rl (sumN xs))] 24)
        have Y3 := Box.made w3 24 #[.int .u64 (rh (sumN xs)), .int .u64 (rl (sumN xs))]
        generalize w3.alloc (.cells #[.int .u64 (rh (sumN xs)), .int .u64 (rl (sumN xs))] 24) = W3 at *
        go_upto_region 7 with (first
          | (go_at_call 26; refine (from_any s hmax _).mono ?_; rintro e w4 ⟨rfl, h4⟩))
        have L4 := chainA (chain L3 h4) (.cells #[.int .u64 (fromH s), .int .u64 (fromL s)] 24)
        have K4 := chainA (chain K3 h4) (.cells #[.int .u64 (fromH s), .int .u64 (fromL s)] 24)
        have X4 := (X3.call h4).past (.cells #[.int .u64 (fromH s), .int .u64 (fromL s)] 24)
        have Y4 := (Y3.call h4).past (.cells #[.int .u64 (fromH s), .int .u64 (fromL s)] 24)
        have P4 := Box.made w4 24 #[.int .u64 (fromH s), .int .u64 (fromL s)]
        generalize w4.alloc (.cells #[.int .u64 (fromH s), .int .u64 (fromL s)] 24) = W4 at *
        go_upto_region 8 with (first
          | (go_at_call 27; refine (rfrom_any s hmax _).mono ?_; rintro e w5 ⟨rfl, h5⟩))
        have L5 := chainA (chain L4 h5) (.cells #[.int .u64 (fromH s), .int .u64 (fromL s)] 24)
        have K5 := chainA (chain K4 h5) (.cells #[.int .u64 (fromH s), .int .u64 (fromL s)] 24)
        have X5 := (X4.call h5).past (.cells #[.int .u64 (fromH s), .int .u64 (fromL s)] 24)
        have Y5 := (Y4.call h5).past (.cells #[.int .u64 (fromH s), .int .u64 (fromL s)] 24)
        have P5 := (P4.call h5).past (.cells #[.int .u64 (fromH s), .int .u64 (fromL s)] 24)
        have Q5 := Box.made w5 24 #[.int .u64 (fromH s), .int .u64 (fromL s)]
        generalize w5.alloc (.cells #[.int .u64 (fromH s), .int .u64 (fromL s)] 24) = W5 at *
        obtain ⟨x1, x2, x3⟩ := X5.num
        obtain ⟨y1, y2, y3⟩ := Y5.num
        obtain ⟨p1, p2, p3⟩ := P5.num
        obtain ⟨q1, q2, q3⟩ := Q5.num
        clear cS1 cS2 X2 X3 X4 Y3 Y4 P4 L2 L3 L4 K2 K3 K4 h2 h3 h4 h5
        go_wp2
        clear x1 x2 x3 y1 y2 y3 p1 p2 p3 q1 q2 q3 X5 Y5 P5 Q5
        have hrA := (hr.call L5).more L5.size
        have hrB := (hB.call K5).more K5.size
        go_loopg [14] xs.length (fun gk i wr => ∃ k : Nat, k ≤ xs.length ∧ gk = xs.length - k ∧ i = .int .i64 k ∧ Below W5.heap.size W5 wr)
        case atStart => exact ⟨0, by omega, rfl, rfl, Below.refl _ _⟩
        case round =>
          obtain ⟨k, hk, rfl, rfl, hbr⟩ := hrel
          by_cases hlt : k < xs.length
          · obtain ⟨p, hp⟩ : ∃ p : Int × Int, xs[k] = p := ⟨_, rfl⟩
            obtain ⟨ad, rfl, had, c0, c1⟩ := hrA k p.1 p.2 (by rw [List.getElem?_eq_getElem hlt, hp])
            obtain ⟨bd, rfl, hbd, d0, d1⟩ := hrB k p.1 p.2 (by rw [List.getElem?_eq_getElem hlt, hp])
            have hab : (ad.add (k * 2)).block < W5.heap.size := by rw [add_block]; exact had
            have hbb : (bd.add (k * 2)).block < W5.heap.size := by rw [add_block]; exact hbd
            have c1 : W5.cell? ⟨(ad.add (k * 2)).block, (ad.add (k * 2)).off + 1, none⟩ = some (.int .u64 p.2) := by
              have e : (⟨(ad.add (k * 2)).block, (ad.add (k * 2)).off + 1, none⟩ : Addr) = ad.add (k * 2 + 1) := by rw [← add_two]; rfl
              rw [e]; exact c1
            have d1 : W5.cell? ⟨(bd.add (k * 2)).block, (bd.add (k * 2)).off + 1, none⟩ = some (.int .u64 p.2) := by
              have e : (⟨(bd.add (k * 2)).block, (bd.add (k * 2)).off + 1, none⟩ : Addr) = bd.add (k * 2 + 1) := by rw [← add_two]; rfl
              rw [e]; exact d1
            have c0' : wr.cell? (ad.add (k * 2)) = some (.int .u64 p.1) := (hbr.cell hab).trans c0
            have c1' : wr.cell? ⟨(ad.add (k * 2)).block, (ad.add (k * 2)).off + 1, none⟩ = some (.int .u64 p.2) := (hbr.cell (p := ⟨(ad.add (k * 2)).block, (ad.add (k * 2)).off + 1, none⟩) hab).trans c1
            have d0' : wr.cell? (bd.add (k * 2)) = some (.int .u64 p.1) := (hbr.cell hbb).trans d0
            have d1' : wr.cell? ⟨(bd.add (k * 2)).block, (bd.add (k * 2)).off + 1, none⟩ = some (.int .u64 p.2) := (hbr.cell (p := ⟨(bd.add (k * 2)).block, (bd.add (k * 2)).off + 1, none⟩) hbb).trans d1
            have hsr := hbr.size
            have hab' : (ad.add (k * 2)).block < wr.heap.size := by omega
            have hbb' : (bd.add (k * 2)).block < wr.heap.size := by omega
            obtain ⟨w1', w2'⟩ := hx p (by rw [← hp]; exact List.getElem_mem hlt)
            have i0' : (0 : Int) ≤ (k : Int) := by omega
            have i1' : (k : Int) < (xs.length : Int) := by omega
            clear c0 c1 d0 d1 hp
            have cB := fun u : World => bytes_any p.1 p.2 w1' w2' u
            have cR := fun u : World => rbytes_any p.1 p.2 w1' w2' u
            generalize strOfNums (bytesOf p.1 p.2) = t at *
            go_upto_region 13 with fail
            go_region_held3 (fun w' => Below wr.heap.size wr w' ∧ w'.cell? (ad.add (k * 2)) = some (.int .u64 p.1) ∧ w'.cell? ⟨(ad.add (k * 2)).block, (ad.add (k * 2)).off + 1, none⟩ = some (.int .u64 p.2) ∧
                w'.cell? (bd.add (k * 2)) = some (.int .u64 p.1) ∧ w'.cell? ⟨(bd.add (k * 2)).block, (bd.add (k * 2)).off + 1, none⟩ = some (.int .u64 p.2))
              (first
                | exact keep_first (by assumption) (by assumption) (fun hb => ⟨hb, (hb.cell hab').trans c0', (hb.cell (p := ⟨(ad.add (k * 2)).block, (ad.add (k * 2)).off + 1, none⟩) hab').trans c1',
                    (hb.cell hbb').trans d0', (hb.cell (p := ⟨(bd.add (k * 2)).block, (bd.add (k * 2)).off + 1, none⟩) hbb').trans d1'⟩)
                | exact ⟨(Below.refl _ _).drew, c0', c1', d0', d1'⟩)
              (first
                | (go_at_call 28; ((with_reducible refine (cB _).mono ?_); rintro e v1 ⟨rfl, k1⟩))
                | (go_at_call 29; ((with_reducible refine (cR _).mono ?_); rintro e v2 ⟨rfl, k2⟩)))
            all_goals go_wp2
            have hh : ∃ Q, Below wr.heap.size wr v2 ∧ Q := ⟨_, by assumption⟩
            obtain ⟨Q, hh, -⟩ := hh
            go_roundg (xs.length - (k + 1))
            case measure => omega
            case rel => exact ⟨k + 1, by omega, rfl, by go_num, chain hbr hh⟩
          · have e : k = xs.length := by omega
            subst e
            go_wp2
            go_ret
            exact ⟨rfl, chain L5 hbr⟩
theorem u128Bytes_core (H : Type) (enc : TypeId × Value → H) (W : World) (base : Nat) (args : Array Value) (ds gs : List (DataW H)) (before : List MemPlace)
    (hval : ∀ (j : Nat) t v, Try.f5.params[j]? = some t → args[j]? = some v → Value.okWide Try.prog W .any base t v)
    (hW : DataW.Whole enc Try.prog Try.f5.params.toList Rows.u128BytesSpec.vars false W args.toList ds gs before) :
    gs = [] ∧ ds.length = 2 ∧ Calls Try.prog 5 args W (Tells (.bool true) W.heap.size W) := by
  obtain ⟨p, q, hA, hV, -, -, -⟩ := hW
  obtain ⟨rfl, rfl⟩ := trodVars_none hV
  have hA : DataW.TrodAll enc Try.prog W 0 (fun _ => true) true Try.f5.params.toList args.toList ds p := hA
  rw [Try.params5] at hA hval
  obtain ⟨v0, v1, d0, d1, p0, p1, rfl, rfl, -, h0, h1⟩ := trodAll_two hA
  obtain ⟨s, rfl, rfl, rfl, hs⟩ := Go.ChangeMaps.open_string Try.underlying9 (hval 1 9 v1 rfl rfl) h1
  have hs' : s.size ≤ 9223372036854775807 := by unfold maxLen at hs; omega
  refine ⟨rfl, rfl, ?_⟩
  rcases open_nums (hval 0 _ v0 rfl rfl) h0 with rfl | ⟨a, len, cap, xs, rfl, hl, hm, rfl, hx, hr⟩
  · exact bytes_walk none 0 [] (fun x hx => by simp at hx) (fun _ => rfl) (by simp) s hs' W (fun i x y h => by simp at h)
  · exact bytes_walk (some a) cap xs hx (fun h => by cases h) (Nat.le_trans hl hm) s hs' W hr

set_option maxRecDepth 100000 in
theorem u128Bytes_lifted (os : Os) (started : os.Started) (H : Type) (enc : TypeId × Value → H) :
    ReturnsInHanded {} Try.checked os 5 .any (Rows.u128BytesSpec.pre6 enc Try.prog Try.f5 Rows.u128BytesRow.domain false) (Rows.u128BytesSpec.post enc Try.prog Try.f5 false true false false) := by
  refine returnsInHanded_of_change (C := Try.checked) own_knob started (by kernel_rfl) Try.func5
    (ChangeSpec.witness6 (enc := enc) (C := Try.checked) false ⟨#[], #[.slice none 0 0, .string ⟨#[]⟩], []⟩ 8 (by kernel_rfl) (by kernel_rfl) (by kernel_rfl) (by kernel_rfl)) ?_
  intro W base args ds gs before hval hW _ _
  obtain ⟨hg, hlen, hc⟩ := u128Bytes_core H enc W base args ds gs before hval hW
  subst hg
  have hr : (Try.f5.params.toList.all fun t => Try.prog.readableRec t && decide (t < Try.prog.types.size)) = true := by kernel_rfl
  have hread : ∀ t ∈ Try.f5.params.toList, Try.prog.readableRec t = true ∧ t < Try.prog.types.size := fun t ht => by
    have h := List.all_eq_true.1 hr t ht
    rw [Bool.and_eq_true, decide_eq_true_eq] at h
    exact h
  refine hc.mono fun e W' ⟨he, hb⟩ => ?_
  subst he
  match ds, hlen with
  | [d0, d1], _ => exact ⟨_, rfl, law_post laid_out Try.underlying4 rfl hread rfl hW rfl rfl rfl hb⟩

theorem u128Bytes_holds : Rows.U128BytesSaid :=
  OpenClaim.holds_of_wide 5 Try.f5 rfl rfl rfl rfl rfl rfl rfl ⟨rfl, rfl, rfl, rfl, rfl⟩ rfl rfl rfl rfl rfl (by kernel_rfl) Try.func5 (by kernel_rfl)
    (of_decide_eq_true (by kernel_rfl)) (by unfold Func.isWrapper; first | (rw [if_pos (by decide +kernel)]; kernel_rfl) | (rw [if_neg (by decide +kernel)]; exact ⟨rfl, rfl⟩))
    (fun os started H enc _ => u128Bytes_lifted os started H enc)


end Go.Proofs.Ytohdphbomjhgaaa
