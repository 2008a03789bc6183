/-
  The law NodeSums (the stage's theorem): the sum of what is folded, or climbed to, is all sums together; without room for these there is ErrSum, wherever it is that there is none. Conditions: none.
-/
import Derived.Test.YtjbaeiifamendaaDoorU14Awake
import Derived.Test.YtjbaeiifamendaaDoorU14Sums
namespace Go.Proofs.YtjbaeiifamendaaDoor
set_option linter.unusedVariables false
set_option linter.unusedSimpArgs false
set_option maxRecDepth 10000
open Go.ChangeShapes Go.WideShapes Go.ChangeAt Go.RowKit

theorem run_neq_n14 (a b : Int) (u : World) : (binOp .neq 24 (.agg #[.int .u64 a, .int .u64 b]) (.agg #[.int .u64 a, .int .u64 b])).run Tryd.prog u = .ok (.bool false) u := by
  have e := equal_n7 9998 a b a b u
  rw [run_neq_struct, e]
  simp
/-- What a row with sums is folded to, and climbed to. -/
theorem sums_cases (n : Int) (x : Nd) (r : List Nd) (p : Nat) (hl : (x :: r).length ≤ 300) (hh : ∀ z ∈ x :: r, z.halved) :
    (foldN n (x :: r) = (Nd.zero, 70) ∧ climbN n x p r = (Nd.zero, 70)) ∨
    (((∃ s, foldN n (x :: r) = (⟨s, rh (sumN (x :: r)), rl (sumN (x :: r))⟩, 0) ∧ room (sumN (x :: r)) = true ∧ Nd.of n ⟨s, rh (sumN (x :: r)), rl (sumN (x :: r))⟩ = true) ∨ foldN n (x :: r) = (Nd.zero, 2) ∨ (foldN n (x :: r) = (Nd.zero, 10) ∧ room (sumN (x :: r)) = false)) ∧
    ((∃ s, climbN n x p r = (⟨s, rh (sumN (x :: r)), rl (sumN (x :: r))⟩, 0) ∧ room (sumN (x :: r)) = true ∧ Nd.of n ⟨s, rh (sumN (x :: r)), rl (sumN (x :: r))⟩ = true ∧ r.length ≤ 63) ∨ (climbN n x p r = (Nd.zero, 2) ∧ 63 < r.length) ∨ (climbN n x p r = (Nd.zero, 10) ∧ room (sumN (x :: r)) = false ∧ r.length ≤ 63))) := by
  have key : ∀ (V : Nd × Int), V.2 = 0 → V.1.of n = true → V.1.halved → V.1.sum = sumN (x :: r) → ∃ s, V = (⟨s, rh (sumN (x :: r)), rl (sumN (x :: r))⟩, 0) ∧ Nd.of n ⟨s, rh (sumN (x :: r)), rl (sumN (x :: r))⟩ = true := by
    rintro ⟨⟨s, h, l⟩, e⟩ rfl ho hv hs
    have h1 : rh (sumN (x :: r)) = h := by rw [← hs]; exact rh_nv hv.1 hv.2
    have h2 : rl (sumN (x :: r)) = l := by rw [← hs]; exact rl_nv hv.1 hv.2
    rw [h1, h2]
    exact ⟨s, rfl, ho⟩
  have hxh := hh x (by simp)
  have hrh : ∀ z ∈ r, z.halved := fun z hz => hh z (by simp [hz])
  cases hV : allW n (x :: r) with
  | false =>
    refine Or.inl ⟨by rw [foldN, if_neg (by rw [hV]; decide)], ?_⟩
    have : (x.of n && allW n r) = false := by
      rw [← hV]
      cases hm : mayW n with
      | false => simp [allW, Nd.of, hm]
      | true => simp [allW, hm]
    rw [climbN, if_neg (by rw [this]; decide)]
  | true =>
    refine Or.inr ⟨?_, ?_⟩
    · cases hP : powB (x :: r).length with
      | false => exact Or.inr (Or.inl (by rw [foldN, if_pos hV, if_neg (by rw [hP]; decide)]))
      | true =>
        obtain ⟨h1, h2⟩ := powB_log _ (by omega) hP
        obtain ⟨hmw, hof⟩ := allW_mem hV
        have hs := fold_sums hmw _ (x :: r) h1 hh hof
        have e : foldN n (x :: r) = foldS n (Nat.log2 (x :: r).length) (x :: r) := by rw [foldN, if_pos hV, if_pos hP]
        rw [e]
        cases hr : room (sumN (x :: r)) with
        | true =>
          obtain ⟨a1, a2, a3, a4⟩ := hs.1 hr
          obtain ⟨s, h3, h4⟩ := key _ a1 a2 a3 a4
          exact Or.inl ⟨s, h3, rfl, h4⟩
        | false => exact Or.inr (Or.inr ⟨hs.2 hr, rfl⟩)
    · obtain ⟨hmw, hof⟩ := allW_mem hV
      have hxo := hof x (by simp)
      have hw : (x.of n && allW n r) = true := by
        rw [hxo, Bool.true_and, allW, hmw, Bool.true_and]
        exact List.all_eq_true.2 fun z hz => hof z (by simp [hz])
      by_cases h63 : r.length ≤ 63
      · have e : climbN n x p r = climbS n x p r := by rw [climbN, if_pos hw, if_pos h63]
        have hs := climb_sums hmw r x p hxh hxo hrh
        rw [e]
        cases hr : room (sumN (x :: r)) with
        | true =>
          obtain ⟨a1, a2, a3, a4⟩ := hs.1 hr
          obtain ⟨s, h3, h4⟩ := key _ a1 a2 a3 a4
          exact Or.inl ⟨s, h3, rfl, h4, h63⟩
        | false => exact Or.inr (Or.inr ⟨hs.2 hr, rfl, h63⟩)
      · exact Or.inr (Or.inl ⟨by rw [climbN, if_pos hw, if_neg h63], by omega⟩)
theorem nds_drop {w : World} {B : Nat} {a : Addr} {xs : List Nd} (h : ndS.Row w B (some a) xs) (n : Nat) : ndS.Row w B (some (a.add (n * 3))) (xs.drop n) := fun i x hx => by
  rw [List.getElem?_drop] at hx
  obtain ⟨ad, e, hl, hc⟩ := h (n + i) x hx
  injection e with e
  subst e
  refine ⟨_, rfl, by rw [gen_block]; exact hl, ?_⟩
  change ndS.At w ((a.add (n * 3)).add (i * 3)) x
  rw [gen_add, ← Nat.add_mul]
  exact hc
set_option maxRecDepth 100000 in
set_option maxHeartbeats 8000000 in
theorem nodeSums_short (n : Int) (A : Option Addr) (c : Nat) (x : Nd) (r : List Nd) (p : Nat) (hp : p < 18446744073709551616) (hc : (x :: r).length ≤ c) (hcm : c ≤ 9223372036854775807) (hy : ∀ z ∈ x :: r, z.fine) (hg : greatN (x :: r) = false)
    (w : World) (hR : ndS.Row w w.heap.size A (x :: r)) (hT : Tab w) :
    Calls Tryd.prog 6 #[.int .i64 n, .slice A (x :: r).length c, .int .u64 p] w (Tells (.bool true) w.heap.size w) := by
  obtain ⟨hl, hsz⟩ := greatN_no hg
  have cW := fun u hu => awake14_any u hu
  have cG := fun u hu => great_any A c (x :: r) (by omega) (fun x hx => (hy x hx).1) u hu
  rw [hg] at cG
  have cS := fun u hu => sums14_any A c (x :: r) (fun z hz => (hy z hz).2) (by omega) u hu
  have cF := fun u hu hu2 => fold14_any n A c (x :: r) hl (fun z hz => (hy z hz).2) u hu hu2
  obtain ⟨ad, rfl, g1, q0, q1, q2⟩ := nd_get hR (i := 0) (x := x) rfl
  have ez : ad.add (0 * 3) = ad := by simp [Addr.add]
  rw [ez] at q0 q1 q2 g1
  have hRt : ndS.Row w w.heap.size (if c = 1 then some ad else some ⟨ad.block, ad.off + 3, none⟩) r := by
    by_cases hc1 : c = 1
    · have e : r = [] := List.eq_nil_of_length_eq_zero (by rw [List.length_cons] at hc; omega)
      rw [e]
      exact Sh.Row.nil ndS _ _ _
    · have h := nds_drop hR 1
      rw [List.drop_one, List.tail_cons] at h
      rw [if_neg hc1]
      exact h
  have cC := fun u hu hu2 => climb14_any n x p hp (if c = 1 then some ad else some ⟨ad.block, ad.off + 3, none⟩) (c - 1) r (by simp at hl; omega) (hy x (by simp)).2 (fun z hz => (hy z (by simp [hz])).2) u hu hu2
  obtain ⟨N, hN⟩ : ∃ N, (x :: r).length = N := ⟨_, rfl⟩
  have hN1 : 1 ≤ N := by rw [← hN, List.length_cons]; omega
  have hM : r.length = N - 1 := by rw [← hN, List.length_cons]; omega
  rw [hN] at cG cS cF hc hl ⊢
  rw [hM] at cC
  have HM := hideIt hM
  clear hM hN
  obtain ⟨⟨⟨fs, fh, fl⟩, fe⟩, hF⟩ : ∃ V, foldN n (x :: r) = V := ⟨_, rfl⟩
  obtain ⟨⟨⟨gs, gh, gl⟩, ge⟩, hC⟩ : ∃ V, climbN n x p r = V := ⟨_, rfl⟩
  rw [hF] at cF
  rw [hC] at cC
  have HF := hideIt hF
  have HC := hideIt hC
  obtain ⟨S, hS⟩ : ∃ S, sumN (x :: r) = S := ⟨_, rfl⟩
  rw [hS] at cS
  obtain ⟨sh, hsh⟩ : ∃ v, rh S = v := ⟨_, rfl⟩
  obtain ⟨sl, hsl⟩ : ∃ v, rl S = v := ⟨_, rfl⟩
  obtain ⟨rm, hrm⟩ : ∃ v, room S = v := ⟨_, rfl⟩
  rw [hsh, hsl, hrm] at cS
  have HS := hideIt hS
  have HSH := hideIt hsh
  have HSL := hideIt hsl
  have HRM := hideIt hrm
  have hyx := hy
  obtain ⟨xs, xh, xl⟩ := x
  simp only [Nd.val] at cF cC q0 q1 q2
  have HY := hideIt hyx
  clear hF hC hS hsh hsl hrm hy hsz hg hyx ez
  have hneq : ¬ ((N : Int) = 0) := by omega
  have H0 := Has.start w
  go_enter Tryd.func6, Tryd.ntmps6
  go_upto_region 6 with (first
    | (go_at_call 19; refine (cW _ hT).mono ?_; rintro e w1 ⟨rfl, b1⟩; have K1 := H0.call b1)
    | (go_at_call 9; refine (cG _ (hR.on K1.below)).mono ?_; rintro e w2 ⟨rfl, b2⟩; have K2 := K1.call b2)
    | (go_at_call 20; refine (cS _ (hR.on K2.below)).mono ?_; rintro e w3 ⟨rfl, b3⟩; have K3 := (K2.call b3).add 24 #[.int .u64 sh, .int .u64 sl])
    | fail)
  obtain ⟨a1, ha1⟩ : ∃ g, w3.heap.size = g := ⟨_, rfl⟩
  rw [ha1] at K3 ⊢
  change Code.wp _ _ _ _ (w3.alloc (.cells #[.int .u64 sh, .int .u64 sl] 24))
  generalize w3.alloc (.cells #[.int .u64 sh, .int .u64 sl] 24) = W3 at *
  clear b3 b2 b1 K2 K1 H0 cS cG cW
  go_upto_region 7 with (first
    | (go_at_call 17; refine (cF _ (hR.on K3.below) (hT.call K3.below)).mono ?_; rintro e w4 ⟨rfl, b4⟩; have K4 := (K3.call b4).add 26 (ndB fs fh fl))
    | fail)
  obtain ⟨a2, ha2⟩ : ∃ g, w4.heap.size = g := ⟨_, rfl⟩
  rw [ha2] at K4 ⊢
  change Code.wp _ _ _ _ (w4.alloc (.cells (ndB fs fh fl) 26))
  generalize w4.alloc (.cells (ndB fs fh fl) 26) = W4 at *
  clear b4 K3 cF
  have c0' : W4.cell? ad = some (.string xs) := by rw [K4.below.cell (p := ad) g1]; exact q0
  have c1' : W4.cell? ⟨ad.block, ad.off + 1, none⟩ = some (.int .u64 xh) := by rw [K4.below.cell (p := ⟨ad.block, ad.off + 1, none⟩) g1]; exact q1
  have c2' : W4.cell? ⟨ad.block, ad.off + 2, none⟩ = some (.int .u64 xl) := by rw [K4.below.cell (p := ⟨ad.block, ad.off + 2, none⟩) g1]; exact q2
  have hbB := K4.below.size
  have hRt4 := fun u (hb : Below W4.heap.size W4 u) => hRt.on (chain K4.below hb)
  have hT4 := fun u (hb : Below W4.heap.size W4 u) => hT.call (chain K4.below hb)
  have z1 : (1 : Int) ≤ (N : Int) := by omega
  have z2 : (0 : Int) < (N : Int) := by omega
  have z3 : (N : Int) ≤ (c : Int) := by omega
  have z4 : 0 < N := by omega
  clear hRt
  go_cut [11, 12] (fun s11 s12 wx => ∃ g, s11 = .pointer (some ⟨g, 0, none⟩) ∧ s12 = .int .i64 ge ∧ Box wx g 26 (ndB gs gh gl) ∧ Below W4.heap.size W4 wx)
  case first =>
    by_cases hc1 : c = 1
    · have hN2 : N = 1 := by omega
      subst hc1
      subst hN2
      simp only [if_true, Nat.sub_self] at cC hRt4
      go_region_held3 (fun w' => Below W4.heap.size W4 w' ∧ w'.cell? ad = some (.string xs) ∧ w'.cell? ⟨ad.block, ad.off + 1, none⟩ = some (.int .u64 xh) ∧ w'.cell? ⟨ad.block, ad.off + 2, none⟩ = some (.int .u64 xl))
        (exact (fun (hb : Below W4.heap.size W4 _) => ⟨hb, (hb.cell (p := ad) (Nat.lt_of_lt_of_le g1 hbB)).trans c0', (hb.cell (p := ⟨ad.block, ad.off + 1, none⟩) (Nat.lt_of_lt_of_le g1 hbB)).trans c1', (hb.cell (p := ⟨ad.block, ad.off + 2, none⟩) (Nat.lt_of_lt_of_le g1 hbB)).trans c2'⟩)
          (by repeat (first
            | exact Below.refl _ _
            | exact chain (by repeat (first | exact Below.refl _ _ | apply Below.drew | refine Below.alloc ?_ (by simp) _)) hb3
            | apply Below.drew
            | refine Below.alloc ?_ (by first | exact Nat.le_refl _ | (have := hb3.size; simp at this ⊢; omega)) _
            | refine Below.setCell ?_ (by first | exact Nat.le_refl _ | (have := hb3.size; simp at this ⊢; omega)) _)))
        (first
          | (go_at_call 14; ((with_reducible refine (cC _ (hRt4 _ (by repeat (first | exact Below.refl _ _ | apply Below.drew | refine Below.alloc ?_ (by simp) _))) (hT4 _ (by repeat (first | exact Below.refl _ _ | apply Below.drew | refine Below.alloc ?_ (by simp) _)))).mono ?_); rintro e w3 ⟨rfl, hb3⟩)
             first
               | (have G3 := ((Box.made W4 26 (ndB ⟨#[]⟩ 0 0)).draw).call hb3
                  obtain ⟨k1, k2, k3, k4, k5, k6, k7⟩ := G3.three)
               | (have G3 := (Box.made W4.drew 26 (ndB ⟨#[]⟩ 0 0)).call hb3
                  obtain ⟨k1, k2, k3, k4, k5, k6, k7⟩ := G3.three)
               | skip))
      all_goals go_wp2_with fail
      all_goals go_meet
      · exact ⟨_, rfl, rfl, Box.made _ _ _, by
          repeat (first
            | exact Below.refl _ _
            | exact chain (by repeat (first | exact Below.refl _ _ | apply Below.drew | refine Below.alloc ?_ (by simp) _)) hb3
            | apply Below.drew
            | refine Below.alloc ?_ (by first | exact Nat.le_refl _ | (have := hb3.size; simp at this ⊢; omega)) _)⟩
      · exact ⟨_, rfl, rfl, ((G3.wrote 0 _).wrote 1 _).wrote 2 _, by
          repeat (first
            | exact Below.refl _ _
            | exact chain (by repeat (first | exact Below.refl _ _ | apply Below.drew | refine Below.alloc ?_ (by simp) _)) hb3
            | apply Below.drew
            | refine Below.setCell ?_ (by first | exact Nat.le_refl _ | (have := hb3.size; simp at this ⊢; omega)) _)⟩
    · simp only [if_neg hc1] at cC hRt4
      go_region_held3 (fun w' => Below W4.heap.size W4 w' ∧ w'.cell? ad = some (.string xs) ∧ w'.cell? ⟨ad.block, ad.off + 1, none⟩ = some (.int .u64 xh) ∧ w'.cell? ⟨ad.block, ad.off + 2, none⟩ = some (.int .u64 xl))
        (exact (fun (hb : Below W4.heap.size W4 _) => ⟨hb, (hb.cell (p := ad) (Nat.lt_of_lt_of_le g1 hbB)).trans c0', (hb.cell (p := ⟨ad.block, ad.off + 1, none⟩) (Nat.lt_of_lt_of_le g1 hbB)).trans c1', (hb.cell (p := ⟨ad.block, ad.off + 2, none⟩) (Nat.lt_of_lt_of_le g1 hbB)).trans c2'⟩)
          (by repeat (first
            | exact Below.refl _ _
            | exact chain (by repeat (first | exact Below.refl _ _ | apply Below.drew | refine Below.alloc ?_ (by simp) _)) hb3
            | apply Below.drew
            | refine Below.alloc ?_ (by first | exact Nat.le_refl _ | (have := hb3.size; simp at this ⊢; omega)) _
            | refine Below.setCell ?_ (by first | exact Nat.le_refl _ | (have := hb3.size; simp at this ⊢; omega)) _)))
        (first
          | (go_at_call 14; ((with_reducible refine (cC _ (hRt4 _ (by repeat (first | exact Below.refl _ _ | apply Below.drew | refine Below.alloc ?_ (by simp) _))) (hT4 _ (by repeat (first | exact Below.refl _ _ | apply Below.drew | refine Below.alloc ?_ (by simp) _)))).mono ?_); rintro e w3 ⟨rfl, hb3⟩)
             first
               | (have G3 := ((Box.made W4 26 (ndB ⟨#[]⟩ 0 0)).draw).call hb3
                  obtain ⟨k1, k2, k3, k4, k5, k6, k7⟩ := G3.three)
               | (have G3 := (Box.made W4.drew 26 (ndB ⟨#[]⟩ 0 0)).call hb3
                  obtain ⟨k1, k2, k3, k4, k5, k6, k7⟩ := G3.three)
               | skip))
      all_goals go_wp2_with fail
      all_goals go_meet
      · exact ⟨_, rfl, rfl, Box.made _ _ _, by
          repeat (first
            | exact Below.refl _ _
            | exact chain (by repeat (first | exact Below.refl _ _ | apply Below.drew | refine Below.alloc ?_ (by simp) _)) hb3
            | apply Below.drew
            | refine Below.alloc ?_ (by first | exact Nat.le_refl _ | (have := hb3.size; simp at this ⊢; omega)) _)⟩
      · exact ⟨_, rfl, rfl, ((G3.wrote 0 _).wrote 1 _).wrote 2 _, by
          repeat (first
            | exact Below.refl _ _
            | exact chain (by repeat (first | exact Below.refl _ _ | apply Below.drew | refine Below.alloc ?_ (by simp) _)) hb3
            | apply Below.drew
            | refine Below.setCell ?_ (by first | exact Nat.le_refl _ | (have := hb3.size; simp at this ⊢; omega)) _)⟩
  case rest =>
    obtain ⟨a3, rfl, rfl, hbx, hbl⟩ := hcut
    have K5 := (K4.call hbl).with hbx
    clear hbx hbl c0' c1' c2' hRt4 hT4 cC K4
    obtain ⟨x0, x1, x2, -, -, -, xi⟩ := (K5.box 0).three
    obtain ⟨y0, y1, y2, -, -, -, yi⟩ := (K5.box 1).three
    obtain ⟨s0, s1, -, -, si⟩ := (K5.box 2).two
    have hcs := sums_cases n ⟨xs, xh, xl⟩ r p (by rw [List.length_cons, HM.out]; omega) (fun z hz => (HY.out z hz).2)
    rw [HF.out, HC.out, HS.out, HSH.out, HSL.out, HRM.out, HM.out] at hcs
    have cO := fun u => of14_any n ⟨gs, gh, gl⟩ u
    have dO := fun u => of14_any n ⟨fs, fh, fl⟩ u
    simp only [Nd.val] at cO dO
    have ez := fun u => eql_nd_self Nd.zero u
    simp only [Nd.val, Nd.zero] at ez hcs
    have en := fun u => run_neq_n14 sh sl u
    have hw1 : IntKind.i64.wrap ((N : Int) - 1) = (N : Int) - 1 := by rw [IntKind.wrap_i64]; omega
    clear HF HC HS HSH HSL HRM HM HY q0 q1 q2
    rcases hcs with ⟨hf, hc⟩ | ⟨hf, hc⟩
    · simp only [Prod.mk.injEq, Nd.mk.injEq] at hf hc
      obtain ⟨⟨rfl, rfl, rfl⟩, rfl⟩ := hf
      obtain ⟨⟨rfl, rfl, rfl⟩, rfl⟩ := hc
      go_wp2_with fail
      go_ret
      exact ⟨rfl, K5.below⟩
    · have m1 : 63 < N - 1 → (63 : Int) < (N : Int) - 1 := fun h => by omega
      have m2 : N - 1 ≤ 63 → ¬ (63 : Int) < (N : Int) - 1 := fun h => by omega
      rcases hf with ⟨s, hf, hr1, hfo⟩ | hf | ⟨hf, hr1⟩ <;> rcases hc with ⟨s', hc, hr2, hgo, h63⟩ | ⟨hc, h63⟩ | ⟨hc, hr2, h63⟩ <;> (
        simp only [Prod.mk.injEq, Nd.mk.injEq] at hf hc
        obtain ⟨⟨rfl, rfl, rfl⟩, rfl⟩ := hf
        obtain ⟨⟨rfl, rfl, rfl⟩, rfl⟩ := hc)
      · subst hr1
        have m3 := m2 h63
        clear m1 m2
        rw [hfo] at dO
        rw [hgo] at cO
        go_wp2_with (first
          | (go_at_call 12; refine (dO _).mono ?_; rintro e w8 ⟨rfl, b8⟩; have K8 := K5.call b8; clear dO; obtain ⟨h0, h1, h2, -, -, -, hi⟩ := (K8.box 0).three)
          | (go_at_call 12; refine (cO _).mono ?_; rintro e w9 ⟨rfl, b9⟩; have K9 := K8.call b9)
          | fail)
        go_ret
        exact ⟨rfl, K9.below⟩
      · subst hr1
        have m3 := m1 h63
        clear m1 m2
        rw [hfo] at dO
        go_wp2_with (first
          | (go_at_call 12; refine (dO _).mono ?_; rintro e w8 ⟨rfl, b8⟩; have K8 := K5.call b8; obtain ⟨h0, h1, h2, -, -, -, hi⟩ := (K8.box 0).three)
          | fail)
        go_ret
        exact ⟨rfl, K8.below⟩
      · rw [hr1] at hr2
        cases hr2
      · subst hr2
        have m3 := m2 h63
        clear m1 m2
        rw [hgo] at cO
        go_wp2_with (first
          | (go_at_call 12; refine (cO _).mono ?_; rintro e w8 ⟨rfl, b8⟩; have K8 := K5.call b8)
          | fail)
        go_ret
        exact ⟨rfl, K8.below⟩
      · have m3 := m1 h63
        clear m1 m2
        go_wp2_with fail
        go_ret
        exact ⟨rfl, K5.below⟩
      · subst hr2
        have m3 := m2 h63
        clear m1 m2
        go_wp2_with fail
        go_ret
        exact ⟨rfl, K5.below⟩
      · rw [hr1] at hr2
        cases hr2
      · subst hr1
        have m3 := m1 h63
        clear m1 m2
        go_wp2_with fail
        go_ret
        exact ⟨rfl, K5.below⟩
      · subst hr1
        have m3 := m2 h63
        clear m1 m2
        go_wp2_with fail
        go_ret
        exact ⟨rfl, K5.below⟩
end Go.Proofs.YtjbaeiifamendaaDoor
