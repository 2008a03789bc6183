/-
  The law LedgerFirst: what is wrong with a text is so whatever comes behind that line; without something wrong it is a ledger, whose rows rise, and whose total is that of its rows. Conditions: none.
-/
import Derived.Test.YthindbmgnkohhaaDoorM11Chk
import Derived.Test.YthindbmgnkohhaaDoorM11Fst
import Derived.Test.YthindbmgnkohhaaDoorM2Dec
import Derived.Test.YthindbmgnkohhaaDoorW10Laid
import Derived.Laws.Concat
import Derived.ChangeMaps
namespace Go.Proofs.YthindbmgnkohhaaDoor
set_option linter.unusedVariables false
set_option linter.unusedSimpArgs false
set_option maxRecDepth 10000
open Go.ChangeShapes Go.WideShapes Go.ChangeAt Go.RowKit Go.Sort

set_option maxRecDepth 100000 in
set_option maxHeartbeats 2000000 in
theorem lfirst_long (s m : ByteArray) (h : Int) (hl : 2000 < s.size ∨ 2000 < m.size) (w : World) (hT : TabU w) :
    Calls Tryd.prog 6 #[.string s, .string m, .int .i64 h] w (Tells (.bool true) w.heap.size w) := by
  have cA := fun u hu => awake11_any u hu
  by_cases h1 : (2000 : Int) < (s.size : Int)
  · clear hl
    go_enter Tryd.func6, Tryd.ntmps6
    go_wp2_with (first
      | (go_at_call 11; refine (cA _ hT).mono ?_; rintro e w1 ⟨rfl, j1⟩)
      | fail)
    go_ret
    exact ⟨rfl, j1⟩
  · have h2 : (2000 : Int) < (m.size : Int) := by omega
    clear hl
    go_enter Tryd.func6, Tryd.ntmps6
    go_wp2_with (first
      | (go_at_call 11; refine (cA _ hT).mono ?_; rintro e w1 ⟨rfl, j1⟩)
      | fail)
    go_ret
    exact ⟨rfl, j1⟩
set_option maxRecDepth 100000 in
set_option maxHeartbeats 2000000 in
theorem lfirst_same (s m : ByteArray) (h K F : Int) (h1 : s.size ≤ 2000) (h2 : m.size ≤ 2000) (hf : F ≠ 0) (hk : (K == 0) = (F == 120))
    (cI : ∀ u, TabU u → Calls Tryd.prog 8 #[.string s, .int .i64 h] u (Tells (.tuple #[.slice none 0 0, .int .i64 K, .int .i64 F]) u.heap.size u))
    (cJ : ∀ T u, T.data.toList = s.data.toList ++ 10 :: m.data.toList → TabU u → Calls Tryd.prog 8 #[.string T, .int .i64 h] u fun e w' => ∃ v, e = .returned (.tuple #[v, .int .i64 K, .int .i64 F]) ∧ Below u.heap.size u w') (w : World) (hT : TabU w) :
    Calls Tryd.prog 6 #[.string s, .string m, .int .i64 h] w (Tells (.bool true) w.heap.size w) := by
  have cA := fun u hu => awake11_any u hu
  have g1 : ¬ ((2000 : Int) < (s.size : Int)) := by omega
  have g2 : ¬ ((2000 : Int) < (m.size : Int)) := by omega
  have hf2 : (F == 0) = false := beq_false_of_ne hf
  have hk2 : ((K == 0) == (F == 120)) = true := by rw [hk]; exact beq_self_eq_true _
  clear hk
  go_enter Tryd.func6, Tryd.ntmps6
  go_upto_region 6 with (first
    | (go_at_call 11; refine (cA _ hT).mono ?_; rintro e w1 ⟨rfl, j1⟩)
    | (go_at_call 8; refine (cI _ (hT.call j1)).mono ?_; rintro e w2 ⟨rfl, j2⟩)
    | fail)
  go_upto_region 7 with (first
    | (go_at_call 8; refine (cJ _ _ (by simp) (hT.call (chain j1 j2))).mono ?_; rintro e w3 ⟨v, rfl, j3⟩)
    | fail)
  go_wp2
  go_ret
  exact ⟨rfl, chain (chain j1 j2) j3⟩
theorem lfirst_height (s m : ByteArray) (h : Int) (hh : ¬ (0 ≤ h ∧ h ≤ 10)) (h1 : s.size ≤ 2000) (h2 : m.size ≤ 2000) (w : World) (hT : TabU w) :
    Calls Tryd.prog 6 #[.string s, .string m, .int .i64 h] w (Tells (.bool true) w.heap.size w) :=
  lfirst_same s m h 0 120 h1 h2 (by decide) (by decide) (fun u _ => import_height s h hh u) (fun T u _ _ => (import_height T h hh u).mono fun e w' k => ⟨_, k.1, k.2⟩) w hT
theorem cat_size {s m T : ByteArray} (h : T.data.toList = s.data.toList ++ 10 :: m.data.toList) : T.size = s.size + m.size + 1 := by
  rw [Lib.size_eq, Lib.size_eq, Lib.size_eq, h]
  simp
  omega
theorem lfirst_bad (s m : ByteArray) (h : Nat) (hh : h ≤ 10) (h1 : s.size ≤ 2000) (h2 : m.size ≤ 2000) (k E : Nat) (hE : E ≠ 0) (hE2 : E ≠ 120) (hI : impF (2 ^ h) [] 0 (splitL s.data.toList) = ([], 0 + k + 1, E)) (w : World) (hT : TabU w) :
    Calls Tryd.prog 6 #[.string s, .string m, .int .i64 (h : Int)] w (Tells (.bool true) w.heap.size w) := by
  refine lfirst_same s m h ((0 + k + 1 : Nat) : Int) (E : Int) h1 h2 (by omega) ?_ (fun u hu => ?_) (fun T u hTT hu => ?_) w hT
  · rw [beq_false_of_ne (by omega), beq_false_of_ne (by omega)]
  · refine (import_any s (by omega) h hh u hu).mono fun e w' q => ?_
    obtain ⟨v, q1, q2, q3⟩ := q
    rw [hI] at q1 q3
    rcases q3 with ⟨q3, -⟩ | ⟨-, rfl⟩
    · exact absurd q3 hE
    · exact ⟨q1, q2⟩
  · have hz := cat_size hTT
    refine (import_any T (by omega) h hh u hu).mono fun e w' q => ?_
    obtain ⟨v, q1, q2, q3⟩ := q
    rw [hTT, split_mid, impF_bad _ _ _ _ _ (by rw [hI]; exact hE), hI] at q1
    exact ⟨v, q1, q2⟩

set_option maxRecDepth 100000 in
set_option maxHeartbeats 4000000 in
theorem lfirst_good (s m : ByteArray) (h : Nat) (hh : h ≤ 10) (h1 : s.size ≤ 2000) (h2 : m.size ≤ 2000) (hI : impF (2 ^ h) [] 0 (splitL s.data.toList) = (rowsL (splitL s.data.toList), 0, 0)) (ht : ∀ x ∈ splitL s.data.toList, (tell x).2.2 = 0)
    (hg : GoodL (2 ^ h) (rowsL (splitL s.data.toList))) (w : World) (hT : TabU w) :
    Calls Tryd.prog 6 #[.string s, .string m, .int .i64 (h : Int)] w (Tells (.bool true) w.heap.size w) := by
  have cA := fun u hu => awake11_any u hu
  have g1 : ¬ ((2000 : Int) < (s.size : Int)) := by omega
  have g2 : ¬ ((2000 : Int) < (m.size : Int)) := by omega
  obtain ⟨ls, hls⟩ : ∃ ls, splitL s.data.toList = ls := ⟨_, rfl⟩
  obtain ⟨R, hR⟩ : ∃ R, rowsL ls = R := ⟨_, rfl⟩
  have hro : ∀ x ∈ R, x.ok := by rw [← hR]; exact rowsL_ok ls
  have hri : ∀ x ∈ R, isId (keyR x) = true := by rw [← hR]; exact rowsL_id ls
  have hrz : ∀ x ∈ R, x.id.size ≤ 2000 := by
    rw [← hR]
    refine rowsL_size ls 2000 fun x hx => ?_
    rw [← hls] at hx
    have := split_long _ x hx
    have e : s.data.toList.length ≤ 2000 := by rw [← Lib.size_eq]; exact h1
    omega
  have hrl : R.length ≤ 1024 := by
    have a := hg.1
    rw [hls, hR] at a
    have b : 2 ^ h ≤ 2 ^ 10 := Nat.pow_le_pow_right (by omega) hh
    omega
  obtain ⟨e0, e1⟩ := allRows_lines _ ht
  rw [hls, hR] at hI hg e1
  obtain ⟨zs, hz⟩ := sd_exists R
  have hp := hz.perm
  have hzo : ∀ x ∈ zs, x.ok := fun x hx => hro x (hp.mem_iff.2 hx)
  have hzi : ∀ x ∈ zs, isId (keyR x) = true := fun x hx => hri x (hp.mem_iff.2 hx)
  have hzz := hz.ids hrz
  have hzl : zs.length = R.length := hp.length_eq.symm
  have hgz := hg.perm hp
  have cI : ∀ u, TabU u → Calls Tryd.prog 8 #[.string s, .int .i64 (h : Int)] u fun e w' => ∃ A, e = .returned (.tuple #[.slice A zs.length zs.length, .int .i64 0, .int .i64 0]) ∧ RwRow w' w'.heap.size A zs ∧ Below u.heap.size u w' := fun u hu => by
    refine (import_any s (by omega) h hh u hu).mono fun e w' q => ?_
    obtain ⟨v, q1, q2, q3⟩ := q
    rw [hls, hI] at q1 q3
    rcases q3 with ⟨-, ys, q3⟩ | ⟨q3, -⟩
    · obtain rfl := q3.1.same hz
      obtain ⟨A, rfl, q4⟩ := q3.row
      exact ⟨A, q1, q4, q2⟩
    · exact absurd rfl q3
  have cJ : ∀ T u, T.data.toList = s.data.toList ++ 10 :: m.data.toList → TabU u → Calls Tryd.prog 8 #[.string T, .int .i64 (h : Int)] u fun e w' => ∃ (v : Value) (K F : Int), e = .returned (.tuple #[v, .int .i64 K, .int .i64 F]) ∧ (F = 0 ∨ F ≠ 0 ∧ (ls.length : Int) < K) ∧ Below u.heap.size u w' := fun T u hTT hu => by
    have hz2 := cat_size hTT
    refine (import_any T (by omega) h hh u hu).mono fun e w' q => ?_
    obtain ⟨v, q1, q2, q3⟩ := q
    rw [hTT, split_mid, hls, impF_good _ _ _ _ _ (by rw [hI]), hI] at q1
    rcases impF_spec (2 ^ h) (splitL m.data.toList) R (0 + ls.length) hg hro with ⟨k1, -, -⟩ | ⟨k, E, k1, k2, -, -, -⟩
    · rw [k1] at q1
      exact ⟨v, _, _, q1, .inl rfl, q2⟩
    · rw [k1] at q1
      exact ⟨v, _, _, q1, .inr ⟨by simpa using k2, by simp only []; omega⟩, q2⟩
  have cC : ∀ A u, TabU u → RwRow u u.heap.size A zs → Calls Tryd.prog 15 #[.slice A zs.length zs.length, .int .i64 (h : Int)] u (Tells (.tuple #[.int .i64 0, .int .i64 0]) u.heap.size u) := fun A u hu hv => by
    have q := lcheck_any A zs.length zs (by omega) hzo (fun x k => by have := hzz x k; omega) h hh u hu hv
    rw [chkF_good (2 ^ h) zs [] 0 (by simpa using hzo) (by simpa using hgz) hzi] at q
    exact q
  have hsum : sumR zs = sumR R := (sumR_perm hp).symm
  have cT := fun A u hu => total_any A zs.length zs hzo (by omega) hgz.2.2 u hu
  have cU := fun A c u hu => total_any A c R hro (by omega) hg.2.2 u hu
  rw [hsum] at cT
  obtain ⟨a, ha⟩ : ∃ a, rh (sumR R) = a := ⟨_, rfl⟩
  obtain ⟨b, hb⟩ : ∃ b, rl (sumR R) = b := ⟨_, rfl⟩
  rw [ha, hb] at cT cU
  have cR : ∀ u, TabU u → Calls Tryd.prog 19 #[.string s] u fun e w' => ∃ A c, e = .returned (.tuple #[.slice A R.length c, .int .i64 0, .int .i64 0]) ∧ RwRow w' w'.heap.size A R ∧ Below u.heap.size u w' := fun u hu => by
    refine (rowall_any s (by omega) u hu).mono fun e w' q => ?_
    obtain ⟨v, q1, q2, q3⟩ := q
    rw [e0] at q1
    rw [e1] at q2
    obtain ⟨A, c, rfl, -, q4⟩ := rows_of_own q2
    exact ⟨A, c, q1, q4, q3⟩
  have cL : ∀ u, Calls Tryd.prog 21 #[.string s] u fun e w' => ∃ v c, e = .returned (.slice v ls.length c) ∧ Below u.heap.size u w' := fun u => by
    refine (all_any s (by omega) u).mono fun e w' q => ?_
    obtain ⟨v, rfl, ⟨g, cap, rfl, -, -, -⟩, q4⟩ := q
    exact ⟨some ⟨g, 0, none⟩, cap, by rw [show (linesL s.data.toList).length = ls.length by rw [linesL, numb_len, hls]], q4⟩
  have cF := fun A (x : Rw) u hu => find_any A zs.length zs x.id (by omega) (fun y k => by have := hzz y k; omega) u hu
  have hq : ∀ u : World, (binOp .neq 45 (.agg #[.int .u64 a, .int .u64 b]) (.agg #[.int .u64 a, .int .u64 b])).run Tryd.prog u = .ok (.bool false) u := fun u => by rw [run_neq_num]; simp
  have hzn := hgz.2.1
  have hzs := hz.1
  have HZN := hideIt hzn
  have HZS := hideIt hzs
  obtain ⟨N, hN⟩ : ∃ N, zs.length = N := ⟨_, rfl⟩
  have hNl : N ≤ 1024 := by omega
  rw [← hzl] at cU cR
  rw [hN] at cI cC cT cU cR cF
  clear hI ht hg e0 e1 hp hzo hzi hzz hgz hro hri hrz hrl hR hsum ha hb hz hzl hzn hzs h1 h2
  go_enter Tryd.func6, Tryd.ntmps6
  go_upto_region 6 with (first
    | (go_at_call 11; refine (cA _ hT).mono ?_; rintro e w1 ⟨rfl, j1⟩)
    | (go_at_call 8; refine (cI _ (hT.call j1)).mono ?_; rintro e w2 ⟨A, rfl, R2, j2⟩; have j12 := chain j1 j2)
    | fail)
  go_upto_region 7 with (first
    | (go_at_call 8; refine (cJ _ _ (by simp) (hT.call j12)).mono ?_; rintro e w3 ⟨v, K, F, rfl, HF, j3⟩)
    | fail)
  have j13 := chain j12 j3
  have R3 := (R2.call j3).more j3.size
  have HF := hideIt HF
  clear j1 j2 j12 j3 R2 cI cJ cA
  go_upto_region 10 with (first
    | (go_at_call 15; refine (cC _ _ (hT.call j13) R3).mono ?_; rintro e w4 ⟨rfl, j4⟩)
    | fail)
  have j14 := chain j13 j4
  have R4 := (R3.call j4).more j4.size
  have H4 := Has.start w4
  go_upto_region 11 with (first
    | (go_at_call 18; refine (cT _ _ R4).mono ?_; rintro e w5 ⟨rfl, j5⟩)
    | fail)
  have H5 := (H4.call j5).add 45 #[.int .u64 a, .int .u64 b]
  change Code.wp _ _ _ _ (w5.alloc (.cells #[.int .u64 a, .int .u64 b] 45))
  generalize w5.alloc (.cells #[.int .u64 a, .int .u64 b] 45) = W5 at *
  generalize w5.heap.size = g5 at *
  go_upto_region 12 with (first
    | (go_at_call 19; refine (cR _ (hT.call (chain j14 H5.below))).mono ?_; rintro e w6 ⟨B, c, rfl, R6, j6⟩)
    | fail)
  have H6 := H5.call j6
  go_upto_region 13 with (first
    | (go_at_call 18; refine (cU _ _ _ R6).mono ?_; rintro e w7 ⟨rfl, j7⟩)
    | fail)
  have H7 := (H6.call j7).add 45 #[.int .u64 a, .int .u64 b]
  change Code.wp _ _ _ _ (w7.alloc (.cells #[.int .u64 a, .int .u64 b] 45))
  generalize w7.alloc (.cells #[.int .u64 a, .int .u64 b] 45) = W7 at *
  generalize w7.heap.size = g7 at *
  obtain ⟨m0, m1, m2⟩ := (H7.box 0).num
  obtain ⟨n0, n1, n2⟩ := (H7.box 1).num
  have L7 := H7.below
  have R7 := (R4.call L7).more L7.size
  have J7 := chain j14 L7
  clear H4 H5 H6 H7 j5 j6 j7 j13 j4 j14 R3 R4 R6 L7 cC cT cU cR
  go_upto_region 16 with fail
  have HF0 := HF
  clear HF
  go_loopg [22] N (fun gk i wr => ∃ k : Nat, k ≤ N ∧ N - k ≤ gk ∧ i = .int .i64 k ∧ Below W7.heap.size W7 wr)
  case atStart => exact ⟨0, Nat.zero_le _, by omega, rfl, Below.refl _ _⟩
  case round =>
    obtain ⟨k, hk, hgk, rfl, hb⟩ := hrel
    have HG := hideIt hgk
    clear hgk
    by_cases hlt : k < N
    · obtain ⟨x, hx⟩ : ∃ x, zs[k]? = some x := ⟨_, List.getElem?_eq_getElem (by omega)⟩
      obtain ⟨ad, rfl, had, p0, p1, p2⟩ := (R7.call hb) k x hx
      have hlti : (k : Int) < (N : Int) := by omega
      have hbs := hb.size
      have p3 : (ad.add (k * 3)).block < wr.heap.size := by rw [o10_block]; exact Nat.lt_of_lt_of_le had hb.size
      have HX := hideIt hx
      have cF1 := cF (some ad) x
      rw [show findR zs x.id.data.toList = (x, true) from find_nodup HZN.out (List.mem_of_getElem? hx)] at cF1
      simp only [Rw.val] at cF1
      clear hx
      have H0 := Has.start wr
      go_upto_region 19 with (first
        | (go_at_call 20; refine (cF1 _ ((R7.call hb).more hbs)).mono ?_; rintro e w11 ⟨rfl, j1⟩)
        | fail)
      have H2 := (H0.call j1).add 50 #[.string x.id, .int .u64 x.h, .int .u64 x.l]
      change Code.wp _ _ _ _ (w11.alloc (.cells #[.string x.id, .int .u64 x.h, .int .u64 x.l] 50))
      generalize w11.alloc (.cells #[.string x.id, .int .u64 x.h, .int .u64 x.l] 50) = W2 at *
      generalize w11.heap.size = g2' at *
      clear H0 j1 p0 p1 p2 p3
      have j4 := H2.below
      obtain ⟨_, e', had', p0, p1, p2⟩ := ((R7.call hb).call (j4.mono hbs)) k x HX.out
      cases e'
      have p3 : (ad.add (k * 3)).block < W2.heap.size := by rw [o10_block]; exact Nat.lt_of_lt_of_le had' (Nat.le_trans hbs H2.size)
      obtain ⟨f0, f1, f2, -, -, -, hin2⟩ := (H2.box 0).three
      have hqr : ∀ (u : World), (binOp .neq 50 (.agg #[.string x.id, .int .u64 x.h, .int .u64 x.l]) (.agg #[.string x.id, .int .u64 x.h, .int .u64 x.l])).run Tryd.prog u = .ok (.bool false) u := fun u => by
        have h := run_neq_rw x x u
        rw [Rw.same_self] at h
        exact h
      clear cF cF1 cL
      have Hb2 := hideIt (hb.trans (j4.mono hbs))
      have R8 := (R7.call hb).call (j4.mono hbs)
      by_cases hk0 : k = 0
      · have hk1 : ¬ ((0 : Int) < (k : Int)) := by omega
        have hk2 : ¬ (0 < k) := by omega
        have hk3 : decide ((0 : Int) < (k : Int)) = false := decide_eq_false hk1
        have hk4 : decide (0 < k) = false := decide_eq_false hk2
        clear hk0
        go_quiet (fail)
        go_wp2
        go_roundg (N - (k + 1))
        case measure => have := HG.out; omega
        case rel => exact ⟨k + 1, by omega, Nat.le_refl _, by go_num, below_drewN Hb2.out _⟩
      · obtain ⟨j, hj⟩ : ∃ j, k = j + 1 := ⟨k - 1, by omega⟩
        obtain ⟨y, hy⟩ : ∃ y, zs[j]? = some y := ⟨_, List.getElem?_eq_getElem (by omega)⟩
        obtain ⟨_, e', had', r0, r1, r2⟩ := R8 j y hy
        cases e'
        have r3 : (ad.add (j * 3)).block < W2.heap.size := by rw [o10_block]; exact Nat.lt_of_lt_of_le had' (Nat.le_trans hbs H2.size)
        have hx2 := HX.out
        rw [hj] at hx2
        have hle := leq_run y x (sl_rise HZS.out HZN.out hy hx2)
        have hj1 : (0 : Int) < (k : Int) := by omega
        have hk2 : 0 < k := by omega
        have hk3 : decide ((0 : Int) < (k : Int)) = true := decide_eq_true hj1
        have hk4 : decide (0 < k) = true := decide_eq_true hk2
        have hj2 : (k : Int) - 1 = (j : Int) := by omega
        have hj3 : (j : Int) < (N : Int) := by omega
        have hj4 : IntKind.i64.wrap ((k : Int) - 1) = (j : Int) := by rw [hj2, IntKind.wrap_i64]; omega
        clear hy hx2 hk0 hj
        go_quiet (fail)
        go_wp2
        go_roundg (N - (k + 1))
        case measure => have := HG.out; omega
        case rel => exact ⟨k + 1, by omega, Nat.le_refl _, by go_num, below_drewN Hb2.out _⟩
    · have e : k = N := by omega
      subst e
      have J9 := chain J7 hb
      clear cF HG hlt hk
      rcases HF0.out with rfl | ⟨hf, hk2⟩
      · go_wp2
        go_ret
        exact ⟨rfl, J9⟩
      · have hf2 : (F == 0) = false := beq_false_of_ne hf
        go_wp2_with (first
          | (go_at_call 21; refine (cL _).mono ?_; rintro e w12 ⟨v2, c2, rfl, j12⟩)
          | fail)
        go_ret
        exact ⟨rfl, chain J9 j12⟩

theorem ledgerFirst_core (H : Type) (enc : TypeId × Value → H) (W : World) (base : Nat) (args : Array Value) (ds gs : List (DataW H)) (before : List MemPlace)
    (hval : ∀ (j : Nat) t v, Tryd.f6.params[j]? = some t → args[j]? = some v → Value.okWide Tryd.prog W .any base t v)
    (hW : DataW.Whole enc Tryd.prog Tryd.f6.params.toList Rows.ledgerFirstSpec.vars false W args.toList ds gs before) (hT : TabU W) :
    gs = [] ∧ ds.length = 3 ∧ Calls Tryd.prog 6 args W (Tells (.bool true) W.heap.size W) := by
  obtain ⟨p, q, hA, hV, -, -, -⟩ := hW
  obtain ⟨rfl, rfl⟩ := trodVars_none hV
  have hA : DataW.TrodAll enc Tryd.prog W 0 (fun _ => true) true Tryd.f6.params.toList args.toList ds p := hA
  rw [Tryd.params6] at hA hval
  obtain ⟨v0, vs0, d0, ds0, p0, ps0, e0, rfl, -, h0, hA⟩ := trodAll_cons hA
  obtain ⟨v1, vs1, d1, ds1, p1, ps1, rfl, rfl, -, h1, hA⟩ := trodAll_cons hA
  obtain ⟨v2, vs2, d2, ds2, p2, ps2, rfl, rfl, -, h2, hA⟩ := trodAll_cons hA
  obtain ⟨rfl, rfl, rfl⟩ := trodAll_nil hA
  obtain rfl : args = #[v0, v1, v2] := Array.ext' e0
  obtain ⟨s, rfl, rfl, rfl, z5⟩ := Go.ChangeMaps.open_string Tryd.underlying9 (hval 0 9 v0 rfl rfl) h0
  obtain ⟨m, rfl, rfl, rfl, z6⟩ := Go.ChangeMaps.open_string Tryd.underlying9 (hval 1 9 v1 rfl rfl) h1
  obtain ⟨h, rfl⟩ := okWide_int Tryd.underlying3 (hval 2 3 v2 rfl rfl)
  refine ⟨rfl, rfl, ?_⟩
  by_cases hl : 2000 < s.size ∨ 2000 < m.size
  · exact lfirst_long s m h hl W hT
  · by_cases hh : 0 ≤ h ∧ h ≤ 10
    · obtain ⟨k, rfl⟩ : ∃ k : Nat, h = (k : Int) := ⟨h.toNat, by omega⟩
      rcases impF_spec (2 ^ k) (splitL s.data.toList) [] 0 (good_nil _) (fun x hx => by cases hx) with ⟨a1, a2, a3⟩ | ⟨j, E, a1, a2, a3, -, -⟩
      · rw [List.nil_append] at a1 a3
        exact lfirst_good s m k (by omega) (by omega) (by omega) a1 a2 a3 W hT
      · exact lfirst_bad s m k (by omega) (by omega) (by omega) j E a2 a3 a1 W hT
    · exact lfirst_height s m h hh (by omega) (by omega) W hT

set_option maxRecDepth 100000 in
theorem ledgerFirst_lifted (os : Os) (started : os.Started) (H : Type) (enc : TypeId × Value → H) :
    ReturnsInHanded {} Tryd.checked os 6 .any (fun w args => (Rows.ledgerFirstSpec.pre enc Tryd.prog Tryd.f6 [] false w args ∧ laidMetH Tryd.prog laidU w) ∧ sizedMet enc Tryd.prog Tryd.f6 (OpenSpec.ofChange Rows.ledgerFirstSpec) false w args)
      (Rows.ledgerFirstSpec.post enc Tryd.prog Tryd.f6 false true false false) := by
  refine returnsInHanded_of_change_and (C := Tryd.checked) (X := fun w _ => laidMetH Tryd.prog laidU w) (fun _ _ _ hh h => h.of_heap hh) own_knob started (by kernel_rfl) Tryd.func6
    (ChangeSpec.witness_shaped (enc := enc) (C := Tryd.checked) (os := os) (X := fun w _ => laidMetH Tryd.prog laidU w) false (World.laidAll Tryd.prog os laidU) #[.string ⟨#[]⟩, .string ⟨#[]⟩, .int .i64 0] 8 (World.laidAll_os _ _ _) (World.shaped_of_ZipB (by kernel_rfl) (by kernel_rfl)) (by kernel_rfl) (by kernel_rfl) (by kernel_rfl) (met_U os _)) ?_
  intro W base args ds gs before hval0 hW _ hwt hL _
  have hval : ∀ (j : Nat) t v, Tryd.f6.params[j]? = some t → args[j]? = some v → Value.okWide Tryd.prog W .any base t v := hval0
  obtain ⟨hg, hlen, hc⟩ := ledgerFirst_core H enc W base args ds gs before hval hW (tab_of_laidU hL)
  subst hg
  have hr : (Tryd.f6.params.toList.all fun t => Tryd.prog.readableRec t && decide (t < Tryd.prog.types.size)) = true := by kernel_rfl
  have hread : ∀ t ∈ Tryd.f6.params.toList, Tryd.prog.readableRec t = true ∧ t < Tryd.prog.types.size := fun t ht => by
    have h := List.all_eq_true.1 hr t ht
    rw [Bool.and_eq_true, decide_eq_true_eq] at h
    exact h
  refine hc.mono fun e W' ⟨he, hb⟩ => ?_
  subst he
  match ds, hlen with
  | [d0, d1, d2], _ => exact ⟨_, rfl, law_post laid_out Tryd.underlying4 rfl hread rfl hW rfl rfl rfl hb⟩

theorem ledgerFirst_holds : Rows.LedgerFirstSaid :=
  OpenClaim.holds_of_wide 6 Tryd.f6 rfl rfl rfl rfl rfl rfl rfl ⟨rfl, rfl, rfl, rfl, rfl⟩ rfl rfl rfl rfl rfl (by kernel_rfl) Tryd.func6 (by kernel_rfl)
    (of_decide_eq_true (by kernel_rfl)) (by unfold Func.isWrapper; first | (rw [if_pos (by decide +kernel)]; kernel_rfl) | (rw [if_neg (by decide +kernel)]; exact ⟨rfl, rfl⟩))
    (fun os started H enc _ => ledgerFirst_lifted os started H enc)

theorem ledgerFirst_card : Rows.LedgerFirstCardSaid :=
  Claim7.holds_tied_plain_at .later [] [.data, .pinned] true _ false
    ledgerFirst_holds (fun _ h => by cases h) (by kernel_rfl) (fun _ h => by cases h) ledgerFirst_row_tie rfl ⟨rfl, rfl⟩ (by kernel_rfl) rfl
    (fun f fn hf hfn => by
      obtain rfl : f = 6 := Option.some.inj ((show Tryd.prog.funcNamed "paymaster/paymasterlaw11.LedgerFirst" = some 6 by kernel_rfl).symm.trans hf) |>.symm
      obtain rfl : fn = Tryd.f6 := (Option.some.inj (Tryd.func6.symm.trans hfn)).symm
      exact ⟨by kernel_rfl, fun j t ht => by
        have hm : t ∈ Tryd.f6.params.toList := by simpa using Array.mem_of_getElem? ht
        have hall : (Tryd.f6.params.toList.all fun u => !Tryd.prog.wantsStandIn u) = true := by kernel_rfl
        exact (show Tryd.prog.wantsStandIn t = false by simpa using List.all_eq_true.1 hall t hm)⟩)
    (by kernel_rfl)

end Go.Proofs.YthindbmgnkohhaaDoor
