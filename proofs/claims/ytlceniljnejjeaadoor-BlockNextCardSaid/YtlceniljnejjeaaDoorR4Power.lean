/-
  The document's power and root, walked.
-/
import Derived.Test.YtlceniljnejjeaaDoorR1Times
import Derived.Test.YtlceniljnejjeaaDoorR1Cmp
import Derived.Test.YtlceniljnejjeaaDoorD4Words
import Derived.Test.YtlceniljnejjeaaDoorW1Has
import Derived.Deep.LoopGhost
namespace Go.Proofs.YtlceniljnejjeaaDoor
set_option linter.unusedVariables false
set_option linter.unusedSimpArgs false
open Go.RowKit

/-- A number times another, as long as there is room; else nothing. -/
def mulR (a x : Int) : Int := if room (a * x) then a * x else 0
def powR (x : Int) : Nat → Int
  | 0 => 1
  | k + 1 => mulR (powR x k) x
def mostR (p : Int) : Nat → Int
  | 0 => p
  | k + 1 => mulR (mostR p k) 4294967296
theorem mulR_bd (a x : Int) : 0 ≤ mulR a x ∧ mulR a x < 340282366920938463463374607431768211456 := by
  unfold mulR
  by_cases h : room (a * x) = true
  · rw [if_pos h]; exact room_iff.1 h
  · rw [if_neg h]; exact ⟨by decide, by decide⟩
theorem mulR_halves (a x : Int) : rh (a * x) = mulR a x / 18446744073709551616 ∧ rl (a * x) = mulR a x % 18446744073709551616 := by
  unfold mulR
  cases h : room (a * x)
  · rw [rh_no h, rl_no h]; exact ⟨rfl, rfl⟩
  · rw [rh_yes h, rl_yes h]; exact ⟨rfl, rfl⟩
theorem powR_bd (x : Int) : ∀ k, 0 ≤ powR x k ∧ powR x k < 340282366920938463463374607431768211456
  | 0 => (by decide : (0 : Int) ≤ 1 ∧ (1 : Int) < 340282366920938463463374607431768211456)
  | k + 1 => mulR_bd _ _
theorem nv_parts (n : Int) : nv (n / 18446744073709551616) (n % 18446744073709551616) = n := by unfold nv; omega
theorem word_hi {n : Int} (h : 0 ≤ n ∧ n < 340282366920938463463374607431768211456) : Word (n / 18446744073709551616) := ⟨by omega, by omega⟩
theorem word_lo (n : Int) : Word (n % 18446744073709551616) := ⟨by omega, by omega⟩
/-- A number as its two halves. -/
def hl (n : Int) : Array Value := #[.int .u64 (n / 18446744073709551616), .int .u64 (n % 18446744073709551616)]
theorem times_hl (n x : Int) (hn : 0 ≤ n ∧ n < 340282366920938463463374607431768211456) (hx : Word x) (w : World) :
    Calls Tryd.prog 58 #[.agg #[.int .u64 (n / 18446744073709551616), .int .u64 (n % 18446744073709551616)], .int .u64 x] w fun e w' =>
      e = .returned (.tuple #[.agg #[.int .u64 (mulR n x / 18446744073709551616), .int .u64 (mulR n x % 18446744073709551616)], .int .i64 (re (n * x))]) ∧ Below w.heap.size w w' := by
  have h := rtimes_any (n / 18446744073709551616) (n % 18446744073709551616) x (word_hi hn) (word_lo n) hx w
  rw [nv_parts] at h
  obtain ⟨e1, e2⟩ := mulR_halves n x
  refine h.mono ?_
  rintro e w' ⟨rfl, hb⟩
  rw [e1, e2]
  exact ⟨rfl, hb⟩

set_option maxHeartbeats 2000000 in
theorem power_any (x : Int) (hx : Word x) (k : Nat) (hk : k ≤ 1000) (w : World) : Calls Tryd.prog 60 #[.int .u64 x, .int .i64 k] w
    (Tells (.agg #[.int .u64 (powR x k / 18446744073709551616), .int .u64 (powR x k % 18446744073709551616)]) w.heap.size w) := by
  have H0 : Has w [(w.heap.size + 1, 82, #[.int .u64 0, .int .u64 1]), (w.heap.size, 82, #[.int .u64 0, .int .u64 0])] ((w.alloc (.cells #[.int .u64 0, .int .u64 0] 82)).alloc (.cells #[.int .u64 0, .int .u64 1] 82)) :=
    ((Has.start w).add 82 #[.int .u64 0, .int .u64 0]).addAt 82 #[.int .u64 0, .int .u64 1] (by simp)
  go_enter Tryd.func60, Tryd.ntmps60
  go_upto_region 2 with fail
  change Code.wp _ _ _ _ ((w.alloc (.cells #[.int .u64 0, .int .u64 0] 82)).alloc (.cells #[.int .u64 0, .int .u64 1] 82))
  generalize World.alloc (World.alloc _ _) _ = W at *
  go_wp2
  go_loopg [6] k (fun gk i wr => ∃ j : Nat, j ≤ k ∧ gk = k - j ∧ i = .int .i64 j ∧ Has w [(w.heap.size + 1, 82, #[.int .u64 (powR x j / 18446744073709551616), .int .u64 (powR x j % 18446744073709551616)]), (w.heap.size, 82, #[.int .u64 0, .int .u64 0])] wr)
  case atStart => exact ⟨0, by omega, rfl, rfl, H0⟩
  case round =>
    clear H0
    obtain ⟨j, hj, hgk, rfl, H⟩ := hrel
    have HG := hideIt hgk
    clear hgk
    by_cases hlt : j < k
    · have cT := fun u => times_hl (powR x j) x (powR_bd x j) hx u
      obtain ⟨N, hN⟩ : ∃ N, powR x (j + 1) = N := ⟨_, rfl⟩
      have hs : mulR (powR x j) x = N := hN
      rw [hs] at cT
      have HN := hideIt hN
      clear hN
      obtain ⟨p0, p1, -, -, hin⟩ := (H.box 0).two
      generalize powR x j = M at *
      generalize re (M * x) = E at *
      clear hs
      have b1 : (j : Int) < (k : Int) := by omega
      go_wp2_with (first
        | (go_at_call 58; refine (cT _).mono ?_; rintro e w2 ⟨rfl, b2⟩
           have H2 := H.call b2
           obtain ⟨q0, q1, f0, f1, hin2⟩ := (H2.box 0).two
           clear p0 p1 hin H))
      have H3 := (H2.wrote (by omega) (by simp) 0 (.int .u64 (N / 18446744073709551616))).wrote (by omega) (by simp) 1 (.int .u64 (N % 18446744073709551616))
      go_roundg (k - (j + 1))
      case measure => have := HG.out; omega
      case rel => exact ⟨j + 1, by omega, rfl, by go_num, by rw [HN.out]; exact H3⟩
    · have e : j = k := by omega
      subst e
      have hbd := powR_bd x j
      generalize powR x j = M at *
      obtain ⟨p0, p1, -, -, hin⟩ := (H.box 0).two
      obtain ⟨q0, q1, f0, f1, hin1⟩ := (H.box 1).two
      clear HG
      go_wp2
      generalize hX : World.setCell (World.setCell _ _ _) _ _ = X
      have hbx : Box X w.heap.size 82 #[.int .u64 (M / 18446744073709551616), .int .u64 (M % 18446744073709551616)] := by rw [← hX]; exact ((H.box 1).wrote 0 _).wrote 1 _
      have hbl : Below w.heap.size w X := by rw [← hX]; exact (H.below.setCell (by simp) _).setCell (by simp) _
      clear hX q0 q1 f0 f1 p0 p1 hin hin1
      obtain ⟨x0, x1, -, -, hgx⟩ := hbx.two
      exact bodyPost_ret (v := .agg #[.int .u64 (M / 18446744073709551616), .int .u64 (M % 18446744073709551616)]) (by simp [results, Tryd.results60, go_sem, x0, x1]) rfl ⟨rfl, hbl⟩

/-- What root looks for, bit by bit: b bits are still to be tried. -/
def rootR (most : Int) (k : Nat) : Nat → Int → Int
  | 0, x => x
  | b + 1, x => rootR most k b (if powR (x + 2 ^ b) k ≤ most then x + 2 ^ b else x)
def rootW (p : Int) (k : Nat) : Int := rootR (mostR p k) k 37 0 % 4294967296
theorem mostR_bd (p : Int) (hp : Word p) : ∀ k, 0 ≤ mostR p k ∧ mostR p k < 340282366920938463463374607431768211456
  | 0 => ⟨hp.1, Int.lt_trans hp.2 (by decide)⟩
  | k + 1 => mulR_bd _ _
theorem cmp_le (a b : Int) : decide (cmpI a b ≤ 0) = decide (a ≤ b) := by
  unfold cmpI
  by_cases h1 : a < b
  · rw [if_pos h1]; simp; omega
  · rw [if_neg h1]
    by_cases h2 : a = b
    · rw [if_pos h2]; simp; omega
    · rw [if_neg h2]; simp; omega

/-- The bit that is tried when b are left. -/
def bitv : Nat → Int
  | 0 => 0
  | b + 1 => 2 ^ b
theorem bitv_half (b : Nat) : (2 : Int) ^ b / 2 = bitv b := by
  cases b with
  | zero => rfl
  | succ b => show (2 : Int) ^ (b + 1) / 2 = 2 ^ b; rw [Int.pow_succ]; omega
theorem rootR_step (most : Int) (k b : Nat) (x : Int) : rootR most k (b + 1) x = rootR most k b (if powR (x + 2 ^ b) k ≤ most then x + 2 ^ b else x) := rfl

set_option maxHeartbeats 2000000 in
theorem root_any (p : Int) (hp : Word p) (k : Nat) (hk : k ≤ 1000) (w : World) : Calls Tryd.prog 44 #[.int .u64 p, .int .i64 k] w
    (Tells (.int .u32 (rootW p k)) w.heap.size w) := by
  have h00 : p / 18446744073709551616 = 0 := by have := hp.1; have := hp.2; omega
  have h01 : p % 18446744073709551616 = p := by have := hp.1; have := hp.2; omega
  have H0 : Has w [(w.heap.size, 82, #[.int .u64 0, .int .u64 p])] (w.alloc (.cells #[.int .u64 0, .int .u64 p] 82)) :=
    (Has.start w).add 82 #[.int .u64 0, .int .u64 p]
  go_enter Tryd.func44, Tryd.ntmps44
  go_upto_region 2 with fail
  change Code.wp _ _ _ _ (w.alloc (.cells #[.int .u64 0, .int .u64 p] 82))
  generalize World.alloc _ _ = W at *
  go_wp2
  go_loopg [6] k (fun gk i wr => ∃ j : Nat, j ≤ k ∧ gk = k - j ∧ i = .int .i64 j ∧ Has w [(w.heap.size, 82, #[.int .u64 (mostR p j / 18446744073709551616), .int .u64 (mostR p j % 18446744073709551616)])] wr)
  case atStart => exact ⟨0, by omega, rfl, rfl, by rw [show mostR p 0 = p from rfl, h00, h01]; exact H0⟩
  case round =>
    clear H0 h00 h01
    obtain ⟨j, hj, hgk, rfl, H⟩ := hrel
    have HG := hideIt hgk
    clear hgk
    by_cases hlt : j < k
    · have cT := fun u => times_hl (mostR p j) 4294967296 (mostR_bd p hp j) ⟨by decide, by decide⟩ u
      obtain ⟨N, hN⟩ : ∃ N, mostR p (j + 1) = N := ⟨_, rfl⟩
      have hs : mulR (mostR p j) 4294967296 = N := hN
      rw [hs] at cT
      have HN := hideIt hN
      clear hN
      obtain ⟨p0, p1, -, -, hin⟩ := (H.box 0).two
      generalize mostR p j = M at *
      generalize re (M * 4294967296) = E at *
      clear hs
      have b1 : (j : Int) < (k : Int) := by omega
      go_wp2_with (first
        | (go_at_call 58; refine (cT _).mono ?_; rintro e w2 ⟨rfl, b2⟩
           have H2 := H.call b2
           obtain ⟨q0, q1, f0, f1, hin2⟩ := (H2.box 0).two
           clear p0 p1 hin H))
      have H3 := (H2.wrote (by omega) (by simp) 0 (.int .u64 (N / 18446744073709551616))).wrote (by omega) (by simp) 1 (.int .u64 (N % 18446744073709551616))
      go_roundg (k - (j + 1))
      case measure => have := HG.out; omega
      case rel => exact ⟨j + 1, by omega, rfl, by go_num, by rw [HN.out]; exact H3⟩
    · have e : j = k := by omega
      subst e
      have hbd := mostR_bd p hp j
      have hW : rootW p j = rootR (mostR p j) j 37 0 % 4294967296 := rfl
      generalize mostR p j = M at *
      have HW := hideIt hW
      clear HG hW
      go_wp2
      go_loopg [7, 8] 37 (fun gk xv bv wr => ∃ (b : Nat) (x : Int), b ≤ 37 ∧ gk = b ∧ xv = .int .u64 x ∧ bv = .int .u64 (bitv b) ∧ 0 ≤ x ∧ x + 2 ^ b ≤ 2 ^ 37 ∧ rootR M j b x = rootR M j 37 0 ∧ Has w [(w.heap.size, 82, #[.int .u64 (M / 18446744073709551616), .int .u64 (M % 18446744073709551616)])] wr)
      case atStart => exact ⟨37, 0, by omega, rfl, rfl, rfl, by decide, by decide, rfl, H⟩
      case round =>
        clear H
        obtain ⟨b, x, hb, hgk, rfl, rfl, hx0, hx1, hR, H⟩ := hrel
        have HG := hideIt hgk
        clear hgk
        cases b with
        | zero =>
          have hR0 : rootR M j 0 x = x := rfl
          rw [hR0] at hR
          have hWx : rootW p j = x % 4294967296 := by rw [HW.out, hR]
          have h37 : (2 : Int) ^ 37 = 137438953472 := by decide
          have h20 : (2 : Int) ^ 0 = 1 := rfl
          rw [h37, h20] at hx1
          obtain ⟨y, hy⟩ : ∃ y, x % 4294967296 = y := ⟨_, rfl⟩
          have t1 : x.tmod 4294967296 = y := by rw [Int.tmod_eq_emod_of_nonneg hx0]; exact hy
          have t2 : y % 4294967296 = y := by omega
          have t3 : IntKind.u64.wrap y = y := by rw [IntKind.wrap_u64]; omega
          rw [hy] at hWx
          have HWX := hideIt hWx
          have L := H.below
          have bv0 : bitv 0 = 0 := rfl
          rw [bv0]
          clear hWx hR hR0 hy hx1 bv0
          go_wp2
          go_ret
          exact ⟨by rw [HWX.out]; rfl, L⟩
        | succ b =>
          have hs := rootR_step M j b x
          have h37 : (2 : Int) ^ 37 = 137438953472 := by decide
          have hps : (2 : Int) ^ (b + 1) = 2 ^ b * 2 := Int.pow_succ 2 b
          have hh := bitv_half b
          have hp0 : 0 < (2 : Int) ^ b := Int.pow_pos (by decide)
          have hbv : bitv (b + 1) = 2 ^ b := rfl
          rw [h37, hps] at hx1
          rw [hbv]
          obtain ⟨q, hq⟩ : ∃ q, (2 : Int) ^ b = q := ⟨_, rfl⟩
          rw [hq] at hs hx1 hh hp0 ⊢
          obtain ⟨y, hy⟩ : ∃ y, x + q = y := ⟨_, rfl⟩
          rw [hy] at hs
          have a1 : IntKind.u64.wrap (x + q) = y := by rw [IntKind.wrap_u64, ← hy]; omega
          have a2 : IntKind.u64.wrap y = y := by rw [IntKind.wrap_u64, ← hy]; omega
          have a3 : (x + q) % 18446744073709551616 = y := by omega
          have a4 : x + q = y := hy
          have d1 : q.tdiv 2 = bitv b := by rw [Int.tdiv_eq_ediv_of_nonneg (by omega)]; exact hh
          obtain ⟨z, hz⟩ : ∃ z, bitv b = z := ⟨_, rfl⟩
          rw [hz] at d1 hh
          have d2 : IntKind.u64.wrap z = z := by rw [IntKind.wrap_u64]; omega
          have g1 : 0 < q := hp0
          have cP := fun u => power_any y ⟨by omega, by omega⟩ j hk u
          have hyb := powR_bd y j
          obtain ⟨Y, hY⟩ : ∃ Y, powR y j = Y := ⟨_, rfl⟩
          rw [hY] at cP hyb hs
          have cC := fun u => rcmp_any (Y / 18446744073709551616) (Y % 18446744073709551616) (M / 18446744073709551616) (M % 18446744073709551616) (word_hi hyb) (word_lo Y) (word_hi hbd) (word_lo M) u
          rw [nv_parts, nv_parts] at cC
          have hle := cmp_le Y M
          obtain ⟨C, hC⟩ : ∃ C, cmpI Y M = C := ⟨_, rfl⟩
          rw [hC] at cC hle
          have HX1 := hideIt hx1
          have HB := hideIt hb
          have HS := hideIt hs
          have HR := hideIt hR
          have HZ := hideIt hz
          have HQ := hideIt hq
          have HY := hideIt hy
          have fact : ∀ u, Has w [(w.heap.size, 82, #[.int .u64 (M / 18446744073709551616), .int .u64 (M % 18446744073709551616)])] u → u.cell? ⟨w.heap.size, 0, none⟩ = some (.int .u64 (M / 18446744073709551616)) ∧ u.cell? ⟨w.heap.size, 1, none⟩ = some (.int .u64 (M % 18446744073709551616)) ∧ w.heap.size < u.heap.size := fun u h =>
            ⟨(h.box 0).read 0, (h.box 0).read 1, (h.box 0).inside⟩
          have K0 := held_drew fact H
          clear hx1 hs hR hz hh hq hy hY hC hps hbv hb hp0
          go_upto_region 10 with fail
          go_region_held3 (fun u => Has w [(w.heap.size, 82, #[.int .u64 (M / 18446744073709551616), .int .u64 (M % 18446744073709551616)])] u ∧ u.cell? ⟨w.heap.size, 0, none⟩ = some (.int .u64 (M / 18446744073709551616)) ∧ u.cell? ⟨w.heap.size, 1, none⟩ = some (.int .u64 (M % 18446744073709551616)) ∧ w.heap.size < u.heap.size)
            (first | with_reducible exact K0 | with_reducible exact held_keep fact (by assumption) (by assumption) | fail)
            (first
              | (go_at_call 60; refine (cP _).mono ?_; rintro e w5 ⟨rfl, b5⟩)
              | (go_at_call 59; refine (cC _).mono ?_; rintro e w6 ⟨rfl, b6⟩)
              | fail)
          have hh : ∃ Q, Has w [(w.heap.size, 82, #[.int .u64 (M / 18446744073709551616), .int .u64 (M % 18446744073709551616)])] w6 ∧ Q := ⟨_, by assumption⟩
          obtain ⟨Q, H6, -⟩ := hh
          clear K0 fact cP cC b5 b6
          by_cases hYM : Y ≤ M
          · have hd : decide (Y ≤ M) = true := decide_eq_true hYM
            rw [hd]
            clear hle hd
            go_wp2
            go_roundg b
            case measure => have := HG.out; omega
            case rel =>
              have hx1 := HX1.out
              have hy := HY.out
              have hb := HB.out
              refine ⟨b, y, by omega, rfl, rfl, by rw [HZ.out], by omega, by rw [HQ.out, h37]; omega, ?_, H6⟩
              rw [← HR.out, HS.out, if_pos hYM]
          · have hd : decide (Y ≤ M) = false := decide_eq_false hYM
            rw [hd]
            clear hle hd
            go_wp2
            go_roundg b
            case measure => have := HG.out; omega
            case rel =>
              have hx1 := HX1.out
              have hy := HY.out
              have hb := HB.out
              refine ⟨b, x, by omega, rfl, rfl, by rw [HZ.out], by omega, by rw [HQ.out, h37]; omega, ?_, H6⟩
              rw [← HR.out, HS.out, if_neg (by omega)]
end Go.Proofs.YtlceniljnejjeaaDoor
