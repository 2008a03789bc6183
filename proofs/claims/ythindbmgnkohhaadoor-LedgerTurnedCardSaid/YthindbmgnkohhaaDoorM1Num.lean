/- Several of my texts, laid as one. -/
import Derived.Test.YthindbmgnkohhaaDoorRows
import Derived.Test.YthindbmgnkohhaaDoorU1Nums
import Derived.WalkKit
import Derived.WalkSpells
import Derived.StillTactics
import Derived.Laws.Pointers
import Derived.Laws.Externs
import Derived.Shelf.Spec.BitsCarry
import Derived.RowKit3
import Derived.Outline
import Derived.BigQuiet
import Derived.Deep.QuietTactic
import Derived.Shelf.Bits.Mul64
import Derived.Shelf.Small.Bits
import Derived.KernelRfl
import Derived.LoopTactic
import Derived.Deep.CutRange
import Derived.Deep.CutBlock
import Derived.Deep.LoopGhost
import Derived.Laws.Bits64b
import Derived.RegionTactic
import Derived.ChangeAlike
/-
  What each plain call of package u128 tells (Of, Most, Add, Sub, Cmp), as a contract on the translated code: any halves below 2^64; old memory is as it was.
-/
namespace Go.Proofs.YthindbmgnkohhaaDoor
set_option linter.unusedVariables false
set_option linter.unusedSimpArgs false
set_option maxRecDepth 10000
open Go.RowKit

theorem add64 (x y c : Int) (hx : 0 ≤ x) (hy : 0 ≤ y) (hc0 : 0 ≤ c) (hc : c ≤ 1) (w : World) : (callFunc 88 #[.int .u64 x, .int .u64 y, .int .u64 c]).run Tryd.prog w =
    .ok (.value (.tuple #[.int .u64 ((x + y + c) % 18446744073709551616), .int .u64 ((x + y + c) / 18446744073709551616)])) w := by
  rw [run_callFunc_extern Tryd.func88 (by kernel_rfl) (by kernel_rfl) (by kernel_rfl) (e := add64Entry) (by kernel_rfl), run_add64 x y c hx hy hc0 hc]
  rfl
theorem add64_0 (x y : Int) (hx : 0 ≤ x) (hy : 0 ≤ y) (w : World) : (callFunc 88 #[.int .u64 x, .int .u64 y, .int .u64 0]).run Tryd.prog w =
    .ok (.value (.tuple #[.int .u64 ((x + y) % 18446744073709551616), .int .u64 ((x + y) / 18446744073709551616)])) w := by
  simpa using add64 x y 0 hx hy (Int.le_refl 0) (by decide) w
set_option maxHeartbeats 1000000 in
theorem add_any (ah al bh bl : Int) (a1 : Word ah) (a0 : Word al) (b1 : Word bh) (b0 : Word bl) (w : World) :
    Calls Tryd.prog 65 #[.agg #[.int .u64 ah, .int .u64 al], .agg #[.int .u64 bh, .int .u64 bl]] w (Fit (nv ah al + nv bh bl) w.heap.size w) := by
  have hp := add_parts a1 a0 b1 b0
  obtain ⟨a1, a2⟩ := a1; obtain ⟨a3, a4⟩ := a0; obtain ⟨b1, b2⟩ := b1; obtain ⟨b3, b4⟩ := b0
  have k0 : 0 ≤ (al + bl) / 18446744073709551616 := by omega
  have k1 : (al + bl) / 18446744073709551616 ≤ 1 := by omega
  rcases hp with ⟨h0, hr, h1, h2⟩ | ⟨h0, hr⟩
  · go_enter Tryd.func65, Tryd.ntmps65
    go_wp2_with (first | simp only [add64_0 al bl a3 b3] | simp only [add64 ah bh _ a1 b1 k0 k1])
    exact bodyPost_ret (v := .tuple #[.agg #[.int .u64 _, .int .u64 _], .int .i64 0]) (by simp [results, Tryd.results65, go_sem]; exact ⟨rfl, rfl⟩) rfl ⟨by rw [re_yes hr], by repeat (first | exact Below.refl _ _ | apply Below.drew | apply below_drewN | refine Below.alloc ?_ (by simp; try omega) _ | refine Below.setCell ?_ (by simp; try omega) _)⟩
  · go_enter Tryd.func65, Tryd.ntmps65
    go_wp2_with (first | simp only [add64_0 al bl a3 b3] | simp only [add64 ah bh _ a1 b1 k0 k1])
    exact bodyPost_ret (v := .tuple #[.agg #[.int .u64 0, .int .u64 0], .int .i64 10]) (by simp [results, Tryd.results65, go_sem]) rfl ⟨by rw [rh_no hr, rl_no hr, re_no hr], by repeat (first | exact Below.refl _ _ | apply Below.drew | apply below_drewN | refine Below.alloc ?_ (by simp; try omega) _ | refine Below.setCell ?_ (by simp; try omega) _)⟩

theorem of_any (n : Int) (w : World) : Calls Tryd.prog 31 #[.int .u64 n] w (Tells (.agg #[.int .u64 0, .int .u64 n]) w.heap.size w) := by
  go_enter Tryd.func31, Tryd.ntmps31
  go_wp2
  exact bodyPost_ret (v := .agg #[.int .u64 0, .int .u64 n]) (by simp [results, Tryd.results31, go_sem]) rfl ⟨rfl, by repeat (first | exact Below.refl _ _ | apply Below.drew | apply below_drewN | refine Below.alloc ?_ (by simp; try omega) _ | refine Below.setCell ?_ (by simp; try omega) _)⟩

end Go.Proofs.YthindbmgnkohhaaDoor
/-
  math/bits.Mul64 and math/bits.LeadingZeros64 at this translation, by the library's own contracts.
-/
namespace Go.Proofs.YthindbmgnkohhaaDoor
set_option linter.unusedVariables false
set_option linter.unusedSimpArgs false
set_option maxRecDepth 10000
open Go.RowKit Go.Shelf

def bitsRen : Go.Shelf.Ren := ⟨fun | 264 => 117 | 129 => 118 | 134 => 116 | n => n,
  fun | 3 => 3 | 4 => 4 | 5 => 5 | 9 => 9 | 46 => 147 | 53 => 33 | n => n, fun n => n⟩
theorem laysMul : Lays.n264 Tryd.prog bitsRen := {
  mixed := by kernel_rfl
  f264 := by kernel_rfl
  t46 := by kernel_rfl
  a46 := fun _ => by kernel_rfl
  z46 := fun _ => by kernel_rfl
  v46 := fun _ => by kernel_rfl
  t53 := by kernel_rfl
  a53 := fun _ => by kernel_rfl
  z53 := fun _ => by kernel_rfl
  v53 := fun _ => by kernel_rfl }
theorem laysLead : Lays.n134 Tryd.prog bitsRen := {
  mixed := by kernel_rfl
  f129 := by kernel_rfl
  f134 := by kernel_rfl
  t3 := by kernel_rfl
  a3 := fun _ => by kernel_rfl
  z3 := fun _ => by kernel_rfl
  v3 := fun _ => by kernel_rfl
  t4 := by kernel_rfl
  a4 := fun _ => by kernel_rfl
  z4 := fun _ => by kernel_rfl
  v4 := fun _ => by kernel_rfl
  t5 := by kernel_rfl
  a5 := fun _ => by kernel_rfl
  z5 := fun _ => by kernel_rfl
  v5 := fun _ => by kernel_rfl
  t9 := by kernel_rfl
  a9 := fun _ => by kernel_rfl
  z9 := fun _ => by kernel_rfl
  v9 := fun _ => by kernel_rfl
  t46 := by kernel_rfl
  a46 := fun _ => by kernel_rfl
  z46 := fun _ => by kernel_rfl
  v46 := fun _ => by kernel_rfl
  t53 := by kernel_rfl
  a53 := fun _ => by kernel_rfl
  z53 := fun _ => by kernel_rfl
  v53 := fun _ => by kernel_rfl }
/-- The product's halves, over Int. -/
theorem mul64_any (x y : Int) (hx : Word x) (hy : Word y) (w : World) :
    Calls Tryd.prog 117 #[.int .u64 x, .int .u64 y] w fun e w' => e = .returned (.tuple #[.int .u64 (x * y / 18446744073709551616), .int .u64 (x * y % 18446744073709551616)]) ∧ w = w' := by
  obtain ⟨hx, hx'⟩ := hx
  obtain ⟨hy, hy'⟩ := hy
  obtain ⟨x, rfl⟩ := Int.eq_ofNat_of_zero_le hx
  obtain ⟨y, rfl⟩ := Int.eq_ofNat_of_zero_le hy
  refine (Any.bits_Mul64 laysMul x y (by omega) (by omega) w).mono fun e w' ⟨he, hw⟩ => ⟨?_, hw.symm⟩
  rw [he]
  simp only [Int.natCast_ediv, Int.natCast_emod, Int.natCast_mul]
  rfl
theorem lead_any (x : Int) (h0 : 0 ≤ x) (h1 : x < 18446744073709551616) (w : World) :
    Calls Tryd.prog 116 #[.int .u64 x] w fun e w' => e = .returned (.int .i64 (64 - (Lib.bitLen x.toNat : Int))) ∧ w = w' :=
  (Any.bits_LeadingZeros64 laysLead x w h0 (by omega)).mono fun _ _ ⟨he, hw⟩ => ⟨he, hw.symm⟩
end Go.Proofs.YthindbmgnkohhaaDoor
/-
  u128.Times, as a contract on the translated code: any number, any factor below 2^64; old memory is as it was.
-/
namespace Go.Proofs.YthindbmgnkohhaaDoor
set_option linter.unusedVariables false
set_option linter.unusedSimpArgs false
set_option maxRecDepth 10000
open Go.RowKit

/-- The halves of a product, as they are made. -/
theorem times_parts {ah al n : Int} (a1 : Word ah) (a0 : Word al) (hn : Word n) :
    Word (al * n / 18446744073709551616) ∧ Word (ah * n / 18446744073709551616) ∧ ah * n / 18446744073709551616 + 1 < 18446744073709551616 ∧
    ((ah * n / 18446744073709551616 + (ah * n % 18446744073709551616 + al * n / 18446744073709551616) / 18446744073709551616 = 0 ∧ room (nv ah al * n) = true ∧
      (ah * n + al * n / 18446744073709551616) % 18446744073709551616 = rh (nv ah al * n) ∧ al * n % 18446744073709551616 = rl (nv ah al * n)) ∨
    (ah * n / 18446744073709551616 + (ah * n % 18446744073709551616 + al * n / 18446744073709551616) / 18446744073709551616 ≠ 0 ∧ room (nv ah al * n) = false)) := by
  obtain ⟨a1, a2⟩ := a1; obtain ⟨a3, a4⟩ := a0; obtain ⟨b1, b2⟩ := hn
  have e : nv ah al * n = ah * n * 18446744073709551616 + al * n := by
    unfold nv; rw [Int.add_mul, Int.mul_right_comm]
  rw [e]
  have p0 : 0 ≤ ah * n := Int.mul_nonneg a1 b1
  have p1 : 0 ≤ al * n := Int.mul_nonneg a3 b1
  have q0 : ah * n ≤ 18446744073709551615 * 18446744073709551615 := Int.mul_le_mul (by omega) (by omega) b1 (by omega)
  have q1 : al * n ≤ 18446744073709551615 * 18446744073709551615 := Int.mul_le_mul (by omega) (by omega) b1 (by omega)
  generalize ah * n = p at *
  generalize al * n = q at *
  refine ⟨⟨by omega, by omega⟩, ⟨by omega, by omega⟩, by omega, ?_⟩
  cases h : room (p * 18446744073709551616 + q)
  · right
    have := room_not.1 h
    exact ⟨by omega, rfl⟩
  · left
    rw [rh_yes h, rl_yes h]
    have := room_iff.1 h
    exact ⟨by omega, rfl, by omega, by omega⟩

theorem add64_00 (x : Int) (hx : 0 ≤ x) (hx' : x < 18446744073709551616) (w : World) : (callFunc 88 #[.int .u64 x, .int .u64 0, .int .u64 0]).run Tryd.prog w =
    .ok (.value (.tuple #[.int .u64 x, .int .u64 0])) w := by
  rw [add64_0 x 0 hx (Int.le_refl 0) w]
  have e1 : (x + 0) % 18446744073709551616 = x := by omega
  have e2 : (x + 0) / 18446744073709551616 = 0 := by omega
  rw [e1, e2]
set_option maxHeartbeats 2000000 in
theorem times_any (ah al n : Int) (a1 : Word ah) (a0 : Word al) (hn : Word n) (w : World) :
    Calls Tryd.prog 115 #[.agg #[.int .u64 ah, .int .u64 al], .int .u64 n] w (Fit (nv ah al * n) w.heap.size w) := by
  obtain ⟨⟨k0, k1⟩, ⟨k2, k3⟩, k4, hp⟩ := times_parts a1 a0 hn
  have b0 : 0 ≤ al * n % 18446744073709551616 := by omega
  have b0' : al * n % 18446744073709551616 < 18446744073709551616 := by omega
  have b1 : 0 ≤ ah * n % 18446744073709551616 := by omega
  have i0 : ∀ u : World, (Instr.index 163 (.agg #[.int .u64 al, .int .u64 ah]) (.int .i64 0)).run Tryd.prog u = .ok (.int .u64 al) u := fun _ => by kernel_rfl
  have i1 : ∀ u : World, (Instr.index 163 (.agg #[.int .u64 al, .int .u64 ah]) (.int .i64 1)).run Tryd.prog u = .ok (.int .u64 ah) u := fun _ => by kernel_rfl
  have H := hideIt hp
  clear hp
  go_enter Tryd.func115, Tryd.ntmps115
  go_wp2_with (fail)
  refine wp_loop_rounds 3 ?_
  rw [rounds_succ]
  go_wp2_with (first
    | (go_at_call 117; refine (mul64_any _ _ a0 hn _).mono ?_; rintro e w' ⟨rfl, rfl⟩)
    | simp only [add64_00 _ b0 b0'])
  rw [rounds_succ]
  go_wp2_with (first
    | (go_at_call 117; refine (mul64_any _ _ a1 hn _).mono ?_; rintro e w' ⟨rfl, rfl⟩)
    | simp only [add64_0 _ _ b1 k0])
  rw [rounds_succ]
  rcases H.out with ⟨h0, hr, h1, h2⟩ | ⟨h0, hr⟩
  · go_wp2
    exact bodyPost_ret (v := .tuple #[.agg #[.int .u64 _, .int .u64 _], .int .i64 0]) (by simp [results, Tryd.results115, go_sem]; exact ⟨rfl, rfl⟩) rfl ⟨by rw [re_yes hr], by repeat (first | exact Below.refl _ _ | apply Below.drew | apply below_drewN | refine Below.alloc ?_ (by simp; try omega) _ | refine Below.setCell ?_ (by simp; try omega) _)⟩
  · go_wp2
    exact bodyPost_ret (v := .tuple #[.agg #[.int .u64 0, .int .u64 0], .int .i64 10]) (by simp [results, Tryd.results115, go_sem]) rfl ⟨by rw [rh_no hr, rl_no hr, re_no hr], by repeat (first | exact Below.refl _ _ | apply Below.drew | apply below_drewN | refine Below.alloc ?_ (by simp; try omega) _ | refine Below.setCell ?_ (by simp; try omega) _)⟩
end Go.Proofs.YthindbmgnkohhaaDoor
/-
  The arithmetic of a long division by halves of 32 bits: one digit of the quotient, guessed and corrected. No program is named here.
-/
namespace Go.Proofs.YthindbmgnkohhaaDoor
set_option linter.unusedVariables false
set_option linter.unusedSimpArgs false
set_option maxRecDepth 10000

/-- What holds of two digits that are divided by two: U < Y, all are digits of base 2^32. -/
structure Dig (U l y1 y0 : Int) : Prop where
  u0 : 0 ≤ U
  uY : U < y1 * 4294967296 + y0
  l0 : 0 ≤ l
  l1 : l < 4294967296
  a0 : 2147483648 ≤ y1
  a1 : y1 < 4294967296
  b0 : 0 ≤ y0
  b1 : y0 < 4294967296

section
variable {U l y1 y0 q r : Int}
theorem dig_key (he : q * y1 + r = U) : q * (y1 * 4294967296 + y0) = U * 4294967296 + l - (4294967296 * r + l) + q * y0 := by
  have e : q * (y1 * 4294967296 + y0) = q * y1 * 4294967296 + q * y0 := by rw [Int.mul_add, Int.mul_assoc]
  rw [e]
  generalize q * y1 = p at *
  generalize q * y0 = z at *
  omega
/-- The first guess. -/
theorem dig_start (h : Dig U l y1 y0) : U / y1 * y1 + (U - U / y1 * y1) = U ∧ 0 ≤ U - U / y1 * y1 ∧ U - U / y1 * y1 < y1 ∧
    (U * 4294967296 + l) / (y1 * 4294967296 + y0) ≤ U / y1 ∧ 0 ≤ U / y1 ∧ U / y1 < 18446744073709551616 ∧ 0 ≤ U / y1 * y1 ∧ U / y1 * y1 ≤ U := by
  obtain ⟨u0, uY, l0, l1, a0, a1, b0, b1⟩ := h
  have hm := Int.emod_add_mul_ediv U y1
  have hc := Int.mul_comm y1 (U / y1)
  have m0 := Int.emod_nonneg U (show y1 ≠ 0 by omega)
  have m1 := Int.emod_lt_of_pos U (show 0 < y1 by omega)
  have q0 : 0 ≤ U / y1 := Int.ediv_nonneg u0 (by omega)
  have qU : U / y1 ≤ U := Int.ediv_le_self _ u0
  have hq : (U * 4294967296 + l) / (y1 * 4294967296 + y0) ≤ U / y1 := by
    rw [Int.le_ediv_iff_mul_le (by omega)]
    have h1 := Int.ediv_mul_le (U * 4294967296 + l) (show y1 * 4294967296 + y0 ≠ 0 by omega)
    have t0 : 0 ≤ (U * 4294967296 + l) / (y1 * 4294967296 + y0) := Int.ediv_nonneg (by omega) (by omega)
    generalize (U * 4294967296 + l) / (y1 * 4294967296 + y0) = t at *
    have e : t * (y1 * 4294967296 + y0) = t * y1 * 4294967296 + t * y0 := by rw [Int.mul_add, Int.mul_assoc]
    rw [e] at h1
    have z0 : 0 ≤ t * y0 := Int.mul_nonneg t0 b0
    generalize t * y1 = p at *
    generalize t * y0 = z at *
    omega
  have p0 : 0 ≤ U / y1 * y1 := Int.mul_nonneg q0 (by omega)
  rw [hc] at hm
  generalize U / y1 * y1 = p at *
  refine ⟨by omega, by omega, by omega, hq, q0, by omega, by omega, by omega⟩
/-- The guess was too great. -/
theorem dig_step (h : Dig U l y1 y0) (he : q * y1 + r = U) (hc : 4294967296 ≤ q ∨ 4294967296 * r + l < q * y0) :
    (U * 4294967296 + l) / (y1 * 4294967296 + y0) ≤ q - 1 ∧ (q - 1) * y1 + (r + y1) = U := by
  have hk := dig_key (l := l) (y0 := y0) he
  obtain ⟨u0, uY, l0, l1, a0, a1, b0, b1⟩ := h
  have hlt : (U * 4294967296 + l) / (y1 * 4294967296 + y0) < q := by
    rw [Int.ediv_lt_iff_lt_mul (by omega)]
    rcases hc with hc | hc
    · have h2 : 4294967296 * (y1 * 4294967296 + y0) ≤ q * (y1 * 4294967296 + y0) := Int.mul_le_mul_of_nonneg_right hc (by omega)
      generalize q * (y1 * 4294967296 + y0) = m at *
      omega
    · generalize q * (y1 * 4294967296 + y0) = m at *
      generalize q * y0 = z at *
      omega
  refine ⟨by omega, ?_⟩
  have e : (q - 1) * y1 = q * y1 - y1 := by rw [Int.sub_mul, Int.one_mul]
  rw [e]
  omega
/-- The guess is the digit. -/
theorem dig_done (h : Dig U l y1 y0) (he : q * y1 + r = U) (hq : (U * 4294967296 + l) / (y1 * 4294967296 + y0) ≤ q) (hc : q * y0 ≤ 4294967296 * r + l) :
    q = (U * 4294967296 + l) / (y1 * 4294967296 + y0) := by
  have hk := dig_key (l := l) (y0 := y0) he
  obtain ⟨u0, uY, l0, l1, a0, a1, b0, b1⟩ := h
  have : q ≤ (U * 4294967296 + l) / (y1 * 4294967296 + y0) := by
    rw [Int.le_ediv_iff_mul_le (by omega)]
    generalize q * (y1 * 4294967296 + y0) = m at *
    generalize q * y0 = z at *
    omega
  omega
/-- What is left has passed 2^32. -/
theorem dig_break (h : Dig U l y1 y0) (h0 : 0 ≤ q) (he : q * y1 + r = U) (hq : (U * 4294967296 + l) / (y1 * 4294967296 + y0) ≤ q) (hr : 4294967296 ≤ r) :
    q = (U * 4294967296 + l) / (y1 * 4294967296 + y0) := by
  refine dig_done h he hq ?_
  obtain ⟨u0, uY, l0, l1, a0, a1, b0, b1⟩ := h
  have hqb : q < 4294967296 := by
    rcases Int.lt_or_le q 4294967296 with h | h
    · exact h
    · have h2 : 4294967296 * y1 ≤ q * y1 := Int.mul_le_mul_of_nonneg_right h (by omega)
      generalize q * y1 = p at *
      omega
  have h3 : q * y0 ≤ 4294967296 * y0 := Int.mul_le_mul_of_nonneg_right (by omega) b0
  generalize q * y0 = z at *
  omega
/-- The digit is one; what is left is less than what was divided by. -/
theorem dig_rest (h : Dig U l y1 y0) : 0 ≤ (U * 4294967296 + l) / (y1 * 4294967296 + y0) ∧ (U * 4294967296 + l) / (y1 * 4294967296 + y0) < 4294967296 ∧
    0 ≤ U * 4294967296 + l - (U * 4294967296 + l) / (y1 * 4294967296 + y0) * (y1 * 4294967296 + y0) ∧
    U * 4294967296 + l - (U * 4294967296 + l) / (y1 * 4294967296 + y0) * (y1 * 4294967296 + y0) < y1 * 4294967296 + y0 := by
  obtain ⟨u0, uY, l0, l1, a0, a1, b0, b1⟩ := h
  have t0 : 0 ≤ (U * 4294967296 + l) / (y1 * 4294967296 + y0) := Int.ediv_nonneg (by omega) (by omega)
  have hlt : (U * 4294967296 + l) / (y1 * 4294967296 + y0) < 4294967296 := by
    rw [Int.ediv_lt_iff_lt_mul (by omega)]
    omega
  have hm := Int.emod_add_mul_ediv (U * 4294967296 + l) (y1 * 4294967296 + y0)
  have hc := Int.mul_comm (y1 * 4294967296 + y0) ((U * 4294967296 + l) / (y1 * 4294967296 + y0))
  have m0 := Int.emod_nonneg (U * 4294967296 + l) (show y1 * 4294967296 + y0 ≠ 0 by omega)
  have m1 := Int.emod_lt_of_pos (U * 4294967296 + l) (show 0 < y1 * 4294967296 + y0 by omega)
  rw [hc] at hm
  generalize (U * 4294967296 + l) / (y1 * 4294967296 + y0) * (y1 * 4294967296 + y0) = p at *
  exact ⟨t0, hlt, by omega, by omega⟩
end
end Go.Proofs.YthindbmgnkohhaaDoor
/-
  math/bits.Div64, walked: the quotient and the rest of a number of two halves, the upper one less than what it is divided by.
-/
namespace Go.Proofs.YthindbmgnkohhaaDoor
set_option linter.unusedVariables false
set_option linter.unusedSimpArgs false
set_option maxRecDepth 10000
open Go.RowKit

set_option maxHeartbeats 8000000 in
theorem div_core (hi lo y Y U L y1 y0 l1 l0 Q R Q0 S : Int) (h1 : Word hi) (h2 : Word lo) (h3 : Word y) (hlt : hi < y) (hp : 0 < hi) (s : Nat) (hs : s ≤ 63) (w : World)
    (hl : ∀ w, Calls Tryd.prog 116 #[.int .u64 y] w fun e w' => e = .returned (.int .i64 s) ∧ w = w')
    (d1 : Dig U l1 y1 y0) (d2 : Dig R l0 y1 y0)
    (eY : IntKind.u64.wrap (y * 2 ^ s) = Y) (eL : IntKind.u64.wrap (lo * 2 ^ s) = L) (eU : bits .or .u64 (IntKind.u64.wrap (hi * 2 ^ s)) (lo / 2 ^ (64 - s)) = U)
    (eY1 : Y / 4294967296 = y1) (eY0 : bits .and .u64 Y 4294967295 = y0) (eL1 : L / 4294967296 = l1) (eL0 : bits .and .u64 L 4294967295 = l0)
    (eQ : Hid (Q = (U * 4294967296 + l1) / (y1 * 4294967296 + y0))) (eQ0 : Hid (Q0 = (R * 4294967296 + l0) / (y1 * 4294967296 + y0)))
    (eR : IntKind.u64.wrap (IntKind.u64.wrap (IntKind.u64.wrap (U * 4294967296) + l1) - IntKind.u64.wrap (Q * Y)) = R)
    (eS : IntKind.u64.wrap (IntKind.u64.wrap (IntKind.u64.wrap (R * 4294967296) + l0) - IntKind.u64.wrap (Q0 * Y)) = S) (hS : 0 ≤ S) :
    Calls Tryd.prog 113 #[.int .u64 hi, .int .u64 lo, .int .u64 y] w (fun e w' => e = .returned (.tuple #[.int .u64 (Q * 4294967296 + Q0), .int .u64 (S / 2 ^ s)]) ∧ w' = w) := by
  obtain ⟨h1, h1'⟩ := h1
  obtain ⟨h2, h2'⟩ := h2
  obtain ⟨h3, h3'⟩ := h3
  have D1 := hideIt d1
  have D2 := hideIt d2
  obtain ⟨ds1, ds2, ds3, ds4, ds5, ds6, ds7, ds8⟩ := dig_start d1
  obtain ⟨es1, es2, es3, es4, es5, es6, es7, es8⟩ := dig_start d2
  have q0 := (dig_rest D1.out).1
  have q1 := (dig_rest D1.out).2.1
  have p0 := (dig_rest D2.out).1
  have p1 := (dig_rest D2.out).2.1
  rw [← eQ.out] at q0 q1 ds4
  rw [← eQ0.out] at p0 p1 es4
  obtain ⟨u0, uY, g0, g1, a0, a1, b0, b1⟩ := d1
  obtain ⟨v0, vY, k0, k1, -, -, -, -⟩ := d2
  have uM : U < 18446744073709551616 := by omega
  have vM : R < 18446744073709551616 := by omega
  have DS1 := hideIt ds1
  have ES1 := hideIt es1
  clear ds1 es1
  go_enter Tryd.func113, Tryd.ntmps113
  go_upto_block 0 with (go_at_call 116; refine (hl _).mono ?_; rintro e w' ⟨rfl, rfl⟩)
  go_cut [15] from 67 to 85 (fun q w' => q = .int .u64 Q ∧ w' = w)
  case first =>
    go_wp2_with fail
    go_loopg [15, 16] (4294967296 - (U - U / y1 * y1)).toNat (fun k qv rv wr => ∃ q r : Int, qv = .int .u64 q ∧ rv = .int .u64 r ∧ k = (4294967296 - r).toNat ∧ wr = w ∧ q * y1 + r = U ∧ 0 ≤ r ∧ r < 4294967296 ∧
      Q ≤ q ∧ q < 18446744073709551616)
    case atStart => exact ⟨_, _, rfl, rfl, rfl, rfl, DS1.out, ds2, by omega, ds4, ds6⟩
    case round =>
      obtain ⟨q, r, rfl, rfl, rfl, rfl, he, r0, r1, hq, q1'⟩ := hrel
      have q0' : 0 ≤ q := by omega
      have HE := hideIt he
      clear he
      by_cases c1 : 4294967296 ≤ q
      · obtain ⟨n1, n2⟩ := dig_step D1.out HE.out (.inl c1)
        have N2 := hideIt n2
        clear n2
        rw [← eQ.out] at n1
        by_cases c3 : 4294967296 ≤ r + y1
        · have F := hideIt (dig_break D1.out (by omega) N2.out (by rw [← eQ.out]; exact n1) c3)
          go_wp2
          go_meet
          exact ⟨by rw [F.out, eQ.out], rfl⟩
        · go_wp2
          go_roundg (4294967296 - (r + y1)).toNat
          case measure => omega
          case rel => exact ⟨_, _, rfl, rfl, rfl, rfl, N2.out, by omega, by omega, n1, by omega⟩
      · have z0 : 0 ≤ q * y0 := Int.mul_nonneg q0' b0
        have z1 : q * y0 ≤ 4294967295 * 4294967295 := Int.mul_le_mul (by omega) (by omega) b0 (by omega)
        by_cases c2 : 4294967296 * r + l1 < q * y0
        · obtain ⟨n1, n2⟩ := dig_step D1.out HE.out (.inr c2)
          have N2 := hideIt n2
          clear n2
          rw [← eQ.out] at n1
          by_cases c3 : 4294967296 ≤ r + y1
          · have F := hideIt (dig_break D1.out (by omega) N2.out (by rw [← eQ.out]; exact n1) c3)
            go_wp2
            go_meet
            exact ⟨by rw [F.out, eQ.out], rfl⟩
          · go_wp2
            go_roundg (4294967296 - (r + y1)).toNat
            case measure => omega
            case rel => exact ⟨_, _, rfl, rfl, rfl, rfl, N2.out, by omega, by omega, n1, by omega⟩
        · have F := hideIt (dig_done D1.out HE.out (by rw [← eQ.out]; exact hq) (by omega))
          go_wp2
          go_meet
          exact ⟨by rw [← eQ.out] at F; rw [F.out], rfl⟩
  case rest =>
    obtain ⟨rfl, rfl⟩ := hcut
    go_upto_block 2 with fail
    go_cut [18] from 102 to 120 (fun q w' => q = .int .u64 Q0 ∧ w' = wc)
    case first =>
      go_wp2_with fail
      go_loopg [18, 16] (4294967296 - (R - R / y1 * y1)).toNat (fun k qv rv wr => ∃ q r : Int, qv = .int .u64 q ∧ rv = .int .u64 r ∧ k = (4294967296 - r).toNat ∧ wr = wc ∧ q * y1 + r = R ∧ 0 ≤ r ∧ r < 4294967296 ∧
        Q0 ≤ q ∧ q < 18446744073709551616)
      case atStart => exact ⟨_, _, rfl, rfl, rfl, rfl, ES1.out, es2, by omega, es4, es6⟩
      case round =>
        obtain ⟨q, r, rfl, rfl, rfl, rfl, he, r0, r1, hq, q1'⟩ := hrel
        have q0' : 0 ≤ q := by omega
        have HE := hideIt he
        clear he
        by_cases c1 : 4294967296 ≤ q
        · obtain ⟨n1, n2⟩ := dig_step D2.out HE.out (.inl c1)
          have N2 := hideIt n2
          clear n2
          rw [← eQ0.out] at n1
          by_cases c3 : 4294967296 ≤ r + y1
          · have F := hideIt (dig_break D2.out (by omega) N2.out (by rw [← eQ0.out]; exact n1) c3)
            go_wp2
            go_meet
            exact ⟨by rw [F.out, eQ0.out], rfl⟩
          · go_wp2
            go_roundg (4294967296 - (r + y1)).toNat
            case measure => omega
            case rel => exact ⟨_, _, rfl, rfl, rfl, rfl, N2.out, by omega, by omega, n1, by omega⟩
        · have z0 : 0 ≤ q * y0 := Int.mul_nonneg q0' b0
          have z1 : q * y0 ≤ 4294967295 * 4294967295 := Int.mul_le_mul (by omega) (by omega) b0 (by omega)
          by_cases c2 : 4294967296 * r + l0 < q * y0
          · obtain ⟨n1, n2⟩ := dig_step D2.out HE.out (.inr c2)
            have N2 := hideIt n2
            clear n2
            rw [← eQ0.out] at n1
            by_cases c3 : 4294967296 ≤ r + y1
            · have F := hideIt (dig_break D2.out (by omega) N2.out (by rw [← eQ0.out]; exact n1) c3)
              go_wp2
              go_meet
              exact ⟨by rw [F.out, eQ0.out], rfl⟩
            · go_wp2
              go_roundg (4294967296 - (r + y1)).toNat
              case measure => omega
              case rel => exact ⟨_, _, rfl, rfl, rfl, rfl, N2.out, by omega, by omega, n1, by omega⟩
          · have F := hideIt (dig_done D2.out HE.out (by rw [← eQ0.out]; exact hq) (by omega))
            go_wp2
            go_meet
            exact ⟨by rw [← eQ0.out] at F; rw [F.out], rfl⟩
    case rest =>
      obtain ⟨rfl, rfl⟩ := hcut
      go_wp2
      go_ret2
      exact ⟨rfl, rfl⟩
end Go.Proofs.YthindbmgnkohhaaDoor
/-
  math/bits.Div64: for every upper half less than what it is divided by: the quotient and the rest, as numbers without end.
-/
namespace Go.Proofs.YthindbmgnkohhaaDoor
set_option linter.unusedVariables false
set_option linter.unusedSimpArgs false
set_option maxRecDepth 10000
open Go.RowKit

theorem bitLenAux_bounds : ∀ (f x : Nat), x < 2 ^ f → x ≠ 0 → 1 ≤ Lib.bitLenAux f x ∧ Lib.bitLenAux f x ≤ f ∧ 2 ^ (Lib.bitLenAux f x - 1) ≤ x ∧ x < 2 ^ Lib.bitLenAux f x
  | 0, x, h, h0 => by omega
  | f + 1, x, h, h0 => by
    simp only [Lib.bitLenAux, if_neg h0]
    by_cases h2 : x / 2 = 0
    · have e : Lib.bitLenAux f (x / 2) = 0 := by rw [h2]; cases f <;> simp [Lib.bitLenAux]
      rw [e]
      exact ⟨by omega, by omega, by simp; omega, by simp; omega⟩
    · obtain ⟨a, b, c, d⟩ := bitLenAux_bounds f (x / 2) (by rw [Nat.pow_succ] at h; omega) h2
      refine ⟨by omega, by omega, ?_, ?_⟩
      · have e : 1 + Lib.bitLenAux f (x / 2) - 1 = (Lib.bitLenAux f (x / 2) - 1) + 1 := by omega
        rw [e, Nat.pow_succ]; omega
      · rw [Nat.add_comm 1, Nat.pow_succ]; omega

/-- How far a number is moved so that its highest bit is the highest one of all. -/
theorem lead_shift {y : Nat} (h0 : y ≠ 0) (h1 : y < 18446744073709551616) : ∃ s : Nat, s ≤ 63 ∧ 64 - (Lib.bitLen y : Int) = s ∧ 9223372036854775808 ≤ y * 2 ^ s ∧ y * 2 ^ s < 18446744073709551616 := by
  obtain ⟨a, b, c, d⟩ := bitLenAux_bounds 64 y h1 h0
  refine ⟨64 - Lib.bitLen y, ?_, ?_, ?_, ?_⟩ <;> unfold Lib.bitLen <;> generalize Lib.bitLenAux 64 y = k at *
  · omega
  · omega
  · have e : (9223372036854775808 : Nat) = 2 ^ (k - 1) * 2 ^ (64 - k) := by
      rw [← Nat.pow_add, show k - 1 + (64 - k) = 63 by omega]
    rw [e]
    exact Nat.mul_le_mul_right _ c
  · have e : (18446744073709551616 : Nat) = 2 ^ k * 2 ^ (64 - k) := by
      rw [← Nat.pow_add, show k + (64 - k) = 64 by omega]
    rw [e]
    exact Nat.mul_lt_mul_of_pos_right d (Nat.pow_pos (by omega))

theorem mask32 (a : Int) (h0 : 0 ≤ a) (h1 : a < 18446744073709551616) : bits .and .u64 a 4294967295 = a % 4294967296 := by
  obtain ⟨n, rfl⟩ := Int.eq_ofNat_of_zero_le h0
  have h := bits_and_u64_nat n 4294967295 (by omega) (by omega)
  have e : n &&& 4294967295 = n % 4294967296 := Nat.and_two_pow_sub_one_eq_mod n 32
  rw [e] at h
  exact h

set_option maxHeartbeats 1000000 in
theorem div_shift {hi lo y s : Nat} (h2 : lo < 18446744073709551616) (hlt : hi < y) (hs : s ≤ 63) (m0 : 9223372036854775808 ≤ y * 2 ^ s) (m1 : y * 2 ^ s < 18446744073709551616) :
    ∃ U L : Nat, bits .or .u64 (IntKind.u64.wrap ((hi : Int) * 2 ^ s)) ((lo : Int) / 2 ^ (64 - s)) = U ∧ IntKind.u64.wrap ((lo : Int) * 2 ^ s) = L ∧ L < 18446744073709551616 ∧
      U < y * 2 ^ s ∧ U * 18446744073709551616 + L = (hi * 18446744073709551616 + lo) * 2 ^ s := by
  have eP : ((2 : Int) ^ s) = ((2 ^ s : Nat) : Int) := by simp
  have eT : ((2 : Int) ^ (64 - s)) = ((2 ^ (64 - s) : Nat) : Int) := by simp
  have ePT : 2 ^ s * 2 ^ (64 - s) = 18446744073709551616 := by rw [← Nat.pow_add, show s + (64 - s) = 64 by omega]
  have hP : 0 < 2 ^ s := Nat.pow_pos (by omega)
  have hT : 0 < 2 ^ (64 - s) := Nat.pow_pos (by omega)
  have hhi : hi * 2 ^ s + 2 ^ s ≤ y * 2 ^ s := by rw [← Nat.succ_mul]; exact Nat.mul_le_mul_right _ hlt
  have hloT : lo / 2 ^ (64 - s) < 2 ^ s := by rw [Nat.div_lt_iff_lt_mul hT, ePT]; exact h2
  have hdiv : lo * 2 ^ s / 18446744073709551616 = lo / 2 ^ (64 - s) := by
    rw [← ePT, Nat.mul_comm lo, Nat.mul_div_mul_left _ _ hP]
  have hor : hi * 2 ^ s ||| lo / 2 ^ (64 - s) = hi * 2 ^ s + lo / 2 ^ (64 - s) := by
    rw [Nat.mul_comm hi, ← Nat.two_pow_add_eq_or_of_lt hloT]
  have hU := bits_or_u64_nat (hi * 2 ^ s) (lo / 2 ^ (64 - s)) (by omega) (by omega)
  rw [hor] at hU
  have hm : lo * 2 ^ s = 18446744073709551616 * (lo / 2 ^ (64 - s)) + lo * 2 ^ s % 18446744073709551616 := by
    rw [← hdiv]; exact (Nat.div_add_mod _ _).symm
  refine ⟨hi * 2 ^ s + lo / 2 ^ (64 - s), lo * 2 ^ s % 18446744073709551616, ?_, ?_, Nat.mod_lt _ (by omega), by omega, ?_⟩
  · rw [eP, eT, ← Int.natCast_mul, ← Int.natCast_ediv, IntKind.wrap_u64]
    have e : ((hi * 2 ^ s : Nat) : Int) % 18446744073709551616 = ((hi * 2 ^ s : Nat) : Int) := by omega
    rw [e]
    exact hU
  · rw [eP, ← Int.natCast_mul, IntKind.wrap_u64]
    rfl
  · have e : (hi * 18446744073709551616 + lo) * 2 ^ s = hi * 2 ^ s * 18446744073709551616 + lo * 2 ^ s := by rw [Nat.add_mul, Nat.mul_right_comm]
    rw [e]
    generalize lo * 2 ^ s % 18446744073709551616 = L at *
    generalize lo / 2 ^ (64 - s) = d at *
    generalize lo * 2 ^ s = x at *
    generalize hi * 2 ^ s = h at *
    omega

theorem div_last {N y P U l1 l0 Q R Q0 S : Int} (hP : 0 < P) (hN : (U * 4294967296 + l1) * 4294967296 + l0 = N * P) (hR : R = U * 4294967296 + l1 - Q * (y * P)) (hS : S = R * 4294967296 + l0 - Q0 * (y * P))
    (s0 : 0 ≤ S) (s1 : S < y * P) : Q * 4294967296 + Q0 = N / y ∧ S / P = N % y := by
  have e : S = (N - (Q * 4294967296 + Q0) * y) * P := by
    rw [Int.sub_mul, ← hN, hS, hR, Int.mul_assoc (Q * 4294967296 + Q0), Int.add_mul (Q * 4294967296)]
    have e1 : Q * 4294967296 * (y * P) = Q * (y * P) * 4294967296 := Int.mul_right_comm _ _ _
    rw [e1]
    generalize Q * (y * P) = a
    generalize Q0 * (y * P) = b
    omega
  have d0 : 0 ≤ N - (Q * 4294967296 + Q0) * y := by
    rw [e] at s0
    exact Int.nonneg_of_mul_nonneg_left s0 hP
  have d1 : N - (Q * 4294967296 + Q0) * y < y := by
    rw [e] at s1
    exact Int.lt_of_mul_lt_mul_right s1 (Int.le_of_lt hP)
  have hy : 0 < y := by omega
  have e2 : N = (N - (Q * 4294967296 + Q0) * y) + y * (Q * 4294967296 + Q0) := by rw [Int.mul_comm y]; omega
  have q : N / y = Q * 4294967296 + Q0 := by
    rw [e2, Int.add_mul_ediv_left _ _ (by omega), Int.ediv_eq_zero_of_lt d0 d1]; omega
  have r : N % y = N - (Q * 4294967296 + Q0) * y := by
    have := Int.emod_add_mul_ediv N y
    rw [q, Int.mul_comm y] at this
    omega
  refine ⟨q.symm, ?_⟩
  rw [r, e, Int.mul_ediv_cancel _ (by omega)]

set_option maxHeartbeats 1000000 in
theorem div_big (hi lo y : Int) (h1 : Word hi) (h2 : Word lo) (h3 : Word y) (hlt : hi < y) (hp : 0 < hi) (w : World) :
    Calls Tryd.prog 113 #[.int .u64 hi, .int .u64 lo, .int .u64 y] w (fun e w' => e = .returned (.tuple #[.int .u64 (nv hi lo / y), .int .u64 (nv hi lo % y)]) ∧ w' = w) := by
  have g1 := h1
  have g2 := h2
  have g3 := h3
  obtain ⟨h1, h1'⟩ := h1
  obtain ⟨h2, h2'⟩ := h2
  obtain ⟨h3, h3'⟩ := h3
  obtain ⟨hi, rfl⟩ := Int.eq_ofNat_of_zero_le h1
  obtain ⟨lo, rfl⟩ := Int.eq_ofNat_of_zero_le h2
  obtain ⟨y, rfl⟩ := Int.eq_ofNat_of_zero_le h3
  obtain ⟨s, hs, hs', m0, m1⟩ := lead_shift (y := y) (by omega) (by omega)
  obtain ⟨U, L, eU, eL, hL, hU, hN⟩ := div_shift (hi := hi) (lo := lo) (y := y) (s := s) (by omega) (by omega) hs m0 m1
  have hl : ∀ w, Calls Tryd.prog 116 #[.int .u64 (y : Int)] w fun e w' => e = .returned (.int .i64 s) ∧ w = w' := fun w => by
    refine (lead_any y (by omega) (by omega) w).mono ?_
    rintro e w' ⟨rfl, rfl⟩
    exact ⟨by rw [Int.toNat_natCast, hs'], rfl⟩
  have eY : IntKind.u64.wrap ((y : Int) * 2 ^ s) = ((y * 2 ^ s : Nat) : Int) := by
    rw [show ((2 : Int) ^ s) = ((2 ^ s : Nat) : Int) by simp, ← Int.natCast_mul, IntKind.wrap_u64]; omega
  have hP : 0 < 2 ^ s := Nat.pow_pos (by omega)
  have hyP : ((y * 2 ^ s : Nat) : Int) = (y : Int) * ((2 ^ s : Nat) : Int) := Int.natCast_mul _ _
  have hN' : (U : Int) * 18446744073709551616 + L = nv hi lo * ((2 ^ s : Nat) : Int) := by
    unfold nv
    have := congrArg (fun n : Nat => (n : Int)) hN
    simp only [Int.natCast_add, Int.natCast_mul] at this
    exact this
  obtain ⟨Y, hY⟩ : ∃ Y : Nat, y * 2 ^ s = Y := ⟨_, rfl⟩
  rw [hY] at eY m0 m1 hU hyP
  have dY : (Y : Int) = (Y : Int) / 4294967296 * 4294967296 + (Y : Int) % 4294967296 := by omega
  have d1 : Dig U ((L : Int) / 4294967296) ((Y : Int) / 4294967296) ((Y : Int) % 4294967296) := ⟨by omega, by omega, by omega, by omega, by omega, by omega, by omega, by omega⟩
  obtain ⟨q0, q1, r0, r1⟩ := dig_rest d1
  rw [← dY] at q0 q1 r0 r1
  obtain ⟨Q, hQ⟩ : ∃ Q : Int, Q = ((U : Int) * 4294967296 + (L : Int) / 4294967296) / Y := ⟨_, rfl⟩
  rw [← hQ] at q0 q1 r0 r1
  obtain ⟨R, hR⟩ : ∃ R : Int, R = (U : Int) * 4294967296 + (L : Int) / 4294967296 - Q * Y := ⟨_, rfl⟩
  rw [← hR] at r0 r1
  have d2 : Dig R ((L : Int) % 4294967296) ((Y : Int) / 4294967296) ((Y : Int) % 4294967296) := ⟨by omega, by omega, by omega, by omega, by omega, by omega, by omega, by omega⟩
  obtain ⟨p0, p1, s0, s1⟩ := dig_rest d2
  rw [← dY] at p0 p1 s0 s1
  obtain ⟨Q0, hQ0⟩ : ∃ Q : Int, Q = (R * 4294967296 + (L : Int) % 4294967296) / Y := ⟨_, rfl⟩
  rw [← hQ0] at p0 p1 s0 s1
  obtain ⟨S, hS⟩ : ∃ S : Int, S = R * 4294967296 + (L : Int) % 4294967296 - Q0 * Y := ⟨_, rfl⟩
  rw [← hS] at s0 s1
  have fin := div_last (N := nv hi lo) (y := y) (P := ((2 ^ s : Nat) : Int)) (U := U) (l1 := (L : Int) / 4294967296) (l0 := (L : Int) % 4294967296) (Q := Q) (R := R) (Q0 := Q0) (S := S) (by omega) (by rw [← hN']; omega)
    (by rw [← hyP]; exact hR) (by rw [← hyP]; exact hS) s0 (by rw [← hyP]; exact s1)
  have eR : IntKind.u64.wrap (IntKind.u64.wrap (IntKind.u64.wrap ((U : Int) * 4294967296) + (L : Int) / 4294967296) - IntKind.u64.wrap (Q * Y)) = R := by
    simp only [IntKind.wrap_u64]
    generalize Q * (Y : Int) = z at *
    omega
  have eS : IntKind.u64.wrap (IntKind.u64.wrap (IntKind.u64.wrap (R * 4294967296) + (L : Int) % 4294967296) - IntKind.u64.wrap (Q0 * Y)) = S := by
    simp only [IntKind.wrap_u64]
    generalize Q0 * (Y : Int) = z at *
    omega
  refine (div_core hi lo y Y U L _ _ _ _ Q R Q0 S g1 g2 g3 hlt hp s hs w hl d1 d2 eY eL eU rfl (mask32 _ (by omega) (by omega)) rfl (mask32 _ (by omega) (by omega)) (by rw [← dY]; exact hQ) (by rw [← dY]; exact hQ0) eR eS s0).mono ?_
  rintro e w' ⟨rfl, rfl⟩
  refine ⟨?_, rfl⟩
  rw [fin.1]
  have e2 := fin.2
  simp only [Int.natCast_pow] at e2
  rw [← e2]
  rfl

set_option maxHeartbeats 1000000 in
theorem div_small (lo y : Int) (h2 : Word lo) (h3 : Word y) (hy : 0 < y) (w : World) :
    Calls Tryd.prog 113 #[.int .u64 0, .int .u64 lo, .int .u64 y] w (fun e w' => e = .returned (.tuple #[.int .u64 (lo / y), .int .u64 (lo % y)]) ∧ ∃ n, w' = w.drewN n) := by
  obtain ⟨h2, h2'⟩ := h2
  obtain ⟨h3, h3'⟩ := h3
  go_enter Tryd.func113, Tryd.ntmps113
  go_wp2
  go_quiet (fail)
  go_wp2
  go_ret2
  exact ⟨rfl, _, rfl⟩

theorem div_any (hi lo y : Int) (h1 : Word hi) (h2 : Word lo) (h3 : Word y) (hlt : hi < y) (w : World) :
    Calls Tryd.prog 113 #[.int .u64 hi, .int .u64 lo, .int .u64 y] w (fun e w' => e = .returned (.tuple #[.int .u64 (nv hi lo / y), .int .u64 (nv hi lo % y)]) ∧ ∃ n, w' = w.drewN n) := by
  by_cases hp : 0 < hi
  · exact (div_big hi lo y h1 h2 h3 hlt hp w).mono fun e w' ⟨he, hw⟩ => ⟨he, 0, hw⟩
  · have e : hi = 0 := by have := h1.1; omega
    subst e
    have e2 : nv 0 lo = lo := by unfold nv; omega
    rw [e2]
    exact div_small lo y h2 h3 hlt w
end Go.Proofs.YthindbmgnkohhaaDoor
/-
  u128.Over, as a contract on the translated code: any number, any other one below 2^64; old memory is as it was.
-/
namespace Go.Proofs.YthindbmgnkohhaaDoor
set_option linter.unusedVariables false
set_option linter.unusedSimpArgs false
set_option maxRecDepth 10000
open Go.RowKit

/-- What is left, and the error's number. -/
def orest (N n : Int) : Int := if n = 0 then 0 else N % n
def oerr (n : Int) : Int := if n = 0 then 2 else 0
def OverTells (N n : Int) (B : Nat) (w : World) (e : Ending) (w' : World) : Prop :=
  e = .returned (.tuple #[.agg #[.int .u64 (rh (N / n)), .int .u64 (rl (N / n))], .int .u64 (orest N n), .int .i64 (oerr n)]) ∧ Below B w w'

theorem over_parts {ah al n : Int} (a1 : Word ah) (a0 : Word al) (hn : Word n) (h0 : n ≠ 0) :
    Word (ah / n) ∧ Word (ah % n) ∧ ah % n < n ∧ rh (nv ah al / n) = ah / n ∧ rl (nv ah al / n) = nv (ah % n) al / n ∧ orest (nv ah al) n = nv (ah % n) al % n := by
  obtain ⟨a1, a2⟩ := a1; obtain ⟨a3, a4⟩ := a0; obtain ⟨b1, b2⟩ := hn
  have hp : 0 < n := by omega
  have m0 := Int.emod_nonneg ah (show n ≠ 0 by omega)
  have m1 := Int.emod_lt_of_pos ah hp
  have q0 : 0 ≤ ah / n := Int.ediv_nonneg a1 b1
  have qa : ah / n ≤ ah := Int.ediv_le_self _ a1
  have hm := Int.emod_add_mul_ediv ah n
  have e : nv ah al = nv (ah % n) al + n * (ah / n * 18446744073709551616) := by
    unfold nv
    rw [← Int.mul_assoc]
    generalize n * (ah / n) = p at *
    omega
  have w0 : 0 ≤ nv (ah % n) al := by unfold nv; omega
  have e1 : nv ah al / n = ah / n * 18446744073709551616 + nv (ah % n) al / n := by
    rw [e, Int.add_mul_ediv_left _ _ h0]; omega
  have e2 : nv ah al % n = nv (ah % n) al % n := by
    rw [e, Int.add_mul_emod_self_left]
  have l0 : 0 ≤ nv (ah % n) al / n := Int.ediv_nonneg w0 b1
  have l1 : nv (ah % n) al / n < 18446744073709551616 := by
    rw [Int.ediv_lt_iff_lt_mul hp]
    unfold nv; omega
  have hr : room (nv ah al / n) = true := by rw [room_iff, e1]; omega
  refine ⟨⟨q0, by omega⟩, ⟨m0, by omega⟩, m1, ?_, ?_, ?_⟩
  · rw [rh_yes hr, e1]; omega
  · rw [rl_yes hr, e1]; omega
  · unfold orest; rw [if_neg h0, e2]

set_option maxHeartbeats 2000000 in
theorem over_any (ah al n : Int) (a1 : Word ah) (a0 : Word al) (hn : Word n) (w : World) :
    Calls Tryd.prog 105 #[.agg #[.int .u64 ah, .int .u64 al], .int .u64 n] w (OverTells (nv ah al) n w.heap.size w) := by
  by_cases h0 : n = 0
  · subst h0
    go_enter Tryd.func105, Tryd.ntmps105
    go_wp2
    exact bodyPost_ret (v := .tuple #[.agg #[.int .u64 0, .int .u64 0], .int .u64 0, .int .i64 2]) (by simp [results, Tryd.results105, go_sem]) rfl ⟨by simp [orest, oerr, rh, rl, room], by repeat (first | exact Below.refl _ _ | apply Below.drew | apply below_drewN | refine Below.alloc ?_ (by simp; try omega) _ | refine Below.setCell ?_ (by simp; try omega) _)⟩
  · obtain ⟨k1, k2, k3, k4, k5, k6⟩ := over_parts a1 a0 hn h0
    have P4 := hideIt k4
    have P5 := hideIt k5
    have P6 := hideIt k6
    clear k4 k5 k6
    have g1 := k1
    obtain ⟨g1, g1'⟩ := g1
    have g2 := k2
    obtain ⟨g2, g2'⟩ := g2
    have g3 := hn
    obtain ⟨g3, g3'⟩ := g3
    have g4 := a1
    obtain ⟨g4, g4'⟩ := g4
    have g5 : 0 < n := by omega
    go_enter Tryd.func105, Tryd.ntmps105
    go_wp2
    go_region
    go_wp2_with (go_at_call 113; refine (div_any _ _ _ k2 a0 hn k3 _).mono ?_; rintro e w' ⟨rfl, n', rfl⟩)
    exact bodyPost_ret (v := .tuple #[.agg #[.int .u64 (ah / n), .int .u64 (nv (ah % n) al / n)], .int .u64 (nv (ah % n) al % n), .int .i64 0]) (by simp [results, Tryd.results105, go_sem]) rfl
      ⟨by rw [P4.out, P5.out, P6.out, oerr, if_neg h0], by repeat (first | exact Below.refl _ _ | apply Below.drew | apply below_drewN | refine Below.alloc ?_ (by simp; try omega) _ | refine Below.setCell ?_ (by simp; try omega) _)⟩
theorem over_yes {A n : Int} {h l r : Int} {B : Nat} {w w' : World} {e : Ending} (h0 : n ≠ 0) (hs : nv h l = A / n) (hr : A % n = r) (hh : Word h) (hl : Word l) (hf : OverTells A n B w e w') :
    e = .returned (.tuple #[.agg #[.int .u64 h, .int .u64 l], .int .u64 r, .int .i64 0]) ∧ Below B w w' := by
  obtain ⟨he, hb⟩ := hf
  refine ⟨?_, hb⟩
  rw [he, ← hs, rh_nv hh hl, rl_nv hh hl, orest, if_neg h0, hr, oerr, if_neg h0]
end Go.Proofs.YthindbmgnkohhaaDoor
