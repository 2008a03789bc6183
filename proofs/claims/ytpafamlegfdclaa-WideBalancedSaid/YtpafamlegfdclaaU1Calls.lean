/-
  What each plain call of package u128 tells (Of, Most, Add, Sub, Cmp), as a contract on the translated code: any halves below 2^64; old memory is as it was.
-/
import Derived.Test.YtpafamlegfdclaaRows
import Derived.Test.YtpafamlegfdclaaU1Nums
import Derived.WalkKit
import Derived.WalkSpells
import Derived.StillTactics
import Derived.Laws.Pointers
import Derived.Laws.Externs
import Derived.Shelf.Spec.BitsCarry
import Derived.RowKit3
import Derived.Outline
import Derived.BigQuiet
import Derived.Deep.QuietTactic
namespace Go.Proofs.Ytpafamlegfdclaa
set_option linter.unusedVariables false
set_option linter.unusedSimpArgs false
open Go.RowKit

theorem add64 (x y c : Int) (hx : 0 ≤ x) (hy : 0 ≤ y) (hc0 : 0 ≤ c) (hc : c ≤ 1) (w : World) : (callFunc 34 #[.int .u64 x, .int .u64 y, .int .u64 c]).run Try.prog w =
    .ok (.value (.tuple #[.int .u64 ((x + y + c) % 18446744073709551616), .int .u64 ((x + y + c) / 18446744073709551616)])) w := by
  rw [run_callFunc_extern Try.func34 (by kernel_rfl) (by kernel_rfl) (by kernel_rfl) (e := add64Entry) (by kernel_rfl), run_add64 x y c hx hy hc0 hc]
  rfl
theorem add64_0 (x y : Int) (hx : 0 ≤ x) (hy : 0 ≤ y) (w : World) : (callFunc 34 #[.int .u64 x, .int .u64 y, .int .u64 0]).run Try.prog w =
    .ok (.value (.tuple #[.int .u64 ((x + y) % 18446744073709551616), .int .u64 ((x + y) / 18446744073709551616)])) w := by
  simpa using add64 x y 0 hx hy (Int.le_refl 0) (by decide) w
theorem sub64 (x y b : Int) (hx : 0 ≤ x) (hy : 0 ≤ y) (hy' : y < 18446744073709551616) (hb0 : 0 ≤ b) (hb : b ≤ 1) (w : World) : (callFunc 41 #[.int .u64 x, .int .u64 y, .int .u64 b]).run Try.prog w =
    .ok (.value (.tuple #[.int .u64 ((x - y - b) % 18446744073709551616), .int .u64 (bor x (y + b))])) w := by
  obtain ⟨x, rfl⟩ := Int.eq_ofNat_of_zero_le hx
  obtain ⟨y, rfl⟩ := Int.eq_ofNat_of_zero_le hy
  obtain ⟨b, rfl⟩ := Int.eq_ofNat_of_zero_le hb0
  rw [run_callFunc_extern Try.func41 (by kernel_rfl) (by kernel_rfl) (by kernel_rfl) (e := sub64Entry) (by kernel_rfl), run_sub64 x y b (by omega)]
  have e1 : (((x + 18446744073709551616 - y - b) % 18446744073709551616 : Nat) : Int) = ((x : Int) - y - b) % 18446744073709551616 := by omega
  have e2 : ((if x < y + b then 1 else 0 : Nat) : Int) = bor x (y + b) := by unfold bor; split <;> split <;> omega
  rw [e1, e2]
  rfl
theorem sub64_0 (x y : Int) (hx : 0 ≤ x) (hy : 0 ≤ y) (hy' : y < 18446744073709551616) (w : World) : (callFunc 41 #[.int .u64 x, .int .u64 y, .int .u64 0]).run Try.prog w =
    .ok (.value (.tuple #[.int .u64 ((x - y) % 18446744073709551616), .int .u64 (bor x y)])) w := by
  simpa using sub64 x y 0 hx hy hy' (Int.le_refl 0) (by decide) w

/-- What a call tells that tells a number and an error. -/
def Fit (s : Int) (B : Nat) (w : World) (e : Ending) (w' : World) : Prop :=
  e = .returned (.tuple #[.agg #[.int .u64 (rh s), .int .u64 (rl s)], .int .i64 (re s)]) ∧ Below B w w'
/-- What a call tells that tells one value. -/
def Tells (v : Value) (B : Nat) (w : World) (e : Ending) (w' : World) : Prop := e = .returned v ∧ Below B w w'

theorem word_lit {x : Int} (h0 : 0 ≤ x := by decide) (h1 : x < 18446744073709551616 := by decide) : Word x := ⟨h0, h1⟩
/-- A number that has room has two halves. -/
theorem halves {s : Int} (h0 : 0 ≤ s) (h1 : s < 340282366920938463463374607431768211456) : ∃ h l : Int, Word h ∧ Word l ∧ nv h l = s :=
  ⟨rh s, rl s, rh_word s, rl_word s, nv_r (room_iff.2 ⟨h0, h1⟩)⟩
theorem Fit.yes {s h l : Int} {B : Nat} {w w' : World} {e : Ending} (hs : nv h l = s) (hh : Word h) (hl : Word l) (hf : Fit s B w e w') :
    e = .returned (.tuple #[.agg #[.int .u64 h, .int .u64 l], .int .i64 0]) ∧ Below B w w' := by
  subst hs
  obtain ⟨he, hb⟩ := hf
  exact ⟨by rw [he, rh_nv hh hl, rl_nv hh hl, re_nv hh hl], hb⟩
theorem Fit.no {s : Int} {B : Nat} {w w' : World} {e : Ending} (hs : room s = false) (hf : Fit s B w e w') :
    e = .returned (.tuple #[.agg #[.int .u64 0, .int .u64 0], .int .i64 10]) ∧ Below B w w' := by
  obtain ⟨he, hb⟩ := hf
  exact ⟨by rw [he, rh_no hs, rl_no hs, re_no hs], hb⟩
set_option maxHeartbeats 1000000 in
theorem add_any (ah al bh bl : Int) (a1 : Word ah) (a0 : Word al) (b1 : Word bh) (b0 : Word bl) (w : World) :
    Calls Try.prog 26 #[.agg #[.int .u64 ah, .int .u64 al], .agg #[.int .u64 bh, .int .u64 bl]] w (Fit (nv ah al + nv bh bl) w.heap.size w) := by
  have hp := add_parts a1 a0 b1 b0
  obtain ⟨a1, a2⟩ := a1; obtain ⟨a3, a4⟩ := a0; obtain ⟨b1, b2⟩ := b1; obtain ⟨b3, b4⟩ := b0
  have k0 : 0 ≤ (al + bl) / 18446744073709551616 := by omega
  have k1 : (al + bl) / 18446744073709551616 ≤ 1 := by omega
  rcases hp with ⟨h0, hr, h1, h2⟩ | ⟨h0, hr⟩
  · go_enter Try.func26, Try.ntmps26
    go_wp2_with (first | simp only [add64_0 al bl a3 b3] | simp only [add64 ah bh _ a1 b1 k0 k1])
    exact bodyPost_ret (v := .tuple #[.agg #[.int .u64 _, .int .u64 _], .int .i64 0]) (by simp [results, Try.results26, go_sem]; exact ⟨rfl, rfl⟩) rfl ⟨by rw [re_yes hr], by repeat (first | exact Below.refl _ _ | apply Below.drew | apply below_drewN | refine Below.alloc ?_ (by simp; try omega) _ | refine Below.setCell ?_ (by simp; try omega) _)⟩
  · go_enter Try.func26, Try.ntmps26
    go_wp2_with (first | simp only [add64_0 al bl a3 b3] | simp only [add64 ah bh _ a1 b1 k0 k1])
    exact bodyPost_ret (v := .tuple #[.agg #[.int .u64 0, .int .u64 0], .int .i64 10]) (by simp [results, Try.results26, go_sem]) rfl ⟨by rw [rh_no hr, rl_no hr, re_no hr], by repeat (first | exact Below.refl _ _ | apply Below.drew | apply below_drewN | refine Below.alloc ?_ (by simp; try omega) _ | refine Below.setCell ?_ (by simp; try omega) _)⟩

set_option maxHeartbeats 1000000 in
theorem sub_any (ah al bh bl : Int) (a1 : Word ah) (a0 : Word al) (b1 : Word bh) (b0 : Word bl) (w : World) :
    Calls Try.prog 27 #[.agg #[.int .u64 ah, .int .u64 al], .agg #[.int .u64 bh, .int .u64 bl]] w (Fit (nv ah al - nv bh bl) w.heap.size w) := by
  have hp := sub_parts a1 a0 b1 b0
  obtain ⟨a1, a2⟩ := a1; obtain ⟨a3, a4⟩ := a0; obtain ⟨b1, b2⟩ := b1; obtain ⟨b3, b4⟩ := b0
  obtain ⟨k0, k1⟩ := bor_01 al bl
  rcases hp with ⟨h0, hr, h1, h2⟩ | ⟨h0, hr⟩
  · go_enter Try.func27, Try.ntmps27
    go_wp2_with (first | simp only [sub64_0 al bl a3 b3 b4] | simp only [sub64 ah bh _ a1 b1 b2 k0 k1])
    exact bodyPost_ret (v := .tuple #[.agg #[.int .u64 _, .int .u64 _], .int .i64 0]) (by simp [results, Try.results27, go_sem]; exact ⟨rfl, rfl⟩) rfl ⟨by rw [re_yes hr], by repeat (first | exact Below.refl _ _ | apply Below.drew | apply below_drewN | refine Below.alloc ?_ (by simp; try omega) _ | refine Below.setCell ?_ (by simp; try omega) _)⟩
  · go_enter Try.func27, Try.ntmps27
    go_wp2_with (first | simp only [sub64_0 al bl a3 b3 b4] | simp only [sub64 ah bh _ a1 b1 b2 k0 k1])
    exact bodyPost_ret (v := .tuple #[.agg #[.int .u64 0, .int .u64 0], .int .i64 10]) (by simp [results, Try.results27, go_sem]) rfl ⟨by rw [rh_no hr, rl_no hr, re_no hr], by repeat (first | exact Below.refl _ _ | apply Below.drew | apply below_drewN | refine Below.alloc ?_ (by simp; try omega) _ | refine Below.setCell ?_ (by simp; try omega) _)⟩

theorem of_any (n : Int) (w : World) : Calls Try.prog 29 #[.int .u64 n] w (Tells (.agg #[.int .u64 0, .int .u64 n]) w.heap.size w) := by
  go_enter Try.func29, Try.ntmps29
  go_wp2
  exact bodyPost_ret (v := .agg #[.int .u64 0, .int .u64 n]) (by simp [results, Try.results29, go_sem]) rfl ⟨rfl, by repeat (first | exact Below.refl _ _ | apply Below.drew | apply below_drewN | refine Below.alloc ?_ (by simp; try omega) _ | refine Below.setCell ?_ (by simp; try omega) _)⟩

theorem most_any (w : World) : Calls Try.prog 28 #[] w (Tells (.agg #[.int .u64 18446744073709551615, .int .u64 18446744073709551615]) w.heap.size w) := by
  go_enter Try.func28, Try.ntmps28
  go_wp2
  exact bodyPost_ret (v := .agg #[.int .u64 18446744073709551615, .int .u64 18446744073709551615]) (by simp [results, Try.results28, go_sem]) rfl ⟨rfl, by repeat (first | exact Below.refl _ _ | apply Below.drew | apply below_drewN | refine Below.alloc ?_ (by simp; try omega) _ | refine Below.setCell ?_ (by simp; try omega) _)⟩

theorem rmost_any (w : World) : Calls Try.prog 32 #[] w (Tells (.agg #[.int .u64 18446744073709551615, .int .u64 18446744073709551615]) w.heap.size w) := by
  go_enter Try.func32, Try.ntmps32
  go_wp2
  exact bodyPost_ret (v := .agg #[.int .u64 18446744073709551615, .int .u64 18446744073709551615]) (by simp [results, Try.results32, go_sem]) rfl ⟨rfl, by repeat (first | exact Below.refl _ _ | apply Below.drew | apply below_drewN | refine Below.alloc ?_ (by simp; try omega) _ | refine Below.setCell ?_ (by simp; try omega) _)⟩

set_option maxHeartbeats 1000000 in
theorem cmp_any (ah al bh bl : Int) (a1 : Word ah) (a0 : Word al) (b1 : Word bh) (b0 : Word bl) (w : World) :
    Calls Try.prog 38 #[.agg #[.int .u64 ah, .int .u64 al], .agg #[.int .u64 bh, .int .u64 bl]] w (Tells (.int .i64 (cmpI (nv ah al) (nv bh bl))) w.heap.size w) := by
  obtain ⟨a1, a2⟩ := a1; obtain ⟨a3, a4⟩ := a0; obtain ⟨b1, b2⟩ := b1; obtain ⟨b3, b4⟩ := b0
  rcases Int.lt_trichotomy ah bh with h | h | h
  · have hn : ¬ (ah = bh) := by omega
    have hc : cmpI (nv ah al) (nv bh bl) = -1 := cmpI_lt (by unfold nv; omega)
    go_enter Try.func38, Try.ntmps38
    go_wp2
    all_goals exact bodyPost_ret (v := .int .i64 (-1)) (by simp [results, Try.results38, go_sem]) rfl ⟨by first | rfl | rw [hc], by repeat (first | exact Below.refl _ _ | apply Below.drew | apply below_drewN | refine Below.alloc ?_ (by simp; try omega) _ | refine Below.setCell ?_ (by simp; try omega) _)⟩
  · subst h
    rcases Int.lt_trichotomy al bl with h | h | h
    · have hn : ¬ (al = bl) := by omega
      have hc : cmpI (nv ah al) (nv ah bl) = -1 := cmpI_lt (by unfold nv; omega)
      go_enter Try.func38, Try.ntmps38
      go_wp2
      all_goals exact bodyPost_ret (v := .int .i64 (-1)) (by simp [results, Try.results38, go_sem]) rfl ⟨by first | rfl | rw [hc], by repeat (first | exact Below.refl _ _ | apply Below.drew | apply below_drewN | refine Below.alloc ?_ (by simp; try omega) _ | refine Below.setCell ?_ (by simp; try omega) _)⟩
    · subst h
      have hc := cmpI_eq (nv ah al)
      go_enter Try.func38, Try.ntmps38
      go_wp2
      all_goals exact bodyPost_ret (v := .int .i64 0) (by simp [results, Try.results38, go_sem]) rfl ⟨by first | rfl | rw [hc], by repeat (first | exact Below.refl _ _ | apply Below.drew | apply below_drewN | refine Below.alloc ?_ (by simp; try omega) _ | refine Below.setCell ?_ (by simp; try omega) _)⟩
    · have hn : ¬ (al = bl) := by omega
      have hn' : ¬ (al < bl) := by omega
      have hc : cmpI (nv ah al) (nv ah bl) = 1 := cmpI_gt (by unfold nv; omega)
      go_enter Try.func38, Try.ntmps38
      go_wp2
      all_goals exact bodyPost_ret (v := .int .i64 1) (by simp [results, Try.results38, go_sem]) rfl ⟨by first | rfl | rw [hc], by repeat (first | exact Below.refl _ _ | apply Below.drew | apply below_drewN | refine Below.alloc ?_ (by simp; try omega) _ | refine Below.setCell ?_ (by simp; try omega) _)⟩
  · have hn : ¬ (ah = bh) := by omega
    have hn' : ¬ (ah < bh) := by omega
    have hc : cmpI (nv ah al) (nv bh bl) = 1 := cmpI_gt (by unfold nv; omega)
    go_enter Try.func38, Try.ntmps38
    go_wp2
    all_goals exact bodyPost_ret (v := .int .i64 1) (by simp [results, Try.results38, go_sem]) rfl ⟨by first | rfl | rw [hc], by repeat (first | exact Below.refl _ _ | apply Below.drew | apply below_drewN | refine Below.alloc ?_ (by simp; try omega) _ | refine Below.setCell ?_ (by simp; try omega) _)⟩
end Go.Proofs.Ytpafamlegfdclaa
