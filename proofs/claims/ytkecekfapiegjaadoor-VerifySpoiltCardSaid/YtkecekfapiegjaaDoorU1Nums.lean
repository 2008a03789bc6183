/-
  Plain arithmetic on numbers of two halves of 64 bits: what a number without end leaves as two halves and an error number. No program is named here.
-/
import Derived.Below
import Derived.Deep.Draws
import Derived.WalkKit
namespace Go.Proofs.YtkecekfapiegjaaDoor
set_option linter.unusedVariables false
set_option linter.unusedSimpArgs false
set_option maxRecDepth 10000
open Go.RowKit

theorem hideIt {p : Prop} (h : p) : Hid p := h
/-- A half. -/
def Word (x : Int) : Prop := 0 ≤ x ∧ x < 18446744073709551616
/-- The number of two halves. -/
def nv (h l : Int) : Int := h * 18446744073709551616 + l
/-- Has a number room in 128 bits? -/
def room (s : Int) : Bool := decide (0 ≤ s ∧ s < 340282366920938463463374607431768211456)
/-- The upper half of what is told of a number, the lower one, and the error's number. -/
def rh (s : Int) : Int := if room s then s / 18446744073709551616 else 0
def rl (s : Int) : Int := if room s then s % 18446744073709551616 else 0
def re (s : Int) : Int := if room s then 0 else 10
/-- How two numbers compare. -/
def cmpI (a b : Int) : Int := if a < b then -1 else if a = b then 0 else 1
/-- The borrow, behind a name. -/
def bor (x y : Int) : Int := if x < y then 1 else 0

theorem room_iff {s : Int} : room s = true ↔ 0 ≤ s ∧ s < 340282366920938463463374607431768211456 := by simp [room]
theorem room_not {s : Int} : room s = false ↔ ¬ (0 ≤ s ∧ s < 340282366920938463463374607431768211456) := by simp only [room, decide_eq_false_iff_not]
theorem rh_yes {s : Int} (h : room s = true) : rh s = s / 18446744073709551616 := by simp [rh, h]
theorem rl_yes {s : Int} (h : room s = true) : rl s = s % 18446744073709551616 := by simp [rl, h]
theorem re_yes {s : Int} (h : room s = true) : re s = 0 := by simp [re, h]
theorem rh_no {s : Int} (h : room s = false) : rh s = 0 := by simp [rh, h]
theorem rl_no {s : Int} (h : room s = false) : rl s = 0 := by simp [rl, h]
theorem re_no {s : Int} (h : room s = false) : re s = 10 := by simp [re, h]
theorem nv_word {h l : Int} (a : Word h) (b : Word l) : 0 ≤ nv h l ∧ nv h l < 340282366920938463463374607431768211456 := by
  obtain ⟨_, _⟩ := a; obtain ⟨_, _⟩ := b; unfold nv; omega
theorem rh_nv {h l : Int} (a : Word h) (b : Word l) : rh (nv h l) = h := by
  rw [rh_yes (room_iff.2 (nv_word a b))]; obtain ⟨_, _⟩ := a; obtain ⟨_, _⟩ := b; unfold nv; omega
theorem rl_nv {h l : Int} (a : Word h) (b : Word l) : rl (nv h l) = l := by
  rw [rl_yes (room_iff.2 (nv_word a b))]; obtain ⟨_, _⟩ := a; obtain ⟨_, _⟩ := b; unfold nv; omega
theorem re_nv {h l : Int} (a : Word h) (b : Word l) : re (nv h l) = 0 := re_yes (room_iff.2 (nv_word a b))
theorem rh_word (s : Int) : Word (rh s) := by
  cases h : room s
  · rw [rh_no h]; exact ⟨by omega, by omega⟩
  · rw [rh_yes h]; have := room_iff.1 h; exact ⟨by omega, by omega⟩
theorem rl_word (s : Int) : Word (rl s) := by
  cases h : room s
  · rw [rl_no h]; exact ⟨by omega, by omega⟩
  · rw [rl_yes h]; exact ⟨by omega, by omega⟩
theorem nv_r {s : Int} (h : room s = true) : nv (rh s) (rl s) = s := by
  rw [rh_yes h, rl_yes h]; unfold nv; omega
theorem bor_01 (x y : Int) : 0 ≤ bor x y ∧ bor x y ≤ 1 := by unfold bor; split <;> omega
theorem cmpI_lt {a b : Int} (h : a < b) : cmpI a b = -1 := by simp [cmpI, h]
theorem cmpI_eq (a : Int) : cmpI a a = 0 := by simp [cmpI]
theorem cmpI_gt {a b : Int} (h : b < a) : cmpI a b = 1 := by
  unfold cmpI; rw [if_neg (by omega), if_neg (by omega)]
theorem cmpI_bd (a b : Int) : -1 ≤ cmpI a b ∧ cmpI a b ≤ 1 := by unfold cmpI; split <;> (try split) <;> omega

/-- The sum's halves, as they are made: the lower ones first. -/
theorem add_parts {ah al bh bl : Int} (a1 : Word ah) (a0 : Word al) (b1 : Word bh) (b0 : Word bl) :
    ((ah + bh + (al + bl) / 18446744073709551616) / 18446744073709551616 = 0 ∧ room (nv ah al + nv bh bl) = true ∧
      (ah + bh + (al + bl) / 18446744073709551616) % 18446744073709551616 = rh (nv ah al + nv bh bl) ∧ (al + bl) % 18446744073709551616 = rl (nv ah al + nv bh bl)) ∨
    ((ah + bh + (al + bl) / 18446744073709551616) / 18446744073709551616 = 1 ∧ room (nv ah al + nv bh bl) = false) := by
  obtain ⟨_, _⟩ := a1; obtain ⟨_, _⟩ := a0; obtain ⟨_, _⟩ := b1; obtain ⟨_, _⟩ := b0
  cases h : room (nv ah al + nv bh bl)
  · right
    have := room_not.1 h
    unfold nv at this
    exact ⟨by omega, rfl⟩
  · left
    rw [rh_yes h, rl_yes h]
    have := room_iff.1 h
    unfold nv at this ⊢
    exact ⟨by omega, rfl, by omega, by omega⟩
/-- The difference's. -/
theorem sub_parts {ah al bh bl : Int} (a1 : Word ah) (a0 : Word al) (b1 : Word bh) (b0 : Word bl) :
    (bor ah (bh + bor al bl) = 0 ∧ room (nv ah al - nv bh bl) = true ∧
      (ah - bh - bor al bl) % 18446744073709551616 = rh (nv ah al - nv bh bl) ∧ (al - bl) % 18446744073709551616 = rl (nv ah al - nv bh bl)) ∨
    (bor ah (bh + bor al bl) = 1 ∧ room (nv ah al - nv bh bl) = false) := by
  obtain ⟨_, _⟩ := a1; obtain ⟨_, _⟩ := a0; obtain ⟨_, _⟩ := b1; obtain ⟨_, _⟩ := b0
  cases h : room (nv ah al - nv bh bl)
  · right
    have := room_not.1 h
    refine ⟨?_, rfl⟩
    unfold nv at this
    unfold bor
    split <;> split <;> omega
  · left
    rw [rh_yes h, rl_yes h]
    have := room_iff.1 h
    unfold nv at this ⊢
    unfold bor
    refine ⟨?_, rfl, ?_, ?_⟩
    · split <;> split <;> omega
    · split <;> omega
    · omega

theorem below_drewN {B : Nat} {a w : World} (h : Below B a w) (n : Nat) : Below B a (w.drewN n) := ⟨h.os, h.tape, h.output, h.size, h.block⟩
theorem drewN_two (w : World) (a b : Nat) : (w.drewN a).drewN b = w.drewN (a + b) := by simp [World.drewN, Nat.add_assoc]
/-- What a walk asks of a world behind a call that has made blocks: old cells, old marks. -/
theorem bcell {B : Nat} {W w1 : World} (hb : Below B W w1) : (∀ b o, b < B → w1.cell? ⟨b, o, none⟩ = W.cell? ⟨b, o, none⟩) ∧ (∀ b o, b < B → w1.frozen? ⟨b, o, none⟩ = W.frozen? ⟨b, o, none⟩) :=
  ⟨fun b o h => hb.cell (p := ⟨b, o, none⟩) h, fun b o h => hb.frozen (p := ⟨b, o, none⟩) h⟩
/-- What a call tells that tells a number and an error. -/
def Fit (s : Int) (B : Nat) (w : World) (e : Ending) (w' : World) : Prop :=
  e = .returned (.tuple #[.agg #[.int .u64 (rh s), .int .u64 (rl s)], .int .i64 (re s)]) ∧ Below B w w'
/-- What a call tells that tells one value. -/
def Tells (v : Value) (B : Nat) (w : World) (e : Ending) (w' : World) : Prop := e = .returned v ∧ Below B w w'
/-- What a call tells that tells one value, and turns nothing. -/
def Plain (v : Value) (w : World) (e : Ending) (w' : World) : Prop := e = .returned v ∧ w = w'

theorem word_lit {x : Int} (h0 : 0 ≤ x := by decide) (h1 : x < 18446744073709551616 := by decide) : Word x := ⟨h0, h1⟩
/-- A number that has room has two halves. -/
theorem halves {s : Int} (h0 : 0 ≤ s) (h1 : s < 340282366920938463463374607431768211456) : ∃ h l : Int, Word h ∧ Word l ∧ nv h l = s :=
  ⟨rh s, rl s, rh_word s, rl_word s, nv_r (room_iff.2 ⟨h0, h1⟩)⟩
theorem Fit.yes {s h l : Int} {B : Nat} {w w' : World} {e : Ending} (hs : nv h l = s) (hh : Word h) (hl : Word l) (hf : Fit s B w e w') :
    e = .returned (.tuple #[.agg #[.int .u64 h, .int .u64 l], .int .i64 0]) ∧ Below B w w' := by
  subst hs
  obtain ⟨he, hb⟩ := hf
  exact ⟨by rw [he, rh_nv hh hl, rl_nv hh hl, re_nv hh hl], hb⟩
theorem Fit.no {s : Int} {B : Nat} {w w' : World} {e : Ending} (hs : room s = false) (hf : Fit s B w e w') :
    e = .returned (.tuple #[.agg #[.int .u64 0, .int .u64 0], .int .i64 10]) ∧ Below B w w' := by
  obtain ⟨he, hb⟩ := hf
  exact ⟨by rw [he, rh_no hs, rl_no hs, re_no hs], hb⟩
end Go.Proofs.YtkecekfapiegjaaDoor
