/-
  Plain words on wide numbers: what a number without end leaves as High and the two halves of Low, where High stays at its greatest. No program is named here.
-/
import Derived.Test.YtngofpdpangajaaDoorU1Nums
namespace Go.Proofs.YtngofpdpangajaaDoor
set_option linter.unusedVariables false
set_option linter.unusedSimpArgs false
set_option maxRecDepth 10000

/-- The number of High and of Low's two halves. -/
def wv (H h l : Int) : Int := H * 340282366920938463463374607431768211456 + nv h l
/-- High's greatest. -/
def topH : Int := 18446744073709551615
/-- What is told of a sum: High, and Low as a number. -/
def wH (v : Int) : Int := if v / 340282366920938463463374607431768211456 < topH then v / 340282366920938463463374607431768211456 else topH
def wL (v : Int) : Int := v % 340282366920938463463374607431768211456
def wh (v : Int) : Int := wL v / 18446744073709551616
def wl (v : Int) : Int := wL v % 18446744073709551616

theorem wL_room (v : Int) : 0 ≤ wL v ∧ wL v < 340282366920938463463374607431768211456 := by unfold wL; omega
theorem wh_word (v : Int) : Word (wh v) := by have := wL_room v; unfold wh; exact ⟨by omega, by omega⟩
theorem wl_word (v : Int) : Word (wl v) := by unfold wl; exact ⟨by omega, by omega⟩
theorem wH_word {v : Int} (h : 0 ≤ v) : Word (wH v) := by
  unfold wH topH
  split
  · exact ⟨by omega, by omega⟩
  · exact ⟨by omega, by omega⟩
theorem nv_wl (v : Int) : nv (wh v) (wl v) = wL v := by have := wL_room v; unfold nv wh wl; omega
theorem wv_pos {H h l : Int} (a : Word H) (b : Word h) (c : Word l) : 0 ≤ wv H h l := by
  have := nv_word b c
  obtain ⟨_, _⟩ := a
  unfold wv; omega
/-- A wide number is what is told of it. -/
theorem wH_wv {H h l : Int} (a : Word H) (b : Word h) (c : Word l) : wH (wv H h l) = H := by
  have := nv_word b c
  obtain ⟨_, _⟩ := a
  unfold wH topH wv
  split <;> omega
theorem wL_wv {H h l : Int} (b : Word h) (c : Word l) : wL (wv H h l) = nv h l := by
  have := nv_word b c
  unfold wL wv; omega
theorem wh_wv {H h l : Int} (b : Word h) (c : Word l) : wh (wv H h l) = h := by
  unfold wh; rw [wL_wv b c]; obtain ⟨_, _⟩ := b; obtain ⟨_, _⟩ := c; unfold nv; omega
theorem wl_wv {H h l : Int} (b : Word h) (c : Word l) : wl (wv H h l) = l := by
  unfold wl; rw [wL_wv b c]; obtain ⟨_, _⟩ := b; obtain ⟨_, _⟩ := c; unfold nv; omega
/-- A number put to a wide one: with room in Low, and without. -/
theorem plus_room {H N a : Int} (hH : Word H) (hN : 0 ≤ N) (ha : 0 ≤ a) (h : N + a < 340282366920938463463374607431768211456) :
    wH (H * 340282366920938463463374607431768211456 + N + a) = H ∧ wL (H * 340282366920938463463374607431768211456 + N + a) = N + a := by
  obtain ⟨_, _⟩ := hH
  unfold wH wL topH
  constructor
  · split <;> omega
  · omega
theorem plus_carry {H N a : Int} (hH : Word H) (hN : N < 340282366920938463463374607431768211456) (ha : a < 340282366920938463463374607431768211456) (h : 340282366920938463463374607431768211456 ≤ N + a) :
    wH (H * 340282366920938463463374607431768211456 + N + a) = (if H < topH then H + 1 else topH) ∧ wL (H * 340282366920938463463374607431768211456 + N + a) = N + a - 340282366920938463463374607431768211456 := by
  obtain ⟨_, _⟩ := hH
  unfold wH wL topH
  constructor
  · split <;> split <;> omega
  · omega
/-- Two wide ones: Low's sum with its carry, then High's, that stays at its greatest. -/
theorem and_parts {H K N M : Int} (hH : Word H) (hK : Word K) (hN : 0 ≤ N ∧ N < 340282366920938463463374607431768211456) (hM : 0 ≤ M ∧ M < 340282366920938463463374607431768211456) :
    wL (H * 340282366920938463463374607431768211456 + N + (K * 340282366920938463463374607431768211456 + M)) = wL (H * 340282366920938463463374607431768211456 + N + M) ∧
    wH (H * 340282366920938463463374607431768211456 + N + (K * 340282366920938463463374607431768211456 + M)) =
      (if topH < H + K + (if N + M < 340282366920938463463374607431768211456 then 0 else 1) then topH else H + K + (if N + M < 340282366920938463463374607431768211456 then 0 else 1)) := by
  obtain ⟨_, _⟩ := hH; obtain ⟨_, _⟩ := hK; obtain ⟨_, _⟩ := hN; obtain ⟨_, _⟩ := hM
  unfold wH wL topH
  constructor
  · omega
  · split <;> split <;> split <;> omega
/-- Below High's end nothing is lost. -/
theorem wv_told {v : Int} (h0 : 0 ≤ v) (h : v / 340282366920938463463374607431768211456 ≤ topH) : wv (wH v) (wh v) (wl v) = v := by
  unfold wv
  rw [nv_wl]
  unfold wH wL topH at *
  split <;> omega
/-- They compare as High does, and where it is the same as Low does. -/
theorem wv_cmp {H h l K j m : Int} (b : Word h) (c : Word l) (b' : Word j) (c' : Word m) :
    cmpI (wv H h l) (wv K j m) = (if H < K then -1 else if K < H then 1 else cmpI (nv h l) (nv j m)) := by
  have h1 := nv_word b c
  have h2 := nv_word b' c'
  rcases Int.lt_trichotomy H K with h | h | h
  · rw [if_pos h]; exact cmpI_lt (by unfold wv; omega)
  · rw [if_neg (by omega), if_neg (by omega)]
    subst h
    unfold cmpI wv
    rcases Int.lt_trichotomy (nv h l) (nv j m) with g | g | g
    · rw [if_pos (by omega), if_pos g]
    · rw [if_neg (by omega), if_pos (by omega), if_neg (by omega), if_pos g]
    · rw [if_neg (by omega), if_neg (by omega), if_neg (by omega), if_neg (by omega)]
  · rw [if_neg (by omega), if_pos h]; exact cmpI_gt (by unfold wv; omega)
/-- Narrow: it has room just if High is 0. -/
theorem wv_narrow {H h l : Int} (a : Word H) (b : Word h) (c : Word l) : room (wv H h l) = decide (H = 0) := by
  have := nv_word b c
  obtain ⟨_, _⟩ := a
  rw [Bool.eq_iff_iff, room_iff, decide_eq_true_eq]
  unfold wv
  constructor <;> intro h <;> omega
end Go.Proofs.YtngofpdpangajaaDoor
