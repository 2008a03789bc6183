/-
  u128.Bytes and From, walked: sixteen bytes, the greatest first.
-/
import Derived.Test.YtjndabnegmecmaaM1Num
import Derived.Test.YtjndabnegmecmaaW0Words
import Derived.LoopTactic
import Derived.Laws.BytesArg
import Derived.Deep.LoopGhost
import Derived.Deep.RegionHeld3
import Derived.Deep.DeepCutAuto
import Derived.Deep.CutRange
namespace Go.Proofs.Ytjndabnegmecmaa
set_option linter.unusedVariables false
set_option linter.unusedSimpArgs false
set_option maxRecDepth 10000
open Go.RowKit

/-- Byte i of a half, the greatest first. -/
def byteAt (h : Int) (i : Nat) : Int := h / 2 ^ (8 * (7 - i)) % 256
/-- The first k bytes have been put at place o. -/
def putTo (cs : Array Value) (o : Nat) (h : Int) : Nat → Array Value
  | 0 => cs
  | k + 1 => (putTo cs o h k).setIfInBounds (o + k) (.int .u8 (byteAt h k))
theorem putTo_size (cs : Array Value) (o : Nat) (h : Int) : ∀ k, (putTo cs o h k).size = cs.size
  | 0 => rfl
  | k + 1 => by simp [putTo, putTo_size cs o h k]

theorem grown_set {w wr : World} {g i : Nat} {u : Value} (hg : w.grownBy wr (some g)) : w.grownBy (wr.setCell ⟨g, i, none⟩ u) (some g) :=
  ⟨hg.os, hg.tape, hg.output, by simpa [World.setCell] using hg.size, fun k hk hne => (Below.heap_setCell wr ⟨g, i, none⟩ u k (fun e => hne (by rw [e]))).trans (hg.block k hk hne)⟩
theorem grown_below {w w' : World} {B g : Nat} (hg : w.grownBy w' (some g)) (h : B ≤ g) (hB : B ≤ w.heap.size) : Below B w w' :=
  ⟨hg.os, hg.tape, hg.output, hg.size, fun k hk => hg.block k (by omega) (fun e => by injection e with e; omega)⟩

/-- The bytes of a number of two halves. -/
def bytesOf (h l : Int) : List Int := (List.range 8).map (byteAt h) ++ (List.range 8).map (byteAt l)

abbrev nought16 : Array Value := #[.int .u8 0, .int .u8 0, .int .u8 0, .int .u8 0, .int .u8 0, .int .u8 0, .int .u8 0, .int .u8 0, .int .u8 0, .int .u8 0, .int .u8 0, .int .u8 0, .int .u8 0, .int .u8 0, .int .u8 0, .int .u8 0]
theorem putTo_get (cs : Array Value) (o : Nat) (h : Int) : ∀ (k i : Nat), o + k ≤ cs.size → (putTo cs o h k)[i]? = if o ≤ i ∧ i < o + k then some (.int .u8 (byteAt h (i - o))) else cs[i]?
  | 0, i, _ => by rw [if_neg (by omega)]; rfl
  | k + 1, i, hk => by
    rw [putTo, Array.getElem?_setIfInBounds, putTo_size, putTo_get cs o h k i (by omega)]
    by_cases e : o + k = i
    · subst e
      rw [if_pos rfl, if_pos (by omega), if_pos (by omega)]
      congr 3; omega
    · rw [if_neg e]
      by_cases h2 : o ≤ i ∧ i < o + k
      · rw [if_pos h2, if_pos (by omega)]
      · rw [if_neg h2, if_neg (by omega)]
theorem bytes_put (h l : Int) (i : Nat) (hi : i < 16) : (putTo (putTo nought16 0 h 8) 8 l 8)[i]? = some (.int .u8 ((bytesOf h l).getD i 0)) := by
  have s16 : nought16.size = 16 := rfl
  rw [putTo_get _ _ _ _ _ (by rw [putTo_size]; decide)]
  unfold bytesOf
  by_cases h8 : 8 ≤ i
  · rw [if_pos (by omega)]
    rw [List.getD_eq_getElem?_getD, List.getElem?_append_right (by simpa using h8)]
    simp only [List.length_map, List.length_range, List.getElem?_map]
    rw [List.getElem?_range (by omega)]
    rfl
  · rw [if_neg (by omega), putTo_get _ _ _ _ _ (by rw [s16]; omega), if_pos (by omega)]
    rw [List.getD_eq_getElem?_getD, List.getElem?_append_left (by simp; omega)]
    simp only [List.getElem?_map]
    rw [List.getElem?_range (by omega)]
    rfl
end Go.Proofs.Ytjndabnegmecmaa
