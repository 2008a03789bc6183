/-
  u128.Bytes and From, walked: sixteen bytes, the greatest first.
-/
import Derived.Test.YtkecekfapiegjaaDoorM1Num
import Derived.Test.YtkecekfapiegjaaDoorM0Wrd
import Derived.LoopTactic
import Derived.Laws.BytesArg
import Derived.Deep.LoopGhost
import Derived.Deep.RegionHeld3
import Derived.Deep.DeepCutAuto
import Derived.Deep.CutRange
namespace Go.Proofs.YtkecekfapiegjaaDoor
set_option linter.unusedVariables false
set_option linter.unusedSimpArgs false
set_option maxRecDepth 10000
open Go.RowKit

/-- Byte i of a half, the greatest first. -/
def byteAt (h : Int) (i : Nat) : Int := h / 2 ^ (8 * (7 - i)) % 256
/-- The first k bytes have been put at place o. -/
def putTo (cs : Array Value) (o : Nat) (h : Int) : Nat → Array Value
  | 0 => cs
  | k + 1 => (putTo cs o h k).setIfInBounds (o + k) (.int .u8 (byteAt h k))
theorem putTo_size (cs : Array Value) (o : Nat) (h : Int) : ∀ k, (putTo cs o h k).size = cs.size
  | 0 => rfl
  | k + 1 => by simp [putTo, putTo_size cs o h k]

theorem grown_set {w wr : World} {g i : Nat} {u : Value} (hg : w.grownBy wr (some g)) : w.grownBy (wr.setCell ⟨g, i, none⟩ u) (some g) :=
  ⟨hg.os, hg.tape, hg.output, by simpa [World.setCell] using hg.size, fun k hk hne => (Below.heap_setCell wr ⟨g, i, none⟩ u k (fun e => hne (by rw [e]))).trans (hg.block k hk hne)⟩
theorem grown_below {w w' : World} {B g : Nat} (hg : w.grownBy w' (some g)) (h : B ≤ g) (hB : B ≤ w.heap.size) : Below B w w' :=
  ⟨hg.os, hg.tape, hg.output, hg.size, fun k hk => hg.block k (by omega) (fun e => by injection e with e; omega)⟩

set_option maxHeartbeats 2000000 in
theorem put_any (t : TypeId) (g o c : Nat) (h : Int) (hh : Word h) (cs : Array Value) (hs : o + 8 ≤ cs.size) (w : World) (hb : Box w g t cs) :
    Calls Tryd.prog 93 #[.slice (some ⟨g, o, none⟩) 8 c, .int .u64 h] w fun e w' => e = .returned (.tuple #[]) ∧ Box w' g t (putTo cs o h 8) ∧ w.grownBy w' (some g) := by
  obtain ⟨h0, h1⟩ := hh
  go_enter Tryd.func93, Tryd.ntmps93
  go_wp2
  go_loopg [7] 8 (fun gk i wr => ∃ k : Nat, k ≤ 8 ∧ gk = 8 - k ∧ i = .int .i64 k ∧ Box wr g t (putTo cs o h k) ∧ w.grownBy wr (some g))
  case atStart => exact ⟨0, by omega, rfl, rfl, hb, World.grownBy.refl _ _⟩
  case round =>
    obtain ⟨k, hk, rfl, rfl, hbx, hg⟩ := hrel
    by_cases hlt : k < 8
    · have hsz := putTo_size cs o h k
      obtain ⟨u, hu⟩ : ∃ u, (putTo cs o h k)[o + k]? = some u := ⟨_, Array.getElem?_eq_getElem (by omega)⟩
      have hc : wr.cell? ⟨g, o + k, none⟩ = some u := by rw [hbx.read, hu]
      have hf := hbx.free (o + k)
      clear hu
      go_wp2
      go_roundg (8 - (k + 1))
      case measure => omega
      case rel => exact ⟨k + 1, by omega, rfl, by go_num, hbx.wrote (o + k) _, grown_set hg⟩
    · have e : k = 8 := by omega
      subst e
      go_wp2
      go_end0
      exact ⟨rfl, hbx, hg⟩

/-- The bytes of a number of two halves. -/
def bytesOf (h l : Int) : List Int := (List.range 8).map (byteAt h) ++ (List.range 8).map (byteAt l)

abbrev nought16 : Array Value := #[.int .u8 0, .int .u8 0, .int .u8 0, .int .u8 0, .int .u8 0, .int .u8 0, .int .u8 0, .int .u8 0, .int .u8 0, .int .u8 0, .int .u8 0, .int .u8 0, .int .u8 0, .int .u8 0, .int .u8 0, .int .u8 0]
theorem putTo_get (cs : Array Value) (o : Nat) (h : Int) : ∀ (k i : Nat), o + k ≤ cs.size → (putTo cs o h k)[i]? = if o ≤ i ∧ i < o + k then some (.int .u8 (byteAt h (i - o))) else cs[i]?
  | 0, i, _ => by rw [if_neg (by omega)]; rfl
  | k + 1, i, hk => by
    rw [putTo, Array.getElem?_setIfInBounds, putTo_size, putTo_get cs o h k i (by omega)]
    by_cases e : o + k = i
    · subst e
      rw [if_pos rfl, if_pos (by omega), if_pos (by omega)]
      congr 3; omega
    · rw [if_neg e]
      by_cases h2 : o ≤ i ∧ i < o + k
      · rw [if_pos h2, if_pos (by omega)]
      · rw [if_neg h2, if_neg (by omega)]
theorem bytes_put (h l : Int) (i : Nat) (hi : i < 16) : (putTo (putTo nought16 0 h 8) 8 l 8)[i]? = some (.int .u8 ((bytesOf h l).getD i 0)) := by
  have s16 : nought16.size = 16 := rfl
  rw [putTo_get _ _ _ _ _ (by rw [putTo_size]; decide)]
  unfold bytesOf
  by_cases h8 : 8 ≤ i
  · rw [if_pos (by omega)]
    rw [List.getD_eq_getElem?_getD, List.getElem?_append_right (by simpa using h8)]
    simp only [List.length_map, List.length_range, List.getElem?_map]
    rw [List.getElem?_range (by omega)]
    rfl
  · rw [if_neg (by omega), putTo_get _ _ _ _ _ (by rw [s16]; omega), if_pos (by omega)]
    rw [List.getD_eq_getElem?_getD, List.getElem?_append_left (by simp; omega)]
    simp only [List.getElem?_map]
    rw [List.getElem?_range (by omega)]
    rfl
/-- The two halves' block, the bytes' block, all below. -/
def BytesAt (w : World) (h l : Int) (cs : Array Value) (w' : World) : Prop := Box w' w.heap.size 24 #[.int .u64 h, .int .u64 l] ∧ Box w' (w.heap.size + 1) 138 cs ∧ Below w.heap.size w w'
theorem BytesAt.put {w W w' : World} {h l : Int} {cs cs' : Array Value} (hs : BytesAt w h l cs W) (hb : Box w' (w.heap.size + 1) 138 cs') (hg : W.grownBy w' (some (w.heap.size + 1))) : BytesAt w h l cs' w' :=
  ⟨hs.1.grown hg (by intro e; injection e with e; omega), hb, hs.2.2.trans (grown_below hg (by omega) hs.2.2.size)⟩

set_option maxHeartbeats 4000000 in
theorem bytes_any (h l : Int) (hh : Word h) (hl : Word l) (w : World) :
    Calls Tryd.prog 77 #[.agg #[.int .u64 h, .int .u64 l]] w (Tells (.string (strOfNums (bytesOf h l))) w.heap.size w) := by
  have B0 : BytesAt w h l nought16 ((w.alloc (.cells #[.int .u64 h, .int .u64 l] 24)).alloc (.cells nought16 138)) := by
    refine ⟨(Box.made w 24 #[.int .u64 h, .int .u64 l]).past _, ?_, by repeat (first | exact Below.refl _ _ | apply Below.drew | apply below_drewN | refine Below.alloc ?_ (by simp; try omega) _ | refine Below.setCell ?_ (by simp; try omega) _)⟩
    have := Box.made (w.alloc (.cells #[.int .u64 h, .int .u64 l] 24)) 138 nought16
    simpa using this
  go_enter Tryd.func77, Tryd.ntmps77
  go_upto_region 2 with fail
  go_cut [] (fun wx => BytesAt w h l (putTo nought16 0 h 8) wx)
  case first =>
    generalize (w.alloc (.cells #[.int .u64 h, .int .u64 l] 24)).alloc (.cells nought16 138) = W at *
    have B1 : BytesAt w h l nought16 W.drew := ⟨B0.1.draw, B0.2.1.draw, B0.2.2.drew⟩
    have hb1 := B1.2.1
    have c0 : W.cell? ⟨w.heap.size, 0, none⟩ = some (.int .u64 h) := B0.1.read 0
    go_region_held3 (fun w' => w'.cell? ⟨w.heap.size, 0, none⟩ = some (.int .u64 h))
      (first | exact c0 | exact (BytesAt.put B1 (by assumption) (by assumption)).1.read 0)
      (first | (go_at_call 93; refine (put_any 138 (w.heap.size + 1) 0 _ h hh nought16 (by decide) _ hb1).mono ?_; rintro e w' ⟨rfl, p1, p2⟩))
    all_goals go_wp2_with fail
    all_goals go_meet
    exact B1.put p1 p2
  case rest =>
    go_upto_region 3 with fail
    have B1 : BytesAt w h l (putTo nought16 0 h 8) wc.drew := ⟨hcut.1.draw, hcut.2.1.draw, hcut.2.2.drew⟩
    have hb1 := B1.2.1
    have c0 : wc.cell? ⟨w.heap.size, 1, none⟩ = some (.int .u64 l) := hcut.1.read 1
    go_region_held3 (fun w' => w'.cell? ⟨w.heap.size, 1, none⟩ = some (.int .u64 l))
      (first | exact c0 | exact (BytesAt.put B1 (by assumption) (by assumption)).1.read 1)
      (first | (go_at_call 93; refine (put_any 138 (w.heap.size + 1) 8 _ l hl (putTo nought16 0 h 8) (by rw [putTo_size]; decide) _ hb1).mono ?_; rintro e w' ⟨rfl, p1, p2⟩))
    have B2 := B1.put p1 p2
    have hb2 := B2.2.1
    have hconv := run_convert_bytes_arg (P := Tryd.prog) w' 135 5 Tryd.underlying135 Tryd.underlying5 (w.heap.size + 1) 0 16 16 (bytesOf h l) (by simp [bytesOf]) (fun i hi => by
      rw [Nat.zero_add, hb2.read i]; exact bytes_put h l i hi) 9 Tryd.underlying9
    go_wp2
    go_ret
    exact ⟨rfl, B2.2.2⟩
end Go.Proofs.YtkecekfapiegjaaDoor
