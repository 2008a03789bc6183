/-
  Package sha's small calls, walked: a word's bytes, a running one that took nothing, whose it is, how many bytes it took.
-/
import Derived.Test.YtkmnfogcocppjaaDoorU4Awake
import Derived.Test.YtkmnfogcocppjaaDoorD5Sha
namespace Go.Proofs.YtkmnfogcocppjaaDoor
set_option linter.unusedVariables false
set_option linter.unusedSimpArgs false
set_option maxRecDepth 10000
open Go.RowKit

/-- A running one's cells, and what lies behind them. -/
def shaW (x : List Value) (s : St) (lf : ByteArray) (n : Int) : Array Value :=
  ⟨.bool true :: .int .u32 (iv s.a) :: .int .u32 (iv s.b) :: .int .u32 (iv s.c) :: .int .u32 (iv s.d) :: .int .u32 (iv s.e) :: .int .u32 (iv s.f) :: .int .u32 (iv s.g) :: .int .u32 (iv s.h) :: .string lf :: .int .u64 n :: x⟩
abbrev shaV (s : St) (lf : ByteArray) (n : Int) : Array Value := shaW [] s lf n
theorem Box.sha {w : World} {g : Nat} {t : TypeId} {x : List Value} {s : St} {lf : ByteArray} {n : Int} (h : Box w g t (shaW x s lf n)) :
    w.cell? ⟨g, 0, none⟩ = some (.bool true) ∧ w.cell? ⟨g, 1, none⟩ = some (.int .u32 (iv s.a)) ∧ w.cell? ⟨g, 2, none⟩ = some (.int .u32 (iv s.b)) ∧ w.cell? ⟨g, 3, none⟩ = some (.int .u32 (iv s.c)) ∧ w.cell? ⟨g, 4, none⟩ = some (.int .u32 (iv s.d)) ∧
    w.cell? ⟨g, 5, none⟩ = some (.int .u32 (iv s.e)) ∧ w.cell? ⟨g, 6, none⟩ = some (.int .u32 (iv s.f)) ∧ w.cell? ⟨g, 7, none⟩ = some (.int .u32 (iv s.g)) ∧ w.cell? ⟨g, 8, none⟩ = some (.int .u32 (iv s.h)) ∧
    w.cell? ⟨g, 9, none⟩ = some (.string lf) ∧ w.cell? ⟨g, 10, none⟩ = some (.int .u64 n) := by
  have r := h.read
  unfold shaW at r
  refine ⟨?_, ?_, ?_, ?_, ?_, ?_, ?_, ?_, ?_, ?_, ?_⟩ <;> (rw [r]; simp)
theorem Box.free11 {w : World} {g : Nat} {t : TypeId} {cs : Array Value} (h : Box w g t cs) :
    w.frozen? ⟨g, 0, none⟩ = false ∧ w.frozen? ⟨g, 1, none⟩ = false ∧ w.frozen? ⟨g, 2, none⟩ = false ∧ w.frozen? ⟨g, 3, none⟩ = false ∧ w.frozen? ⟨g, 4, none⟩ = false ∧ w.frozen? ⟨g, 5, none⟩ = false ∧ w.frozen? ⟨g, 6, none⟩ = false ∧
    w.frozen? ⟨g, 7, none⟩ = false ∧ w.frozen? ⟨g, 8, none⟩ = false ∧ w.frozen? ⟨g, 9, none⟩ = false ∧ w.frozen? ⟨g, 10, none⟩ = false ∧ g < w.heap.size :=
  ⟨h.free 0, h.free 1, h.free 2, h.free 3, h.free 4, h.free 5, h.free 6, h.free 7, h.free 8, h.free 9, h.free 10, h.inside⟩
theorem shaV_taken (x : List Value) (s : St) (lf : ByteArray) (n m : Int) : (shaW x s lf n).setIfInBounds 10 (.int .u64 m) = shaW x s lf m := by simp [shaW]
theorem shaV_left (x : List Value) (s : St) (lf lg : ByteArray) (n : Int) : (shaW x s lf n).setIfInBounds 9 (.string lg) = shaW x s lg n := by simp [shaW]

/-- Of what was there nothing has turned but the block g. -/
structure But (g : Nat) (w w' : World) : Prop where
  os : w'.os = w.os
  tape : w'.tape = w.tape
  output : w'.output = w.output
  size : w.heap.size ≤ w'.heap.size
  block : ∀ k, k < w.heap.size → k ≠ g → w'.heap[k]? = w.heap[k]?
section
variable {g : Nat} {w W w' : World}
theorem But.refl (g : Nat) (w : World) : But g w w := ⟨rfl, rfl, rfl, Nat.le_refl _, fun _ _ _ => rfl⟩
theorem But.call (h : But g w W) (hb : Below W.heap.size W w') : But g w w' :=
  ⟨hb.os.trans h.os, hb.tape.trans h.tape, hb.output.trans h.output, Nat.le_trans h.size hb.size, fun k hk hne => (hb.block k (Nat.lt_of_lt_of_le hk h.size)).trans (h.block k hk hne)⟩
theorem But.past (h : But g w W) (o : Obj) : But g w (W.alloc o) := h.call ((Below.refl _ W).alloc (Nat.le_refl _) o)
theorem But.drew (h : But g w W) : But g w W.drew := ⟨h.os, h.tape, h.output, h.size, h.block⟩
theorem But.drewN (h : But g w W) (n : Nat) : But g w (W.drewN n) := ⟨h.os, h.tape, h.output, h.size, h.block⟩
theorem But.set_ (h : But g w W) (i : Nat) (v : Value) : But g w (W.setCell ⟨g, i, none⟩ v) :=
  ⟨h.os, h.tape, h.output, by simpa [World.setCell] using h.size, fun k hk hne => (Below.heap_setCell W ⟨g, i, none⟩ v k hne).trans (h.block k hk hne)⟩
theorem But.trans (h : But g w W) (k : But g W w') : But g w w' :=
  ⟨k.os.trans h.os, k.tape.trans h.tape, k.output.trans h.output, Nat.le_trans h.size k.size, fun i hi hne => (k.block i (Nat.lt_of_lt_of_le hi h.size) hne).trans (h.block i hi hne)⟩
/-- A block that was made since a height is below it turned nothing. -/
theorem But.below {B : Nat} (h : But g w w') (hB : B ≤ g) (hw : B ≤ w.heap.size) : Below B w w' :=
  ⟨h.os, h.tape, h.output, h.size, fun k hk => h.block k (by omega) (by omega)⟩
theorem But.box {b : Nat} {t : TypeId} {cs : Array Value} (h : But g w w') (hx : Box w b t cs) (hne : b ≠ g) : Box w' b t cs := (h.block b hx.inside hne).trans hx
theorem But.tab (h : But g w w') (hT : Tab w) (hg : g ≠ 2) : Tab w' :=
  ⟨Nat.lt_of_lt_of_le hT.1 h.size, fun i hi => (World.cell?_of_block (w := w) (h.block 2 hT.1 (Ne.symm hg))).trans (hT.2 i hi)⟩
/-- What a Has tells behind a call that turned its first block. -/
theorem Has.but {l : List Blk} {t : TypeId} {cs cs' : Array Value} (h : Has w ((g, t, cs) :: l) W) (k : But g W w') (hx : Box w' g t cs') (hg : w.heap.size ≤ g) (hl : ∀ x ∈ l, x.1 ≠ g) : Has w ((g, t, cs') :: l) w' := by
  refine ⟨fun x hm => ?_, h.2.trans (k.below hg h.2.size)⟩
  rcases List.mem_cons.1 hm with rfl | hm
  · exact hx
  · exact k.box (h.tail.1 x hm) (hl x hm)
end

theorem wb_eq (x : B32) : byteOf x 0 = iv x / 16777216 % 256 ∧ byteOf x 1 = iv x / 65536 % 256 ∧ byteOf x 2 = iv x / 256 % 256 ∧ byteOf x 3 = iv x % 256 := by
  unfold byteOf
  simp

set_option maxHeartbeats 1000000 in
theorem sword_any (x : B32) (w : World) : Calls Tryd.prog 73 #[.int .u32 (iv x)] w fun e w' => e = .returned (.slice (some ⟨w.heap.size, 0, none⟩) 4 4) ∧ w' = w.alloc (.cells (b8s (wbI x)) 5) := by
  obtain ⟨e0, e1, e2, e3⟩ := wb_eq x
  have hb : b8s (wbI x) = #[.int .u8 (iv x / 16777216), .int .u8 (iv x / 65536 % 256), .int .u8 (iv x / 256 % 256), .int .u8 (iv x % 256)] := by
    unfold b8s wbI
    have hx := iv_bd x
    rw [e0, e1, e2, e3, show iv x / 16777216 % 256 = iv x / 16777216 by omega]
    rfl
  rw [hb]
  clear hb e0 e1 e2 e3
  have hx := iv_bd x
  go_enter Tryd.func73, Tryd.ntmps73
  go_wp2
  go_ret
  exact ⟨rfl, rfl⟩

set_option maxHeartbeats 1000000 in
theorem new_any (w : World) : Calls Tryd.prog 54 #[] w fun e w' => ∃ g, w.heap.size ≤ g ∧ e = .returned (.pointer (some ⟨g, 0, none⟩)) ∧ Box w' g 93 (shaV st0 ⟨#[]⟩ 0) ∧ Below w.heap.size w w' := by
  have cF := fun u => first_any u
  go_enter Tryd.func54, Tryd.ntmps54
  go_wp2_with (first | (go_at_call 69; refine (cF _).mono ?_; rintro e w1 ⟨rfl, b1⟩))
  go_ret
  exact ⟨w1.heap.size, b1.size, rfl, Box.made w1 93 (shaV st0 ⟨#[]⟩ 0), chainA b1 _⟩

theorem size_alloc1 (w : World) (o : Obj) : (w.alloc o).heap.size = w.heap.size + 1 := by simp
end Go.Proofs.YtkmnfogcocppjaaDoor
