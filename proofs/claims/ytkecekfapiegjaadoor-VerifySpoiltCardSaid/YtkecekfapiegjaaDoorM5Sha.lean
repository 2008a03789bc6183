/- Several of my texts, laid as one. -/
import Derived.Test.YtkecekfapiegjaaDoorM4Blk
import Derived.Test.YtkecekfapiegjaaDoorM5Pln
import Derived.RangeFuncNested
import Derived.RangeFuncBound
import Derived.RangeFuncCalls
import Derived.RangeFuncLeaves
import Derived.Shelf.Abstract
import Derived.Shelf.RegionOpen
import Derived.OwnWalkIn
import Derived.TacticsInMore
import Derived.LoopNIn
import Derived.LoopIn
import Derived.Test.YtkecekfapiegjaaDoorW5Round
import Derived.Test.YtkecekfapiegjaaDoorU5Clone
import Derived.Laws.Concat
import Derived.RangeFuncBox
import Derived.Laws.MakeOwn
import Derived.Laws.OwnMore
import Derived.Deep.RegionHeld3
/-
  Package sha's small calls, walked: a word's bytes, a running one that took nothing, whose it is, how many bytes it took.
-/
namespace Go.Proofs.YtkecekfapiegjaaDoor
set_option linter.unusedVariables false
set_option linter.unusedSimpArgs false
set_option maxRecDepth 10000
open Go.RowKit

/-- A running one's cells, and what lies behind them. -/
def shaW (x : List Value) (s : St) (lf : ByteArray) (n : Int) : Array Value :=
  ⟨.bool true :: .int .u32 (iv s.a) :: .int .u32 (iv s.b) :: .int .u32 (iv s.c) :: .int .u32 (iv s.d) :: .int .u32 (iv s.e) :: .int .u32 (iv s.f) :: .int .u32 (iv s.g) :: .int .u32 (iv s.h) :: .string lf :: .int .u64 n :: x⟩
abbrev shaV (s : St) (lf : ByteArray) (n : Int) : Array Value := shaW [] s lf n
theorem Box.sha {w : World} {g : Nat} {t : TypeId} {x : List Value} {s : St} {lf : ByteArray} {n : Int} (h : Box w g t (shaW x s lf n)) :
    w.cell? ⟨g, 0, none⟩ = some (.bool true) ∧ w.cell? ⟨g, 1, none⟩ = some (.int .u32 (iv s.a)) ∧ w.cell? ⟨g, 2, none⟩ = some (.int .u32 (iv s.b)) ∧ w.cell? ⟨g, 3, none⟩ = some (.int .u32 (iv s.c)) ∧ w.cell? ⟨g, 4, none⟩ = some (.int .u32 (iv s.d)) ∧
    w.cell? ⟨g, 5, none⟩ = some (.int .u32 (iv s.e)) ∧ w.cell? ⟨g, 6, none⟩ = some (.int .u32 (iv s.f)) ∧ w.cell? ⟨g, 7, none⟩ = some (.int .u32 (iv s.g)) ∧ w.cell? ⟨g, 8, none⟩ = some (.int .u32 (iv s.h)) ∧
    w.cell? ⟨g, 9, none⟩ = some (.string lf) ∧ w.cell? ⟨g, 10, none⟩ = some (.int .u64 n) := by
  have r := h.read
  unfold shaW at r
  refine ⟨?_, ?_, ?_, ?_, ?_, ?_, ?_, ?_, ?_, ?_, ?_⟩ <;> (rw [r]; simp)
theorem Box.free11 {w : World} {g : Nat} {t : TypeId} {cs : Array Value} (h : Box w g t cs) :
    w.frozen? ⟨g, 0, none⟩ = false ∧ w.frozen? ⟨g, 1, none⟩ = false ∧ w.frozen? ⟨g, 2, none⟩ = false ∧ w.frozen? ⟨g, 3, none⟩ = false ∧ w.frozen? ⟨g, 4, none⟩ = false ∧ w.frozen? ⟨g, 5, none⟩ = false ∧ w.frozen? ⟨g, 6, none⟩ = false ∧
    w.frozen? ⟨g, 7, none⟩ = false ∧ w.frozen? ⟨g, 8, none⟩ = false ∧ w.frozen? ⟨g, 9, none⟩ = false ∧ w.frozen? ⟨g, 10, none⟩ = false ∧ g < w.heap.size :=
  ⟨h.free 0, h.free 1, h.free 2, h.free 3, h.free 4, h.free 5, h.free 6, h.free 7, h.free 8, h.free 9, h.free 10, h.inside⟩
theorem shaV_taken (x : List Value) (s : St) (lf : ByteArray) (n m : Int) : (shaW x s lf n).setIfInBounds 10 (.int .u64 m) = shaW x s lf m := by simp [shaW]
theorem shaV_left (x : List Value) (s : St) (lf lg : ByteArray) (n : Int) : (shaW x s lf n).setIfInBounds 9 (.string lg) = shaW x s lg n := by simp [shaW]

/-- Of what was there nothing has turned but the block g. -/
structure But (g : Nat) (w w' : World) : Prop where
  os : w'.os = w.os
  tape : w'.tape = w.tape
  output : w'.output = w.output
  size : w.heap.size ≤ w'.heap.size
  block : ∀ k, k < w.heap.size → k ≠ g → w'.heap[k]? = w.heap[k]?
section
variable {g : Nat} {w W w' : World}
theorem But.refl (g : Nat) (w : World) : But g w w := ⟨rfl, rfl, rfl, Nat.le_refl _, fun _ _ _ => rfl⟩
theorem But.call (h : But g w W) (hb : Below W.heap.size W w') : But g w w' :=
  ⟨hb.os.trans h.os, hb.tape.trans h.tape, hb.output.trans h.output, Nat.le_trans h.size hb.size, fun k hk hne => (hb.block k (Nat.lt_of_lt_of_le hk h.size)).trans (h.block k hk hne)⟩
theorem But.past (h : But g w W) (o : Obj) : But g w (W.alloc o) := h.call ((Below.refl _ W).alloc (Nat.le_refl _) o)
theorem But.drew (h : But g w W) : But g w W.drew := ⟨h.os, h.tape, h.output, h.size, h.block⟩
theorem But.drewN (h : But g w W) (n : Nat) : But g w (W.drewN n) := ⟨h.os, h.tape, h.output, h.size, h.block⟩
theorem But.set_ (h : But g w W) (i : Nat) (v : Value) : But g w (W.setCell ⟨g, i, none⟩ v) :=
  ⟨h.os, h.tape, h.output, by simpa [World.setCell] using h.size, fun k hk hne => (Below.heap_setCell W ⟨g, i, none⟩ v k hne).trans (h.block k hk hne)⟩
theorem But.trans (h : But g w W) (k : But g W w') : But g w w' :=
  ⟨k.os.trans h.os, k.tape.trans h.tape, k.output.trans h.output, Nat.le_trans h.size k.size, fun i hi hne => (k.block i (Nat.lt_of_lt_of_le hi h.size) hne).trans (h.block i hi hne)⟩
/-- A block that was made since a height is below it turned nothing. -/
theorem But.below {B : Nat} (h : But g w w') (hB : B ≤ g) (hw : B ≤ w.heap.size) : Below B w w' :=
  ⟨h.os, h.tape, h.output, h.size, fun k hk => h.block k (by omega) (by omega)⟩
theorem But.box {b : Nat} {t : TypeId} {cs : Array Value} (h : But g w w') (hx : Box w b t cs) (hne : b ≠ g) : Box w' b t cs := (h.block b hx.inside hne).trans hx
theorem But.tab (h : But g w w') (hT : Tab w) (hg : g ≠ 2) : Tab w' :=
  ⟨Nat.lt_of_lt_of_le hT.1 h.size, fun i hi => (World.cell?_of_block (w := w) (h.block 2 hT.1 (Ne.symm hg))).trans (hT.2 i hi)⟩
/-- What a Has tells behind a call that turned its first block. -/
theorem Has.but {l : List Blk} {t : TypeId} {cs cs' : Array Value} (h : Has w ((g, t, cs) :: l) W) (k : But g W w') (hx : Box w' g t cs') (hg : w.heap.size ≤ g) (hl : ∀ x ∈ l, x.1 ≠ g) : Has w ((g, t, cs') :: l) w' := by
  refine ⟨fun x hm => ?_, h.2.trans (k.below hg h.2.size)⟩
  rcases List.mem_cons.1 hm with rfl | hm
  · exact hx
  · exact k.box (h.tail.1 x hm) (hl x hm)
end

theorem wb_eq (x : B32) : byteOf x 0 = iv x / 16777216 % 256 ∧ byteOf x 1 = iv x / 65536 % 256 ∧ byteOf x 2 = iv x / 256 % 256 ∧ byteOf x 3 = iv x % 256 := by
  unfold byteOf
  simp

set_option maxHeartbeats 1000000 in
theorem sword_any (x : B32) (w : World) : Calls Tryd.prog 98 #[.int .u32 (iv x)] w fun e w' => e = .returned (.slice (some ⟨w.heap.size, 0, none⟩) 4 4) ∧ w' = w.alloc (.cells (b8s (wbI x)) 5) := by
  obtain ⟨e0, e1, e2, e3⟩ := wb_eq x
  have hb : b8s (wbI x) = #[.int .u8 (iv x / 16777216), .int .u8 (iv x / 65536 % 256), .int .u8 (iv x / 256 % 256), .int .u8 (iv x % 256)] := by
    unfold b8s wbI
    have hx := iv_bd x
    rw [e0, e1, e2, e3, show iv x / 16777216 % 256 = iv x / 16777216 by omega]
    rfl
  rw [hb]
  clear hb e0 e1 e2 e3
  have hx := iv_bd x
  go_enter Tryd.func98, Tryd.ntmps98
  go_wp2
  go_ret
  exact ⟨rfl, rfl⟩

set_option maxHeartbeats 1000000 in
theorem new_any (w : World) : Calls Tryd.prog 78 #[] w fun e w' => ∃ g, w.heap.size ≤ g ∧ e = .returned (.pointer (some ⟨g, 0, none⟩)) ∧ Box w' g 145 (shaV st0 ⟨#[]⟩ 0) ∧ Below w.heap.size w w' := by
  have cF := fun u => first_any u
  go_enter Tryd.func78, Tryd.ntmps78
  go_wp2_with (first | (go_at_call 94; refine (cF _).mono ?_; rintro e w1 ⟨rfl, b1⟩))
  go_ret
  exact ⟨w1.heap.size, b1.size, rfl, Box.made w1 145 (shaV st0 ⟨#[]⟩ 0), chainA b1 _⟩

theorem size_alloc1 (w : World) (o : Obj) : (w.alloc o).heap.size = w.heap.size + 1 := by simp
end Go.Proofs.YtkecekfapiegjaaDoor
/-
  Package sha's blocks, walked: the function that is ranged over goes over the whole blocks of both texts.
-/
namespace Go.Proofs.YtkecekfapiegjaaDoor
set_option linter.unusedVariables false
set_option linter.unusedSimpArgs false
set_option maxRecDepth 10000
open Go.RowKit Go.Shelf
attribute [local go_sem] Oper.semAt_some

/-- Block b lies as it lay. -/
def KeptB (b : Nat) (W W' : World) : Prop := W'.heap[b]? = W.heap[b]?
theorem KeptB.cell {b : Nat} {W W' : World} (h : KeptB b W W') (i : Nat) : W'.cell? ⟨b, i, none⟩ = W.cell? ⟨b, i, none⟩ := World.cell?_of_block (w := W) h
theorem KeptB.trans {b : Nat} {A B C : World} (h : KeptB b A B) (k : KeptB b B C) : KeptB b A C := Eq.trans k h
def strLen : Value → Nat
  | .string s => s.size
  | _ => 0
/-- What is still to come of two rows. -/
def tailC (c0 c1 : List B64) : Nat → List B64
  | 0 => c0 ++ c1
  | 1 => c1
  | _ => []

set_option maxHeartbeats 1000000 in
theorem blocks_any (a : Option Addr) (len cap : Nat) (w : World) : Calls Tryd.prog 95 #[.slice a len cap] w fun e w' =>
    e = .returned (.func (.func 116) #[] #[.pointer (some ⟨w.heap.size, 0, none⟩)]) ∧ w' = w.alloc (.cells #[.slice a len cap] 67) := by
  go_enter Tryd.func95, Tryd.ntmps95
  go_wp2
  go_ret
  exact ⟨rfl, rfl⟩

theorem drop64 (r : ByteArray) (h : 64 ≤ r.size) : (r.extract 64 r.size).data.toList = r.data.toList.drop 64 ∧ (r.extract 64 r.size).size = r.size - 64 := by
  constructor
  · rw [ByteArray.data_extract, Array.toList_extract, List.extract_eq_take_drop]
    apply List.take_of_length_le
    rw [List.length_drop]
    exact Nat.le_of_eq rfl
  · simp [ByteArray.size_extract]
theorem chunks_ba (r : ByteArray) (h : 64 ≤ r.size) : chunks r.data.toList = bk r.data.toList :: chunks (r.extract 64 r.size).data.toList := by
  rw [(drop64 r h).1]; exact chunks_step _ (by simpa using h)

set_option maxRecDepth 100000 in
set_option maxHeartbeats 2000000 in
theorem iter_in (n : Nat) (hn : 1 ≤ n) (l Bs b : Nat) (s0 s1 : ByteArray) (J Jx : List B64 → World → Prop)
    (hY : ∀ pre x W, J pre W → pre.length < (chunks s0.data.toList ++ chunks s1.data.toList).length → YieldAt Fence.wide (n - 1) Tryd.prog l #[.string x.1] W fun e W' =>
      (e = .returned (.bool true) ∧ J (pre ++ [x]) W' ∧ KeptB b W W') ∨ (e = .returned (.bool false) ∧ Jx (pre ++ [x]) W'))
    (W : World) (hBs : W.cell? ⟨Bs, 0, none⟩ = some (.slice (some ⟨b, 0, none⟩) 2 2)) (hb : b < W.heap.size) (hc0 : W.cell? ⟨b, 0, none⟩ = some (.string s0)) (hc1 : W.cell? ⟨b, 1, none⟩ = some (.string s1)) (h0 : J [] W) :
    CallsIn Fence.wide n Tryd.prog 116 #[.func (.yield l) #[] #[], .pointer (some ⟨Bs, 0, none⟩)] W fun e W' => (∃ v, e = .returned v) ∧
      ((∃ xs, xs = chunks s0.data.toList ++ chunks s1.data.toList ∧ J xs W') ∨ (∃ pre, True ∧ Jx pre W')) := by
  obtain ⟨all, hall⟩ : ∃ all, chunks s0.data.toList ++ chunks s1.data.toList = all := ⟨_, rfl⟩
  rw [hall] at hY ⊢
  have HALL := hideIt hall
  clear hall
  refine callsIn_of_wp Tryd.func116 rfl trivial ?_ rfl
  simp only [Tryd.ntmps116, List.size_toArray, List.length_cons, List.length_nil, Nat.reduceAdd, Nat.reduceSub, Array.replicate_succ, Array.replicate_zero, List.push_toArray, List.append_toArray, List.nil_append, List.cons_append]
  gi_wp2
  gi_loopw [7] (fun i wr => ∃ k : Nat, k ≤ 2 ∧ i = .int .i64 k ∧ ∃ pre, Hid (pre ++ tailC (chunks s0.data.toList) (chunks s1.data.toList) k = all) ∧ J pre wr ∧ KeptB b W wr)
    (fun i _ => 2 - (intOf i).toNat)
  case atStart => exact ⟨0, by omega, rfl, [], HALL, h0, rfl⟩
  case round =>
    obtain ⟨k, hk, rfl, pre, hpre, hJ, hkept⟩ := hrel
    by_cases hlt : k < 2
    · obtain ⟨sk, hck, tl, htl, htl2⟩ : ∃ sk : ByteArray, wr.cell? ⟨b, k, none⟩ = some (.string sk) ∧ ∃ tl, tailC (chunks s0.data.toList) (chunks s1.data.toList) k = chunks sk.data.toList ++ tl ∧ tailC (chunks s0.data.toList) (chunks s1.data.toList) (k + 1) = tl := by
        match k, hlt with
        | 0, _ => exact ⟨s0, (hkept.cell 0).trans hc0, _, rfl, rfl⟩
        | 1, _ => exact ⟨s1, (hkept.cell 1).trans hc1, [], by simp [tailC], rfl⟩
      have hp2 : Hid (pre ++ (chunks sk.data.toList ++ tl) = all) := by rw [← htl]; exact hpre.out
      have HT2 := hideIt htl2
      clear htl htl2 hpre
      have hdk : decide ((k : Int) < 2) = true := decide_eq_true (by omega)
      gi_wp2
      gi_loopw [4] (fun v wq => ∃ (r : ByteArray) (pr : List B64), v = .string r ∧ Hid (pr ++ (chunks r.data.toList ++ tl) = all) ∧ J pr wq ∧ KeptB b W wq)
        (fun v _ => strLen v)
      case atStart => exact ⟨sk, pre, rfl, hp2, hJ, hkept⟩
      case round =>
        obtain ⟨r, pr, rfl, hpr, hJr, hkr⟩ := hrel
        by_cases h64 : 64 ≤ r.size
        · have hsp := hpr.out
          rw [chunks_ba r h64] at hsp
          obtain ⟨fn, tmps, assign, body, hy, hR⟩ := hY pr (bk r.data.toList) wr hJr (by rw [← hsp]; simp)
          rw [bk_extract r h64] at hy
          have HSP := hideIt hsp
          have h64i : (64 : Int) ≤ (r.size : Int) := by omega
          have hd := (drop64 r h64).2
          clear hsp hpr
          gi_wp2
          refine hR.mono ?_
          rintro e W3 (⟨rfl, hJ3, hk3⟩ | ⟨rfl, hJx3⟩)
          · gi_wp2
            go_roundw
            case rel => exact ⟨r.extract 64 r.size, pr ++ [bk r.data.toList], rfl, by have := HSP.out; rw [← this]; simp [Hid], hJ3, hkr.trans hk3⟩
            case measure => simp only [strLen]; omega
          · gi_wp2
            refine bodyPost_ret (results_none rfl _ _ _) rfl ?_
            exact ⟨⟨_, rfl⟩, .inr ⟨_, trivial, hJx3⟩⟩
        · have hsh : chunks r.data.toList = [] := chunks_short _ (by simpa using h64)
          have hp3 := hpr.out
          rw [hsh, List.nil_append, ← HT2.out] at hp3
          have HP3 := hideIt hp3
          have h64i : ¬ ((64 : Int) ≤ (r.size : Int)) := by omega
          clear hp3 hpr hsh
          gi_wp2
          go_roundw
          case rel => exact ⟨k + 1, by omega, by simp, pr, HP3, hJr, hkr⟩
          case measure => simp [intOf]; omega
    · have e : k = 2 := by omega
      subst e
      have hp2 := hpre.out
      simp only [tailC, List.append_nil] at hp2
      have HP2 := hideIt hp2
      clear hp2 hpre
      gi_wp2
      go_end0
      exact ⟨⟨_, rfl⟩, .inl ⟨pre, HP2.out, hJ⟩⟩

theorem iter_stops (n : Nat) (hn : 1 ≤ n) (Bs b : Nat) (s0 s1 : ByteArray) (w : World) (hBs : w.cell? ⟨Bs, 0, none⟩ = some (.slice (some ⟨b, 0, none⟩) 2 2)) (hlB : Bs < w.heap.size) (hb : b < w.heap.size)
    (hc0 : w.cell? ⟨b, 0, none⟩ = some (.string s0)) (hc1 : w.cell? ⟨b, 1, none⟩ = some (.string s1)) :
    SeqStopsK Fence.wide n Tryd.prog 116 #[.pointer (some ⟨Bs, 0, none⟩)] (fun x : B64 => #[Value.string x.1]) (KeptB b) (fun xs => xs = chunks s0.data.toList ++ chunks s1.data.toList) (fun _ => True)
      (chunks s0.data.toList ++ chunks s1.data.toList).length w := fun l J Jx W hW _ _ hY h0 =>
  iter_in n hn l Bs b s0 s1 J Jx hY W ((hW.cell (p := ⟨Bs, 0, none⟩) hlB).trans hBs) (Nat.lt_of_lt_of_le hb hW.size) ((hW.cell (p := ⟨b, 0, none⟩) hb).trans hc0) ((hW.cell (p := ⟨b, 1, none⟩) hb).trans hc1) h0
end Go.Proofs.YtkecekfapiegjaaDoor
/-
  (*sha.Sha).take, walked: what a running one becomes of a text, whatever its length.
-/
namespace Go.Proofs.YtkecekfapiegjaaDoor
set_option linter.unusedVariables false
set_option linter.unusedSimpArgs false
set_option maxRecDepth 10000
open Go.RowKit Go.Shelf
attribute [local go_sem] Oper.semAt_some

/-- A state written into a running one. -/
def setS (W : World) (g : Nat) (s : St) : World :=
  let w1 := World.setCell W ⟨g, 1, none⟩ (Value.int .u32 (iv s.a))
  let w2 := World.setCell w1 ⟨g, 2, none⟩ (Value.int .u32 (iv s.b))
  let w3 := World.setCell w2 ⟨g, 3, none⟩ (Value.int .u32 (iv s.c))
  let w4 := World.setCell w3 ⟨g, 4, none⟩ (Value.int .u32 (iv s.d))
  let w5 := World.setCell w4 ⟨g, 5, none⟩ (Value.int .u32 (iv s.e))
  let w6 := World.setCell w5 ⟨g, 6, none⟩ (Value.int .u32 (iv s.f))
  let w7 := World.setCell w6 ⟨g, 7, none⟩ (Value.int .u32 (iv s.g))
  World.setCell w7 ⟨g, 8, none⟩ (Value.int .u32 (iv s.h))
section
variable {w W : World} {g : Nat} {t : TypeId} {x : List Value} {s0 : St} {lf : ByteArray} {n : Int}
theorem shaV_put (x : List Value) (s0 : St) (lf : ByteArray) (n : Int) (k : Nat) (v : B32) (hk : k < 8) : (shaW x s0 lf n).setIfInBounds (k + 1) (.int .u32 (iv v)) = shaW x (s0.put k v) lf n := by
  match k, hk with
  | 0, _ => simp [shaW, St.put]
  | 1, _ => simp [shaW, St.put]
  | 2, _ => simp [shaW, St.put]
  | 3, _ => simp [shaW, St.put]
  | 4, _ => simp [shaW, St.put]
  | 5, _ => simp [shaW, St.put]
  | 6, _ => simp [shaW, St.put]
  | 7, _ => simp [shaW, St.put]
theorem Box.putS (h : Box W g t (shaW x s0 lf n)) (k : Nat) (v : B32) (hk : k < 8) : Box (W.setCell ⟨g, k + 1, none⟩ (.int .u32 (iv v))) g t (shaW x (s0.put k v) lf n) := by
  rw [← shaV_put _ _ _ _ _ _ hk]; exact h.wrote (k + 1) _
theorem Box.wroteS (h : Box W g t (shaW x s0 lf n)) (s : St) : Box (setS W g s) g t (shaW x s lf n) := by
  have h1 := h.putS 0 s.a (by decide)
  have h2 := h1.putS 1 s.b (by decide)
  have h3 := h2.putS 2 s.c (by decide)
  have h4 := h3.putS 3 s.d (by decide)
  have h5 := h4.putS 4 s.e (by decide)
  have h6 := h5.putS 5 s.f (by decide)
  have h7 := h6.putS 6 s.g (by decide)
  have h8 := h7.putS 7 s.h (by decide)
  rw [St.put_all] at h8
  exact h8
theorem But.setS (h : But g w W) (s : St) : But g w (setS W g s) := by
  have h1 := h.set_ 1 (Value.int .u32 (iv s.a))
  have h2 := h1.set_ 2 (Value.int .u32 (iv s.b))
  have h3 := h2.set_ 3 (Value.int .u32 (iv s.c))
  have h4 := h3.set_ 4 (Value.int .u32 (iv s.d))
  have h5 := h4.set_ 5 (Value.int .u32 (iv s.e))
  have h6 := h5.set_ 6 (Value.int .u32 (iv s.f))
  have h7 := h6.set_ 7 (Value.int .u32 (iv s.g))
  exact h7.set_ 8 (Value.int .u32 (iv s.h))
theorem keeps_setS (W : World) (g : Nat) (s : St) : KeepsOthers W (setS W g s) :=
  ((((((((KeepsOthers.setCell W _ _).trans (KeepsOthers.setCell _ _ _)).trans (KeepsOthers.setCell _ _ _)).trans (KeepsOthers.setCell _ _ _)).trans (KeepsOthers.setCell _ _ _)).trans (KeepsOthers.setCell _ _ _)).trans (KeepsOthers.setCell _ _ _)).trans (KeepsOthers.setCell _ _ _))
theorem keeps_below {W' : World} (hb : Below W.heap.size W W') : KeepsOthers W W' := ⟨hb.size, fun k o hk _ => (hb.block k (Array.getElem?_eq_some_iff.1 hk).1).trans hk⟩
end
theorem wrap64_nat (K : Nat) (h : K ≤ 9223372036854775807) : wrap64 (K : Int) = (K : Int) := IntWalk.wrap64_in _ (by omega)
theorem But.putObj {w W : World} {g D : Nat} (h : But g w W) (hD : w.heap.size ≤ D) (o : Obj) : But g w (W.putObj D o) :=
  ⟨h.os, h.tape, h.output, by simpa using h.size, fun k hk hne => (World.putObj_heap_other (by omega)).trans (h.block k hk hne)⟩
/-- Between two rounds. -/
def Mid (T : TypeId) (X : List Value) (w : World) (g : Nat) (st : St) (lf : ByteArray) (n1 : Int) (y : Nat) (pre : List B64) (W : World) : Prop :=
  Box W g T (shaW X (runB st pre) lf n1) ∧ Box W w.heap.size 125 #[.pointer (some ⟨g, 0, none⟩)] ∧ Tab W ∧ But g w W ∧ y < W.heap.size
theorem mid_own (T : TypeId) (X : List Value) (w : World) (g : Nat) (st : St) (lf : ByteArray) (n1 : Int) (y D : Nat) (hD : w.heap.size ≤ D) : OwnFrom D (Mid T X w g st lf n1 y) := by
  rintro pre W W' row ⟨h1, h2, h3, h4, h5⟩ hg hr
  have hrow : ∀ r, row = some r → ∃ o : Obj, W.heap[r]? = some o ∧ o.isCells = false := fun r e => (hr r e).2
  refine ⟨(grownBy_keeps_cells hg hrow h1 rfl).trans h1, (grownBy_keeps_cells hg hrow h2 rfl).trans h2, ⟨Nat.lt_of_lt_of_le h3.1 hg.size, fun i hi => cell_kept (h3.2 i hi) hg hrow⟩, ?_, Nat.lt_of_lt_of_le h5 hg.size⟩
  exact ⟨hg.os.trans h4.os, hg.tape.trans h4.tape, hg.output.trans h4.output, Nat.le_trans h4.size hg.size, fun k hk hne =>
    (hg.block k (Nat.lt_of_lt_of_le hk h4.size) (fun e => by have := (hr k e.symm).1; omega)).trans (h4.block k hk hne)⟩

/-- How much of a text goes to the block that was begun. -/
def fillN (q n : Nat) : Nat := if 64 - q ≤ n then 64 - q else n

set_option maxRecDepth 100000 in
set_option maxHeartbeats 4000000 in
theorem take_walk (T : TypeId) (X : List Value) (t : List UInt8) (lf s : ByteArray) (hlf : lf.data.toList = left t) (n : Int) (hn0 : 0 ≤ n) (hn1 : n < 18446744073709551616) (hs : s.size ≤ 9223372036854775807) (g : Nat) (w : World) (hT : Tab w) (hg0 : g ≠ 2)
    (hbx : Box w g T (shaW X (fin t) lf n)) : Calls Tryd.prog 79 #[.pointer (some ⟨g, 0, none⟩), .string s] w fun e w' =>
      e = .returned (.tuple #[]) ∧ (∃ lg : ByteArray, lg.data.toList = left (t ++ s.data.toList) ∧ Box w' g T (shaW X (fin (t ++ s.data.toList)) lg ((n + s.size) % 18446744073709551616))) ∧ But g w w' := by
  have hq : lf.size < 64 := by
    have := left_lt t
    rw [← hlf] at this
    simpa using this
  obtain ⟨st, hst⟩ : ∃ st, fin t = st := ⟨_, rfl⟩
  obtain ⟨n1, hn⟩ : ∃ n1, IntKind.u64.wrap (n + (s.size : Int)) = n1 := ⟨_, rfl⟩
  have hnm : (n + (s.size : Int)) % 18446744073709551616 = n1 := by rw [← hn, IntKind.wrap_u64]
  rw [hst] at hbx
  rw [hnm]
  clear hnm
  obtain ⟨F, hF⟩ : ∃ F, fillN lf.size s.size = F := ⟨_, rfl⟩
  have hmin : min (64 - (lf.size : Int)) (s.size : Int) = (F : Int) := by rw [← hF]; unfold fillN; split <;> omega
  have hF1 : (F : Int) ≤ (s.size : Int) := by rw [← hmin]; omega
  have hcat : ∀ u : World, (Op.stringOp .add lf (s.extract 0 F)).run Tryd.prog u = .ok (.string (lf ++ s.extract 0 F)) u := fun u => run_string_add_sum u _ _ (by rw [ByteArray.size_extract]; omega)
  have bg0 : Box (w.alloc (.cells #[.pointer (some ⟨g, 0, none⟩)] 125)) g T (shaW X st lf n) := hbx.past _
  have bh0 := Box.made w 125 #[.pointer (some ⟨g, 0, none⟩)]
  have k0 : But g w (w.alloc (.cells #[.pointer (some ⟨g, 0, none⟩)] 125)) := (But.refl g w).past _
  have hgw : g < w.heap.size := hbx.inside
  have hTW := hT.past (.cells #[.pointer (some ⟨g, 0, none⟩)] 125)
  refine (callsIn_wide (n := 9)).1 (callsIn_of_wp_marks Tryd.func79 rfl trivial ?_ rfl)
  refine wpIn_wide.2 ?_
  simp only [Tryd.ntmps79, List.size_toArray, List.length_cons, List.length_nil, Nat.reduceAdd, Nat.reduceSub, Array.replicate_succ, Array.replicate_zero, List.push_toArray, List.append_toArray, List.nil_append, List.cons_append]
  go_upto_region 1 with fail
  generalize w.alloc _ = W at *
  have h0 : W.cell? ⟨w.heap.size, 0, none⟩ = some (.pointer (some ⟨g, 0, none⟩)) := bh0.read 0
  obtain ⟨r0, r1, r2, r3, r4, r5, r6, r7, r8, r9, r10⟩ := bg0.sha
  obtain ⟨f0, f1, f2, f3, f4, f5, f6, f7, f8, f9, f10, hin⟩ := bg0.free11
  have hin2 := bh0.inside
  have hszm : (s.size : Int) % 18446744073709551616 = s.size := by omega
  go_upto_region 3 with fail
  go_quiet (fail)
  have bgY : Box ((W.setCell ⟨g, 10, none⟩ (Value.int IntKind.u64 n1)).drewN nq) g T (shaW X st lf n1) := by
    have h := bg0.wrote 10 (Value.int IntKind.u64 n1)
    rw [shaV_taken] at h
    exact h
  have bhY : Box ((W.setCell ⟨g, 10, none⟩ (Value.int IntKind.u64 n1)).drewN nq) w.heap.size 125 #[.pointer (some ⟨g, 0, none⟩)] := bh0.apart (p := ⟨g, 10, none⟩) (Nat.ne_of_gt hgw) (Value.int IntKind.u64 n1)
  have kY : But g w ((W.setCell ⟨g, 10, none⟩ (Value.int IntKind.u64 n1)).drewN nq) := (k0.set_ 10 (Value.int IntKind.u64 n1)).drewN nq
  have tY : Tab ((W.setCell ⟨g, 10, none⟩ (Value.int IntKind.u64 n1)).drewN nq) := hTW.set (by omega) 10 (Value.int IntKind.u64 n1)
  clear r0 r1 r2 r3 r4 r5 r6 r7 r8 r9 r10 f0 f1 f2 f3 f4 f5 f6 f7 f8 f9 f10 hin hin2 h0 bg0 bh0 k0 hTW hcat
  generalize World.drewN _ _ = Y at *
  obtain ⟨B, hB⟩ : ∃ B, lf ++ s.extract 0 F = B := ⟨_, rfl⟩
  obtain ⟨H, hH⟩ : ∃ H, s.extract F s.size = H := ⟨_, rfl⟩
  have hBl : B.data.toList = left t ++ s.data.toList.take F := by
    rw [← hB, ← hlf, ByteArray.data_append, Array.toList_append, ByteArray.data_extract, Array.toList_extract, List.extract_eq_take_drop]
    simp
  have hHl : H.data.toList = s.data.toList.drop F := by
    rw [← hH, ByteArray.data_extract, Array.toList_extract, List.extract_eq_take_drop]
    apply List.take_of_length_le
    rw [List.length_drop]
    exact Nat.le_of_eq rfl
  have hsl : s.data.toList.length = s.size := by simp
  have hBs : B.size = lf.size + F := by rw [← hB, ByteArray.size_append, ByteArray.size_extract]; omega
  have hHs : H.size = s.size - F := by rw [← hH, ByteArray.size_extract]; omega
  have hHi : H.size ≤ 9223372036854775807 := by omega
  have hjoin : left t ++ s.data.toList = B.data.toList ++ H.data.toList := by rw [hBl, hHl, List.append_assoc, List.take_append_drop]
  have hBll : B.data.toList.length = B.size := by simp
  have hHll : H.data.toList.length = H.size := by simp
  have hB64 : B.size = 64 ∨ B.size < 64 ∧ H.data.toList = [] := by
    have hFd : F = if 64 - lf.size ≤ s.size then 64 - lf.size else s.size := hF.symm
    by_cases h : 64 - lf.size ≤ s.size
    · rw [if_pos h] at hFd; left; omega
    · rw [if_neg h] at hFd; right; exact ⟨by omega, List.length_eq_zero_iff.1 (by omega)⟩
  rw [hB, hH]
  have HJ := hideIt hjoin
  have HB64 := hideIt hB64
  have HBl := hideIt hBll
  have HHl := hideIt hHll
  clear hB hH hBl hHl hsl hjoin hB64 hBll hHll hmin hF hF1 hHs hBs
  have cB := fun a u => blocks_any a 2 2 u
  go_wp2_with (first | (go_at_call 95; refine (cB _ _).mono ?_; rintro e w' ⟨rfl, rfl⟩))
  have BT : Box ((Y.alloc (.cells #[.string B, .string H] 9)).alloc (.cells #[.slice (some ⟨Y.heap.size, 0, none⟩) 2 2] 67)) Y.heap.size 9 #[.string B, .string H] := (Box.made Y 9 #[.string B, .string H]).past _
  have BV : Box ((Y.alloc (.cells #[.string B, .string H] 9)).alloc (.cells #[.slice (some ⟨Y.heap.size, 0, none⟩) 2 2] 67)) (Y.heap.size + 1) 67 #[.slice (some ⟨Y.heap.size, 0, none⟩) 2 2] := by
    have h := Box.made (Y.alloc (.cells #[.string B, .string H] 9)) 67 #[.slice (some ⟨Y.heap.size, 0, none⟩) 2 2]
    rw [size_alloc1] at h
    exact h
  have bgZ := (bgY.past (.cells #[.string B, .string H] 9)).past (.cells #[.slice (some ⟨Y.heap.size, 0, none⟩) 2 2] 67)
  have bhZ := (bhY.past (.cells #[.string B, .string H] 9)).past (.cells #[.slice (some ⟨Y.heap.size, 0, none⟩) 2 2] 67)
  have kZ := (kY.past (.cells #[.string B, .string H] 9)).past (.cells #[.slice (some ⟨Y.heap.size, 0, none⟩) 2 2] 67)
  have tZ := (tY.past (.cells #[.string B, .string H] 9)).past (.cells #[.slice (some ⟨Y.heap.size, 0, none⟩) 2 2] 67)
  have hYw : w.heap.size < Y.heap.size := bhY.inside
  have hZs : ((Y.alloc (.cells #[.string B, .string H] 9)).alloc (.cells #[.slice (some ⟨Y.heap.size, 0, none⟩) 2 2] 67)).heap.size = Y.heap.size + 2 := by simp
  clear bgY bhY kY tY cB
  generalize World.alloc (World.alloc _ _) _ = Z at *
  generalize Y.heap.size = y at *
  refine (wpIn_wide (n := 9)).1 ?_
  refine wpIn_rangeFunc_ownF (F := Fence.wide) (n := 9) rfl (by decide) (gf := 116) (lb := #[.pointer (some ⟨y + 1, 0, none⟩)]) rfl trivial (enters_of Tryd.func116 (by kernel_rfl) rfl)
    (iter_stops 8 (by decide) (y + 1) y B H Z (BV.read 0) BV.inside BT.inside (BT.read 0) (BT.read 1)) KeptB.trans
    (fun W l o o' hl h _ _ => World.putObj_heap_other (by omega)) (Below.refl _ _) (fun _ => rfl)
    (Mid T X w g st lf n1 y) (fun _ _ _ => False) (mid_own T X w g st lf n1 y _ (by omega)) (fun _ _ _ _ _ hs _ _ => hs) ⟨bgZ, bhZ, tZ, kZ, by omega⟩ ?a1 ?assign ?body ?done ?stop
  case assign =>
    intro l x W K hK
    gi_wp2
    exact hK
  case body =>
    rintro l pre x W ⟨bgW, bhW, tW, kW, hyW⟩ _
    have hW0 : W.cell? ⟨w.heap.size, 0, none⟩ = some (.pointer (some ⟨g, 0, none⟩)) := bhW.read 0
    obtain ⟨r0, r1, r2, r3, r4, r5, r6, r7, r8, r9, r10⟩ := bgW.sha
    have hin := bgW.inside
    have hin2 := bhW.inside
    obtain ⟨N, hN⟩ : ∃ N, stepS (runB st pre) x = N := ⟨_, rfl⟩
    have cN : Calls Tryd.prog 96 #[.agg #[.int .u32 (iv (runB st pre).a), .int .u32 (iv (runB st pre).b), .int .u32 (iv (runB st pre).c), .int .u32 (iv (runB st pre).d), .int .u32 (iv (runB st pre).e), .int .u32 (iv (runB st pre).f), .int .u32 (iv (runB st pre).g), .int .u32 (iv (runB st pre).h)], .string x.1] W.drew (Tells (.tuple #[.agg #[.int .u32 (iv N.a), .int .u32 (iv N.b), .int .u32 (iv N.c), .int .u32 (iv N.d), .int .u32 (iv N.e), .int .u32 (iv N.f), .int .u32 (iv N.g), .int .u32 (iv N.h)], .int .i64 0]) W.drew.heap.size W.drew) := by rw [← hN]; exact next_ok (runB st pre) x.1 x.2 W.drew tW.drew
    have hmx : Tryd.prog.follows .mixedOrders = true := by kernel_rfl
    have hsn : runB st (pre ++ [x]) = N := by rw [runB_snoc, hN]
    have HSN := hideIt hsn
    clear hN hsn
    generalize runB st pre = A at *
    gi_wp2
    have hQ0 : ¬ LetsOut (Exit.inBlock 1 (ownPostK (KeptB y) (Mid T X w g st lf n1 y) (fun _ _ _ => False) (pre ++ [x]) W)) := fun ⟨a, u, h⟩ => h
    refine region_round (S := fun u => u.cell? ⟨w.heap.size, 0, none⟩ = some (.pointer (some ⟨g, 0, none⟩))) hmx (by kernel_rfl) hQ0 hW0 (fun hHeld => ?_)
    clear hQ0 BT BV bgZ bhZ kZ tZ HJ HB64 HBl HHl
    refine wpAnyH_take (i := 0) (oi := { dst := some 45, op := Op.load 125 (Operand.tmp 2), type := 125, pos := "sha.go:83", after := #[], guard := none }) (v := ?_) rfl (by kernel_rfl) (by kernel_rfl) (by kernel_rfl) (fun _ _ _ h => h) (Or.inl ⟨by rfl, ?_⟩) (by assumption) ?_
    rotate_left 1
    · intro w hSw; (try dsimp only at hSw); go_simp; try with_reducible rfl
    try simp only [Act.put, List.setIfInBounds_toArray, List.set_cons_zero, List.set_cons_succ]
    refine wpAnyH_take (i := 1) (oi := { dst := some 46, op := Op.load 125 (Operand.tmp 2), type := 125, pos := "sha.go:83", after := #[], guard := none }) (v := ?_) rfl (by kernel_rfl) (by kernel_rfl) (by kernel_rfl) (fun _ _ _ h => h) (Or.inl ⟨by rfl, ?_⟩) (by assumption) ?_
    rotate_left 1
    · intro w hSw; (try dsimp only at hSw); go_simp; try with_reducible rfl
    try simp only [Act.put, List.setIfInBounds_toArray, List.set_cons_zero, List.set_cons_succ]
    refine wpAnyH_take (i := 2) (oi := { dst := some 47, op := Op.nilCheck (Operand.tmp 46), type := 0, pos := "sha.go:83", after := #[{ on := 1, ground := Ground.data }], guard := none }) (v := ?_) rfl (by kernel_rfl) (by kernel_rfl) (by kernel_rfl) (fun _ _ _ h => h) (Or.inl ⟨by rfl, ?_⟩) (by assumption) ?_
    rotate_left 1
    · intro w hSw; (try dsimp only at hSw); go_simp; try with_reducible rfl
    try simp only [Act.put, List.setIfInBounds_toArray, List.set_cons_zero, List.set_cons_succ]
    refine wpAnyH_take (i := 3) (oi := { dst := some 48, op := Op.fieldAddr 145 (Operand.tmp 47) 1, type := 0, pos := "sha.go:83", after := #[{ on := 2, ground := Ground.data }], guard := none }) (v := ?_) rfl (by kernel_rfl) (by kernel_rfl) (by kernel_rfl) (fun _ _ _ h => h) (Or.inl ⟨by rfl, ?_⟩) (by assumption) ?_
    rotate_left 1
    · intro w hSw; (try dsimp only at hSw); go_simp; try with_reducible rfl
    try simp only [Act.put, List.setIfInBounds_toArray, List.set_cons_zero, List.set_cons_succ]
    refine wpAnyH_take (i := 5) (oi := { dst := some 50, op := Op.move (Operand.tmp 7), type := 9, pos := "sha.go:83", after := #[], guard := none }) (v := ?_) rfl (by kernel_rfl) (by kernel_rfl) (by kernel_rfl) (fun _ _ _ h => h) (Or.inl ⟨by rfl, ?_⟩) (by assumption) ?_
    rotate_left 1
    · intro w hSw; (try dsimp only at hSw); go_simp; try with_reducible rfl
    try simp only [Act.put, List.setIfInBounds_toArray, List.set_cons_zero, List.set_cons_succ]
    refine wpAnyH_ready (rs := [4]) (by kernel_rfl) (by simp) (AllReadyH.cons (o := { dst := some 49, op := Op.load 142 (Operand.tmp 48), type := 142, pos := "sha.go:83", after := #[{ on := 3, ground := Ground.data }], guard := none }) rfl (fun K hK => ?_) AllReadyH.nil)
    go_simp
    refine hK.out _ _ ?_ (fun hHeld => ?_)
    · exact hW0
    clear hK K
    try simp only [Act.put, List.setIfInBounds_toArray, List.set_cons_zero, List.set_cons_succ]
    refine wpAnyH_ready (rs := [6]) (by kernel_rfl) (by simp) (AllReadyH.cons (o := { dst := some 51, op := Op.call { callee := Callee.value (Operand.func 96), args := #[Operand.tmp 49, Operand.tmp 50], argTypes := #[142, 9] }, type := 149, pos := "sha.go:83", after := #[{ on := 4, ground := Ground.data }, { on := 5, ground := Ground.data }], guard := none }) rfl (fun K hK => ?_) AllReadyH.nil)
    go_simp
    go_at_call 96
    refine cN.mono ?_
    rintro e w5 ⟨rfl, b5⟩
    have bg5 := (bgW.draw).call b5
    have bh5 := (bhW.draw).call b5
    obtain ⟨q0, q1, q2, q3, q4, q5, q6, q7, q8, q9, q10⟩ := bg5.sha
    obtain ⟨f0, f1, f2, f3, f4, f5, f6, f7, f8, f9, f10, hin5⟩ := bg5.free11
    try simp only []
    refine hK.out _ _ ?_ (fun hHeld => ?_)
    · exact bh5.read 0
    clear hK K
    try simp only [Act.put, List.setIfInBounds_toArray, List.set_cons_zero, List.set_cons_succ]
    refine wpAnyH_take (i := 7) (oi := { dst := some 44, op := Op.move (Operand.tmp 51), type := 149, pos := "sha.go:83", after := #[{ on := 6, ground := Ground.data }], guard := none }) (v := ?_) rfl (by kernel_rfl) (by kernel_rfl) (by kernel_rfl) (fun _ _ _ h => h) (Or.inl ⟨by rfl, ?_⟩) (by assumption) ?_
    rotate_left 1
    · intro w hSw; (try dsimp only at hSw); go_simp; try with_reducible rfl
    try simp only [Act.put, List.setIfInBounds_toArray, List.set_cons_zero, List.set_cons_succ]
    refine wpAnyH_take (i := 8) (oi := { dst := some 52, op := Op.extract (Operand.tmp 44) 0, type := 142, pos := "sha.go:83", after := #[{ on := 7, ground := Ground.data }], guard := none }) (v := ?_) rfl (by kernel_rfl) (by kernel_rfl) (by kernel_rfl) (fun _ _ _ h => h) (Or.inl ⟨by rfl, ?_⟩) (by assumption) ?_
    rotate_left 1
    · intro w hSw; (try dsimp only at hSw); go_simp; try with_reducible rfl
    try simp only [Act.put, List.setIfInBounds_toArray, List.set_cons_zero, List.set_cons_succ]
    refine wpAnyH_take (i := 9) (oi := { dst := some 53, op := Op.extract (Operand.tmp 44) 1, type := 29, pos := "sha.go:83", after := #[{ on := 7, ground := Ground.data }, { on := 12, ground := Ground.gcOnly Departure.lateStores }], guard := none }) (v := ?_) rfl (by kernel_rfl) (by kernel_rfl) (by kernel_rfl) (fun _ _ _ h => h) (Or.inl ⟨by rfl, ?_⟩) (by assumption) ?_
    rotate_left 1
    · intro w hSw; (try dsimp only at hSw); go_simp; try with_reducible rfl
    try simp only [Act.put, List.setIfInBounds_toArray, List.set_cons_zero, List.set_cons_succ]
    refine wpAnyH_take (i := 10) (oi := { dst := some 54, op := Op.nilCheck (Operand.tmp 45), type := 0, pos := "sha.go:83", after := #[{ on := 0, ground := Ground.data }, { on := 0, ground := Ground.phase }, { on := 1, ground := Ground.phase }, { on := 2, ground := Ground.phase }, { on := 3, ground := Ground.phase }, { on := 4, ground := Ground.phase }, { on := 5, ground := Ground.phase }, { on := 6, ground := Ground.phase }, { on := 7, ground := Ground.phase }, { on := 8, ground := Ground.phase }, { on := 9, ground := Ground.textOnly Departure.lateStores }], guard := none }) (v := ?_) rfl (by kernel_rfl) (by kernel_rfl) (by kernel_rfl) (fun _ _ _ h => h) (Or.inl ⟨by rfl, ?_⟩) (by assumption) ?_
    rotate_left 1
    · intro w hSw; (try dsimp only at hSw); go_simp; try with_reducible rfl
    try simp only [Act.put, List.setIfInBounds_toArray, List.set_cons_zero, List.set_cons_succ]
    refine wpAnyH_take (i := 11) (oi := { dst := some 55, op := Op.fieldAddr 145 (Operand.tmp 54) 1, type := 0, pos := "sha.go:83", after := #[{ on := 10, ground := Ground.data }, { on := 0, ground := Ground.phase }, { on := 1, ground := Ground.phase }, { on := 2, ground := Ground.phase }, { on := 3, ground := Ground.phase }, { on := 4, ground := Ground.phase }, { on := 5, ground := Ground.phase }, { on := 6, ground := Ground.phase }, { on := 7, ground := Ground.phase }, { on := 8, ground := Ground.phase }, { on := 9, ground := Ground.textOnly Departure.lateStores }], guard := none }) (v := ?_) rfl (by kernel_rfl) (by kernel_rfl) (by kernel_rfl) (fun _ _ _ h => h) (Or.inl ⟨by rfl, ?_⟩) (by assumption) ?_
    rotate_left 1
    · intro w hSw; (try dsimp only at hSw); go_simp; try with_reducible rfl
    try simp only [Act.put, List.setIfInBounds_toArray, List.set_cons_zero, List.set_cons_succ]
    have bh6 : Box (setS w5 g N) w.heap.size 125 #[.pointer (some ⟨g, 0, none⟩)] := ((But.refl g w5).setS N).box bh5 (Nat.ne_of_gt hgw)
    refine wpAnyH_ready (rs := [12]) (by kernel_rfl) (by simp) (AllReadyH.cons (o := { dst := none, op := Op.store 142 (Operand.tmp 55) (Operand.tmp 52), type := 0, pos := "sha.go:83", after := #[{ on := 11, ground := Ground.data }, { on := 8, ground := Ground.data }, { on := 6, ground := Ground.chain }, { on := 0, ground := Ground.phase }, { on := 1, ground := Ground.phase }, { on := 2, ground := Ground.phase }, { on := 3, ground := Ground.phase }, { on := 4, ground := Ground.phase }, { on := 5, ground := Ground.phase }, { on := 6, ground := Ground.phase }, { on := 7, ground := Ground.phase }, { on := 8, ground := Ground.phase }, { on := 9, ground := Ground.textOnly Departure.lateStores }], guard := none }) rfl (fun K hK => ?_) AllReadyH.nil)
    go_simp
    refine hK.out _ _ ?_ (fun hHeld => ?_)
    · exact bh6.read 0
    clear hK K
    try simp only [Act.put, List.setIfInBounds_toArray, List.set_cons_zero, List.set_cons_succ]
    refine wpAnyH_done (by kernel_rfl) ?_ _
    have kb : But g W (setS w5 g N) := (((But.refl g W).drew).call b5).setS N
    refine ⟨((KeepsOthers.drew W).trans (keeps_below b5)).trans (keeps_setS w5 g N), kb.block y hyW (by omega), ?_, bh6, kb.tab tW hg0, kW.trans kb, Nat.lt_of_lt_of_le hyW kb.size⟩
    rw [HSN.out]
    exact bg5.wroteS N
  case done =>
    rintro D xs W hD rfl ⟨bgW, bhW, tW, kW, hyW⟩ hK
    have hfin : runB st (chunks B.data.toList ++ chunks H.data.toList) = fin (t ++ s.data.toList) := by
      rw [← hst]
      refine (fin_take t s.data.toList _ _ HJ.out ?_).symm
      rw [HBl.out]
      exact HB64.out
    rw [hfin] at bgW
    obtain ⟨N, hN⟩ : ∃ N, fin (t ++ s.data.toList) = N := ⟨_, rfl⟩
    rw [hN] at bgW
    have HN := hideIt hN
    clear hN
    have hW0 : W.cell? ⟨w.heap.size, 0, none⟩ = some (.pointer (some ⟨g, 0, none⟩)) := bhW.read 0
    have hWd : W.drew.cell? ⟨w.heap.size, 0, none⟩ = some (.pointer (some ⟨g, 0, none⟩)) := hW0
    have hing := bgW.inside
    have hin2 := bhW.inside
    have r9 : W.cell? ⟨g, 9, none⟩ = some (.string lf) := bgW.read 9
    have f9 : W.frozen? ⟨g, 9, none⟩ = false := bgW.free 9
    have fin_ : ∀ (lg : ByteArray) (w5 : World), lg.data.toList = left (t ++ s.data.toList) → Below W.drew.heap.size W.drew w5 →
        w5.cell? ⟨w.heap.size, 0, none⟩ = some (.pointer (some ⟨g, 0, none⟩)) ∧ w5.cell? ⟨g, 9, none⟩ = some (.string lf) ∧ w5.frozen? ⟨g, 9, none⟩ = false ∧ g < w5.heap.size ∧
        (w5.setCell ⟨g, 9, none⟩ (.string lg)).cell? ⟨w.heap.size, 0, none⟩ = some (.pointer (some ⟨g, 0, none⟩)) ∧ (w5.setCell ⟨g, 9, none⟩ (.string lg)).heap[D]? = some (.deferred (some [])) ∧
        Box (w5.setCell ⟨g, 9, none⟩ (.string lg)) g T (shaW X N lg n1) ∧ But g w (w5.setCell ⟨g, 9, none⟩ (.string lg)) := fun lg w5 hl b5 => by
      have bg5 := (bgW.draw).call b5
      have bh5 := (bhW.draw).call b5
      have k5 := (kW.drew).call b5
      have b6 := bg5.wrote 9 (Value.string lg)
      rw [shaV_left] at b6
      have bh6 : Box (w5.setCell ⟨g, 9, none⟩ (.string lg)) w.heap.size 125 #[.pointer (some ⟨g, 0, none⟩)] := bh5.apart (p := ⟨g, 9, none⟩) (Nat.ne_of_gt hgw) _
      have hDlt : D < W.heap.size := (Array.getElem?_eq_some_iff.1 hK).1
      exact ⟨bh5.read 0, bg5.read 9, bg5.free 9, bg5.inside, bh6.read 0, (Below.heap_setCell w5 ⟨g, 9, none⟩ _ D (by dsimp only; omega)).trans ((b5.block D hDlt).trans hK), b6, k5.set_ 9 _⟩
    rcases HB64.out with h64 | ⟨hlt, hHn⟩
    · obtain ⟨K, hKd⟩ : ∃ K, H.size - H.size % 64 = K := ⟨_, rfl⟩
      have hrem : (H.size : Int) - (H.size : Int) % 64 = (K : Int) := by omega
      have hK1 : (K : Int) ≤ (H.size : Int) := by omega
      have hwK : wrap64 (K : Int) = (K : Int) := wrap64_nat K (by omega)
      have h64i : (B.size : Int) = 64 := by omega
      obtain ⟨lg, hlg⟩ : ∃ lg, H.extract K H.size = lg := ⟨_, rfl⟩
      have hlgl : lg.data.toList = left (t ++ s.data.toList) := by
        rw [left_full t s.data.toList _ _ HJ.out (by rw [HBl.out]; exact h64)]
        unfold left
        rw [HHl.out, ← hlg, ByteArray.data_extract, Array.toList_extract, List.extract_eq_take_drop, show 64 * (H.size / 64) = K by omega]
        apply List.take_of_length_le
        rw [List.length_drop, HHl.out]
        exact Nat.le_refl _
      have hlgs : lg.size ≤ 281474976710656 := by rw [← hlg, ByteArray.size_extract]; omega
      have cC := clone_any lg hlgs W.drew
      have FN := hideIt (fin_ lg)
      have HLG := hideIt hlgl
      clear fin_ hlgl hlgs
      dsimp only [Exit.inBlock, Exit.then]
      go_wp2
      go_region_held3 (fun u => u.cell? ⟨w.heap.size, 0, none⟩ = some (.pointer (some ⟨g, 0, none⟩)))
        (first | exact hWd | exact x0 | exact x4 | fail)
        (first | (go_at_call 70; refine cC.mono ?_; rintro e w5 ⟨rfl, b5⟩; obtain ⟨x0, x1, x2, x3, x4, x5, x6, x7⟩ := FN.out w5 HLG.out b5) | fail)
      have hDw : g < D ∧ w.heap.size ≤ D := by omega
      refine ⟨by simp, .inl ⟨_, _, rfl, run_takeDeferred x5, ?_⟩⟩
      exact ⟨_, results_none rfl _ _ _, rfl, ⟨lg, HLG.out, by rw [HN.out]; exact (World.putObj_heap_other (by omega)).trans x6⟩, x7.putObj hDw.2 _⟩
    · have hsm : H.data.toList.length = 0 := by rw [hHn]; rfl
      have hBe : B.data.toList = left (t ++ s.data.toList) := by
        have e1 : left t ++ s.data.toList = B.data.toList := by rw [HJ.out, hHn, List.append_nil]
        exact (left_part t s.data.toList _ e1 (by rw [HBl.out]; exact hlt)).symm
      have h64i : ¬ ((B.size : Int) = 64) := by omega
      have cC := clone_any B (by omega) W.drew
      have FN := hideIt (fin_ B)
      have HLG := hideIt hBe
      clear fin_ hBe hsm hHn
      dsimp only [Exit.inBlock, Exit.then]
      go_wp2
      go_region_held3 (fun u => u.cell? ⟨w.heap.size, 0, none⟩ = some (.pointer (some ⟨g, 0, none⟩)))
        (first | exact hWd | exact x0 | exact x4 | fail)
        (first | (go_at_call 70; refine cC.mono ?_; rintro e w5 ⟨rfl, b5⟩; obtain ⟨x0, x1, x2, x3, x4, x5, x6, x7⟩ := FN.out w5 HLG.out b5) | fail)
      have hDw : g < D ∧ w.heap.size ≤ D := by omega
      refine ⟨by simp, .inl ⟨_, _, rfl, run_takeDeferred x5, ?_⟩⟩
      exact ⟨_, results_none rfl _ _ _, rfl, ⟨B, HLG.out, by rw [HN.out]; exact (World.putObj_heap_other (by omega)).trans x6⟩, x7.putObj hDw.2 _⟩
  case stop =>
    rintro D c pre W hD _ h _
    exact h.elim
end Go.Proofs.YtkecekfapiegjaaDoor
/-
  sha.Padding, walked: what is put behind a text of whatever length.
-/
namespace Go.Proofs.YtkecekfapiegjaaDoor
set_option linter.unusedVariables false
set_option linter.unusedSimpArgs false
set_option maxRecDepth 10000
open Go.RowKit

/-- Bytes as cells, in a row. -/
def u8s (l : List Int) : List Value := l.map (Value.int .u8)
theorem u8s_len (l : List Int) : (u8s l).length = l.length := by simp [u8s]
theorem u8s_app (l m : List Int) : u8s (l ++ m) = u8s l ++ u8s m := by simp [u8s]
theorem u8s_b8s (l : List Int) : (b8s l).toList = u8s l := by simp [b8s, u8s]
theorem b8s_size (l : List Int) : (b8s l).size = l.length := by simp [b8s]
theorem u8s_one (l : List Int) : ∀ u ∈ u8s l, u.oneCell' = true := by
  intro u hu
  simp only [u8s, List.mem_map] at hu
  obtain ⟨x, -, rfl⟩ := hu
  rfl
theorem info_u8 : (Tryd.prog.info? 5).map (fun i => (i.zero, i.size, i.bytes)) = some (some (.int .u8 0), 1, 1) := by kernel_rfl
/-- A row of bytes as a text. -/
theorem conv_row {w : World} {base n : Nat} {v : Value} {xs : List Int} (h : w.ownsRow base 5 1 v n (u8s xs)) (hn : 0 < n) : (convert 135 9 v).run Tryd.prog w = .ok (.string (strOfNums xs)) w := by
  obtain ⟨g, cap, rfl, hg, hlt, hc, hm, hr, hf⟩ := own_row h hn
  have hl : xs.length = n := by have := h.1; rw [u8s_len] at this; omega
  exact run_convert_bytes_arg (P := Tryd.prog) w 135 5 Tryd.underlying135 Tryd.underlying5 g 0 n cap xs hl (fun i hi => by
    rw [Nat.zero_add]
    refine hr i _ ?_
    simp [u8s, List.getD_eq_getElem?_getD, hl, hi]) 9 Tryd.underlying9
/-- The first cells of a block that is known whole are a row. -/
theorem own_of_box {w : World} {base g n cap : Nat} {xs ys : List Int} (h : Box w g 5 (b8s (xs ++ ys))) (hb : base ≤ g) (hn : xs.length = n) (hc : xs.length + ys.length = cap) (hm : cap ≤ maxLen) :
    w.ownsRow base 5 1 (.slice (some ⟨g, 0, none⟩) n cap) n (u8s xs) := by
  refine ⟨by rw [u8s_len]; omega, .inr ⟨g, cap, b8s (xs ++ ys), rfl, hb, h, by omega, hm, by rw [b8s_size, List.length_append]; omega, ?_⟩⟩
  rw [u8s_b8s, u8s_app]
  simp [u8s_len, hn]

set_option maxRecDepth 100000 in
set_option maxHeartbeats 2000000 in
theorem padding_any (n : Nat) (hn : n < 18446744073709551616) (w : World) : Calls Tryd.prog 97 #[.int .u64 n] w (Tells (.string (padB n)) w.heap.size w) := by
  obtain ⟨z, hz⟩ : ∃ z, padN n = z := ⟨_, rfl⟩
  have hz64 : z < 64 := by rw [← hz]; exact pad_bd n
  have hzm : (IntKind.u64.wrap (-IntKind.u64.wrap (IntKind.u64.wrap ((n : Int) + 1) + 8))).tmod 64 = (z : Int) := by
    simp only [IntKind.wrap_u64]
    rw [Int.tmod_eq_emod_of_nonneg (by omega), ← hz]
    unfold padN
    omega
  obtain ⟨a, ha⟩ : ∃ a, z + 1 = a := ⟨_, rfl⟩
  obtain ⟨c, hc⟩ : ∃ c, z + 9 = c := ⟨_, rfl⟩
  have hw1 : IntKind.u64.wrap (1 + (z : Int)) = (a : Int) := by rw [IntKind.wrap_u64]; omega
  have hw2 : IntKind.u64.wrap ((a : Int) + 8) = (c : Int) := by rw [IntKind.wrap_u64]; omega
  obtain ⟨i0, hi, hzi0, hzi1, hzi2⟩ := info_parts info_u8
  have hmk : ∀ u : World, (Instr.makeSlice 135 (.int .u64 (a : Int)) (.int .u64 (c : Int))).run Tryd.prog u = .ok (.slice (some ⟨u.heap.size, 0, none⟩) a c) (u.alloc (.cells (b8s (List.replicate c 0)) 5)) := fun u => by
    have h := run_make (P := Tryd.prog) u 135 5 i0 (.int .u8 0) Tryd.underlying135 hi hzi0 .u64 .u64 (a : Int) (c : Int) (by omega) (by omega) (by rw [hzi2]; omega) (by omega)
    have e : madeCells (Value.int .u8 0).cells ((c : Int).toNat * i0.size) = b8s (List.replicate c 0) := by
      rw [hzi1]
      apply Array.ext'
      rw [u8s_b8s, show (Value.int .u8 0).cells = #[Value.int .u8 0] from rfl, toList_madeCells_one]
      simp [u8s]
    rw [e] at h
    simpa using h
  have hlo : (IntKind.u64.wrap ((n : Int) * 8)) % 4294967296 = iv (loB n) := by
    rw [IntKind.wrap_u64]; unfold loB iv; rw [BitVec.toNat_ofNat]; omega
  have hhi : (IntKind.u64.wrap ((n : Int) * 8)) / 4294967296 = iv (hiB n) := by
    rw [IntKind.wrap_u64]; unfold hiB iv; rw [BitVec.toNat_ofNat]; omega
  have hhi2 := iv_mod (hiB n)
  have hlo2 := iv_mod (loB n)
  have hpad : padI n = 128 :: List.replicate z 0 ++ wbI (hiB n) ++ wbI (loB n) := by unfold padI; rw [hz]; simp
  have HP := hideIt hpad
  have hpB : padB n = strOfNums (padI n) := rfl
  have HPB := hideIt hpB
  clear hpad hpB
  have c1 := fun u => sword_any (hiB n) u
  have c2 := fun u => sword_any (loB n) u
  generalize hiB n = xh at *
  generalize loB n = xl at *
  generalize padB n = pB at *
  generalize padI n = pI at *
  obtain ⟨bits, hbits⟩ : ∃ bits, IntKind.u64.wrap ((n : Int) * 8) = bits := ⟨_, rfl⟩
  rw [hbits] at hlo hhi
  go_enter Tryd.func97, Tryd.ntmps97
  have B0 := Box.made w 5 (b8s (List.replicate c 0))
  have L0 : Below w.heap.size w (w.alloc (.cells (b8s (List.replicate c 0)) 5)) := (Below.refl _ w).alloc (Nat.le_refl _) _
  go_upto_region 3 with fail
  generalize w.alloc (.cells (b8s (List.replicate c 0)) 5) = W at *
  have h0 : W.cell? ⟨w.heap.size, 0, none⟩ = some (.int .u8 0) := by rw [B0.read 0, b8s_at _ 0 (by simp; omega)]; simp [List.getD_eq_getElem?_getD, show 0 < c by omega]
  have f0 := B0.free 0
  have B1 := B0.wrote 0 (.int .u8 128)
  rw [b8s_set] at B1
  have L1 := L0.setCell (p := ⟨w.heap.size, 0, none⟩) (Nat.le_refl _) (.int .u8 128)
  have hin := B0.inside
  have ha0 : (0 : Int) < (a : Int) := by omega
  have e1 : (List.replicate c 0).set 0 (128 : Int) = (128 :: List.replicate z 0) ++ List.replicate 8 0 := by
    rw [← hc, show z + 9 = (z + 8) + 1 by omega, List.replicate_succ, List.set_cons_zero, List.cons_append, List.replicate_append_replicate]
  rw [e1] at B1
  clear e1 B0 L0 hmk
  go_upto_region 5 with fail
  generalize W.setCell ⟨w.heap.size, 0, none⟩ (.int .u8 128) = W1 at *
  have hown := own_of_box (base := w.heap.size) (n := a) (cap := c) B1 (Nat.le_refl _) (by simp; omega) (by simp; omega) (by unfold maxLen; omega)
  have hgs : w.heap.size ≤ W1.heap.size := L1.size
  clear h0 f0 hin B1
  have ec : (b8s (wbI xh)).size = 4 := rfl
  have el : (b8s (wbI xl)).size = 4 := rfl
  clear hzm hw1 hw2
  go_upto_region 6 with (first
    | (go_at_call 98; refine (c1 _).mono ?_; rintro e w' ⟨rfl, rfl⟩)
    | (at_builtin; refine wp_append_new rfl _ _ 135 rfl w.heap.size 5 i0 (.int .u8 0) 1 Tryd.underlying135 hi hzi0 hzi1 hzi2 rfl _ _ _ rfl hown (b8s (wbI xh)) rfl (by rw [u8s_b8s]; exact u8s_one _) (by rw [ec]; omega) (by omega) hgs ?_))
  intro v1 w1 hown1 hb1 hk1
  have L2 := L1.trans (hb1 _ (Nat.le_refl _))
  have hgs1 : w.heap.size ≤ w1.heap.size := L2.size
  rw [u8s_b8s, ← u8s_app] at hown1
  clear hk1 hb1 hown L1 hgs
  go_upto_region 6 with fail
  have fin_ : ∀ (v2 : Value) (w2 : World), w2.ownsRow w.heap.size 5 1 v2 (a + 4 + 4) (u8s (128 :: List.replicate z 0 ++ wbI xh) ++ (b8s (wbI xl)).toList) → (convert 135 9 v2).run Tryd.prog w2 = .ok (.string pB) w2 := fun v2 w2 h => by
    rw [u8s_b8s, ← u8s_app] at h
    have h2 := conv_row h (by omega)
    rw [HPB.out, HP.out]
    exact h2
  go_wp2_with (first
    | (go_at_call 98; refine (c2 _).mono ?_; rintro e w' ⟨rfl, rfl⟩)
    | (at_builtin; refine wp_append_new rfl _ _ 135 rfl w.heap.size 5 i0 (.int .u8 0) 1 Tryd.underlying135 hi hzi0 hzi1 hzi2 rfl _ _ _ rfl hown1 (b8s (wbI xl)) rfl (by rw [u8s_b8s]; exact u8s_one _) (by rw [el]; omega) (by omega) hgs1 ?_))
  intro v2 w2 hown2 hb2 hk2
  have L3 := L2.trans (hb2 _ (Nat.le_refl _))
  have hcv := fin_ v2 w2 hown2
  clear hk2 hb2 hown2 fin_
  go_wp2
  go_ret
  exact ⟨rfl, L3⟩
end Go.Proofs.YtkecekfapiegjaaDoor
/-
  Package sha's digest, Sum, Write, Copy, walked: the digest of all that was taken.
-/
namespace Go.Proofs.YtkecekfapiegjaaDoor
set_option linter.unusedVariables false
set_option linter.unusedSimpArgs false
set_option maxRecDepth 10000
open Go.RowKit

/-- A running one that took a text, at the beginning of a block of whatever type, X behind it. -/
def ShaIn (T : TypeId) (X : List Value) (w : World) (g : Nat) (t : List UInt8) : Prop := ∃ lf : ByteArray, lf.data.toList = left t ∧ Box w g T (shaW X (fin t) lf (t.length : Int))
/-- One that stands alone. -/
abbrev ShaAt (w : World) (g : Nat) (t : List UInt8) : Prop := ShaIn 145 [] w g t
theorem stI_step (s : St) (k : Nat) (hk : k < 8) : (stI s).take (4 * (k + 1)) = (stI s).take (4 * k) ++ wbI (s.at k) := by
  match k, hk with
  | 0, _ => rfl
  | 1, _ => rfl
  | 2, _ => rfl
  | 3, _ => rfl
  | 4, _ => rfl
  | 5, _ => rfl
  | 6, _ => rfl
  | 7, _ => rfl
theorem idx0 (s : St) (w : World) : (Instr.index 142 (.agg #[.int .u32 (iv s.a), .int .u32 (iv s.b), .int .u32 (iv s.c), .int .u32 (iv s.d), .int .u32 (iv s.e), .int .u32 (iv s.f), .int .u32 (iv s.g), .int .u32 (iv s.h)]) (.int .i64 0)).run Tryd.prog w = .ok (.int .u32 (iv s.a)) w := by kernel_rfl
theorem idx1 (s : St) (w : World) : (Instr.index 142 (.agg #[.int .u32 (iv s.a), .int .u32 (iv s.b), .int .u32 (iv s.c), .int .u32 (iv s.d), .int .u32 (iv s.e), .int .u32 (iv s.f), .int .u32 (iv s.g), .int .u32 (iv s.h)]) (.int .i64 1)).run Tryd.prog w = .ok (.int .u32 (iv s.b)) w := by kernel_rfl
theorem idx2 (s : St) (w : World) : (Instr.index 142 (.agg #[.int .u32 (iv s.a), .int .u32 (iv s.b), .int .u32 (iv s.c), .int .u32 (iv s.d), .int .u32 (iv s.e), .int .u32 (iv s.f), .int .u32 (iv s.g), .int .u32 (iv s.h)]) (.int .i64 2)).run Tryd.prog w = .ok (.int .u32 (iv s.c)) w := by kernel_rfl
theorem idx3 (s : St) (w : World) : (Instr.index 142 (.agg #[.int .u32 (iv s.a), .int .u32 (iv s.b), .int .u32 (iv s.c), .int .u32 (iv s.d), .int .u32 (iv s.e), .int .u32 (iv s.f), .int .u32 (iv s.g), .int .u32 (iv s.h)]) (.int .i64 3)).run Tryd.prog w = .ok (.int .u32 (iv s.d)) w := by kernel_rfl
theorem idx4 (s : St) (w : World) : (Instr.index 142 (.agg #[.int .u32 (iv s.a), .int .u32 (iv s.b), .int .u32 (iv s.c), .int .u32 (iv s.d), .int .u32 (iv s.e), .int .u32 (iv s.f), .int .u32 (iv s.g), .int .u32 (iv s.h)]) (.int .i64 4)).run Tryd.prog w = .ok (.int .u32 (iv s.e)) w := by kernel_rfl
theorem idx5 (s : St) (w : World) : (Instr.index 142 (.agg #[.int .u32 (iv s.a), .int .u32 (iv s.b), .int .u32 (iv s.c), .int .u32 (iv s.d), .int .u32 (iv s.e), .int .u32 (iv s.f), .int .u32 (iv s.g), .int .u32 (iv s.h)]) (.int .i64 5)).run Tryd.prog w = .ok (.int .u32 (iv s.f)) w := by kernel_rfl
theorem idx6 (s : St) (w : World) : (Instr.index 142 (.agg #[.int .u32 (iv s.a), .int .u32 (iv s.b), .int .u32 (iv s.c), .int .u32 (iv s.d), .int .u32 (iv s.e), .int .u32 (iv s.f), .int .u32 (iv s.g), .int .u32 (iv s.h)]) (.int .i64 6)).run Tryd.prog w = .ok (.int .u32 (iv s.g)) w := by kernel_rfl
theorem idx7 (s : St) (w : World) : (Instr.index 142 (.agg #[.int .u32 (iv s.a), .int .u32 (iv s.b), .int .u32 (iv s.c), .int .u32 (iv s.d), .int .u32 (iv s.e), .int .u32 (iv s.f), .int .u32 (iv s.g), .int .u32 (iv s.h)]) (.int .i64 7)).run Tryd.prog w = .ok (.int .u32 (iv s.h)) w := by kernel_rfl
theorem index_st (s : St) (k : Nat) (hk : k < 8) (w : World) : (Instr.index 142 (.agg #[.int .u32 (iv s.a), .int .u32 (iv s.b), .int .u32 (iv s.c), .int .u32 (iv s.d), .int .u32 (iv s.e), .int .u32 (iv s.f), .int .u32 (iv s.g), .int .u32 (iv s.h)]) (.int .i64 k)).run Tryd.prog w = .ok (.int .u32 (iv (s.at k))) w := by
  match k, hk with
  | 0, _ => exact idx0 s w
  | 1, _ => exact idx1 s w
  | 2, _ => exact idx2 s w
  | 3, _ => exact idx3 s w
  | 4, _ => exact idx4 s w
  | 5, _ => exact idx5 s w
  | 6, _ => exact idx6 s w
  | 7, _ => exact idx7 s w

set_option maxRecDepth 100000 in
set_option maxHeartbeats 4000000 in
theorem digest_any {T : TypeId} {X : List Value} (t : List UInt8) (ht : t.length < 18446744073709551616) (g : Nat) (w : World) (hT : Tab w) (h : ShaIn T X w g t) : Calls Tryd.prog 80 #[.pointer (some ⟨g, 0, none⟩)] w (Tells (.string (digB t)) w.heap.size w) := by
  obtain ⟨lf, hlf, hbx⟩ := h
  obtain ⟨r0, r1, r2, r3, r4, r5, r6, r7, r8, r9, r10⟩ := hbx.sha
  have hin := hbx.inside
  have hn0 := hT.1
  have be := Box.made w 145 (shaV (fin t) lf (t.length : Int))
  have bg := hbx.past (.cells (shaV (fin t) lf (t.length : Int)) 145)
  have L0 : Below w.heap.size w (w.alloc (.cells (shaV (fin t) lf (t.length : Int)) 145)) := (Below.refl _ w).alloc (Nat.le_refl _) _
  have t0 := hT.past (.cells (shaV (fin t) lf (t.length : Int)) 145)
  have cP := fun u => padding_any t.length ht u
  have hps : (padB t.length).size ≤ 9223372036854775807 := by rw [padB_size]; have := pad_bd t.length; omega
  have cT := fun u hu hb => take_walk 145 [] t lf (padB t.length) hlf (t.length : Int) (by omega) (by omega) hps w.heap.size u hu (by omega) hb
  have hd : digB t = strOfNums (stI (fin (t ++ (padB t.length).data.toList))) := rfl
  have HD := hideIt hd
  clear hd hps
  go_enter Tryd.func80, Tryd.ntmps80
  go_upto_region 2 with fail
  change Code.wp _ _ _ _ (w.alloc (.cells (shaV (fin t) lf (t.length : Int)) 145))
  generalize w.alloc (.cells (shaV (fin t) lf (t.length : Int)) 145) = W at *
  clear r0 r1 r2 r3 r4 r5 r6 r7 r8 r9 r10
  have q10 : W.cell? ⟨g, 10, none⟩ = some (.int .u64 (t.length : Int)) := bg.sha.2.2.2.2.2.2.2.2.2.2
  have hinW := bg.inside
  go_upto_region 4 with (first
    | (go_at_call 97; refine (cP _).mono ?_; rintro e w1 ⟨rfl, b1⟩)
    | (go_at_call 79; refine (cT _ (t0.call b1) (be.call b1)).mono ?_; rintro e w2 ⟨rfl, ⟨lg, hlg, be2⟩, k2⟩))
  have L2 : Below w.heap.size w w2 := (chain L0 b1).trans (k2.below (Nat.le_refl _) (chain L0 b1).size)
  generalize fin (t ++ (padB t.length).data.toList) = F at *
  clear cP cT be bg t0 b1 k2 q10 hinW L0
  obtain ⟨q0, q1, q2, q3, q4, q5, q6, q7, q8, q9, q10⟩ := be2.sha
  have hin2 := be2.inside
  have hl32 := stI_len F
  obtain ⟨i0, hi, hzi0, hzi1, hzi2⟩ := info_parts info_u8
  go_wp2
  go_loopg [4, 18] 8 (fun gk v i wr => ∃ k : Nat, k ≤ 8 ∧ gk = 8 - k ∧ i = .int .i64 k ∧ wr.ownsRow w.heap.size 5 1 v (4 * k) (u8s ((stI F).take (4 * k))) ∧ Below w.heap.size w wr)
  case atStart => exact ⟨0, by omega, rfl, rfl, World.ownsRow_nil _ _ _ _, L2⟩
  case round =>
    obtain ⟨k, hk, hgk, rfl, hown, L⟩ := hrel
    have HG := hideIt hgk
    clear hgk L2
    have hgs := L.size
    by_cases hlt : k < 8
    · have hix := fun u => index_st F k hlt u
      have HS := hideIt (stI_step F k hlt)
      have cw := fun u => sword_any (F.at k) u
      generalize F.at k = x at *
      have b1 : (k : Int) < 8 := by omega
      have ex : (b8s (wbI x)).size = 4 := rfl
      go_wp2_with (first
        | (go_at_call 98; refine (cw _).mono ?_; rintro e w' ⟨rfl, rfl⟩)
        | (at_builtin; refine wp_append_new rfl _ _ 135 rfl w.heap.size 5 i0 (.int .u8 0) 1 Tryd.underlying135 hi hzi0 hzi1 hzi2 rfl _ _ _ rfl hown (b8s (wbI x)) rfl (by rw [u8s_b8s]; exact u8s_one _) (by rw [ex]; omega) (by omega) hgs ?_))
      intro v2 w3 hown2 hb2 hk2
      have L3 := L.trans (hb2 _ (Nat.le_refl _))
      rw [u8s_b8s, ← u8s_app, ← HS.out] at hown2
      clear hk2 hb2 hown hix cw
      go_wp2
      go_roundg (8 - (k + 1))
      case measure => have := HG.out; omega
      case rel => exact ⟨k + 1, by omega, rfl, by go_num, hown2, L3⟩
    · have e : k = 8 := by omega
      subst e
      rw [show (stI F).take (4 * 8) = stI F from rfl] at hown
      have hcv := conv_row hown (by omega)
      rw [← HD.out] at hcv
      clear HG hown
      go_wp2
      go_ret
      exact ⟨rfl, L⟩

theorem new_sha {w' : World} {g : Nat} (h : Box w' g 145 (shaV st0 ⟨#[]⟩ 0)) : ShaAt w' g [] := ⟨⟨#[]⟩, by rw [left_short [] (by simp)], by rw [fin_nil]; exact h⟩
theorem ShaIn.inside {T : TypeId} {X : List Value} {w : World} {g : Nat} {t : List UInt8} (h : ShaIn T X w g t) : g < w.heap.size := by obtain ⟨lf, -, h⟩ := h; exact h.inside
theorem ShaIn.call {T : TypeId} {X : List Value} {w w' : World} {g : Nat} {t : List UInt8} (h : ShaIn T X w g t) (hb : Below w.heap.size w w') : ShaIn T X w' g t := by obtain ⟨lf, hl, h⟩ := h; exact ⟨lf, hl, h.call hb⟩
theorem ShaIn.but {T : TypeId} {X : List Value} {w w' : World} {g b : Nat} {t : List UInt8} (h : ShaIn T X w g t) (hb : But b w w') (hne : g ≠ b) : ShaIn T X w' g t := by obtain ⟨lf, hl, h⟩ := h; exact ⟨lf, hl, hb.box h hne⟩
theorem take_any {T : TypeId} {X : List Value} (t : List UInt8) (s : ByteArray) (hs : s.size ≤ 9223372036854775807) (hb : t.length + s.size < 18446744073709551616) (g : Nat) (w : World) (hT : Tab w) (hg0 : g ≠ 2) (h : ShaIn T X w g t) :
    Calls Tryd.prog 79 #[.pointer (some ⟨g, 0, none⟩), .string s] w fun e w' => e = .returned (.tuple #[]) ∧ ShaIn T X w' g (t ++ s.data.toList) ∧ But g w w' := by
  obtain ⟨lf, hlf, hbx⟩ := h
  refine (take_walk T X t lf s hlf (t.length : Int) (by omega) (by omega) hs g w hT hg0 hbx).mono ?_
  rintro e w' ⟨rfl, ⟨lg, hl, hb2⟩, hk⟩
  refine ⟨rfl, ⟨lg, hl, ?_⟩, hk⟩
  have e1 : ((t ++ s.data.toList).length : Int) = ((t.length : Int) + (s.size : Int)) % 18446744073709551616 := by
    rw [List.length_append, show s.data.toList.length = s.size by simp]; omega
  rw [e1]
  exact hb2

set_option maxHeartbeats 2000000 in
theorem sum_any (s : ByteArray) (hs : s.size ≤ 9223372036854775807) (w : World) (hT : Tab w) : Calls Tryd.prog 52 #[.string s] w (Tells (.string (digB s.data.toList)) w.heap.size w) := by
  have cN := fun u => new_any u
  have hl : s.data.toList.length = s.size := by simp
  have n0 := hT.1
  have cT := fun g u hu (h0 : g ≠ 2) hb => take_any (T := 145) (X := []) [] s hs (by simp; omega) g u hu h0 hb
  have cD := fun g u hu hb => digest_any (T := 145) (X := []) s.data.toList (by omega) g u hu hb
  simp only [List.nil_append] at cT
  go_enter Tryd.func52, Tryd.ntmps52
  go_wp2_with (first
    | (go_at_call 78; refine (cN _).mono ?_; rintro e w1 ⟨g, hg, rfl, hbx, b1⟩)
    | (go_at_call 79; refine (cT g _ (hT.call b1) (by omega) (new_sha hbx)).mono ?_; rintro e w2 ⟨rfl, h2, k2⟩)
    | (go_at_call 80; refine (cD g _ (k2.tab (hT.call b1) (by omega)) h2).mono ?_; rintro e w3 ⟨rfl, b3⟩))
  go_ret
  exact ⟨rfl, chain (b1.trans (k2.below hg b1.size)) b3⟩

end Go.Proofs.YtkecekfapiegjaaDoor
