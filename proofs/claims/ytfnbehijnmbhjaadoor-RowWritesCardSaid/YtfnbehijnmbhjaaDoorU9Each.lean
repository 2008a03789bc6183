/-
  Package lines' Each, walked: the function that is ranged over goes over the text's lines, each with its number, its kind, and what is wrong with it.
-/
import Derived.Test.YtfnbehijnmbhjaaDoorU9Line
import Derived.RangeFuncNested
import Derived.RangeFuncBound
import Derived.RangeFuncCalls
import Derived.RangeFuncLeaves
import Derived.RangeFuncWrites
import Derived.RangeFuncBox
import Derived.Shelf.Abstract
import Derived.Shelf.RegionOpen
import Derived.OwnWalkIn
import Derived.TacticsInMore
import Derived.LoopNIn
import Derived.LoopIn
namespace Go.Proofs.YtfnbehijnmbhjaaDoor
set_option linter.unusedVariables false
set_option linter.unusedSimpArgs false
set_option maxRecDepth 10000
open Go.RowKit Go.Shelf
attribute [local go_sem] Oper.semAt_some

theorem made_line (k : Nat) (l : List UInt8) (hs : l.length ≤ 1000000000) (w : World) : Calls Tryd.prog 60 #[.int .i64 k, .string (bA l)] w (Tells (lineV (k, l)) w.heap.size w) := by
  have h := made_any k (bA l) (by rw [bA_size]; exact hs) w
  rw [bA_list] at h
  exact h
/-- The lines of a text, numbered. -/
def linesL (l : List UInt8) : List (Nat × List UInt8) := numb 1 (splitL l)
def leftM : Value → Value → Nat
  | .string s, .bool true => s.size + 1
  | _, _ => 0
theorem abide {J : List (Nat × List UInt8) → World → Prop} {B : Nat} (h : AbidesFrom B J) {s : List (Nat × List UInt8)} {W W' : World} (hs : J s W) (hb : Below W.heap.size W W') : J s W' :=
  h s W W' none hs ⟨hb.os, hb.tape, hb.output, hb.size, fun k hk _ => hb.block k hk⟩ (fun r e => by cases e)
theorem numb_len (k : Nat) (l : List (List UInt8)) : (numb k l).length = l.length := by
  induction l generalizing k with
  | nil => rfl
  | cons x r ih => simp [numb, ih]

set_option maxHeartbeats 1000000 in
theorem each_any (s : ByteArray) (w : World) : Calls Tryd.prog 34 #[.string s] w fun e w' =>
    e = .returned (.func (.func 59) #[] #[.pointer (some ⟨w.heap.size, 0, none⟩)]) ∧ w' = w.alloc (.cells #[.string s] 9) := by
  go_enter Tryd.func34, Tryd.ntmps34
  go_wp2
  go_ret
  exact ⟨rfl, rfl⟩

set_option maxRecDepth 100000 in
set_option maxHeartbeats 2000000 in
theorem each_in (n : Nat) (hn : 1 ≤ n) (l B : Nat) (s : ByteArray) (hs : s.size ≤ 1000000000) (J Jx : List (Nat × List UInt8) → World → Prop) (W : World) (hJ : AbidesFrom W.heap.size J)
    (hY : ∀ pre x W, J pre W → pre.length < (linesL s.data.toList).length → x.2.length ≤ s.size → YieldAt Fence.wide (n - 1) Tryd.prog l #[lineV x] W fun e W' =>
      (e = .returned (.bool true) ∧ J (pre ++ [x]) W' ∧ True) ∨ (e = .returned (.bool false) ∧ Jx (pre ++ [x]) W'))
    (hB : W.cell? ⟨B, 0, none⟩ = some (.string s)) (h0 : J [] W) :
    CallsIn Fence.wide n Tryd.prog 59 #[.func (.yield l) #[] #[], .pointer (some ⟨B, 0, none⟩)] W fun e W' => (∃ v, e = .returned v) ∧
      ((∃ xs, xs = linesL s.data.toList ∧ J xs W') ∨ (∃ pre, pre <+: linesL s.data.toList ∧ Jx pre W')) := by
  obtain ⟨all, hall⟩ : ∃ all, linesL s.data.toList = all := ⟨_, rfl⟩
  rw [hall] at hY ⊢
  have HALL := hideIt hall
  clear hall
  refine callsIn_of_wp Tryd.func59 rfl trivial ?_ rfl
  simp only [Tryd.ntmps59, List.size_toArray, List.length_cons, List.length_nil, Nat.reduceAdd, Nat.reduceSub, Array.replicate_succ, Array.replicate_zero, List.push_toArray, List.append_toArray, List.nil_append, List.cons_append]
  have hnil : ∀ u : World, (binOp .eql 104 (.func (.yield l) #[] #[]) .nilFunc).run Tryd.prog u = .ok (.bool false) u := fun u => by kernel_rfl
  refine wpIn_wide.2 ?_
  go_upto_region 1 with fail
  go_quiet (fail)
  have hw1 : IntKind.i64.wrap 1 = 1 := by decide
  have J0 : J [] (W.drewN nq) := abide hJ h0 (below_drewN (Below.refl _ _) _)
  have bW := below_drewN (Below.refl W.heap.size W) nq
  generalize W.drewN nq = V at *
  go_wp2
  refine (wpIn_wide (n := n)).1 ?_
  gi_loopw [3, 4, 5] (fun k r m wr => ∃ (pre : List (Nat × List UInt8)) (j : Nat), pre.length + 1 = j ∧ k = .int .i64 j ∧ j ≤ s.size + 2 ∧ J pre wr ∧
      ((m = .bool false ∧ Hid (pre = all)) ∨ (m = .bool true ∧ ∃ t : ByteArray, r = .string t ∧ t.size + j ≤ s.size + 1 ∧ Hid (pre ++ numb j (splitL t.data.toList) = all))))
    (fun k r m _ => leftM r m)
  case atStart => exact ⟨[], 1, rfl, rfl, by omega, J0, .inr ⟨rfl, s, rfl, by omega, HALL⟩⟩
  case round =>
    obtain ⟨pre, j, hj, rfl, hjs, hJr, hcase⟩ := hrel
    rcases hcase with ⟨rfl, hfin⟩ | ⟨rfl, t, rfl, htj, hrest⟩
    · gi_wp2
      go_end0
      exact ⟨⟨_, rfl⟩, .inl ⟨pre, hfin.out, hJr⟩⟩
    · have hj1 : IntKind.i64.wrap ((j : Int) + 1) = ((j + 1 : Nat) : Int) := by rw [IntKind.wrap_i64]; omega
      have hall2 := hrest.out
      by_cases hi : Lib.indexByte t.data.toList 10 < 0
      · have cC := fun u => cut_none t hi u
        rw [split_none (index_none hi)] at hall2
        have hlen : pre.length < all.length := by rw [← hall2]; simp [numb]
        have cM := fun u => made_line j t.data.toList (by rw [ba_size]; omega) u
        rw [bA_of] at cM
        have HA := hideIt hall2
        clear hall2 hrest hi
        gi_wp2_with (first
          | (refine ⟨trivial, ?_⟩; gi_at_call 27; refine (callsIn_wide.2 (cC _)).mono ?_; rintro e w1 ⟨rfl, rfl⟩)
          | (refine ⟨trivial, ?_⟩; gi_at_call 60; refine (callsIn_wide.2 (cM _)).mono ?_; rintro e w2 ⟨rfl, b2⟩; obtain ⟨fn, tmps, assign, body, hy, hR⟩ := hY pre (j, t.data.toList) w2 (abide hJ hJr b2) hlen (by simp only [ba_size]; omega)))
        refine hR.mono ?_
        rintro e W3 (⟨rfl, hJ3, -⟩ | ⟨rfl, hJx3⟩)
        · gi_wp2
          go_roundw
          case rel => exact ⟨pre ++ [(j, t.data.toList)], j + 1, by rw [List.length_append]; simp; omega, rfl, by omega, hJ3, .inl ⟨rfl, HA.out⟩⟩
          case measure => simp [leftM]
        · gi_wp2
          refine bodyPost_ret (results_none rfl _ _ _) rfl ?_
          exact ⟨⟨_, rfl⟩, .inr ⟨_, ⟨[], by rw [List.append_nil]; exact HA.out⟩, hJx3⟩⟩
      · obtain ⟨i, hi'⟩ : ∃ i : Nat, Lib.indexByte t.data.toList 10 = (i : Int) := ⟨(Lib.indexByte t.data.toList 10).toNat, by omega⟩
        have cC := fun u => cut_some t i hi' (by omega) u
        obtain ⟨hil, hi1, hi2⟩ := index_some hi'
        rw [ba_size] at hil
        rw [split_some hi1 hi2] at hall2
        obtain ⟨x, hx⟩ : ∃ x, t.data.toList.take i = x := ⟨_, rfl⟩
        obtain ⟨y, hy'⟩ : ∃ y, bA (t.data.toList.drop (i + 1)) = y := ⟨_, rfl⟩
        have hyl : y.data.toList = t.data.toList.drop (i + 1) := by rw [← hy', bA_list]
        have hys : y.size = t.size - (i + 1) := by rw [← ba_size, hyl, List.length_drop, ba_size]
        have hxs : x.length ≤ 1000000000 := by rw [← hx, List.length_take, ba_size]; omega
        have hxt : x.length ≤ s.size := by rw [← hx, List.length_take, ba_size]; omega
        rw [hx, ← hyl] at hall2
        rw [hx, hy'] at cC
        have hlen : pre.length < all.length := by rw [← hall2]; simp [numb]
        have cM := fun u => made_line j x hxs u
        have HA := hideIt hall2
        clear hall2 hrest hi hi' hi1 hi2 hx hy' hyl
        gi_wp2_with (first
          | (refine ⟨trivial, ?_⟩; gi_at_call 27; refine (callsIn_wide.2 (cC _)).mono ?_; rintro e w1 ⟨rfl, b1⟩)
          | (refine ⟨trivial, ?_⟩; gi_at_call 60; refine (callsIn_wide.2 (cM _)).mono ?_; rintro e w2 ⟨rfl, b2⟩; obtain ⟨fn, tmps, assign, body, hy, hR⟩ := hY pre (j, x) w2 (abide hJ hJr (chain b1 b2)) hlen hxt))
        refine hR.mono ?_
        rintro e W3 (⟨rfl, hJ3, -⟩ | ⟨rfl, hJx3⟩)
        · gi_wp2
          go_roundw
          case rel => exact ⟨pre ++ [(j, x)], j + 1, by rw [List.length_append]; simp; omega, rfl, by omega, hJ3, .inr ⟨rfl, y, rfl, by omega, by have := HA.out; rw [← this]; simp [Hid, numb]⟩⟩
          case measure => simp [leftM]; omega
        · gi_wp2
          refine bodyPost_ret (results_none rfl _ _ _) rfl ?_
          exact ⟨⟨_, rfl⟩, .inr ⟨_, ⟨numb (j + 1) (splitL y.data.toList), by have := HA.out; rw [← this]; simp [numb]⟩, hJx3⟩⟩

theorem each_stops (n : Nat) (hn : 1 ≤ n) (B : Nat) (s : ByteArray) (hs : s.size ≤ 1000000000) (w : World) (hB : w.cell? ⟨B, 0, none⟩ = some (.string s)) (hlB : B < w.heap.size) :
    SeqStopsK Fence.wide n Tryd.prog 59 #[.pointer (some ⟨B, 0, none⟩)] (fun x : Nat × List UInt8 => #[lineV x]) (fun _ _ => True) (fun xs => xs = linesL s.data.toList) (fun pre => pre <+: linesL s.data.toList)
      (linesL s.data.toList).length w := fun l J Jx W hW hJ _ hY h0 =>
  each_in n hn l B s hs J Jx W hJ (fun pre x W h1 h2 _ => hY pre x W h1 h2) ((hW.cell (p := ⟨B, 0, none⟩) hlB).trans hB) h0
/-- A line of a text of that size. -/
abbrev LnOf (n : Nat) := { x : Nat × List UInt8 // x.2.length ≤ n }
/-- The same, where who ranges over it is told of each line that it isn't longer than the text. -/
theorem each_stopsB (n : Nat) (hn : 1 ≤ n) (B : Nat) (s : ByteArray) (hs : s.size ≤ 1000000000) (w : World) (hB : w.cell? ⟨B, 0, none⟩ = some (.string s)) (hlB : B < w.heap.size) :
    SeqStopsK Fence.wide n Tryd.prog 59 #[.pointer (some ⟨B, 0, none⟩)] (fun x : LnOf s.size => #[lineV x.1]) (fun _ _ => True) (fun xs => xs.map (·.1) = linesL s.data.toList) (fun pre => pre.map (·.1) <+: linesL s.data.toList)
      (linesL s.data.toList).length w := fun l J Jx W hW hJ hJx hY h0 => by
  refine (each_in n hn l B s hs (fun pre W => ∃ p : List (LnOf s.size), p.map (·.1) = pre ∧ J p W) (fun pre W => ∃ p : List (LnOf s.size), p.map (·.1) = pre ∧ Jx p W) W ?_ ?_ ((hW.cell (p := ⟨B, 0, none⟩) hlB).trans hB) ⟨[], rfl, h0⟩).mono ?_
  · rintro pre W W' row ⟨p, hp, hj⟩ hg hr
    exact ⟨p, hp, hJ p W W' row hj hg hr⟩
  · rintro pre x W1 ⟨p, hp, hj⟩ hlt hx
    obtain ⟨fn, tmps, assign, body, hy, hR⟩ := hY p ⟨x, hx⟩ W1 hj (by rw [← hp, List.length_map] at hlt; exact hlt)
    refine ⟨fn, tmps, assign, body, hy, hR.mono ?_⟩
    rintro e W' (⟨h1, h2, h3⟩ | ⟨h1, h2⟩)
    · exact .inl ⟨h1, ⟨p ++ [⟨x, hx⟩], by rw [List.map_append, hp]; rfl, h2⟩, trivial⟩
    · exact .inr ⟨h1, ⟨p ++ [⟨x, hx⟩], by rw [List.map_append, hp]; rfl, h2⟩⟩
  · rintro e W' ⟨h1, h2⟩
    refine ⟨h1, ?_⟩
    rcases h2 with ⟨xs, e2, p, hp, hj⟩ | ⟨pre, h3, p, hp, hj⟩
    · exact .inl ⟨p, hp.trans e2, hj⟩
    · exact .inr ⟨p, by subst hp; exact h3, hj⟩
end Go.Proofs.YtfnbehijnmbhjaaDoor
