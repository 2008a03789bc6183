/-
  Package sha's blocks, walked: the function that is ranged over goes over the whole blocks of both texts.
-/
import Derived.Test.YtkmnfogcocppjaaDoorU5Sha
import Derived.RangeFuncNested
import Derived.RangeFuncBound
import Derived.RangeFuncCalls
import Derived.RangeFuncLeaves
import Derived.Shelf.Abstract
import Derived.Shelf.RegionOpen
import Derived.OwnWalkIn
import Derived.TacticsInMore
import Derived.LoopNIn
import Derived.LoopIn
namespace Go.Proofs.YtkmnfogcocppjaaDoor
set_option linter.unusedVariables false
set_option linter.unusedSimpArgs false
set_option maxRecDepth 10000
open Go.RowKit Go.Shelf
attribute [local go_sem] Oper.semAt_some

/-- Block b lies as it lay. -/
def KeptB (b : Nat) (W W' : World) : Prop := W'.heap[b]? = W.heap[b]?
theorem KeptB.cell {b : Nat} {W W' : World} (h : KeptB b W W') (i : Nat) : W'.cell? ⟨b, i, none⟩ = W.cell? ⟨b, i, none⟩ := World.cell?_of_block (w := W) h
theorem KeptB.trans {b : Nat} {A B C : World} (h : KeptB b A B) (k : KeptB b B C) : KeptB b A C := Eq.trans k h
def strLen : Value → Nat
  | .string s => s.size
  | _ => 0
/-- What is still to come of two rows. -/
def tailC (c0 c1 : List B64) : Nat → List B64
  | 0 => c0 ++ c1
  | 1 => c1
  | _ => []

set_option maxHeartbeats 1000000 in
theorem blocks_any (a : Option Addr) (len cap : Nat) (w : World) : Calls Tryd.prog 70 #[.slice a len cap] w fun e w' =>
    e = .returned (.func (.func 78) #[] #[.pointer (some ⟨w.heap.size, 0, none⟩)]) ∧ w' = w.alloc (.cells #[.slice a len cap] 104) := by
  go_enter Tryd.func70, Tryd.ntmps70
  go_wp2
  go_ret
  exact ⟨rfl, rfl⟩

theorem drop64 (r : ByteArray) (h : 64 ≤ r.size) : (r.extract 64 r.size).data.toList = r.data.toList.drop 64 ∧ (r.extract 64 r.size).size = r.size - 64 := by
  constructor
  · rw [ByteArray.data_extract, Array.toList_extract, List.extract_eq_take_drop]
    apply List.take_of_length_le
    rw [List.length_drop]
    exact Nat.le_of_eq rfl
  · simp [ByteArray.size_extract]
theorem chunks_ba (r : ByteArray) (h : 64 ≤ r.size) : chunks r.data.toList = bk r.data.toList :: chunks (r.extract 64 r.size).data.toList := by
  rw [(drop64 r h).1]; exact chunks_step _ (by simpa using h)

set_option maxRecDepth 100000 in
set_option maxHeartbeats 2000000 in
theorem iter_in (n : Nat) (hn : 1 ≤ n) (l Bs b : Nat) (s0 s1 : ByteArray) (J Jx : List B64 → World → Prop)
    (hY : ∀ pre x W, J pre W → pre.length < (chunks s0.data.toList ++ chunks s1.data.toList).length → YieldAt Fence.wide (n - 1) Tryd.prog l #[.string x.1] W fun e W' =>
      (e = .returned (.bool true) ∧ J (pre ++ [x]) W' ∧ KeptB b W W') ∨ (e = .returned (.bool false) ∧ Jx (pre ++ [x]) W'))
    (W : World) (hBs : W.cell? ⟨Bs, 0, none⟩ = some (.slice (some ⟨b, 0, none⟩) 2 2)) (hb : b < W.heap.size) (hc0 : W.cell? ⟨b, 0, none⟩ = some (.string s0)) (hc1 : W.cell? ⟨b, 1, none⟩ = some (.string s1)) (h0 : J [] W) :
    CallsIn Fence.wide n Tryd.prog 78 #[.func (.yield l) #[] #[], .pointer (some ⟨Bs, 0, none⟩)] W fun e W' => (∃ v, e = .returned v) ∧
      ((∃ xs, xs = chunks s0.data.toList ++ chunks s1.data.toList ∧ J xs W') ∨ (∃ pre, True ∧ Jx pre W')) := by
  obtain ⟨all, hall⟩ : ∃ all, chunks s0.data.toList ++ chunks s1.data.toList = all := ⟨_, rfl⟩
  rw [hall] at hY ⊢
  have HALL := hideIt hall
  clear hall
  refine callsIn_of_wp Tryd.func78 rfl trivial ?_ rfl
  simp only [Tryd.ntmps78, List.size_toArray, List.length_cons, List.length_nil, Nat.reduceAdd, Nat.reduceSub, Array.replicate_succ, Array.replicate_zero, List.push_toArray, List.append_toArray, List.nil_append, List.cons_append]
  gi_wp2
  gi_loopw [7] (fun i wr => ∃ k : Nat, k ≤ 2 ∧ i = .int .i64 k ∧ ∃ pre, Hid (pre ++ tailC (chunks s0.data.toList) (chunks s1.data.toList) k = all) ∧ J pre wr ∧ KeptB b W wr)
    (fun i _ => 2 - (intOf i).toNat)
  case atStart => exact ⟨0, by omega, rfl, [], HALL, h0, rfl⟩
  case round =>
    obtain ⟨k, hk, rfl, pre, hpre, hJ, hkept⟩ := hrel
    by_cases hlt : k < 2
    · obtain ⟨sk, hck, tl, htl, htl2⟩ : ∃ sk : ByteArray, wr.cell? ⟨b, k, none⟩ = some (.string sk) ∧ ∃ tl, tailC (chunks s0.data.toList) (chunks s1.data.toList) k = chunks sk.data.toList ++ tl ∧ tailC (chunks s0.data.toList) (chunks s1.data.toList) (k + 1) = tl := by
        match k, hlt with
        | 0, _ => exact ⟨s0, (hkept.cell 0).trans hc0, _, rfl, rfl⟩
        | 1, _ => exact ⟨s1, (hkept.cell 1).trans hc1, [], by simp [tailC], rfl⟩
      have hp2 : Hid (pre ++ (chunks sk.data.toList ++ tl) = all) := by rw [← htl]; exact hpre.out
      have HT2 := hideIt htl2
      clear htl htl2 hpre
      have hdk : decide ((k : Int) < 2) = true := decide_eq_true (by omega)
      gi_wp2
      gi_loopw [4] (fun v wq => ∃ (r : ByteArray) (pr : List B64), v = .string r ∧ Hid (pr ++ (chunks r.data.toList ++ tl) = all) ∧ J pr wq ∧ KeptB b W wq)
        (fun v _ => strLen v)
      case atStart => exact ⟨sk, pre, rfl, hp2, hJ, hkept⟩
      case round =>
        obtain ⟨r, pr, rfl, hpr, hJr, hkr⟩ := hrel
        by_cases h64 : 64 ≤ r.size
        · have hsp := hpr.out
          rw [chunks_ba r h64] at hsp
          obtain ⟨fn, tmps, assign, body, hy, hR⟩ := hY pr (bk r.data.toList) wr hJr (by rw [← hsp]; simp)
          rw [bk_extract r h64] at hy
          have HSP := hideIt hsp
          have h64i : (64 : Int) ≤ (r.size : Int) := by omega
          have hd := (drop64 r h64).2
          clear hsp hpr
          gi_wp2
          refine hR.mono ?_
          rintro e W3 (⟨rfl, hJ3, hk3⟩ | ⟨rfl, hJx3⟩)
          · gi_wp2
            go_roundw
            case rel => exact ⟨r.extract 64 r.size, pr ++ [bk r.data.toList], rfl, by have := HSP.out; rw [← this]; simp [Hid], hJ3, hkr.trans hk3⟩
            case measure => simp only [strLen]; omega
          · gi_wp2
            refine bodyPost_ret (results_none rfl _ _ _) rfl ?_
            exact ⟨⟨_, rfl⟩, .inr ⟨_, trivial, hJx3⟩⟩
        · have hsh : chunks r.data.toList = [] := chunks_short _ (by simpa using h64)
          have hp3 := hpr.out
          rw [hsh, List.nil_append, ← HT2.out] at hp3
          have HP3 := hideIt hp3
          have h64i : ¬ ((64 : Int) ≤ (r.size : Int)) := by omega
          clear hp3 hpr hsh
          gi_wp2
          go_roundw
          case rel => exact ⟨k + 1, by omega, by simp, pr, HP3, hJr, hkr⟩
          case measure => simp [intOf]; omega
    · have e : k = 2 := by omega
      subst e
      have hp2 := hpre.out
      simp only [tailC, List.append_nil] at hp2
      have HP2 := hideIt hp2
      clear hp2 hpre
      gi_wp2
      go_end0
      exact ⟨⟨_, rfl⟩, .inl ⟨pre, HP2.out, hJ⟩⟩

theorem iter_stops (n : Nat) (hn : 1 ≤ n) (Bs b : Nat) (s0 s1 : ByteArray) (w : World) (hBs : w.cell? ⟨Bs, 0, none⟩ = some (.slice (some ⟨b, 0, none⟩) 2 2)) (hlB : Bs < w.heap.size) (hb : b < w.heap.size)
    (hc0 : w.cell? ⟨b, 0, none⟩ = some (.string s0)) (hc1 : w.cell? ⟨b, 1, none⟩ = some (.string s1)) :
    SeqStopsK Fence.wide n Tryd.prog 78 #[.pointer (some ⟨Bs, 0, none⟩)] (fun x : B64 => #[Value.string x.1]) (KeptB b) (fun xs => xs = chunks s0.data.toList ++ chunks s1.data.toList) (fun _ => True)
      (chunks s0.data.toList ++ chunks s1.data.toList).length w := fun l J Jx W hW _ _ hY h0 =>
  iter_in n hn l Bs b s0 s1 J Jx hY W ((hW.cell (p := ⟨Bs, 0, none⟩) hlB).trans hBs) (Nat.lt_of_lt_of_le hb hW.size) ((hW.cell (p := ⟨b, 0, none⟩) hb).trans hc0) ((hW.cell (p := ⟨b, 1, none⟩) hb).trans hc1) h0
end Go.Proofs.YtkmnfogcocppjaaDoor
