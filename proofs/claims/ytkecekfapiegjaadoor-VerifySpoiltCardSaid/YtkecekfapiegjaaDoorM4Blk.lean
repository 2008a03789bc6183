/- Several of my texts, laid as one. -/
import Derived.Test.YtkecekfapiegjaaDoorM4Pln
import Derived.Test.YtkecekfapiegjaaDoorM0Wrd
import Derived.Test.YtkecekfapiegjaaDoorRows
import Derived.WalkKit
import Derived.WalkSpells
import Derived.StillTactics
import Derived.Laws.Pointers
import Derived.Laws.Bits64b
import Derived.RowKit3
import Derived.Outline
import Derived.BigQuiet
import Derived.Deep.QuietTactic
import Derived.LoopTactic
import Derived.Deep.RegionWith
import Derived.Deep.LoopGhost
import Derived.Deep.RegionHeld3
import Derived.RegionTactic
import Derived.Deep.CutRange
import Derived.Deep.DeepCutAuto
import Derived.IntWalk
import Derived.StillTail
import Derived.ChangeKeysEq
import Derived.Laws.BytesArg
/-
  Package block's turn, s0, s1, walked: words turned and moved.
-/
namespace Go.Proofs.YtkecekfapiegjaaDoor
set_option linter.unusedVariables false
set_option linter.unusedSimpArgs false
set_option maxRecDepth 10000
open Go.RowKit

theorem neg_and31 : ∀ n : Nat, n < 32 → 1 ≤ n → bits .and .u64 (IntKind.u64.wrap (-(n : Int))) 31 = 32 - n := by decide +kernel

set_option maxHeartbeats 2000000 in
theorem rotl_any (x : B32) (n : Nat) (h1 : 1 ≤ n) (h2 : n < 32) (w : World) : Calls Tryd.prog 132 #[.int .u32 (iv x), .int .i64 (-(n : Int))] w (Plain (.int .u32 (iv (rot x n))) w) := by
  have e1 := neg_and31 n h2 h1
  go_enter Tryd.func132, Tryd.ntmps132
  go_wp2
  have e : bits .or .u32 (iv x * 2 ^ (32 - n) % 4294967296) (iv x / 2 ^ (32 - (32 - n))) = iv (rot x n) := by
    rw [iv_shlm, iv_shr, iv_or, show 32 - (32 - n) = n by omega, BitVec.or_comm]
    rfl
  rw [e]
  go_ret
  exact ⟨rfl, rfl⟩

set_option maxHeartbeats 2000000 in
theorem turn_any (x : B32) (n : Nat) (h1 : 1 ≤ n) (h2 : n < 32) (w : World) : Calls Tryd.prog 131 #[.int .u32 (iv x), .int .i64 n] w (Plain (.int .u32 (iv (rot x n))) w) := by
  have c := fun u => rotl_any x n h1 h2 u
  go_enter Tryd.func131, Tryd.ntmps131
  go_wp2_with (first | (go_at_call 132; refine (c _).mono ?_; rintro e w' ⟨rfl, rfl⟩))
  go_ret
  exact ⟨rfl, rfl⟩

theorem turn_lit (x : B32) (n : Nat) (k : Int) (hk : k = n) (h1 : 1 ≤ n) (h2 : n < 32) (w : World) : Calls Tryd.prog 131 #[.int .u32 (iv x), .int .i64 k] w (Plain (.int .u32 (iv (rot x n))) w) := by
  subst hk
  exact turn_any x n h1 h2 w

set_option maxHeartbeats 2000000 in
theorem sched0_any (x : B32) (w : World) : Calls Tryd.prog 125 #[.int .u32 (iv x)] w (Plain (.int .u32 (iv (sig0 x))) w) := by
  have c1 := fun u => turn_lit x 7 7 rfl (by decide) (by decide) u
  have c2 := fun u => turn_lit x 18 18 rfl (by decide) (by decide) u
  have e1 := iv_xor
  go_enter Tryd.func125, Tryd.ntmps125
  go_wp2_with (first
    | (go_at_call_of 131 (Value.int .i64 7); refine (c1 _).mono ?_; rintro e w' ⟨rfl, rfl⟩)
    | (go_at_call_of 131 (Value.int .i64 18); refine (c2 _).mono ?_; rintro e w' ⟨rfl, rfl⟩))
  rw [shr3, iv_xor]
  go_ret
  exact ⟨rfl, rfl⟩
set_option maxHeartbeats 2000000 in
theorem sched1_any (x : B32) (w : World) : Calls Tryd.prog 126 #[.int .u32 (iv x)] w (Plain (.int .u32 (iv (sig1 x))) w) := by
  have c1 := fun u => turn_lit x 17 17 rfl (by decide) (by decide) u
  have c2 := fun u => turn_lit x 19 19 rfl (by decide) (by decide) u
  have e1 := iv_xor
  go_enter Tryd.func126, Tryd.ntmps126
  go_wp2_with (first
    | (go_at_call_of 131 (Value.int .i64 17); refine (c1 _).mono ?_; rintro e w' ⟨rfl, rfl⟩)
    | (go_at_call_of 131 (Value.int .i64 19); refine (c2 _).mono ?_; rintro e w' ⟨rfl, rfl⟩))
  rw [shr10, iv_xor]
  go_ret
  exact ⟨rfl, rfl⟩

theorem or_byte4 (a c : Int) (ha : 0 ≤ a) (ha' : a < 16777216) (hc : 0 ≤ c) (hc' : c < 256) : bits .or .u32 (a * 256) c = a * 256 + c := by
  obtain ⟨a, rfl⟩ := Int.eq_ofNat_of_zero_le ha
  obtain ⟨c, rfl⟩ := Int.eq_ofNat_of_zero_le hc
  have h := u32_or_nat (a * 256) c (by omega) (by omega)
  have e : a * 256 ||| c = a * 256 + c := by
    rw [Nat.mul_comm, show (256 : Nat) = 2 ^ 8 from rfl, ← Nat.two_pow_add_eq_or_of_lt (by omega)]
  rw [e] at h
  exact h

set_option maxHeartbeats 2000000 in
theorem word_any (s : ByteArray) (hs : s.size = 4) (w : World) : Calls Tryd.prog 124 #[.string s] w (Plain (.int .u32 (beI s.data.toList)) w) := by
  have HS := hideIt hs
  have hle : s.size ≤ 4 := by omega
  clear hs
  go_enter Tryd.func124, Tryd.ntmps124
  go_wp2
  go_loop [3, 7] (fun n i => ∃ k : Nat, k ≤ s.size ∧ i = .int .i64 k ∧ n = .int .u32 (beI (s.data.toList.take k))) (fun _ i => s.size - (intOf i).toNat)
  case atStart => exact ⟨0, Nat.zero_le _, rfl, rfl⟩
  case round =>
    obtain ⟨k, hk, rfl, rfl⟩ := hrel
    by_cases hlt : k < s.size
    · have hl : (s.data.toList.take k).length ≤ 3 := by rw [List.length_take]; omega
      have hb := beI_bd (s.data.toList.take k)
      have hts : s.data.toList.take (k + 1) = s.data.toList.take k ++ [s[k]] := by
        rw [List.take_succ_eq_append_getElem (by simpa using hlt)]; rfl
      have hn := beI_snoc (s.data.toList.take k) s[k]
      rw [← hts] at hn
      have HN := hideIt hn
      clear hts hn
      have ha0 := beI_lt3 _ hl
      have ha1 := hb.1
      clear hb hl
      generalize beI (s.data.toList.take k) = a at *
      have ho := or_byte4 a (s[k].toNat : Int) (by omega) (by omega) (by omega) (by have := s[k].toNat_lt; omega)
      have hw : (s[k].toNat : Int) % 4294967296 = (s[k].toNat : Int) := by have := s[k].toNat_lt; omega
      have ha : a * 256 % 4294967296 = a * 256 := by omega
      go_wp2
      all_goals
        go_round
        case rel => exact ⟨k + 1, by omega, by go_num, by rw [HN.out]⟩
        case measure => simp [intOf]; omega
    · have hts : s.data.toList.take k = s.data.toList := List.take_of_length_le (by simpa using hlt)
      have HT := hideIt hts
      clear hts
      go_wp2
      go_ret
      exact ⟨by rw [HT.out]; rfl, rfl⟩
end Go.Proofs.YtkecekfapiegjaaDoor
/-
  block.Constant, upper, lower, Round, Unround, First, walked: any state, any place, any word; the table's cells are what they hold as the program lays them.
-/
namespace Go.Proofs.YtkecekfapiegjaaDoor
set_option linter.unusedVariables false
set_option linter.unusedSimpArgs false
set_option maxRecDepth 10000
open Go.RowKit

/-- The table of constants stands where it is laid. -/
def Tab (w : World) : Prop := 2 < w.heap.size ∧ ∀ i, i < 64 → w.cell? ⟨2, i, none⟩ = some (.int .u32 (iv (kB.getD i 0)))
theorem Tab.below {w w' : World} {B : Nat} (h : Tab w) (hb : Below B w w') (hB : 2 < B) : Tab w' :=
  ⟨Nat.lt_of_lt_of_le h.1 hb.size, fun i hi => (hb.cell (p := ⟨2, i, none⟩) hB).trans (h.2 i hi)⟩
theorem Tab.call {w w' : World} (h : Tab w) (hb : Below w.heap.size w w') : Tab w' := h.below hb h.1
theorem Tab.past {w : World} (h : Tab w) (o : Obj) : Tab (w.alloc o) := h.call ((Below.refl _ w).alloc (Nat.le_refl _) o)
theorem Tab.drewN {w : World} (h : Tab w) (n : Nat) : Tab (w.drewN n) := h
theorem Tab.drew {w : World} (h : Tab w) : Tab w.drew := h

/-- A state in its block: its cells, all of them open. -/
theorem Box.st {w : World} {g : Nat} {t : TypeId} {s : St} (h : Box w g t s.cs) :
    w.cell? ⟨g, 0, none⟩ = some (.int .u32 (iv s.a)) ∧ w.cell? ⟨g, 1, none⟩ = some (.int .u32 (iv s.b)) ∧ w.cell? ⟨g, 2, none⟩ = some (.int .u32 (iv s.c)) ∧ w.cell? ⟨g, 3, none⟩ = some (.int .u32 (iv s.d)) ∧
    w.cell? ⟨g, 4, none⟩ = some (.int .u32 (iv s.e)) ∧ w.cell? ⟨g, 5, none⟩ = some (.int .u32 (iv s.f)) ∧ w.cell? ⟨g, 6, none⟩ = some (.int .u32 (iv s.g)) ∧ w.cell? ⟨g, 7, none⟩ = some (.int .u32 (iv s.h)) :=
  ⟨h.read 0, h.read 1, h.read 2, h.read 3, h.read 4, h.read 5, h.read 6, h.read 7⟩
theorem Box.eight {w : World} {g : Nat} {t : TypeId} {cs : Array Value} (h : Box w g t cs) :
    w.frozen? ⟨g, 0, none⟩ = false ∧ w.frozen? ⟨g, 1, none⟩ = false ∧ w.frozen? ⟨g, 2, none⟩ = false ∧ w.frozen? ⟨g, 3, none⟩ = false ∧ w.frozen? ⟨g, 4, none⟩ = false ∧ w.frozen? ⟨g, 5, none⟩ = false ∧
    w.frozen? ⟨g, 6, none⟩ = false ∧ w.frozen? ⟨g, 7, none⟩ = false ∧ g < w.heap.size :=
  ⟨h.free 0, h.free 1, h.free 2, h.free 3, h.free 4, h.free 5, h.free 6, h.free 7, h.inside⟩

set_option maxHeartbeats 2000000 in
theorem const_any (k : Int) (w : World) (hT : Tab w) : Calls Tryd.prog 128 #[.int .i64 k] w (Plain (.int .u32 (iv (kAt k))) w) := by
  by_cases h0 : k < 0
  · have e : (0 : Int) = iv (kAt k) := by unfold kAt; rw [if_neg (by omega)]; rfl
    have E := hideIt e
    clear e
    go_enter Tryd.func128, Tryd.ntmps128
    go_wp2
    rw [E.out]
    go_ret
    exact ⟨rfl, rfl⟩
  by_cases h1 : 64 ≤ k
  · have e : (0 : Int) = iv (kAt k) := by unfold kAt; rw [if_neg (by omega)]; rfl
    have E := hideIt e
    clear e
    go_enter Tryd.func128, Tryd.ntmps128
    go_wp2
    rw [E.out]
    go_ret
    exact ⟨rfl, rfl⟩
  · obtain ⟨n, hn⟩ : ∃ n : Nat, k.toNat = n := ⟨_, rfl⟩
    have hr := hT.2 n (by omega)
    have e : kAt k = kB.getD n 0 := by unfold kAt; rw [if_pos (by omega), hn]
    rw [← e] at hr
    have hin := hT.1
    clear e hT
    generalize kAt k = x at *
    have h2 : k < 64 := by omega
    have h3 : ¬ (64 ≤ k) := h1
    go_enter Tryd.func128, Tryd.ntmps128
    go_wp2
    go_ret
    exact ⟨rfl, rfl⟩

set_option maxHeartbeats 2000000 in
theorem upper_any (e f g : B32) (w : World) : Calls Tryd.prog 127 #[.int .u32 (iv e), .int .u32 (iv f), .int .u32 (iv g)] w (Plain (.int .u32 (iv (sum1 e + chB e f g))) w) := by
  have c1 := fun u => turn_lit e 6 6 rfl (by decide) (by decide) u
  have c2 := fun u => turn_lit e 11 11 rfl (by decide) (by decide) u
  have c3 := fun u => turn_lit e 25 25 rfl (by decide) (by decide) u
  go_enter Tryd.func127, Tryd.ntmps127
  go_wp2_with (first
    | (go_at_call_of 131 (Value.int .i64 6); refine (c1 _).mono ?_; rintro e w' ⟨rfl, rfl⟩)
    | (go_at_call_of 131 (Value.int .i64 11); refine (c2 _).mono ?_; rintro e w' ⟨rfl, rfl⟩)
    | (go_at_call_of 131 (Value.int .i64 25); refine (c3 _).mono ?_; rintro e w' ⟨rfl, rfl⟩))
  simp only [not_word, not_max, iv_xor, iv_and, iv_or, iv_addm]
  go_ret
  exact ⟨rfl, rfl⟩
set_option maxHeartbeats 2000000 in
theorem lower_any (a b c : B32) (w : World) : Calls Tryd.prog 129 #[.int .u32 (iv a), .int .u32 (iv b), .int .u32 (iv c)] w (Plain (.int .u32 (iv (sum0 a + majB a b c))) w) := by
  have c1 := fun u => turn_lit a 2 2 rfl (by decide) (by decide) u
  have c2 := fun u => turn_lit a 13 13 rfl (by decide) (by decide) u
  have c3 := fun u => turn_lit a 22 22 rfl (by decide) (by decide) u
  go_enter Tryd.func129, Tryd.ntmps129
  go_wp2_with (first
    | (go_at_call_of 131 (Value.int .i64 2); refine (c1 _).mono ?_; rintro e w' ⟨rfl, rfl⟩)
    | (go_at_call_of 131 (Value.int .i64 13); refine (c2 _).mono ?_; rintro e w' ⟨rfl, rfl⟩)
    | (go_at_call_of 131 (Value.int .i64 22); refine (c3 _).mono ?_; rintro e w' ⟨rfl, rfl⟩))
  simp only [not_word, not_max, iv_xor, iv_and, iv_or, iv_addm]
  go_ret
  exact ⟨rfl, rfl⟩

theorem unround_eq (s : St) (k w : B32) : unturned s k w = ⟨s.b, s.c, s.d, s.e - (s.a - (sum0 s.b + majB s.b s.c s.d)), s.f, s.g, s.h, s.a - (sum0 s.b + majB s.b s.c s.d) - (sum1 s.f + chB s.f s.g s.h) - k - w⟩ := rfl
/-- Eight cells written one behind the other. -/
def set8 (W : World) (g : Nat) (s : St) : World :=
  let w1 := World.setCell W ⟨g, 0, none⟩ (Value.int .u32 (iv s.a))
  let w2 := World.setCell w1 ⟨g, 1, none⟩ (Value.int .u32 (iv s.b))
  let w3 := World.setCell w2 ⟨g, 2, none⟩ (Value.int .u32 (iv s.c))
  let w4 := World.setCell w3 ⟨g, 3, none⟩ (Value.int .u32 (iv s.d))
  let w5 := World.setCell w4 ⟨g, 4, none⟩ (Value.int .u32 (iv s.e))
  let w6 := World.setCell w5 ⟨g, 5, none⟩ (Value.int .u32 (iv s.f))
  let w7 := World.setCell w6 ⟨g, 6, none⟩ (Value.int .u32 (iv s.g))
  World.setCell w7 ⟨g, 7, none⟩ (Value.int .u32 (iv s.h))
theorem Box.put {w : World} {g : Nat} {t : TypeId} {s0 : St} (h : Box w g t s0.cs) (k : Nat) (v : B32) (hk : k < 8) : Box (w.setCell ⟨g, k, none⟩ (Value.int .u32 (iv v))) g t (s0.put k v).cs := by
  rw [← St.cs_put _ _ _ hk]; exact h.wrote k _
theorem Box.wrote8 {w : World} {g : Nat} {t : TypeId} {s0 : St} (h : Box w g t s0.cs) (s : St) : Box (set8 w g s) g t s.cs := by
  have h1 := h.put 0 s.a (by decide)
  have h2 := h1.put 1 s.b (by decide)
  have h3 := h2.put 2 s.c (by decide)
  have h4 := h3.put 3 s.d (by decide)
  have h5 := h4.put 4 s.e (by decide)
  have h6 := h5.put 5 s.f (by decide)
  have h7 := h6.put 6 s.g (by decide)
  have h8 := h7.put 7 s.h (by decide)
  rw [St.put_all] at h8
  exact h8
/-- Behind that nothing below has turned. -/
theorem below_set8 {B : Nat} {w W : World} {g : Nat} (h : Below B w W) (hg : B ≤ g) (s : St) : Below B w (set8 W g s) := by
  have h1 := h.setCell (p := ⟨g, 0, none⟩) hg (Value.int .u32 (iv s.a))
  have h2 := h1.setCell (p := ⟨g, 1, none⟩) hg (Value.int .u32 (iv s.b))
  have h3 := h2.setCell (p := ⟨g, 2, none⟩) hg (Value.int .u32 (iv s.c))
  have h4 := h3.setCell (p := ⟨g, 3, none⟩) hg (Value.int .u32 (iv s.d))
  have h5 := h4.setCell (p := ⟨g, 4, none⟩) hg (Value.int .u32 (iv s.e))
  have h6 := h5.setCell (p := ⟨g, 5, none⟩) hg (Value.int .u32 (iv s.f))
  have h7 := h6.setCell (p := ⟨g, 6, none⟩) hg (Value.int .u32 (iv s.g))
  exact h7.setCell (p := ⟨g, 7, none⟩) hg (Value.int .u32 (iv s.h))

theorem Has.st8 {w W : World} {l : List Blk} {g : Nat} {t : TypeId} {s0 : St} (h : Has w ((g, t, s0.cs) :: l) W) (hg : w.heap.size ≤ g) (hl : ∀ x ∈ l, x.1 ≠ g) (s : St) : Has w ((g, t, s.cs) :: l) (set8 W g s) := by
  have hb := Box.wrote8 h.head s
  have h0 := h.tail
  have h1 := h0.set_ (p := ⟨g, 0, none⟩) hg hl (Value.int .u32 (iv s.a))
  have h2 := h1.set_ (p := ⟨g, 1, none⟩) hg hl (Value.int .u32 (iv s.b))
  have h3 := h2.set_ (p := ⟨g, 2, none⟩) hg hl (Value.int .u32 (iv s.c))
  have h4 := h3.set_ (p := ⟨g, 3, none⟩) hg hl (Value.int .u32 (iv s.d))
  have h5 := h4.set_ (p := ⟨g, 4, none⟩) hg hl (Value.int .u32 (iv s.e))
  have h6 := h5.set_ (p := ⟨g, 5, none⟩) hg hl (Value.int .u32 (iv s.f))
  have h7 := h6.set_ (p := ⟨g, 6, none⟩) hg hl (Value.int .u32 (iv s.g))
  have h8 := h7.set_ (p := ⟨g, 7, none⟩) hg hl (Value.int .u32 (iv s.h))
  exact Has.with (W := set8 W g s) h8 hb
/-- Eight cells written, whatever is written. -/
def set8v (W : World) (g : Nat) (v0 v1 v2 v3 v4 v5 v6 v7 : Value) : World :=
  let w1 := World.setCell W ⟨g, 0, none⟩ v0
  let w2 := World.setCell w1 ⟨g, 1, none⟩ v1
  let w3 := World.setCell w2 ⟨g, 2, none⟩ v2
  let w4 := World.setCell w3 ⟨g, 3, none⟩ v3
  let w5 := World.setCell w4 ⟨g, 4, none⟩ v4
  let w6 := World.setCell w5 ⟨g, 5, none⟩ v5
  let w7 := World.setCell w6 ⟨g, 6, none⟩ v6
  World.setCell w7 ⟨g, 7, none⟩ v7
theorem Has.set8v {w W : World} {l : List Blk} (h : Has w l W) {g : Nat} (hg : w.heap.size ≤ g) (hl : ∀ x ∈ l, x.1 ≠ g) (v0 v1 v2 v3 v4 v5 v6 v7 : Value) : Has w l (set8v W g v0 v1 v2 v3 v4 v5 v6 v7) := by
  have h1 := h.set_ (p := ⟨g, 0, none⟩) hg hl v0
  have h2 := h1.set_ (p := ⟨g, 1, none⟩) hg hl v1
  have h3 := h2.set_ (p := ⟨g, 2, none⟩) hg hl v2
  have h4 := h3.set_ (p := ⟨g, 3, none⟩) hg hl v3
  have h5 := h4.set_ (p := ⟨g, 4, none⟩) hg hl v4
  have h6 := h5.set_ (p := ⟨g, 5, none⟩) hg hl v5
  have h7 := h6.set_ (p := ⟨g, 6, none⟩) hg hl v6
  exact h7.set_ (p := ⟨g, 7, none⟩) hg hl v7
theorem Tab.set {W : World} (h : Tab W) {g : Nat} (hg : g ≠ 2) (i : Nat) (v : Value) : Tab (W.setCell ⟨g, i, none⟩ v) :=
  ⟨by simpa [World.setCell] using h.1, fun j hj => (World.cell?_setCell_far W ⟨g, i, none⟩ ⟨2, j, none⟩ v hg).trans (h.2 j hj)⟩
theorem Tab.set8 {W : World} (h : Tab W) {g : Nat} (hg : g ≠ 2) (s : St) : Tab (set8 W g s) := by
  have h1 := h.set hg 0 (Value.int .u32 (iv s.a))
  have h2 := h1.set hg 1 (Value.int .u32 (iv s.b))
  have h3 := h2.set hg 2 (Value.int .u32 (iv s.c))
  have h4 := h3.set hg 3 (Value.int .u32 (iv s.d))
  have h5 := h4.set hg 4 (Value.int .u32 (iv s.e))
  have h6 := h5.set hg 5 (Value.int .u32 (iv s.f))
  have h7 := h6.set hg 6 (Value.int .u32 (iv s.g))
  exact h7.set hg 7 (Value.int .u32 (iv s.h))

theorem Tab.set8v {W : World} (h : Tab W) {g : Nat} (hg : g ≠ 2) (v0 v1 v2 v3 v4 v5 v6 v7 : Value) : Tab (set8v W g v0 v1 v2 v3 v4 v5 v6 v7) := by
  have h1 := h.set hg 0 v0
  have h2 := h1.set hg 1 v1
  have h3 := h2.set hg 2 v2
  have h4 := h3.set hg 3 v3
  have h5 := h4.set hg 4 v4
  have h6 := h5.set hg 5 v5
  have h7 := h6.set hg 6 v6
  exact h7.set hg 7 v7

set_option maxHeartbeats 4000000 in
theorem round_any (s : St) (k : Int) (x : B32) (w : World) (hT : Tab w) : Calls Tryd.prog 118 #[.agg #[.int .u32 (iv s.a), .int .u32 (iv s.b), .int .u32 (iv s.c), .int .u32 (iv s.d), .int .u32 (iv s.e), .int .u32 (iv s.f), .int .u32 (iv s.g), .int .u32 (iv s.h)], .int .i64 k, .int .u32 (iv x)] w (Tells (.agg #[.int .u32 (iv (turned s (kAt k) x).a), .int .u32 (iv (turned s (kAt k) x).b), .int .u32 (iv (turned s (kAt k) x).c), .int .u32 (iv (turned s (kAt k) x).d), .int .u32 (iv (turned s (kAt k) x).e), .int .u32 (iv (turned s (kAt k) x).f), .int .u32 (iv (turned s (kAt k) x).g), .int .u32 (iv (turned s (kAt k) x).h)]) w.heap.size w) := by
  have cU := fun u => upper_any s.e s.f s.g u
  have cL := fun u => lower_any s.a s.b s.c u
  have H0 : Has w [(w.heap.size + 1, 142, St.cs ⟨0, 0, 0, 0, 0, 0, 0, 0⟩), (w.heap.size, 142, s.cs)] ((w.alloc (.cells #[.int .u32 (iv s.a), .int .u32 (iv s.b), .int .u32 (iv s.c), .int .u32 (iv s.d), .int .u32 (iv s.e), .int .u32 (iv s.f), .int .u32 (iv s.g), .int .u32 (iv s.h)] 142)).alloc (.cells (St.cs ⟨0, 0, 0, 0, 0, 0, 0, 0⟩) 142)) :=
    ((Has.start w).add 142 #[.int .u32 (iv s.a), .int .u32 (iv s.b), .int .u32 (iv s.c), .int .u32 (iv s.d), .int .u32 (iv s.e), .int .u32 (iv s.f), .int .u32 (iv s.g), .int .u32 (iv s.h)]).addAt 142 (St.cs ⟨0, 0, 0, 0, 0, 0, 0, 0⟩) (by simp)
  go_enter Tryd.func118, Tryd.ntmps118
  go_wp2
  generalize hW : World.alloc (World.alloc _ _) _ = W
  have H : Has w [(w.heap.size + 1, 142, St.cs ⟨0, 0, 0, 0, 0, 0, 0, 0⟩), (w.heap.size, 142, s.cs)] W := by rw [← hW]; exact H0
  clear H0 hW
  have hTW := hT.call H.below
  obtain ⟨r0, r1, r2, r3, r4, r5, r6, r7⟩ := (H.box 1).st
  have hg1 := (H.box 1).inside
  have hg0 := (H.box 0).inside
  go_quiet (fail)
  have hT2 : Tab (W.drewN nq) := hTW
  have H2 := H.drewN nq
  clear H r0 r1 r2 r3 r4 r5 r6 r7 hTW hT
  generalize World.drewN _ _ = W2 at *
  have cK := const_any k W2 hT2
  generalize kAt k = kc at *
  obtain ⟨z0, z1, z2, z3, z4, z5, z6, z7, z8⟩ := (H2.box 0).eight
  obtain ⟨y0, y1, y2, y3, y4, y5, y6, y7⟩ := (H2.box 0).st
  have e1 := iv_addm
  go_wp2_with (first
    | (go_at_call 127; refine (cU _).mono ?_; rintro e w' ⟨rfl, rfl⟩)
    | (go_at_call 129; refine (cL _).mono ?_; rintro e w' ⟨rfl, rfl⟩)
    | (go_at_call 128; refine cK.mono ?_; rintro e w' ⟨rfl, rfl⟩))
  generalize hX : World.setCell (World.setCell _ _ _) _ _ = X
  have hbx : Box X (w.heap.size + 1) 142 (turned s kc x).cs := by rw [← hX]; exact Box.wrote8 (H2.box 0) (turned s kc x)
  have hbl : Below w.heap.size w X := by rw [← hX]; exact below_set8 H2.below (by omega) (turned s kc x)
  obtain ⟨x0, x1, x2, x3, x4, x5, x6, x7⟩ := hbx.st
  have hgx := hbx.inside
  clear hX
  exact bodyPost_ret (v := .agg #[.int .u32 (iv (turned s kc x).a), .int .u32 (iv (turned s kc x).b), .int .u32 (iv (turned s kc x).c), .int .u32 (iv (turned s kc x).d), .int .u32 (iv (turned s kc x).e), .int .u32 (iv (turned s kc x).f), .int .u32 (iv (turned s kc x).g), .int .u32 (iv (turned s kc x).h)]) (by simp [results, Tryd.results118, go_sem, x0, x1, x2, x3, x4, x5, x6, x7]) rfl ⟨rfl, hbl⟩
end Go.Proofs.YtkecekfapiegjaaDoor
/-
  block.Unround and First, walked.
-/
namespace Go.Proofs.YtkecekfapiegjaaDoor
set_option linter.unusedVariables false
set_option linter.unusedSimpArgs false
set_option maxRecDepth 10000
open Go.RowKit

theorem far8v (W : World) {g g' : Nat} (h : g ≠ g') (i : Nat) (v0 v1 v2 v3 v4 v5 v6 v7 : Value) : (set8v W g v0 v1 v2 v3 v4 v5 v6 v7).cell? ⟨g', i, none⟩ = W.cell? ⟨g', i, none⟩ := by
  have f : ∀ (u : World) (j : Nat) (v : Value), (u.setCell ⟨g, j, none⟩ v).cell? ⟨g', i, none⟩ = u.cell? ⟨g', i, none⟩ := fun u j v => World.cell?_setCell_far u ⟨g, j, none⟩ ⟨g', i, none⟩ v h
  simp only [set8v, f]

theorem st0_iv : iv st0.a = 1779033703 ∧ iv st0.b = 3144134277 ∧ iv st0.c = 1013904242 ∧ iv st0.d = 2773480762 ∧ iv st0.e = 1359893119 ∧ iv st0.f = 2600822924 ∧ iv st0.g = 528734635 ∧ iv st0.h = 1541459225 := by decide +kernel
set_option maxHeartbeats 1000000 in
theorem first_any (w : World) : Calls Tryd.prog 94 #[] w (Tells (.agg #[.int .u32 (iv st0.a), .int .u32 (iv st0.b), .int .u32 (iv st0.c), .int .u32 (iv st0.d), .int .u32 (iv st0.e), .int .u32 (iv st0.f), .int .u32 (iv st0.g), .int .u32 (iv st0.h)]) w.heap.size w) := by
  have H0 : Has w [(w.heap.size, 142, St.cs ⟨0, 0, 0, 0, 0, 0, 0, 0⟩)] (w.alloc (.cells (St.cs ⟨0, 0, 0, 0, 0, 0, 0, 0⟩) 142)) := (Has.start w).add 142 (St.cs ⟨0, 0, 0, 0, 0, 0, 0, 0⟩)
  go_enter Tryd.func94, Tryd.ntmps94
  go_wp2
  obtain ⟨i0, i1, i2, i3, i4, i5, i6, i7⟩ := st0_iv
  exact bodyPost_ret (v := .agg #[.int .u32 (iv st0.a), .int .u32 (iv st0.b), .int .u32 (iv st0.c), .int .u32 (iv st0.d), .int .u32 (iv st0.e), .int .u32 (iv st0.f), .int .u32 (iv st0.g), .int .u32 (iv st0.h)]) (by simp [results, Tryd.results94, go_sem, i0, i1, i2, i3, i4, i5, i6, i7]) rfl ⟨rfl, (Below.refl _ _).alloc (Nat.le_refl _) _⟩

end Go.Proofs.YtkecekfapiegjaaDoor
/-
  block.Words, walked: the 64 words of a text of 64 bytes; nothing of any other one.
-/
namespace Go.Proofs.YtkecekfapiegjaaDoor
set_option linter.unusedVariables false
set_option linter.unusedSimpArgs false
set_option maxRecDepth 10000
open Go.RowKit

theorem make_words (w : World) : (Instr.makeSlice 163 (.int .i64 64) (.int .i64 64)).run Tryd.prog w =
    .ok (.slice (some ⟨w.heap.size, 0, none⟩) 64 64) (w.alloc (.cells (arr z64) 140)) := by kernel_rfl

/-- What stands in the words' block when the first t words are laid. -/
def LaidW (w : World) (t : Nat) (m : List B32) (wr : World) : Prop := ∃ l : List B32, l.length = 64 ∧ l.take t = m ∧ Box wr w.heap.size 140 (arr l) ∧ Below w.heap.size w wr
theorem LaidW.call {w wr w' : World} {t : Nat} {m : List B32} (h : LaidW w t m wr) (hb : Below wr.heap.size wr w') : LaidW w t m w' := by
  obtain ⟨l, h1, h2, h3, h4⟩ := h
  exact ⟨l, h1, h2, h3.call hb, chain h4 hb⟩
theorem LaidW.put {w wr : World} {t : Nat} {m : List B32} (h : LaidW w t m wr) (v : B32) (ht : t < 64) : LaidW w (t + 1) (m ++ [v]) (wr.setCell ⟨w.heap.size, t, none⟩ (.int .u32 (iv v))) := by
  obtain ⟨l, h1, h2, h3, h4⟩ := h
  refine ⟨l.set t v, by simpa using h1, by rw [take_set _ _ _ (by omega), h2], ?_, h4.setCell (by simp) _⟩
  rw [← arr_set]; exact h3.wrote t _
theorem LaidW.read {w wr : World} {t : Nat} {m : List B32} (h : LaidW w t m wr) (i : Nat) (hi : i < t) (ht : t ≤ 64) : wr.cell? ⟨w.heap.size, i, none⟩ = some (.int .u32 (iv (m.getD i 0))) := by
  obtain ⟨l, h1, h2, h3, h4⟩ := h
  rw [h3.read i, arr_at l i (by omega), take_getD l m t i h2 hi]
theorem LaidW.any {w wr : World} {t : Nat} {m : List B32} (h : LaidW w t m wr) (i : Nat) (hi : i < 64) : ∃ u, wr.cell? ⟨w.heap.size, i, none⟩ = some u := by
  obtain ⟨l, h1, h2, h3, h4⟩ := h
  exact ⟨_, by rw [h3.read i, arr_at l i (by omega)]⟩
theorem LaidW.free {w wr : World} {t : Nat} {m : List B32} (h : LaidW w t m wr) (i : Nat) : wr.frozen? ⟨w.heap.size, i, none⟩ = false := by
  obtain ⟨l, h1, h2, h3, h4⟩ := h
  exact h3.free i
theorem LaidW.inside {w wr : World} {t : Nat} {m : List B32} (h : LaidW w t m wr) : w.heap.size < wr.heap.size := by
  obtain ⟨l, h1, h2, h3, h4⟩ := h
  exact h3.inside
theorem LaidW.drew {w wr : World} {t : Nat} {m : List B32} (h : LaidW w t m wr) : LaidW w t m wr.drew := by
  obtain ⟨l, h1, h2, h3, h4⟩ := h
  exact ⟨l, h1, h2, h3.draw, h4.drew⟩
theorem LaidW.drewN {w wr : World} {t : Nat} {m : List B32} (h : LaidW w t m wr) (n : Nat) : LaidW w t m (wr.drewN n) := by
  obtain ⟨l, h1, h2, h3, h4⟩ := h
  exact ⟨l, h1, h2, h3.draws n, below_drewN h4 n⟩

theorem be_part (s : ByteArray) (hs : s.size = 64) (t : Nat) (ht : t < 16) : beI (s.extract (t * 4) ((t + 1) * 4)).data.toList =
    iv (be4 (s.data.toList.getD (4 * t) 0) (s.data.toList.getD (4 * t + 1) 0) (s.data.toList.getD (4 * t + 2) 0) (s.data.toList.getD (4 * t + 3) 0)) := by
  have hl : s.data.toList.length = 64 := by simpa using hs
  rw [← be4_eq]
  congr 1
  rw [ByteArray.data_extract, Array.toList_extract]
  generalize s.data.toList = l at *
  apply List.ext_getElem?
  intro i
  rw [List.extract_eq_take_drop, show (t + 1) * 4 - t * 4 = 4 by omega]
  have g : ∀ j, j < 4 → l[4 * t + j]? = some (l.getD (4 * t + j) 0) := fun j hj => by
    rw [List.getD_eq_getElem?_getD, List.getElem?_eq_getElem (by omega)]; rfl
  by_cases hi : i < 4
  · rw [List.getElem?_take_of_lt hi, List.getElem?_drop, Nat.mul_comm t 4, g i hi]
    match i, hi with
    | 0, _ => rfl
    | 1, _ => rfl
    | 2, _ => rfl
    | 3, _ => rfl
  · rw [List.getElem?_eq_none (by simp; omega), List.getElem?_eq_none (by simp; omega)]

set_option maxHeartbeats 4000000 in
theorem words_ok (s : ByteArray) (hs : s.size = 64) (w : World) : Calls Tryd.prog 117 #[.string s] w fun e w' =>
    e = .returned (.tuple #[.slice (some ⟨w.heap.size, 0, none⟩) 64 64, .int .i64 0]) ∧ Box w' w.heap.size 140 (arr (words64 s.data.toList)) ∧ Below w.heap.size w w' := by
  have hmk := make_words
  have h0 : LaidW w 0 [] (w.alloc (.cells (arr z64) 140)) := ⟨_, z64_len, rfl, Box.made w _ _, (Below.refl _ w).alloc (Nat.le_refl _) _⟩
  go_enter Tryd.func117, Tryd.ntmps117
  go_wp2
  generalize w.alloc (.cells (arr z64) 140) = W at *
  go_loopg [5, 11] 16 (fun gk _ i wr => ∃ k : Nat, k ≤ 16 ∧ gk = 16 - k ∧ i = .int .i64 k ∧ LaidW w k ((own16 s.data.toList).take k) wr)
  case atStart => exact ⟨0, by omega, rfl, rfl, h0⟩
  case round =>
    clear h0
    obtain ⟨k, hk, hgk, rfl, hl⟩ := hrel
    have HG := hideIt hgk
    clear hgk
    by_cases hlt : k < 16
    · have hw := fun u => word_any (s.extract (k * 4) ((k + 1) * 4)) (by simp [ByteArray.size_extract]; omega) u
      rw [be_part s hs k hlt] at hw
      have HS := hideIt (own16_step s.data.toList k hlt)
      generalize be4 (s.data.toList.getD (4 * k) 0) (s.data.toList.getD (4 * k + 1) 0) (s.data.toList.getD (4 * k + 2) 0) (s.data.toList.getD (4 * k + 3) 0) = x at *
      obtain ⟨u, hu⟩ := hl.any k (by omega)
      have hf := hl.free k
      go_wp2_with (first | (go_at_call 124; refine (hw _).mono ?_; rintro e w' ⟨rfl, rfl⟩))
      all_goals
        go_roundg (16 - (k + 1))
        case measure => have := HG.out; omega
        case rel => exact ⟨k + 1, by omega, rfl, by go_num, by rw [HS.out]; exact hl.put x (by omega)⟩
    · have e : k = 16 := by omega
      subst e
      rw [List.take_of_length_le (Nat.le_of_eq (own16_len _))] at hl
      have hl0 : LaidW w 16 (grow 0 (own16 s.data.toList)) wr := hl
      clear hl
      go_wp2
      have ho : (own16 s.data.toList).length = 16 := own16_len _
      have hfin : words64 s.data.toList = grow 48 (own16 s.data.toList) := rfl
      have HF := hideIt hfin
      clear hfin
      generalize own16 s.data.toList = o at *
      go_loopg [6] 48 (fun gk i wr => ∃ k : Nat, 16 ≤ k ∧ k ≤ 64 ∧ gk = 64 - k ∧ i = .int .i64 k ∧ LaidW w k (grow (k - 16) o) wr)
      case atStart => exact ⟨16, by omega, by omega, by omega, rfl, hl0⟩
      case round =>
        clear hl0 HG
        obtain ⟨k, hk0, hk, hgk, rfl, hl⟩ := hrel
        have HG := hideIt hgk
        clear hgk
        by_cases hlt : k < 64
        · have hlen : (grow (k - 16) o).length = k := by rw [grow_len]; omega
          have hst : grow (k + 1 - 16) o = grow (k - 16) o ++ [nextW (grow (k - 16) o)] := by rw [show k + 1 - 16 = (k - 16) + 1 by omega, grow_snoc]
          have HS := hideIt hst
          clear hst
          generalize grow (k - 16) o = m at *
          have hn : nextW m = m.getD (k - 16) 0 + sig0 (m.getD (k - 15) 0) + m.getD (k - 7) 0 + sig1 (m.getD (k - 2) 0) := by unfold nextW; rw [hlen]
          have HN := hideIt hn
          clear hn
          have r1 := hl.read (k - 16) (by omega) (by omega)
          have r2 := hl.read (k - 15) (by omega) (by omega)
          have r3 := hl.read (k - 7) (by omega) (by omega)
          have r4 := hl.read (k - 2) (by omega) (by omega)
          generalize m.getD (k - 16) 0 = x1 at *
          generalize m.getD (k - 15) 0 = x2 at *
          generalize m.getD (k - 7) 0 = x3 at *
          generalize m.getD (k - 2) 0 = x4 at *
          have c2 := fun u => sched0_any x2 u
          have c4 := fun u => sched1_any x4 u
          have e1 := iv_addm
          obtain ⟨u, hu⟩ := hl.any k (by omega)
          have hf := hl.free k
          obtain ⟨K, hK⟩ : ∃ K : Int, (k : Int) = K := ⟨_, rfl⟩
          have K0 : 0 ≤ K := by omega
          have K1 : K < 64 := by omega
          have K2 : K.toNat = k := by omega
          rw [hK]
          obtain ⟨i1, f1⟩ : ∃ i, K - 16 = i := ⟨_, rfl⟩
          obtain ⟨j1, g1⟩ : ∃ j, k - 16 = j := ⟨_, rfl⟩
          have w1 : IntKind.i64.wrap (K - 16) = i1 := by rw [f1]; exact IntWalk.i64_in _ (by omega)
          have s1 : 0 ≤ i1 := by omega
          have t1 : i1 < 64 := by omega
          have n1 : i1.toNat = j1 := by omega
          have q1 : j1 ≠ k := by omega
          rw [g1] at r1
          obtain ⟨i2, f2⟩ : ∃ i, K - 15 = i := ⟨_, rfl⟩
          obtain ⟨j2, g2⟩ : ∃ j, k - 15 = j := ⟨_, rfl⟩
          have w2 : IntKind.i64.wrap (K - 15) = i2 := by rw [f2]; exact IntWalk.i64_in _ (by omega)
          have s2 : 0 ≤ i2 := by omega
          have t2 : i2 < 64 := by omega
          have n2 : i2.toNat = j2 := by omega
          have q2 : j2 ≠ k := by omega
          rw [g2] at r2
          obtain ⟨i3, f3⟩ : ∃ i, K - 7 = i := ⟨_, rfl⟩
          obtain ⟨j3, g3⟩ : ∃ j, k - 7 = j := ⟨_, rfl⟩
          have w3 : IntKind.i64.wrap (K - 7) = i3 := by rw [f3]; exact IntWalk.i64_in _ (by omega)
          have s3 : 0 ≤ i3 := by omega
          have t3 : i3 < 64 := by omega
          have n3 : i3.toNat = j3 := by omega
          have q3 : j3 ≠ k := by omega
          rw [g3] at r3
          obtain ⟨i4, f4⟩ : ∃ i, K - 2 = i := ⟨_, rfl⟩
          obtain ⟨j4, g4⟩ : ∃ j, k - 2 = j := ⟨_, rfl⟩
          have w4 : IntKind.i64.wrap (K - 2) = i4 := by rw [f4]; exact IntWalk.i64_in _ (by omega)
          have s4 : 0 ≤ i4 := by omega
          have t4 : i4 < 64 := by omega
          have n4 : i4.toNat = j4 := by omega
          have q4 : j4 ≠ k := by omega
          rw [g4] at r4
          have hin := hl.inside
          have HK := hideIt hk0
          have HKK := hideIt hK
          clear hk0 hmk HF ho hK g1 g2 g3 g4 hlen f1 f2 f3 f4
          go_wp2
          have hfar : ∀ (u : World) (v : Value) (i : Nat), i ≠ k → (u.setCell ⟨w.heap.size, k, none⟩ v).cell? ⟨w.heap.size, i, none⟩ = u.cell? ⟨w.heap.size, i, none⟩ :=
            fun u v i hi => World.cell?_setCell_other _ _ _ _ (by intro h; injection h with h1 h2 h3; omega)
          have sf : ∀ v : Value, ((wr.drew.setCell ⟨w.heap.size, k, none⟩ v).cell? ⟨w.heap.size, j1, none⟩ = some (.int .u32 (iv x1)) ∧ (wr.drew.setCell ⟨w.heap.size, k, none⟩ v).cell? ⟨w.heap.size, j2, none⟩ = some (.int .u32 (iv x2)) ∧
              (wr.drew.setCell ⟨w.heap.size, k, none⟩ v).cell? ⟨w.heap.size, j3, none⟩ = some (.int .u32 (iv x3)) ∧ (wr.drew.setCell ⟨w.heap.size, k, none⟩ v).cell? ⟨w.heap.size, j4, none⟩ = some (.int .u32 (iv x4))) :=
            fun v => ⟨(hfar _ _ _ q1).trans r1, (hfar _ _ _ q2).trans r2, (hfar _ _ _ q3).trans r3, (hfar _ _ _ q4).trans r4⟩
          go_region_held3 (fun w' => w'.cell? ⟨w.heap.size, j1, none⟩ = some (.int .u32 (iv x1)) ∧ w'.cell? ⟨w.heap.size, j2, none⟩ = some (.int .u32 (iv x2)) ∧
              w'.cell? ⟨w.heap.size, j3, none⟩ = some (.int .u32 (iv x3)) ∧ w'.cell? ⟨w.heap.size, j4, none⟩ = some (.int .u32 (iv x4)))
            (first | exact ⟨r1, r2, r3, r4⟩ | exact sf _)
            (first
            | (go_at_call 125; refine (c2 _).mono ?_; rintro e w' ⟨rfl, rfl⟩)
            | (go_at_call 126; refine (c4 _).mono ?_; rintro e w' ⟨rfl, rfl⟩))
          simp only [iv_add]
          have hl2 := hl.put (x1 + sig0 x2 + x3 + sig1 x4) hlt
          rw [← HN.out, ← HS.out] at hl2
          have hl3 := hl2.drew
          rw [HN.out] at hl3
          rw [← HKK.out]
          clear hfar sf e1 c2 c4 q1 q2 q3 q4 hin
          clear K0 K1 K2 hl hl2 w1 w2 w3 w4 s1 s2 s3 s4 t1 t2 t3 t4 n1 n2 n3 n4 r1 r2 r3 r4 hu hf
          go_wp2
          all_goals
            go_roundg (64 - (k + 1))
            case measure => have := HG.out; omega
            case rel => exact ⟨k + 1, by have := HK.out; omega, by omega, rfl, by go_num, hl3⟩
        · have e : k = 64 := by omega
          subst e
          clear hk0 HG
          go_wp2
          obtain ⟨l, l1, l2, l3, l4⟩ := hl
          rw [List.take_of_length_le (Nat.le_of_eq l1)] at l2
          have hh : Box wr w.heap.size 140 (arr (words64 s.data.toList)) := by rw [HF.out, show 48 = 64 - 16 from rfl, ← l2]; exact l3
          clear l2
          exact bodyPost_ret (v := .tuple #[.slice (some ⟨w.heap.size, 0, none⟩) 64 64, .int .i64 0]) (by simp [results, Tryd.results117, go_sem]) rfl ⟨rfl, hh, l4⟩

theorem words_no (s : ByteArray) (hs : s.size ≠ 64) (hm : s.size ≤ 9223372036854775807) (w : World) : Calls Tryd.prog 117 #[.string s] w fun e w' =>
    e = .returned (.tuple #[.slice none 0 0, .int .i64 2]) ∧ w = w' := by
  have h : ¬ ((s.size : Int) = 64) := by omega
  go_enter Tryd.func117, Tryd.ntmps117
  go_wp2
  exact bodyPost_ret (v := .tuple #[.slice none 0 0, .int .i64 2]) (by simp [results, Tryd.results117, go_sem]) rfl ⟨rfl, rfl⟩
end Go.Proofs.YtkecekfapiegjaaDoor
/-
  block.Next, walked: any state, any text.
-/
namespace Go.Proofs.YtkecekfapiegjaaDoor
set_option linter.unusedVariables false
set_option linter.unusedSimpArgs false
set_option maxRecDepth 10000
open Go.RowKit

theorem kAt_nat (k : Nat) (hk : k < 64) : kAt (k : Int) = kB.getD k 0 := by unfold kAt; rw [if_pos (by omega)]; rfl
theorem rN_succ (ks ws : List B32) (s : St) (k : Nat) : rN ks ws s (k + 1) = turned (rN ks ws s k) (ks.getD k 0) (ws.getD k 0) := rfl

theorem next_no (s : St) (b : ByteArray) (hb : b.size ≠ 64) (hm : b.size ≤ 9223372036854775807) (w : World) :
    Calls Tryd.prog 96 #[.agg #[.int .u32 (iv s.a), .int .u32 (iv s.b), .int .u32 (iv s.c), .int .u32 (iv s.d), .int .u32 (iv s.e), .int .u32 (iv s.f), .int .u32 (iv s.g), .int .u32 (iv s.h)], .string b] w (Tells (.tuple #[.agg #[.int .u32 0, .int .u32 0, .int .u32 0, .int .u32 0, .int .u32 0, .int .u32 0, .int .u32 0, .int .u32 0], .int .i64 2]) w.heap.size w) := by
  have c := fun u => words_no b hb hm u
  go_enter Tryd.func96, Tryd.ntmps96
  go_wp2_with (first | (go_at_call 117; refine (c _).mono ?_; rintro e w' ⟨rfl, rfl⟩))
  exact bodyPost_ret (v := .tuple #[.agg #[.int .u32 0, .int .u32 0, .int .u32 0, .int .u32 0, .int .u32 0, .int .u32 0, .int .u32 0, .int .u32 0], .int .i64 2]) (by simp [results, Tryd.results96, go_sem]) rfl
    ⟨rfl, ((Below.refl _ w).alloc (Nat.le_refl _) _).alloc (by simp) _⟩

set_option maxHeartbeats 4000000 in
theorem next_ok (s : St) (b : ByteArray) (hb : b.size = 64) (w : World) (hT : Tab w) :
    Calls Tryd.prog 96 #[.agg #[.int .u32 (iv s.a), .int .u32 (iv s.b), .int .u32 (iv s.c), .int .u32 (iv s.d), .int .u32 (iv s.e), .int .u32 (iv s.f), .int .u32 (iv s.g), .int .u32 (iv s.h)], .string b] w (Tells (.tuple #[.agg #[.int .u32 (iv (nextS kB (words64 b.data.toList) s).a), .int .u32 (iv (nextS kB (words64 b.data.toList) s).b), .int .u32 (iv (nextS kB (words64 b.data.toList) s).c), .int .u32 (iv (nextS kB (words64 b.data.toList) s).d), .int .u32 (iv (nextS kB (words64 b.data.toList) s).e), .int .u32 (iv (nextS kB (words64 b.data.toList) s).f), .int .u32 (iv (nextS kB (words64 b.data.toList) s).g), .int .u32 (iv (nextS kB (words64 b.data.toList) s).h)], .int .i64 0]) w.heap.size w) := by
  have c := fun u => words_ok b hb u
  have hl64 := words64_len b.data.toList
  generalize words64 b.data.toList = l at *
  have H0 : Has w [(w.heap.size + 1, 142, St.cs ⟨0, 0, 0, 0, 0, 0, 0, 0⟩), (w.heap.size, 142, s.cs)] ((w.alloc (.cells #[.int .u32 (iv s.a), .int .u32 (iv s.b), .int .u32 (iv s.c), .int .u32 (iv s.d), .int .u32 (iv s.e), .int .u32 (iv s.f), .int .u32 (iv s.g), .int .u32 (iv s.h)] 142)).alloc (.cells (St.cs ⟨0, 0, 0, 0, 0, 0, 0, 0⟩) 142)) :=
    ((Has.start w).add 142 #[.int .u32 (iv s.a), .int .u32 (iv s.b), .int .u32 (iv s.c), .int .u32 (iv s.d), .int .u32 (iv s.e), .int .u32 (iv s.f), .int .u32 (iv s.g), .int .u32 (iv s.h)]).addAt 142 (St.cs ⟨0, 0, 0, 0, 0, 0, 0, 0⟩) (by simp)
  have hz : ((w.alloc (.cells #[.int .u32 (iv s.a), .int .u32 (iv s.b), .int .u32 (iv s.c), .int .u32 (iv s.d), .int .u32 (iv s.e), .int .u32 (iv s.f), .int .u32 (iv s.g), .int .u32 (iv s.h)] 142)).alloc (.cells (St.cs ⟨0, 0, 0, 0, 0, 0, 0, 0⟩) 142)).heap.size = w.heap.size + 1 + 1 := by simp
  go_enter Tryd.func96, Tryd.ntmps96
  go_upto_region 1 with fail
  generalize hW : World.alloc (World.alloc _ _) _ = W
  have H : Has w [(w.heap.size + 1, 142, St.cs ⟨0, 0, 0, 0, 0, 0, 0, 0⟩), (w.heap.size, 142, s.cs)] W := by rw [← hW]; exact H0
  have hz2 : W.heap.size = w.heap.size + 1 + 1 := by rw [← hW]; exact hz
  clear H0 hW hz
  go_upto_region 4 with (first | (go_at_call 117; refine (c _).mono ?_; rintro e w1 ⟨rfl, hbx, hbl⟩; have H1 := (H.call hbl).with hbx; rw [hz2] at H1))
  clear H hbx
  have hz3 : w.heap.size + 1 + 1 < w1.heap.size := (H1.box 0).inside
  obtain ⟨r0, r1, r2, r3, r4, r5, r6, r7⟩ := (H1.box 2).st
  have H2 := H1.add 142 s.cs
  obtain ⟨n3, hn3⟩ : ∃ n3, w1.heap.size = n3 := ⟨_, rfl⟩
  rw [hn3] at H2
  have hT1 : Tab w1 := hT.call H1.below
  have hKw : 2 < w.heap.size := hT.1
  have hT2 : Tab (w1.alloc (.cells s.cs 142)) := hT1.past _
  clear c hbl hT hT1
  go_upto_region 5 with fail
  change Code.wp _ _ _ _ (w1.alloc (.cells s.cs 142))
  rw [hn3] at hz3
  clear H1 r0 r1 r2 r3 r4 r5 r6 r7 hn3 hz2
  generalize w1.alloc (.cells s.cs 142) = W5 at *
  go_wp2
  go_loopg [9, 10, 24] 64 (fun gk _ _ i wr => ∃ k : Nat, k ≤ 64 ∧ gk = 64 - k ∧ i = .int .i64 k ∧ Has w [(n3, 142, (rN kB l s k).cs), (w.heap.size + 1 + 1, 140, arr l), (w.heap.size + 1, 142, St.cs ⟨0, 0, 0, 0, 0, 0, 0, 0⟩), (w.heap.size, 142, s.cs)] wr ∧ Tab wr)
  case atStart => exact ⟨0, by omega, rfl, rfl, H2, hT2⟩
  case round =>
    clear H2 hT2
    obtain ⟨k, hk, hgk, rfl, H, hT⟩ := hrel
    have HG := hideIt hgk
    clear hgk
    by_cases hlt : k < 64
    · have HS := hideIt (rN_succ kB l s k)
      have rw_ := (H.box 1).read k
      rw [arr_at l k (by omega)] at rw_
      obtain ⟨r0, r1, r2, r3, r4, r5, r6, r7⟩ := (H.box 0).st
      have hbx := H.box 0
      have hin := hbx.inside
      have cR := round_any (rN kB l s k) k (l.getD k 0) wr hT
      rw [kAt_nat k hlt, ← HS.out] at cR
      generalize l.getD k 0 = x at *
      generalize rN kB l s k = sk at *
      have b1 : (k : Int) < 64 := by omega
      go_wp2_with (first
        | (go_at_call 118; refine cR.mono ?_; rintro e w6 ⟨rfl, hbl⟩
           have H6 := H.call hbl
           have hT6 := hT.call hbl
           obtain ⟨z0, z1, z2, z3, z4, z5, z6, z7, z8⟩ := (H6.box 0).eight
           obtain ⟨y0, y1, y2, y3, y4, y5, y6, y7⟩ := (H6.box 0).st
           clear r0 r1 r2 r3 r4 r5 r6 r7 rw_ cR H hT hbl hbx hin))
      have H7 := H6.st8 (by omega) (by simp; omega) (rN kB l s (k + 1))
      have hT7 := hT6.set8 (g := n3) (by omega) (rN kB l s (k + 1))
      clear z0 z1 z2 z3 z4 z5 z6 z7 z8 y0 y1 y2 y3 y4 y5 y6 y7 H6 hT6
      go_roundg (64 - (k + 1))
      case measure => have := HG.out; omega
      case rel => exact ⟨k + 1, by omega, rfl, by go_num, H7, hT7⟩
    · have e : k = 64 := by omega
      subst e
      clear HG
      have hA : nextS kB l s = (rN kB l s 64).plus s := rfl
      generalize rN kB l s 64 = A at *
      have HA := hideIt hA
      clear hA
      go_wp2
      go_loopg [11, 34] 8 (fun gk _ i wr => ∃ i' : Nat, i' ≤ 8 ∧ gk = 8 - i' ∧ i = .int .i64 i' ∧ Has w [(n3, 142, (plusN A s i').cs), (w.heap.size + 1 + 1, 140, arr l), (w.heap.size + 1, 142, St.cs ⟨0, 0, 0, 0, 0, 0, 0, 0⟩), (w.heap.size, 142, s.cs)] wr)
      case atStart => exact ⟨0, by omega, rfl, rfl, H⟩
      case round =>
        clear H hT
        obtain ⟨i, hi, hgi, rfl, H⟩ := hrel
        have HI := hideIt hgi
        clear hgi
        by_cases hlt : i < 8
        · have r1 := (H.box 0).read i
          rw [St.cs_at _ _ hlt, plusN_at _ _ _ hlt] at r1
          have r2 := (H.box 3).read i
          rw [St.cs_at _ _ hlt] at r2
          have hf := (H.box 0).free i
          have hin := (H.box 0).inside
          have HP := hideIt (plusN_succ A s i)
          have hput := St.cs_put (plusN A s i) i (A.at i + s.at i) hlt
          generalize A.at i = x at *
          generalize s.at i = y at *
          have b1 : (i : Int) < 8 := by omega
          go_wp2
          refine wp_region_still_tail 8 (by kernel_rfl) (by kernel_rfl) ?_
          simp only [List.take_succ_cons, List.take_zero, List.drop_succ_cons, List.drop_zero]
          iterate 8 (refine wpStill_step (fun K hK => ?_); go_simp; refine hK _ ?_; clear hK K)
          refine wpStill_nil ?_
          change wpList _ _ _ _ _ wr.drew
          simp only [iv_add]
          have H2 := H.drew
          have r3 : wr.drew.cell? ⟨n3, i, none⟩ = some (.int .u32 (iv x)) := r1
          have hf2 : wr.drew.frozen? ⟨n3, i, none⟩ = false := hf
          have H3 := H2.wrote (by omega) (by simp; omega) i (.int .u32 (iv (x + y)))
          rw [hput, ← HP.out] at H3
          clear H H2 r1 r2 hf hput hin
          generalize wr.drew = w8 at *
          go_wp2
          go_roundg (8 - (i + 1))
          case measure => have := HI.out; omega
          case rel => exact ⟨i + 1, by omega, rfl, by go_num, H3⟩
        · have e : i = 8 := by omega
          subst e
          clear HI
          rw [plusN_all] at H
          have hA := HA.out
          clear HA
          generalize A.plus s = F at *
          have HA := hideIt hA
          clear hA
          obtain ⟨r0, r1, r2, r3, r4, r5, r6, r7⟩ := (H.box 0).st
          obtain ⟨z0, z1, z2, z3, z4, z5, z6, z7, z8⟩ := (H.box 2).eight
          obtain ⟨y0, y1, y2, y3, y4, y5, y6, y7⟩ := (H.box 2).st
          have hin := (H.box 0).inside
          go_wp2
          generalize hX : World.setCell (World.setCell _ _ _) _ _ = X
          have hbx : Box X (w.heap.size + 1) 142 F.cs := by rw [← hX]; exact Box.wrote8 (H.box 2) F
          have hbl : Below w.heap.size w X := by rw [← hX]; exact below_set8 H.below (by omega) F
          clear hX y0 y1 y2 y3 y4 y5 y6 y7 z0 z1 z2 z3 z4 z5 z6 z7 z8 r0 r1 r2 r3 r4 r5 r6 r7 hin
          obtain ⟨x0, x1, x2, x3, x4, x5, x6, x7⟩ := hbx.st
          have hgx := hbx.inside
          exact bodyPost_ret (v := .tuple #[.agg #[.int .u32 (iv F.a), .int .u32 (iv F.b), .int .u32 (iv F.c), .int .u32 (iv F.d), .int .u32 (iv F.e), .int .u32 (iv F.f), .int .u32 (iv F.g), .int .u32 (iv F.h)], .int .i64 0]) (by simp [results, Tryd.results96, go_sem, x0, x1, x2, x3, x4, x5, x6, x7]) rfl ⟨by rw [HA.out], hbl⟩
end Go.Proofs.YtkecekfapiegjaaDoor
/-
  '==' and '!=' on states that are the same.
-/
namespace Go.Proofs.YtkecekfapiegjaaDoor
set_option linter.unusedVariables false
set_option linter.unusedSimpArgs false
set_option maxRecDepth 10000
open Go.RowKit

theorem info_b32 : (Tryd.prog.info? 140).map (fun i => (i.zero, i.size, i.bytes)) = some (some (.int .u32 0), 1, 4) := by kernel_rfl
theorem cells_b32 : Tryd.prog.cellsOf 140 = 1 := by kernel_rfl
theorem equal_st (d : Nat) (s : St) (w : World) : (Op.equalIn (d + 2) 142 (.agg #[.int .u32 (iv s.a), .int .u32 (iv s.b), .int .u32 (iv s.c), .int .u32 (iv s.d), .int .u32 (iv s.e), .int .u32 (iv s.f), .int .u32 (iv s.g), .int .u32 (iv s.h)]) (.agg #[.int .u32 (iv s.a), .int .u32 (iv s.b), .int .u32 (iv s.c), .int .u32 (iv s.d), .int .u32 (iv s.e), .int .u32 (iv s.f), .int .u32 (iv s.g), .int .u32 (iv s.h)])).run Tryd.prog w = .ok true w := by
  obtain ⟨i, hi, -⟩ := info_parts info_b32
  rw [run_equalIn_array (P := Tryd.prog) w (d + 1) _ _ Tryd.underlying142 hi, cells_b32]
  simp only [show List.range 8 = [0, 1, 2, 3, 4, 5, 6, 7] from rfl, Op.eqItems]
  simp [go_sem, run_equalIn_int, Tryd.underlying140, Op.eqItems]
theorem eql_st (s : St) (w : World) : (binOp .eql 142 (.agg #[.int .u32 (iv s.a), .int .u32 (iv s.b), .int .u32 (iv s.c), .int .u32 (iv s.d), .int .u32 (iv s.e), .int .u32 (iv s.f), .int .u32 (iv s.g), .int .u32 (iv s.h)]) (.agg #[.int .u32 (iv s.a), .int .u32 (iv s.b), .int .u32 (iv s.c), .int .u32 (iv s.d), .int .u32 (iv s.e), .int .u32 (iv s.f), .int .u32 (iv s.g), .int .u32 (iv s.h)])).run Tryd.prog w = .ok (.bool true) w := by
  rw [run_eql_struct, equal_st 9998]
  rfl
theorem neq_st (s : St) (w : World) : (binOp .neq 142 (.agg #[.int .u32 (iv s.a), .int .u32 (iv s.b), .int .u32 (iv s.c), .int .u32 (iv s.d), .int .u32 (iv s.e), .int .u32 (iv s.f), .int .u32 (iv s.g), .int .u32 (iv s.h)]) (.agg #[.int .u32 (iv s.a), .int .u32 (iv s.b), .int .u32 (iv s.c), .int .u32 (iv s.d), .int .u32 (iv s.e), .int .u32 (iv s.f), .int .u32 (iv s.g), .int .u32 (iv s.h)])).run Tryd.prog w = .ok (.bool false) w := by
  rw [run_neq_struct, equal_st 9998]
  rfl
theorem equal_a8 (d : Nat) (s : St) (w : World) : (Op.equalIn (d + 2) 141 (.agg #[.int .u32 (iv s.a), .int .u32 (iv s.b), .int .u32 (iv s.c), .int .u32 (iv s.d), .int .u32 (iv s.e), .int .u32 (iv s.f), .int .u32 (iv s.g), .int .u32 (iv s.h)]) (.agg #[.int .u32 (iv s.a), .int .u32 (iv s.b), .int .u32 (iv s.c), .int .u32 (iv s.d), .int .u32 (iv s.e), .int .u32 (iv s.f), .int .u32 (iv s.g), .int .u32 (iv s.h)])).run Tryd.prog w = .ok true w := by
  obtain ⟨i, hi, -⟩ := info_parts info_b32
  rw [run_equalIn_array (P := Tryd.prog) w (d + 1) _ _ Tryd.underlying141 hi, cells_b32]
  simp only [show List.range 8 = [0, 1, 2, 3, 4, 5, 6, 7] from rfl, Op.eqItems]
  simp [go_sem, run_equalIn_int, Tryd.underlying140, Op.eqItems]
theorem eql_a8 (s : St) (w : World) : (binOp .eql 141 (.agg #[.int .u32 (iv s.a), .int .u32 (iv s.b), .int .u32 (iv s.c), .int .u32 (iv s.d), .int .u32 (iv s.e), .int .u32 (iv s.f), .int .u32 (iv s.g), .int .u32 (iv s.h)]) (.agg #[.int .u32 (iv s.a), .int .u32 (iv s.b), .int .u32 (iv s.c), .int .u32 (iv s.d), .int .u32 (iv s.e), .int .u32 (iv s.f), .int .u32 (iv s.g), .int .u32 (iv s.h)])).run Tryd.prog w = .ok (.bool true) w := by
  rw [run_eql_struct, equal_a8 9998]
  rfl
theorem neq_a8 (s : St) (w : World) : (binOp .neq 141 (.agg #[.int .u32 (iv s.a), .int .u32 (iv s.b), .int .u32 (iv s.c), .int .u32 (iv s.d), .int .u32 (iv s.e), .int .u32 (iv s.f), .int .u32 (iv s.g), .int .u32 (iv s.h)]) (.agg #[.int .u32 (iv s.a), .int .u32 (iv s.b), .int .u32 (iv s.c), .int .u32 (iv s.d), .int .u32 (iv s.e), .int .u32 (iv s.f), .int .u32 (iv s.g), .int .u32 (iv s.h)])).run Tryd.prog w = .ok (.bool false) w := by
  rw [run_neq_struct, equal_a8 9998]
  rfl
end Go.Proofs.YtkecekfapiegjaaDoor
/-
  paymasterlaw04.awake, walked: the chapter's examples are answered as the chapter has them.
-/
namespace Go.Proofs.YtkecekfapiegjaaDoor
set_option linter.unusedVariables false
set_option linter.unusedSimpArgs false
set_option maxRecDepth 10000
open Go.RowKit

/-- Bytes as cells. -/
def b8s (l : List Int) : Array Value := (l.map (Value.int .u8)).toArray
theorem b8s_at (l : List Int) (i : Nat) (hi : i < l.length) : (b8s l)[i]? = some (.int .u8 (l.getD i 0)) := by
  simp [b8s, List.getD_eq_getElem?_getD, hi]
theorem b8s_set (l : List Int) (i : Nat) (v : Int) : (b8s l).setIfInBounds i (.int .u8 v) = b8s (l.set i v) := by simp [b8s, List.map_set]
def n64 : List Int := List.replicate 64 0
def abcN : List Int := ((((n64.set 0 97).set 1 98).set 2 99).set 3 128).set 63 24
theorem make_b64 (w : World) : (Instr.makeSlice 135 (.int .i64 64) (.int .i64 64)).run Tryd.prog w =
    .ok (.slice (some ⟨w.heap.size, 0, none⟩) 64 64) (w.alloc (.cells (b8s n64) 5)) := by kernel_rfl

theorem stAbc_iv : (Value.agg #[.int .u32 (iv stAbc.a), .int .u32 (iv stAbc.b), .int .u32 (iv stAbc.c), .int .u32 (iv stAbc.d), .int .u32 (iv stAbc.e), .int .u32 (iv stAbc.f), .int .u32 (iv stAbc.g), .int .u32 (iv stAbc.h)]) = .agg #[.int .u32 3128432319, .int .u32 2399260650, .int .u32 1094795486, .int .u32 1571693091, .int .u32 2953011619, .int .u32 2518121116, .int .u32 3021012833, .int .u32 4060091821] := by
  have h : iv stAbc.a = 3128432319 ∧ iv stAbc.b = 2399260650 ∧ iv stAbc.c = 1094795486 ∧ iv stAbc.d = 1571693091 ∧ iv stAbc.e = 2953011619 ∧ iv stAbc.f = 2518121116 ∧ iv stAbc.g = 3021012833 ∧ iv stAbc.h = 4060091821 := by decide +kernel
  obtain ⟨h0, h1, h2, h3, h4, h5, h6, h7⟩ := h
  rw [h0, h1, h2, h3, h4, h5, h6, h7]
theorem eql_abc (w : World) : (binOp .eql 142 (.agg #[.int .u32 3128432319, .int .u32 2399260650, .int .u32 1094795486, .int .u32 1571693091, .int .u32 2953011619, .int .u32 2518121116, .int .u32 3021012833, .int .u32 4060091821]) (.agg #[.int .u32 3128432319, .int .u32 2399260650, .int .u32 1094795486, .int .u32 1571693091, .int .u32 2953011619, .int .u32 2518121116, .int .u32 3021012833, .int .u32 4060091821])).run Tryd.prog w = .ok (.bool true) w := by
  rw [← stAbc_iv]; exact eql_st stAbc w
theorem next_abc (w : World) (hT : Tab w) : Calls Tryd.prog 96 #[.agg #[.int .u32 (iv st0.a), .int .u32 (iv st0.b), .int .u32 (iv st0.c), .int .u32 (iv st0.d), .int .u32 (iv st0.e), .int .u32 (iv st0.f), .int .u32 (iv st0.g), .int .u32 (iv st0.h)], .string abcB] w (Tells (.tuple #[.agg #[.int .u32 3128432319, .int .u32 2399260650, .int .u32 1094795486, .int .u32 1571693091, .int .u32 2953011619, .int .u32 2518121116, .int .u32 3021012833, .int .u32 4060091821], .int .i64 0]) w.heap.size w) := by
  have h := next_ok st0 abcB (by decide) w hT
  rw [abc_next, stAbc_iv] at h
  exact h
theorem const_lit (k x : Int) (h : iv (kAt k) = x) (w : World) (hT : Tab w) : Calls Tryd.prog 128 #[.int .i64 k] w (Plain (.int .u32 x) w) := by
  subst h; exact const_any k w hT

theorem index0 (s : St) (w : World) : (Instr.index 142 (.agg #[.int .u32 (iv s.a), .int .u32 (iv s.b), .int .u32 (iv s.c), .int .u32 (iv s.d), .int .u32 (iv s.e), .int .u32 (iv s.f), .int .u32 (iv s.g), .int .u32 (iv s.h)]) (.int .i64 0)).run Tryd.prog w = .ok (.int .u32 (iv s.a)) w := by kernel_rfl
theorem index_st0 (w : World) : (Instr.index 142 (.agg #[.int .u32 1779033703, .int .u32 (iv st0.b), .int .u32 (iv st0.c), .int .u32 (iv st0.d), .int .u32 (iv st0.e), .int .u32 (iv st0.f), .int .u32 (iv st0.g), .int .u32 (iv st0.h)]) (.int .i64 0)).run Tryd.prog w = .ok (.int .u32 1779033703) w := by
  have h := index0 st0 w
  rw [st0_iv.1] at h
  exact h

end Go.Proofs.YtkecekfapiegjaaDoor
