/-
  Package tag's runes and Ids, walked: unicode/utf8.ValidString by the library's own contract, what a rune may be, MayId.
-/
import Derived.Test.YtkecekfapiegjaaDoorM7Pln
import Derived.Test.YtkecekfapiegjaaDoorM4Blk
import Derived.Test.YtkecekfapiegjaaDoorM0Wrd
import Derived.Test.YtkecekfapiegjaaDoorRows
import Derived.WalkKit
import Derived.WalkSpells
import Derived.StillTactics
import Derived.RowKit3
import Derived.Outline
import Derived.BigQuiet
import Derived.Deep.QuietTactic
import Derived.Deep.RegionWith
import Derived.Deep.LoopGhost
import Derived.Shelf.Unicode.ValidAny
import Derived.Lib.LaidU8T
import Derived.LoopTactic
import Derived.Laws.RangeAny
namespace Go.Proofs.YtkecekfapiegjaaDoor
set_option linter.unusedVariables false
set_option linter.unusedSimpArgs false
set_option maxRecDepth 10000
open Go.RowKit Go.Shelf Go.Lib

def validRen : Go.Shelf.Ren := ⟨fun | 196 => 112 | 259 => 123 | n => n,
  fun | 0 => 0 | 3 => 3 | 4 => 4 | 5 => 5 | 9 => 9 | 12 => 12 | 46 => 109 | 53 => 22 | 119 => 181 | 138 => 183 | 139 => 184 | n => n, fun | 3 => 0 | 4 => 1 | n => n⟩
set_option maxRecDepth 100000 in
theorem laysValid : Lays.n196 Tryd.prog validRen := {
  mixed := by kernel_rfl
  f196 := by kernel_rfl
  f259 := by kernel_rfl
  t0 := by kernel_rfl
  a0 := fun _ => by kernel_rfl
  z0 := fun _ => by kernel_rfl
  v0 := fun _ => by kernel_rfl
  t3 := by kernel_rfl
  a3 := fun _ => by kernel_rfl
  z3 := fun _ => by kernel_rfl
  v3 := fun _ => by kernel_rfl
  t4 := by kernel_rfl
  a4 := fun _ => by kernel_rfl
  z4 := fun _ => by kernel_rfl
  v4 := fun _ => by kernel_rfl
  t5 := by kernel_rfl
  a5 := fun _ => by kernel_rfl
  z5 := fun _ => by kernel_rfl
  v5 := fun _ => by kernel_rfl
  t9 := by kernel_rfl
  a9 := fun _ => by kernel_rfl
  z9 := fun _ => by kernel_rfl
  v9 := fun _ => by kernel_rfl
  t12 := by kernel_rfl
  a12 := fun _ => by kernel_rfl
  z12 := fun _ => by kernel_rfl
  v12 := fun _ => by kernel_rfl
  t46 := by kernel_rfl
  a46 := fun _ => by kernel_rfl
  z46 := fun _ => by kernel_rfl
  v46 := fun _ => by kernel_rfl
  t53 := by kernel_rfl
  a53 := fun _ => by kernel_rfl
  z53 := fun _ => by kernel_rfl
  v53 := fun _ => by kernel_rfl
  t119 := by kernel_rfl
  a119 := fun _ => by kernel_rfl
  z119 := fun _ => by kernel_rfl
  t138 := by kernel_rfl
  a138 := fun _ => by kernel_rfl
  z138 := fun _ => by kernel_rfl
  v138 := fun _ => by kernel_rfl
  t139 := by kernel_rfl
  a139 := fun _ => by kernel_rfl
  z139 := fun _ => by kernel_rfl
  v139 := fun _ => by kernel_rfl
  g3 := by kernel_rfl
  g4 := by kernel_rfl }
/-- utf8's two tables stand where they are laid. -/
def TabU (w : World) : Prop := (0 < w.heap.size ∧ 1 < w.heap.size) ∧ Lib.Utf8Tabs 0 1 w
theorem TabU.call {w w' : World} (h : TabU w) (hb : Below w.heap.size w w') : TabU w' :=
  ⟨⟨Nat.lt_of_lt_of_le h.1.1 hb.size, Nat.lt_of_lt_of_le h.1.2 hb.size⟩, fun c hc => (hb.cell (p := ⟨_, c, none⟩) h.1.1).trans (h.2.1 c hc),
    fun i hi => ⟨(hb.cell (p := ⟨_, 2 * i, none⟩) h.1.2).trans (h.2.2 i hi).1, (hb.cell (p := ⟨_, 2 * i + 1, none⟩) h.1.2).trans (h.2.2 i hi).2⟩⟩
theorem TabU.past {w : World} (h : TabU w) (o : Obj) : TabU (w.alloc o) := h.call ((Below.refl _ w).alloc (Nat.le_refl _) o)
theorem TabU.drewN {w : World} (h : TabU w) (n : Nat) : TabU (w.drewN n) := h
theorem TabU.drew {w : World} (h : TabU w) : TabU w.drew := h

theorem valid_any (s : ByteArray) (hs : s.size ≤ 9223372036854775807) (w : World) (hT : TabU w) : Calls Tryd.prog 112 #[.string s] w (Tells (.bool (Lib.validD s.data.toList)) w.heap.size w) :=
  Any.utf8_ValidString laysValid s w hs hT.2

set_option maxHeartbeats 2000000 in
theorem letter_any (c : Nat) (hc : c ≤ 1114111) (w : World) : Calls Tryd.prog 113 #[.int .i32 c] w (Plain (.bool (idRune c)) w) := by
  rw [idRune_def]
  generalize hA : decide ((97 ≤ c ∧ c ≤ 122) ∨ (65 ≤ c ∧ c ≤ 90) ∨ (48 ≤ c ∧ c ≤ 57) ∨ c = 46 ∨ c = 95 ∨ c = 45 ∨ 161 ≤ c) = A
  go_enter Tryd.func113, Tryd.ntmps113
  go_wp2
  all_goals go_ret
  all_goals refine ⟨(congrArg (fun b => Ending.returned (Value.bool b)) ?_ : Ending.returned (Value.bool _) = Ending.returned (Value.bool A)), rfl⟩
  all_goals rw [← hA]
  all_goals (try simp only [beq_iff_eq, beq_eq_false_iff_ne, ne_eq] at *)
  all_goals first
    | exact decide_eq_decide.2 (by omega)
    | exact (decide_eq_true (by omega)).symm

set_option maxHeartbeats 2000000 in
theorem mayId_any (s : ByteArray) (hs : s.size ≤ 9223372036854775807) (w : World) (hT : TabU w) : Calls Tryd.prog 90 #[.string s] w (Tells (.bool (isId s.data.toList)) w.heap.size w) := by
  have cV := fun u hu => valid_any s hs u hu
  by_cases hv : validD s.data.toList = true
  · rw [hv] at cV
    obtain ⟨A, hA⟩ : ∃ A, isId s.data.toList = A := ⟨_, rfl⟩
    have HA := hideIt hA
    rw [hA]
    clear hA
    go_enter Tryd.func90, Tryd.ntmps90
    go_wp2_with (first | (go_at_call 112; refine (cV _ hT).mono ?_; rintro e w1 ⟨rfl, b1⟩))
    have L1 := b1
    clear cV b1
    go_loopw [3, 5] (fun n r w' => ∃ (pos k : Nat), w' = w1.iter s pos ∧ n = .int .i64 k ∧ k ≤ 24 ∧ validD (s.data.toList.drop pos) = true ∧ idK k (s.data.toList.drop pos) = A) (fun _ _ w' => s.size - w'.iterPos w1.heap.size)
    case atStart => exact ⟨0, 0, rfl, rfl, by omega, hv, HA.out⟩
    case round =>
      obtain ⟨pos, k, rfl, rfl, hk, hvd, hid⟩ := hrel
      by_cases hp : pos < s.size
      · have hnx : ∀ ty, (Instr.next (.pointer (some ⟨w1.heap.size, 0, none⟩)) true ty).run Tryd.prog (w1.iter s pos) = _ := fun ty => run_next_any w1 s pos ty hp
        have hne := drop_ne hp
        have hdd := decodeL_drop s pos
        have hw := decodeL_width (s.data.toList.drop pos)
        rw [validD_step _ hne] at hvd
        rw [idK_step _ _ hne] at hid
        have hrl := decodeL_rune (s.data.toList.drop pos)
        rw [List.drop_drop] at hvd hid
        by_cases hb : badR (s.data.toList.drop pos)
        · rw [if_pos (show _ ∧ _ from hb)] at hvd; cases hvd
        · rw [if_neg (show ¬ (_ ∧ _) from hb)] at hvd
          rw [if_neg hb] at hid
          rw [hdd] at hvd hid hw hrl
          generalize Utf8.decode s pos = d at *
          obtain ⟨r, z⟩ := d
          simp only at hnx hvd hid hw hrl
          have cL := fun u => letter_any r hrl u
          by_cases hr : idRune r = true
          · rw [hr] at cL
            rw [if_pos hr] at hid
            by_cases hk2 : 24 < (k : Int) + 1
            · rw [idK_many _ _ (by omega)] at hid
              subst hid
              go_wp2_with (first | (go_at_call 113; refine (cL _).mono ?_; rintro e w' ⟨rfl, rfl⟩))
              go_ret
              exact ⟨rfl, chainA L1 _⟩
            · go_wp2_with (first | (go_at_call 113; refine (cL _).mono ?_; rintro e w' ⟨rfl, rfl⟩))
              go_roundw
              case rel => exact ⟨pos + z, k + 1, rfl, by go_num, by omega, hvd, hid⟩
              case measure => simp; omega
          · rw [if_neg hr] at hid
            subst hid
            rw [Bool.not_eq_true] at hr
            rw [hr] at cL
            by_cases hk2 : 24 < (k : Int) + 1
            · go_wp2_with (first | (go_at_call 113; refine (cL _).mono ?_; rintro e w' ⟨rfl, rfl⟩))
              go_ret
              exact ⟨rfl, chainA L1 _⟩
            · go_wp2_with (first | (go_at_call 113; refine (cL _).mono ?_; rintro e w' ⟨rfl, rfl⟩))
              go_ret
              exact ⟨rfl, chainA L1 _⟩
      · have hnx : ∀ ty, (Instr.next (.pointer (some ⟨w1.heap.size, 0, none⟩)) true ty).run Tryd.prog (w1.iter s pos) = _ := fun ty => run_next_end w1 s pos ty hp
        rw [List.drop_of_length_le (by rw [ba_size]; omega), idK_nil] at hid
        subst hid
        go_wp2
        go_ret
        refine ⟨(congrArg (fun b => Ending.returned (Value.bool b)) ?_ : Ending.returned (Value.bool _) = Ending.returned (Value.bool (decide (1 ≤ k ∧ k ≤ 24)))), chainA L1 _⟩
        exact decide_eq_decide.2 (by omega)
  · have hA : isId s.data.toList = false := by
      cases h : isId s.data.toList with
      | false => rfl
      | true => exact absurd (isId_valid _ h) hv
    rw [hA]
    rw [Bool.not_eq_true] at hv
    rw [hv] at cV
    go_enter Tryd.func90, Tryd.ntmps90
    go_wp2_with (first | (go_at_call 112; refine (cV _ hT).mono ?_; rintro e w1 ⟨rfl, b1⟩))
    go_ret
    exact ⟨rfl, b1⟩
end Go.Proofs.YtkecekfapiegjaaDoor
