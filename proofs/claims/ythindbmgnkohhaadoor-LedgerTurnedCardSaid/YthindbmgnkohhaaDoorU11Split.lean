/-
  strings.Split at one byte 10, walked: a text's lines.
-/
import Derived.Test.YthindbmgnkohhaaDoorU9Base
import Derived.Test.YthindbmgnkohhaaDoorD9Rune
import Derived.Shelf.Strings.SplitCore
import Derived.Shelf.Strings.Count
import Derived.Lib.SplitLaws
namespace Go.Proofs.YthindbmgnkohhaaDoor
set_option linter.unusedVariables false
set_option linter.unusedSimpArgs false
set_option maxRecDepth 10000
open Go.RowKit Go.Shelf

def splitRen : Go.Shelf.Ren := ⟨fun | 138 => 72 | 143 => 54 | 146 => 25 | 195 => 90 | 197 => 91 | 217 => 98 | 218 => 92 | 219 => 77 | 221 => 49 | 224 => 100 | 225 => 99 | 260 => 109 | 266 => 110 | 267 => 101 | 268 => 71 | 314 => 111 | n => n,
  fun | 0 => 0 | 3 => 3 | 4 => 4 | 5 => 5 | 9 => 9 | 21 => 21 | 31 => 31 | 46 => 147 | 51 => 158 | 105 => 137 | 119 => 150 | 138 => 152 | 139 => 153 | 146 => 159 | n => n, fun | 1 => 0 | 3 => 1 | 4 => 2 | n => n⟩
theorem laysSplit : Lays.n146 Tryd.prog splitRen := {
  mixed := by kernel_rfl
  f138 := by kernel_rfl
  f143 := by kernel_rfl
  f146 := by kernel_rfl
  f195 := by kernel_rfl
  f197 := by kernel_rfl
  f217 := by kernel_rfl
  f218 := by kernel_rfl
  f219 := by kernel_rfl
  f221 := by kernel_rfl
  f224 := by kernel_rfl
  f225 := by kernel_rfl
  f260 := by kernel_rfl
  f266 := by kernel_rfl
  f267 := by kernel_rfl
  f268 := by kernel_rfl
  f314 := by kernel_rfl
  t0 := by kernel_rfl
  a0 := fun _ => by kernel_rfl
  z0 := fun _ => by kernel_rfl
  v0 := fun _ => by kernel_rfl
  t3 := by kernel_rfl
  a3 := fun _ => by kernel_rfl
  z3 := fun _ => by kernel_rfl
  v3 := fun _ => by kernel_rfl
  t4 := by kernel_rfl
  a4 := fun _ => by kernel_rfl
  z4 := fun _ => by kernel_rfl
  v4 := fun _ => by kernel_rfl
  t5 := by kernel_rfl
  a5 := fun _ => by kernel_rfl
  z5 := fun _ => by kernel_rfl
  v5 := fun _ => by kernel_rfl
  t9 := by kernel_rfl
  a9 := fun _ => by kernel_rfl
  z9 := fun _ => by kernel_rfl
  v9 := fun _ => by kernel_rfl
  t21 := by kernel_rfl
  a21 := fun _ => by kernel_rfl
  z21 := fun _ => by kernel_rfl
  v21 := fun _ => by kernel_rfl
  t31 := by kernel_rfl
  a31 := fun _ => by kernel_rfl
  z31 := fun _ => by kernel_rfl
  v31 := fun _ => by kernel_rfl
  t46 := by kernel_rfl
  a46 := fun _ => by kernel_rfl
  z46 := fun _ => by kernel_rfl
  v46 := fun _ => by kernel_rfl
  t51 := by kernel_rfl
  a51 := fun _ => by kernel_rfl
  z51 := fun _ => by kernel_rfl
  v51 := fun _ => by kernel_rfl
  t105 := by kernel_rfl
  a105 := fun _ => by kernel_rfl
  z105 := fun _ => by kernel_rfl
  v105 := fun _ => by kernel_rfl
  t119 := by kernel_rfl
  a119 := fun _ => by kernel_rfl
  z119 := fun _ => by kernel_rfl
  t138 := by kernel_rfl
  a138 := fun _ => by kernel_rfl
  z138 := fun _ => by kernel_rfl
  v138 := fun _ => by kernel_rfl
  t139 := by kernel_rfl
  a139 := fun _ => by kernel_rfl
  z139 := fun _ => by kernel_rfl
  v139 := fun _ => by kernel_rfl
  t146 := by kernel_rfl
  a146 := fun _ => by kernel_rfl
  z146 := fun _ => by kernel_rfl
  v146 := fun _ => by kernel_rfl
  g1 := by kernel_rfl
  g3 := by kernel_rfl
  g4 := by kernel_rfl }

theorem splitK_lines : ∀ (k : Nat) (l : List UInt8), l.count 10 = k → Lib.splitK [10] 0 k l = splitL l
  | 0, l, h => by
    have hn : (10 : UInt8) ∉ l := List.count_eq_zero.1 h
    rw [split_none hn]
    rfl
  | k + 1, l, h => by
    have hm : (10 : UInt8) ∈ l := by
      rw [← List.count_pos_iff, h]
      omega
    have h0 := (has10_iff l).2 hm
    unfold has10 at h0
    have h1 := of_decide_eq_true h0
    obtain ⟨i, hi⟩ : ∃ i : Nat, Lib.indexByte l 10 = (i : Int) := ⟨(Lib.indexByte l 10).toNat, by omega⟩
    obtain ⟨q1, q2, q3⟩ := index_some hi
    rw [split_some q2 q3]
    have e1 : Lib.index l [10] = (i : Int) := by rw [Lib.index_one, hi]
    have hc : (l.drop (i + 1)).count 10 = k := by
      have e2 : l = l.take i ++ 10 :: l.drop (i + 1) := by
        obtain ⟨hl, he⟩ := List.getElem?_eq_some_iff.1 q2
        rw [← he, List.getElem_cons_drop, List.take_append_drop]
      rw [e2, List.count_append, List.count_cons_self, List.count_eq_zero.2 q3] at h
      omega
    unfold Lib.splitK
    rw [e1]
    have e3 : ((i : Int) == -1) = false := beq_false_of_ne (by omega)
    rw [e3, if_neg (by decide)]
    simp only [Int.toNat_natCast, Nat.add_zero, List.length_cons, List.length_nil, Nat.zero_add]
    rw [splitK_lines k _ hc]
theorem splitB_lines (s : ByteArray) : Lib.splitB ⟨#[10]⟩ 0 (s.data.toList.count 10) s = (splitL s.data.toList).map bA := by
  have h := Lib.splitB_data ⟨#[10]⟩ 0 (s.data.toList.count 10) s
  rw [show (⟨#[10]⟩ : ByteArray).data.toList = [10] from rfl, splitK_lines _ _ rfl] at h
  rw [← h, List.map_map]
  have e : (bA ∘ fun x : ByteArray => x.data.toList) = id := by
    funext x
    show bA x.data.toList = x
    unfold bA
    simp
  rw [e, List.map_id]
theorem infoT_str : (Tryd.prog.info? 9).map (fun i => (i.zero, i.size, i.bytes)) = some (some (.string ByteArray.empty), 1, 16) := by kernel_rfl
theorem splitL_count (l : List UInt8) : (splitL l).length = l.count 10 + 1 := by
  induction l with
  | nil => rfl
  | cons c r ih =>
    unfold splitL
    by_cases h : c = 10
    · subst h
      rw [if_pos rfl, List.length_cons, ih, List.count_cons_self]
    · rw [if_neg h, List.count_cons_of_ne h, ← ih]
      cases hs : splitL r with
      | nil => rw [hs] at ih; simp at ih
      | cons x y => rfl
set_option maxHeartbeats 2000000 in
set_option maxRecDepth 100000 in
theorem split_any (s : ByteArray) (hs : s.size ≤ 1000000000) (w : World) :
    Calls Tryd.prog 25 #[.string s, .string ⟨#[10]⟩] w fun e w' => e = .returned (.slice (some ⟨w.heap.size, 0, none⟩) (splitL s.data.toList).length (splitL s.data.toList).length) ∧
      w' = w.alloc (.cells (((splitL s.data.toList).map bA).map Value.string).toArray 9) := by
  obtain ⟨n, hn⟩ : ∃ n, s.data.toList.count 10 = n := ⟨_, rfl⟩
  have hle : n ≤ s.size := by
    rw [← hn]
    exact List.count_le_length
  have e0 : Lib.countB s ⟨#[10]⟩ = n := by
    show Lib.count s.data.toList [10] = n
    rw [Lib.count_one, hn]
  have c := Any.strings_genSplit_core { laysSplit with } infoT_str s ⟨#[10]⟩ 0 (-1) (n + 1) w (by omega) (by decide) (Nat.zero_le _)
    (fun x cc hx => (index_any x _).mono fun e w' ⟨he, hw⟩ => ⟨by
      rw [he]
      show _ = Ending.returned (Value.int .i64 (Lib.index x.data.toList [10]))
      rw [Lib.index_one], hw.symm⟩)
    ((Any.strings_Count_one { laysSplit with } s 10 w).mono fun e w' ⟨he, hw⟩ => ⟨by
      rw [he, e0, ← hn]
      rfl, hw⟩) (by decide) (by decide) (by rw [if_pos (by decide), e0]; omega)
  have e1 := splitB_lines s
  have hl := splitL_count s.data.toList
  rw [hn] at e1 hl
  rw [Nat.add_sub_cancel, e1, List.length_map] at c
  have e2 : Lib.cellsOf ((splitL s.data.toList).map bA) (n + 1) = (((splitL s.data.toList).map bA).map Value.string).toArray := by
    rw [← hl, ← List.length_map (f := bA)]
    exact Lib.cellsOf_full _
  rw [e2, ← hl] at c
  generalize (((splitL s.data.toList).map bA).map Value.string).toArray = cs at *
  obtain ⟨L, hL⟩ : ∃ L, (splitL s.data.toList).length = L := ⟨_, rfl⟩
  rw [hL] at c ⊢
  clear hl hL
  have c : Calls Tryd.prog 49 #[.string s, .string ⟨#[10]⟩, .int .i64 0, .int .i64 (-1)] w fun e w' => e = .returned (.slice (some ⟨w.heap.size, 0, none⟩) L L) ∧ w' = w.alloc (.cells cs 9) := c
  go_enter Tryd.func25, Tryd.ntmps25
  go_wp2_with (first | (go_at_call 49; refine c.mono ?_; rintro e w' ⟨rfl, rfl⟩))
  go_ret
  exact ⟨rfl, rfl⟩
end Go.Proofs.YthindbmgnkohhaaDoor
