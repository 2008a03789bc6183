/-
  The library's Cut at a blank, walked.
-/
import Derived.Test.YtfnbehijnmbhjaaDoorU9Base
import Derived.Test.YtfnbehijnmbhjaaDoorD10Row
namespace Go.Proofs.YtfnbehijnmbhjaaDoor
set_option linter.unusedVariables false
set_option linter.unusedSimpArgs false
set_option maxRecDepth 10000
open Go.RowKit Go.Shelf

set_option maxHeartbeats 1000000 in
theorem indexByte32_any (s : ByteArray) (w : World) : Calls Tryd.prog 82 #[.string s, .int .u8 32] w (Plain (.int .i64 (Lib.indexByte s.data.toList 32)) w) := by
  go_enter Tryd.func82, Tryd.ntmps82
  go_wp2
  rw [run_callFunc_extern Tryd.func92 (by kernel_rfl) (by kernel_rfl) (by kernel_rfl) (e := Extern.BytealgIndexByte.indexByte) (by kernel_rfl), Lib.run_indexByteString]
  simp only [Result.andThen]
  rw [Oper.upon_value]
  go_wp2
  go_ret
  exact ⟨rfl, rfl⟩
set_option maxHeartbeats 2000000 in
theorem indexL32_any (s : ByteArray) (w : World) : Calls Tryd.prog 69 #[.string s, .string ⟨#[32]⟩] w (Plain (.int .i64 (Lib.indexByte s.data.toList 32)) w) := by
  have c := fun u => indexByte32_any s u
  go_enter Tryd.func69, Tryd.ntmps69
  go_wp2_with (first | (go_at_call 82; refine (c _).mono ?_; rintro e w' ⟨rfl, rfl⟩))
  · have h : ([(32 : UInt8)] == s.toList) = true := by assumption
    go_ret
    refine ⟨?_, rfl⟩
    have e : s.data.toList = [32] := by rw [← Lib.toList_data]; exact (beq_iff_eq.1 h).symm
    rw [e]
    simp [Lib.indexByte]
  · go_ret
    exact ⟨rfl, rfl⟩
theorem index32_none {l : List UInt8} (h : Lib.indexByte l 32 < 0) : (32 : UInt8) ∉ l := by
  induction l with
  | nil => simp
  | cons b l ih =>
    unfold Lib.indexByte at h
    have hg := Lib.indexByte_ge l 32
    split at h
    · omega
    · rename_i hb
      have hb' : b ≠ 32 := by simpa using hb
      have hl : Lib.indexByte l 32 < 0 := by
        split at h
        · rename_i h1
          have : Lib.indexByte l 32 = -1 := by simpa using h1
          omega
        · omega
      simp only [List.mem_cons, not_or]
      exact ⟨fun e => hb' e.symm, ih hl⟩
theorem index32_some {l : List UInt8} {i : Nat} (h : Lib.indexByte l 32 = (i : Int)) : i < l.length ∧ l[i]? = some 32 ∧ (32 : UInt8) ∉ l.take i := by
  induction l generalizing i with
  | nil => unfold Lib.indexByte at h; omega
  | cons b l ih =>
    unfold Lib.indexByte at h
    have hg := Lib.indexByte_ge l 32
    split at h
    · rename_i hb
      obtain rfl : i = 0 := by omega
      have hb' : b = 32 := by simpa using hb
      subst hb'
      simp
    · rename_i hb
      have hb' : b ≠ 32 := by simpa using hb
      split at h
      · omega
      · rename_i h1
        obtain ⟨j, hj⟩ : ∃ j : Nat, Lib.indexByte l 32 = (j : Int) := ⟨(Lib.indexByte l 32).toNat, by
          have : Lib.indexByte l 32 ≠ -1 := by simpa using h1
          omega⟩
        obtain rfl : i = j + 1 := by omega
        obtain ⟨a, b', c⟩ := ih hj
        refine ⟨by simp; omega, by simpa using b', ?_⟩
        simp only [List.take_succ_cons, List.mem_cons, not_or]
        exact ⟨fun e => hb' e.symm, c⟩
set_option maxHeartbeats 2000000 in
theorem cut32_none (s : ByteArray) (h : Lib.indexByte s.data.toList 32 < 0) (w : World) : Calls Tryd.prog 27 #[.string s, .string ⟨#[32]⟩] w (Plain (.tuple #[.string s, .string ⟨#[]⟩, .bool false]) w) := by
  have c := fun u => indexL32_any s u
  have c2 : ∀ u, Calls Tryd.prog 49 #[.string s, .string ⟨#[32]⟩] u (Plain (.tuple #[.string s, .string ⟨#[]⟩, .bool false]) u) := by
    intro u
    generalize Lib.indexByte s.data.toList 32 = i at *
    have h' : ¬ (0 ≤ i) := by omega
    go_enter Tryd.func49, Tryd.ntmps49
    go_wp2_with (first | (go_at_call 69; refine (c _).mono ?_; rintro e w' ⟨rfl, rfl⟩))
    go_ret3
    exact ⟨rfl, rfl⟩
  go_enter Tryd.func27, Tryd.ntmps27
  go_wp2_with (first | (go_at_call 49; refine (c2 _).mono ?_; rintro e w' ⟨rfl, rfl⟩))
  go_ret3
  exact ⟨rfl, rfl⟩
set_option maxHeartbeats 2000000 in
theorem cut32_some (s : ByteArray) (i : Nat) (h : Lib.indexByte s.data.toList 32 = (i : Int)) (hs : s.size ≤ 1000000000) (w : World) :
    Calls Tryd.prog 27 #[.string s, .string ⟨#[32]⟩] w (Tells (.tuple #[.string (bA (s.data.toList.take i)), .string (bA (s.data.toList.drop (i + 1))), .bool true]) w.heap.size w) := by
  have c := fun u => indexL32_any s u
  have hi := (index32_some h).1
  rw [ba_size] at hi
  have e1 : s.extract 0 i = bA (s.data.toList.take i) := ba_ext (by rw [ext_toList, bA_list, List.drop_zero])
  have e2 : s.extract (i + 1) s.size = bA (s.data.toList.drop (i + 1)) := bA_ext s (i + 1)
  have c2 : ∀ u, Calls Tryd.prog 49 #[.string s, .string ⟨#[32]⟩] u (Tells (.tuple #[.string (bA (s.data.toList.take i)), .string (bA (s.data.toList.drop (i + 1))), .bool true]) u.heap.size u) := by
    intro u
    rw [h] at c
    have h1 : (i : Int) ≤ (s.size : Int) := by omega
    have h2 : (i : Int) + 1 ≤ (s.size : Int) := by omega
    have h3 : wrap64 ((i : Int) + 1) = ((i + 1 : Nat) : Int) := by rw [IntWalk.wrap64_in _ (by omega)]; omega
    have h4 : ((i + 1 : Nat) : Int) ≤ (s.size : Int) := by omega
    go_enter Tryd.func49, Tryd.ntmps49
    go_wp2_with (first | (go_at_call 69; refine (c _).mono ?_; rintro e w' ⟨rfl, rfl⟩))
    go_quiet (fail)
    go_wp2
    go_ret3
    exact ⟨rfl, below_drewN (Below.refl _ _) _⟩
  go_enter Tryd.func27, Tryd.ntmps27
  go_wp2_with (first | (go_at_call 49; refine (c2 _).mono ?_; rintro e w' ⟨rfl, b1⟩))
  go_ret3
  exact ⟨rfl, b1⟩

/-- Cut at a blank, in plain words. -/
theorem cutL_index (l : List UInt8) : (Lib.indexByte l 32 < 0 ∧ cutL l = none) ∨ (∃ i : Nat, Lib.indexByte l 32 = (i : Int) ∧ cutL l = some (l.take i, l.drop (i + 1))) := by
  by_cases h : Lib.indexByte l 32 < 0
  · exact .inl ⟨h, (cutL_none l).2 (index32_none h)⟩
  · obtain ⟨i, hi⟩ : ∃ i : Nat, Lib.indexByte l 32 = (i : Int) := ⟨(Lib.indexByte l 32).toNat, by omega⟩
    obtain ⟨h1, h2, h3⟩ := index32_some hi
    refine .inr ⟨i, hi, (cutL_some _ _ _).2 ⟨?_, h3⟩⟩
    have e : l.drop i = 32 :: l.drop (i + 1) := by
      rw [List.drop_eq_getElem_cons h1]
      have := List.getElem?_eq_getElem h1
      rw [h2] at this
      injection this with this
      rw [← this]
    rw [← e, List.take_append_drop]
theorem cutB_none (s : ByteArray) (h : cutL s.data.toList = none) (w : World) : Calls Tryd.prog 27 #[.string s, .string ⟨#[32]⟩] w (Plain (.tuple #[.string s, .string ⟨#[]⟩, .bool false]) w) := by
  rcases cutL_index s.data.toList with ⟨h1, -⟩ | ⟨i, h1, h2⟩
  · exact cut32_none s h1 w
  · rw [h] at h2; cases h2
theorem cutB_some (s : ByteArray) (a b : List UInt8) (h : cutL s.data.toList = some (a, b)) (hs : s.size ≤ 1000000000) (w : World) :
    Calls Tryd.prog 27 #[.string s, .string ⟨#[32]⟩] w (Tells (.tuple #[.string (bA a), .string (bA b), .bool true]) w.heap.size w) := by
  rcases cutL_index s.data.toList with ⟨h1, h2⟩ | ⟨i, h1, h2⟩
  · rw [h] at h2; cases h2
  · rw [h] at h2
    injection h2 with h2
    injection h2 with h2 h3
    subst h2 h3
    exact cut32_some s i h1 hs w
end Go.Proofs.YtfnbehijnmbhjaaDoor
