/-
  The library's functions that lines calls, at one byte, walked: strings.HasPrefix, Index, Cut, Contains; unicode/utf8.ValidRune.
-/
import Derived.Test.YthindbmgnkohhaaDoorRows
import Derived.Test.YthindbmgnkohhaaDoorD9Rune
import Derived.Test.YthindbmgnkohhaaDoorW0Words
import Derived.WalkKit
import Derived.WalkSpells
import Derived.StillTactics
import Derived.RowKit3
import Derived.Outline
import Derived.BigQuiet
import Derived.Deep.QuietTactic
import Derived.LoopTactic
import Derived.Deep.RegionWith
import Derived.Deep.LoopGhost
import Derived.Deep.RegionHeld3
import Derived.Deep.DeepCutAuto
import Derived.Deep.CutRange
import Derived.Deep.AppendLies
import Derived.Laws.Strings
import Derived.Laws.Strings3
import Derived.Laws.Externs
import Derived.Laws.RangeAny
import Derived.Lib.Bytealg
import Derived.Lib.Walk
import Derived.Lib.Strings
import Derived.Lib.Slices
import Derived.Shelf.Strings.Prefix
namespace Go.Proofs.YthindbmgnkohhaaDoor
set_option linter.unusedVariables false
set_option linter.unusedSimpArgs false
set_option maxRecDepth 10000
open Go.RowKit Go.Shelf

def prefRen : Go.Shelf.Ren := ⟨fun | 99 => 102 | 206 => 112 | n => n,
  fun | 3 => 3 | 4 => 4 | 9 => 9 | n => n, fun n => n⟩
theorem laysPref : Lays.n99 Tryd.prog prefRen := {
  mixed := by kernel_rfl
  f99 := by kernel_rfl
  f206 := by kernel_rfl
  t3 := by kernel_rfl
  a3 := fun _ => by kernel_rfl
  z3 := fun _ => by kernel_rfl
  v3 := fun _ => by kernel_rfl
  t4 := by kernel_rfl
  a4 := fun _ => by kernel_rfl
  z4 := fun _ => by kernel_rfl
  v4 := fun _ => by kernel_rfl
  t9 := by kernel_rfl
  a9 := fun _ => by kernel_rfl
  z9 := fun _ => by kernel_rfl
  v9 := fun _ => by kernel_rfl }
theorem prefix_any (s p : ByteArray) (w : World) : Calls Tryd.prog 102 #[.string s, .string p] w (Plain (.bool (p.data.toList.isPrefixOf s.data.toList)) w) :=
  (Any.strings_HasPrefix laysPref s p w).mono fun e w' h => ⟨h.1, h.2.symm⟩

set_option maxHeartbeats 1000000 in
theorem indexByte_any (s : ByteArray) (w : World) : Calls Tryd.prog 98 #[.string s, .int .u8 10] w (Plain (.int .i64 (Lib.indexByte s.data.toList 10)) w) := by
  go_enter Tryd.func98, Tryd.ntmps98
  go_wp2
  rw [run_callFunc_extern Tryd.func110 (by kernel_rfl) (by kernel_rfl) (by kernel_rfl) (e := Extern.BytealgIndexByte.indexByte) (by kernel_rfl), Lib.run_indexByteString]
  simp only [Result.andThen]
  rw [Oper.upon_value]
  go_wp2
  go_ret
  exact ⟨rfl, rfl⟩
set_option maxHeartbeats 2000000 in
theorem indexL_any (s : ByteArray) (w : World) : Calls Tryd.prog 77 #[.string s, .string ⟨#[10]⟩] w (Plain (.int .i64 (Lib.indexByte s.data.toList 10)) w) := by
  have c := fun u => indexByte_any s u
  go_enter Tryd.func77, Tryd.ntmps77
  go_wp2_with (first | (go_at_call 98; refine (c _).mono ?_; rintro e w' ⟨rfl, rfl⟩))
  · have h : ([(10 : UInt8)] == s.toList) = true := by assumption
    go_ret
    refine ⟨?_, rfl⟩
    have e : s.data.toList = [10] := by rw [← Lib.toList_data]; exact (beq_iff_eq.1 h).symm
    rw [e]
    simp [Lib.indexByte]
  · go_ret
    exact ⟨rfl, rfl⟩
set_option maxHeartbeats 1000000 in
theorem index_any (s : ByteArray) (w : World) : Calls Tryd.prog 54 #[.string s, .string ⟨#[10]⟩] w (Plain (.int .i64 (Lib.indexByte s.data.toList 10)) w) := by
  have c := fun u => indexL_any s u
  go_enter Tryd.func54, Tryd.ntmps54
  go_wp2_with (first | (go_at_call 77; refine (c _).mono ?_; rintro e w' ⟨rfl, rfl⟩))
  go_ret
  exact ⟨rfl, rfl⟩
/-- Is there a byte 10? -/
def has10 (l : List UInt8) : Bool := decide (0 ≤ Lib.indexByte l 10)
set_option maxHeartbeats 1000000 in
theorem contains_any (s : ByteArray) (w : World) : Calls Tryd.prog 33 #[.string s, .string ⟨#[10]⟩] w (Plain (.bool (has10 s.data.toList)) w) := by
  have c := fun u => index_any s u
  go_enter Tryd.func33, Tryd.ntmps33
  go_wp2_with (first | (go_at_call 54; refine (c _).mono ?_; rintro e w' ⟨rfl, rfl⟩))
  go_ret
  exact ⟨rfl, rfl⟩

theorem index_none {l : List UInt8} (h : Lib.indexByte l 10 < 0) : (10 : UInt8) ∉ l := by
  induction l with
  | nil => simp
  | cons b l ih =>
    unfold Lib.indexByte at h
    have hg := Lib.indexByte_ge l 10
    split at h
    · omega
    · rename_i hb
      have hb' : b ≠ 10 := by simpa using hb
      have hl : Lib.indexByte l 10 < 0 := by
        split at h
        · rename_i h1
          have : Lib.indexByte l 10 = -1 := by simpa using h1
          omega
        · omega
      simp only [List.mem_cons, not_or]
      exact ⟨fun e => hb' e.symm, ih hl⟩
theorem index_some {l : List UInt8} {i : Nat} (h : Lib.indexByte l 10 = (i : Int)) : i < l.length ∧ l[i]? = some 10 ∧ (10 : UInt8) ∉ l.take i := by
  induction l generalizing i with
  | nil => unfold Lib.indexByte at h; omega
  | cons b l ih =>
    unfold Lib.indexByte at h
    have hg := Lib.indexByte_ge l 10
    split at h
    · rename_i hb
      obtain rfl : i = 0 := by omega
      have hb' : b = 10 := by simpa using hb
      subst hb'
      simp
    · rename_i hb
      have hb' : b ≠ 10 := by simpa using hb
      split at h
      · omega
      · rename_i h1
        obtain ⟨j, hj⟩ : ∃ j : Nat, Lib.indexByte l 10 = (j : Int) := ⟨(Lib.indexByte l 10).toNat, by
          have : Lib.indexByte l 10 ≠ -1 := by simpa using h1
          omega⟩
        obtain rfl : i = j + 1 := by omega
        obtain ⟨a, b', c⟩ := ih hj
        refine ⟨by simp; omega, by simpa using b', ?_⟩
        simp only [List.take_succ_cons, List.mem_cons, not_or]
        exact ⟨fun e => hb' e.symm, c⟩
theorem split_none {l : List UInt8} (h : (10 : UInt8) ∉ l) : splitL l = [l] := by
  induction l with
  | nil => rfl
  | cons b l ih =>
    simp only [List.mem_cons, not_or] at h
    rw [splitL, if_neg (fun e => h.1 e.symm), ih h.2]
theorem split_some {l : List UInt8} {i : Nat} (h1 : l[i]? = some 10) (h2 : (10 : UInt8) ∉ l.take i) : splitL l = l.take i :: splitL (l.drop (i + 1)) := by
  induction l generalizing i with
  | nil => simp at h1
  | cons b l ih =>
    cases i with
    | zero =>
      obtain rfl : b = 10 := by simpa using h1
      rw [splitL, if_pos rfl]
      rfl
    | succ i =>
      simp only [List.take_succ_cons, List.mem_cons, not_or] at h2
      rw [splitL, if_neg (fun e => h2.1 e.symm), ih (by simpa using h1) h2.2]
      rfl
theorem has10_iff (l : List UInt8) : has10 l = true ↔ (10 : UInt8) ∈ l := by
  unfold has10
  rw [decide_eq_true_eq]
  constructor
  · intro h
    obtain ⟨j, hj⟩ : ∃ j : Nat, Lib.indexByte l 10 = (j : Int) := ⟨(Lib.indexByte l 10).toNat, by omega⟩
    exact List.mem_of_getElem? (index_some hj).2.1
  · intro h
    by_cases k : 0 ≤ Lib.indexByte l 10
    · exact k
    · exact absurd h (index_none (by omega))

set_option maxHeartbeats 2000000 in
theorem cut_none (s : ByteArray) (h : Lib.indexByte s.data.toList 10 < 0) (w : World) : Calls Tryd.prog 57 #[.string s, .string ⟨#[10]⟩] w (Plain (.tuple #[.string s, .string ⟨#[]⟩, .bool false]) w) := by
  have c := fun u => indexL_any s u
  have c2 : ∀ u, Calls Tryd.prog 79 #[.string s, .string ⟨#[10]⟩] u (Plain (.tuple #[.string s, .string ⟨#[]⟩, .bool false]) u) := by
    intro u
    generalize Lib.indexByte s.data.toList 10 = i at *
    have h' : ¬ (0 ≤ i) := by omega
    go_enter Tryd.func79, Tryd.ntmps79
    go_wp2_with (first | (go_at_call 77; refine (c _).mono ?_; rintro e w' ⟨rfl, rfl⟩))
    go_ret3
    exact ⟨rfl, rfl⟩
  go_enter Tryd.func57, Tryd.ntmps57
  go_wp2_with (first | (go_at_call 79; refine (c2 _).mono ?_; rintro e w' ⟨rfl, rfl⟩))
  go_ret3
  exact ⟨rfl, rfl⟩
set_option maxHeartbeats 2000000 in
theorem cut_some (s : ByteArray) (i : Nat) (h : Lib.indexByte s.data.toList 10 = (i : Int)) (hs : s.size ≤ 1000000000) (w : World) :
    Calls Tryd.prog 57 #[.string s, .string ⟨#[10]⟩] w (Tells (.tuple #[.string (bA (s.data.toList.take i)), .string (bA (s.data.toList.drop (i + 1))), .bool true]) w.heap.size w) := by
  have c := fun u => indexL_any s u
  have hi := (index_some h).1
  rw [ba_size] at hi
  have e1 : s.extract 0 i = bA (s.data.toList.take i) := ba_ext (by rw [ext_toList, bA_list, List.drop_zero])
  have e2 : s.extract (i + 1) s.size = bA (s.data.toList.drop (i + 1)) := bA_ext s (i + 1)
  have c2 : ∀ u, Calls Tryd.prog 79 #[.string s, .string ⟨#[10]⟩] u (Tells (.tuple #[.string (bA (s.data.toList.take i)), .string (bA (s.data.toList.drop (i + 1))), .bool true]) u.heap.size u) := by
    intro u
    rw [h] at c
    have h1 : (i : Int) ≤ (s.size : Int) := by omega
    have h2 : (i : Int) + 1 ≤ (s.size : Int) := by omega
    have h3 : wrap64 ((i : Int) + 1) = ((i + 1 : Nat) : Int) := by rw [IntWalk.wrap64_in _ (by omega)]; omega
    have h4 : ((i + 1 : Nat) : Int) ≤ (s.size : Int) := by omega
    go_enter Tryd.func79, Tryd.ntmps79
    go_wp2_with (first | (go_at_call 77; refine (c _).mono ?_; rintro e w' ⟨rfl, rfl⟩))
    go_quiet (fail)
    go_wp2
    go_ret3
    exact ⟨rfl, below_drewN (Below.refl _ _) _⟩
  go_enter Tryd.func57, Tryd.ntmps57
  go_wp2_with (first | (go_at_call 79; refine (c2 _).mono ?_; rintro e w' ⟨rfl, b1⟩))
  go_ret3
  exact ⟨rfl, b1⟩

theorem own_lower {w : World} {base base' size : Nat} {e : TypeId} {v : Value} {n : Nat} {xs : List Value} (h : w.ownsRow base e size v n xs) (hb : base' ≤ base) : w.ownsRow base' e size v n xs := by
  refine ⟨h.1, ?_⟩
  rcases h.2 with h2 | ⟨g, cap, cur, hv, hg, r⟩
  · exact .inl h2
  · exact .inr ⟨g, cap, cur, hv, Nat.le_trans hb hg, r⟩
end Go.Proofs.YthindbmgnkohhaaDoor
