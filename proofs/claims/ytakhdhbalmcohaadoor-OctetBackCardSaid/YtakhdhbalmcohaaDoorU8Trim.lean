/-
  strings.TrimLeft at one nought, by the library's own contract of trimLeftByte.
-/
import Derived.Test.YtakhdhbalmcohaaDoorRows
import Derived.Test.YtakhdhbalmcohaaDoorW8Off
import Derived.WalkKit
import Derived.Shelf.Strings.Trim
import Derived.KernelRfl
namespace Go.Proofs.YtakhdhbalmcohaaDoor
set_option linter.unusedVariables false
set_option linter.unusedSimpArgs false
set_option maxRecDepth 10000
open Go.RowKit Go.Shelf

def trimRen : Go.Shelf.Ren := ⟨fun | 231 => 51 | n => n,
  fun | 3 => 3 | 4 => 4 | 5 => 5 | 9 => 9 | n => n, fun n => n⟩
theorem laysTrim : Lays.n231 Tryd.prog trimRen := {
  mixed := by kernel_rfl
  f231 := by kernel_rfl
  t3 := by kernel_rfl
  a3 := fun _ => by kernel_rfl
  z3 := fun _ => by kernel_rfl
  v3 := fun _ => by kernel_rfl
  t4 := by kernel_rfl
  a4 := fun _ => by kernel_rfl
  z4 := fun _ => by kernel_rfl
  v4 := fun _ => by kernel_rfl
  t5 := by kernel_rfl
  a5 := fun _ => by kernel_rfl
  z5 := fun _ => by kernel_rfl
  v5 := fun _ => by kernel_rfl
  t9 := by kernel_rfl
  a9 := fun _ => by kernel_rfl
  z9 := fun _ => by kernel_rfl
  v9 := fun _ => by kernel_rfl }
set_option maxHeartbeats 1000000 in
theorem trim_any (s : ByteArray) (hs : 0 < s.size) (w : World) : Calls Tryd.prog 45 #[.string s, .string ⟨#[0]⟩] w (Still (.string (ofL (trimN s.data.toList))) w) := by
  have c : ∀ u : World, Calls Tryd.prog 51 #[.string s, .int .u8 0] u fun e w' => e = .returned (.string (ofL (trimN s.data.toList))) ∧ w' = u := fun u => Any.strings_trimLeftByte laysTrim s 0 u
  have h0 : s.toList.isEmpty = false := by
    rw [Lib.toList_data]
    cases h : s.data.toList with
    | nil => have := osize s; rw [h, List.length_nil] at this; omega
    | cons _ _ => rfl
  have h1 : (s.toList == []) = false := by
    cases h : s.toList with
    | nil => rw [h] at h0; cases h0
    | cons _ _ => rfl
  generalize ofL (trimN s.data.toList) = r at *
  go_enter Tryd.func45, Tryd.ntmps45
  go_wp2_with (first | (go_at_call 51; refine (c _).mono ?_; rintro e w' ⟨rfl, rfl⟩))
  go_ret
  exact ⟨rfl, rfl⟩
end Go.Proofs.YtakhdhbalmcohaaDoor
