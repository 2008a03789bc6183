/-
  paymasterlaw06.awake, walked: the chapter's example is answered as the chapter has it.
-/
import Derived.Test.YtnlkhabaidncgaaDoorU6New
import Derived.Test.YtnlkhabaidncgaaDoorD6Jefe
import Derived.Test.YtnlkhabaidncgaaDoorU5Hex
namespace Go.Proofs.YtnlkhabaidncgaaDoor
set_option linter.unusedVariables false
set_option linter.unusedSimpArgs false
open Go.RowKit

theorem mac_two : firB (macB jefe whatT.data.toList) 2 = ⟨#[91, 220]⟩ := by rw [mac_jefe]; decide +kernel
theorem jsum (w : World) (hT : Tab w) : Calls Tryd.prog 11 #[.string ⟨#[74, 101, 102, 101]⟩, .string ⟨#[119, 104, 97, 116, 32, 100, 111, 32, 121, 97, 32, 119, 97, 110, 116, 32, 102, 111, 114, 32, 110, 111, 116, 104, 105, 110, 103, 63]⟩] w (Tells (.string (macB jefe whatT.data.toList)) w.heap.size w) := hsum_any jefe whatT (by decide) (by decide) w hT
theorem jhex (w : World) : Calls Tryd.prog 34 #[.string (macB jefe whatT.data.toList)] w (Tells (.string ⟨#[53, 98, 100, 99, 99, 49, 52, 54, 98, 102, 54, 48, 55, 53, 52, 101, 54, 97, 48, 52, 50, 52, 50, 54, 48, 56, 57, 53, 55, 53, 99, 55, 53, 97, 48, 48, 51, 102, 48, 56, 57, 100, 50, 55, 51, 57, 56, 51, 57, 100, 101, 99, 53, 56, 98, 57, 54, 52, 101, 99, 51, 56, 52, 51]⟩) w.heap.size w) := by
  have h := hex_any (macB jefe whatT.data.toList) (by rw [macB_size]; decide) w
  rw [mac_hex] at h
  exact h
theorem jfirst (w : World) (hT : Tab w) : Calls Tryd.prog 14 #[.string ⟨#[74, 101, 102, 101]⟩, .string ⟨#[119, 104, 97, 116, 32, 100, 111, 32, 121, 97, 32, 119, 97, 110, 116, 32, 102, 111, 114, 32, 110, 111, 116, 104, 105, 110, 103, 63]⟩, .int .i64 2] w (Tells (.string ⟨#[91, 220]⟩) w.heap.size w) := by
  have h := hfirst_any jefe whatT (by decide) (by decide) 2 (by decide) w hT
  rw [mac_two] at h
  exact h
theorem jnumber (w : World) (hT : Tab w) : Calls Tryd.prog 16 #[.string ⟨#[74, 101, 102, 101]⟩, .string ⟨#[119, 104, 97, 116, 32, 100, 111, 32, 121, 97, 32, 119, 97, 110, 116, 32, 102, 111, 114, 32, 110, 111, 116, 104, 105, 110, 103, 63]⟩] w (Tells (.int .u64 6619378061930427726) w.heap.size w) := by
  have h := hnumber_any jefe whatT (by decide) (by decide) w hT
  rw [mac_number] at h
  exact h
theorem jis (w : World) (hT : Tab w) : Calls Tryd.prog 18 #[.string ⟨#[74, 101, 102, 101]⟩, .string ⟨#[119, 104, 97, 116, 32, 100, 111, 32, 121, 97, 32, 119, 97, 110, 116, 32, 102, 111, 114, 32, 110, 111, 116, 104, 105, 110, 103, 63]⟩, .string (macB jefe whatT.data.toList)] w (Tells (.bool true) w.heap.size w) := by
  have h := his_any jefe whatT (macB jefe whatT.data.toList) (by decide) (by decide) w hT
  rw [same_str, decide_eq_true rfl] at h
  exact h
theorem jisnt (w : World) (hT : Tab w) : Calls Tryd.prog 18 #[.string ⟨#[74, 101, 102, 101]⟩, .string ⟨#[]⟩, .string (macB jefe whatT.data.toList)] w (Tells (.bool false) w.heap.size w) := by
  have h := his_any jefe ⟨#[]⟩ (macB jefe whatT.data.toList) (by decide) (by decide) w hT
  rw [mac_other] at h
  exact h
set_option maxRecDepth 100000 in
set_option maxHeartbeats 4000000 in
theorem awake6_any (w : World) (hT : Tab w) : Calls Tryd.prog 24 #[] w (Tells (.bool true) w.heap.size w) := by
  have c1 := fun u hu => jsum u hu
  have c2 := fun u => jhex u
  have c3 := fun u hu => jfirst u hu
  have c4 := fun u hu => jnumber u hu
  have c5 := fun u hu => jis u hu
  have c6 := fun u hu => jisnt u hu
  generalize macB jefe whatT.data.toList = M at *
  go_enter Tryd.func24, Tryd.ntmps24
  go_wp2_with (first
    | (go_at_call 11; refine (c1 _ hT).mono ?_; rintro e w1 ⟨rfl, b1⟩; have t1 := hT.call b1)
    | (go_at_call 34; refine (c2 _).mono ?_; rintro e w2 ⟨rfl, b2⟩; have t2 := t1.call b2)
    | (go_at_call 14; refine (c3 _ t2).mono ?_; rintro e w3 ⟨rfl, b3⟩; have t3 := t2.call b3)
    | (go_at_call 16; refine (c4 _ t3).mono ?_; rintro e w4 ⟨rfl, b4⟩; have t4 := t3.call b4)
    | (go_at_call_of 18 (Value.string ⟨#[]⟩); refine (c6 _ t5).mono ?_; rintro e w6 ⟨rfl, b6⟩)
    | (go_at_call 18; refine (c5 _ t4).mono ?_; rintro e w5 ⟨rfl, b5⟩; have t5 := t4.call b5))
  go_ret
  exact ⟨rfl, chain (chain (chain (chain (chain b1 b2) b3) b4) b5) b6⟩
end Go.Proofs.YtnlkhabaidncgaaDoor
