/-
  paymasterlaw05.awake, walked: the chapter's examples are answered as the chapter has them.
-/
import Derived.Test.YtlceniljnejjeaaDoorU5Dig
import Derived.Test.YtlceniljnejjeaaDoorU5Hex
namespace Go.Proofs.YtlceniljnejjeaaDoor
set_option linter.unusedVariables false
set_option linter.unusedSimpArgs false
open Go.RowKit

theorem sum_nil (w : World) (hT : Tab w) : Calls Tryd.prog 27 #[.string ⟨#[]⟩] w (Tells (.string (digB nilT.data.toList)) w.heap.size w) := sum_any nilT (by decide) w hT
theorem hex_nil (w : World) : Calls Tryd.prog 31 #[.string (digB nilT.data.toList)] w (Tells (.string ⟨#[101, 51, 98, 48, 99, 52, 52, 50, 57, 56, 102, 99, 49, 99, 49, 52, 57, 97, 102, 98, 102, 52, 99, 56, 57, 57, 54, 102, 98, 57, 50, 52, 50, 55, 97, 101, 52, 49, 101, 52, 54, 52, 57, 98, 57, 51, 52, 99, 97, 52, 57, 53, 57, 57, 49, 98, 55, 56, 53, 50, 98, 56, 53, 53]⟩) w.heap.size w) := by
  have h := hex_any (digB nilT.data.toList) (by rw [digB_size]; decide) w
  rw [nil_hex] at h
  exact h
theorem sum_abc (w : World) (hT : Tab w) : Calls Tryd.prog 27 #[.string ⟨#[97, 98, 99]⟩] w (Tells (.string (digB abcT.data.toList)) w.heap.size w) := sum_any abcT (by decide) w hT
theorem hex_abc (w : World) : Calls Tryd.prog 31 #[.string (digB abcT.data.toList)] w (Tells (.string ⟨#[98, 97, 55, 56, 49, 54, 98, 102, 56, 102, 48, 49, 99, 102, 101, 97, 52, 49, 52, 49, 52, 48, 100, 101, 53, 100, 97, 101, 50, 50, 50, 51, 98, 48, 48, 51, 54, 49, 97, 51, 57, 54, 49, 55, 55, 97, 57, 99, 98, 52, 49, 48, 102, 102, 54, 49, 102, 50, 48, 48, 49, 53, 97, 100]⟩) w.heap.size w) := by
  have h := hex_any (digB abcT.data.toList) (by rw [digB_size]; decide) w
  rw [abc_hex] at h
  exact h
theorem sum_let (w : World) (hT : Tab w) : Calls Tryd.prog 27 #[.string ⟨#[97, 98, 99, 100, 98, 99, 100, 101, 99, 100, 101, 102, 100, 101, 102, 103, 101, 102, 103, 104, 102, 103, 104, 105, 103, 104, 105, 106, 104, 105, 106, 107, 105, 106, 107, 108, 106, 107, 108, 109, 107, 108, 109, 110, 108, 109, 110, 111, 109, 110, 111, 112, 110, 111, 112, 113]⟩] w (Tells (.string (digB letT.data.toList)) w.heap.size w) := sum_any letT (by decide) w hT
theorem hex_let (w : World) : Calls Tryd.prog 31 #[.string (digB letT.data.toList)] w (Tells (.string ⟨#[50, 52, 56, 100, 54, 97, 54, 49, 100, 50, 48, 54, 51, 56, 98, 56, 101, 53, 99, 48, 50, 54, 57, 51, 48, 99, 51, 101, 54, 48, 51, 57, 97, 51, 51, 99, 101, 52, 53, 57, 54, 52, 102, 102, 50, 49, 54, 55, 102, 54, 101, 99, 101, 100, 100, 52, 49, 57, 100, 98, 48, 54, 99, 49]⟩) w.heap.size w) := by
  have h := hex_any (digB letT.data.toList) (by rw [digB_size]; decide) w
  rw [let_hex] at h
  exact h
theorem padding_lit (n : Nat) (k : Int) (hk : k = n) (hn : n < 18446744073709551616) (w : World) : Calls Tryd.prog 29 #[.int .u64 k] w (Tells (.string (padB n)) w.heap.size w) := by subst hk; exact padding_any n hn w
set_option maxRecDepth 100000 in
set_option maxHeartbeats 4000000 in
theorem awake5_any (w : World) (hT : Tab w) : Calls Tryd.prog 39 #[] w (Tells (.bool true) w.heap.size w) := by
  have snil := fun u hu => sum_nil u hu
  have hnil := fun u => hex_nil u
  have sabc := fun u hu => sum_abc u hu
  have habc := fun u => hex_abc u
  have slet := fun u hu => sum_let u hu
  have hlet := fun u => hex_let u
  generalize digB nilT.data.toList = Dnil at *
  generalize digB abcT.data.toList = Dabc at *
  generalize digB letT.data.toList = Dlet at *
  have p55 := fun u => padding_lit 55 55 rfl (by decide) u
  have p56 := fun u => padding_lit 56 56 rfl (by decide) u
  have l55 : (padB 55).size = 9 := by rw [padB_size]; decide
  have l56 : (padB 56).size = 72 := by rw [padB_size]; decide
  generalize padB 55 = P55 at *
  generalize padB 56 = P56 at *
  go_enter Tryd.func39, Tryd.ntmps39
  go_wp2_with (first
    | (go_at_call_of 27 (Value.string ⟨#[]⟩); refine (snil _ hT).mono ?_; rintro e w1 ⟨rfl, b1⟩; have t1 := hT.call b1)
    | (go_at_call_of 31 (Value.string Dnil); refine (hnil _).mono ?_; rintro e w2 ⟨rfl, b2⟩; have t2 := t1.call b2)
    | (go_at_call_of 27 (Value.string ⟨#[97, 98, 99]⟩); refine (sabc _ t2).mono ?_; rintro e w3 ⟨rfl, b3⟩; have t3 := t2.call b3)
    | (go_at_call_of 31 (Value.string Dabc); refine (habc _).mono ?_; rintro e w4 ⟨rfl, b4⟩; have t4 := t3.call b4)
    | (go_at_call 27; refine (slet _ t4).mono ?_; rintro e w5 ⟨rfl, b5⟩; have t5 := t4.call b5)
    | (go_at_call_of 31 (Value.string Dlet); refine (hlet _).mono ?_; rintro e w6 ⟨rfl, b6⟩; have t6 := t5.call b6)
    | (go_at_call_of 29 (Value.int .u64 55); refine (p55 _).mono ?_; rintro e w7 ⟨rfl, b7⟩)
    | (go_at_call_of 29 (Value.int .u64 56); refine (p56 _).mono ?_; rintro e w8 ⟨rfl, b8⟩))
  go_ret
  exact ⟨rfl, chain (chain (chain (chain (chain (chain (chain b1 b2) b3) b4) b5) b6) b7) b8⟩
end Go.Proofs.YtlceniljnejjeaaDoor
