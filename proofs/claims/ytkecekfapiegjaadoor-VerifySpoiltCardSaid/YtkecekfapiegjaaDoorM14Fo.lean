/- Several of my texts, laid as one. -/
import Derived.Test.YtkecekfapiegjaaDoorRows
import Derived.Test.YtkecekfapiegjaaDoorM0Wrd
import Derived.Test.YtkecekfapiegjaaDoorM14Pln
/-
  math/bits' OnesCount of a length: one, just for 2^k.
-/
namespace Go.Proofs.YtkecekfapiegjaaDoor
set_option linter.unusedVariables false
set_option linter.unusedSimpArgs false
set_option maxRecDepth 10000
open Go.RowKit

def ones1 (n : Nat) : Int := IntKind.u64.wrap (bits .and .u64 ((n : Int) / 2) 6148914691236517205 + bits .and .u64 (n : Int) 6148914691236517205)
def ones2 (x : Int) : Int := IntKind.u64.wrap (bits .and .u64 (x / 4) 3689348814741910323 + bits .and .u64 x 3689348814741910323)
def ones3 (x : Int) : Int := bits .and .u64 (IntKind.u64.wrap (x / 16 + x)) 1085102592571150095
def ones4 (x : Int) : Int := IntKind.u64.wrap (x + x / 256)
def ones5 (x : Int) : Int := IntKind.u64.wrap (x + x / 65536)
def ones6 (x : Int) : Int := IntKind.u64.wrap (x + x / 4294967296)
def ones7 (x : Int) : Int := bits .and .i64 (wrap64 x) 127
def onesN (n : Nat) : Int := ones7 (ones6 (ones5 (ones4 (ones3 (ones2 (ones1 n))))))
theorem ones_pow : ∀ n : Nat, n < 301 → (onesN n != 1) = !powB n := by decide +kernel
set_option maxHeartbeats 2000000 in
theorem ones64_any (n : Nat) (w : World) : Calls Tryd.prog 115 #[.int .u64 n] w (Plain (.int .i64 (onesN n)) w) := by
  obtain ⟨x1, h1⟩ : ∃ x, IntKind.u64.wrap (bits .and .u64 ((n : Int) / 2) 6148914691236517205 + bits .and .u64 (n : Int) 6148914691236517205) = x := ⟨_, rfl⟩
  obtain ⟨x2, h2⟩ : ∃ x, IntKind.u64.wrap (bits .and .u64 (x1 / 4) 3689348814741910323 + bits .and .u64 x1 3689348814741910323) = x := ⟨_, rfl⟩
  obtain ⟨x3, h3⟩ : ∃ x, bits .and .u64 (IntKind.u64.wrap (x2 / 16 + x2)) 1085102592571150095 = x := ⟨_, rfl⟩
  obtain ⟨x4, h4⟩ : ∃ x, IntKind.u64.wrap (x3 + x3 / 256) = x := ⟨_, rfl⟩
  obtain ⟨x5, h5⟩ : ∃ x, IntKind.u64.wrap (x4 + x4 / 65536) = x := ⟨_, rfl⟩
  obtain ⟨x6, h6⟩ : ∃ x, IntKind.u64.wrap (x5 + x5 / 4294967296) = x := ⟨_, rfl⟩
  obtain ⟨x7, h7⟩ : ∃ x, bits .and .i64 (wrap64 x6) 127 = x := ⟨_, rfl⟩
  have e : onesN n = x7 := by
    unfold onesN ones1
    rw [h1, ones2, h2, ones3, h3, ones4, h4, ones5, h5, ones6, h6, ones7, h7]
  rw [e]
  clear e
  go_enter Tryd.func115, Tryd.ntmps115
  go_wp2
  go_ret
  exact ⟨rfl, rfl⟩
set_option maxHeartbeats 1000000 in
theorem ones_any (n : Nat) (w : World) : Calls Tryd.prog 91 #[.int .u64 n] w (Plain (.int .i64 (onesN n)) w) := by
  have c := fun u => ones64_any n u
  generalize onesN n = R at *
  go_enter Tryd.func91, Tryd.ntmps91
  go_wp2_with (first | (go_at_call 115; refine (c _).mono ?_; rintro e w' ⟨rfl, rfl⟩) | fail)
  go_ret
  exact ⟨rfl, rfl⟩
end Go.Proofs.YtkecekfapiegjaaDoor
