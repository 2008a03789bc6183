/-
  The document's right, Start and Table, walked.
-/
import Derived.Test.YtkmnfogcocppjaaDoorU4Unround
import Derived.Test.YtkmnfogcocppjaaDoorU4Next
import Derived.StillTail
namespace Go.Proofs.YtkmnfogcocppjaaDoor
set_option linter.unusedVariables false
set_option linter.unusedSimpArgs false
set_option maxRecDepth 10000
open Go.RowKit

set_option maxHeartbeats 1000000 in
theorem right_any (x : B32) (n : Nat) (h1 : 1 ≤ n) (h2 : n < 32) (w : World) : Calls Tryd.prog 75 #[.int .u32 (iv x), .int .u64 n] w (Plain (.int .u32 (iv (rot x n))) w) := by
  have e1 : IntKind.u64.wrap (32 - (n : Int)) = ((32 - n : Nat) : Int) := by simp [IntKind.wrap, IntKind.bits, IntKind.signed]; omega
  obtain ⟨m, hm⟩ : ∃ m, 32 - n = m := ⟨_, rfl⟩
  rw [hm] at e1
  have hrot : bits .or .u32 (iv x / 2 ^ n) (iv x * 2 ^ m % 4294967296) = iv (rot x n) := by
    rw [iv_shlm, iv_shr, iv_or, ← hm]; rfl
  have HR := hideIt hrot
  clear hrot
  go_enter Tryd.func75, Tryd.ntmps75
  go_wp2
  rw [HR.out]
  go_ret
  exact ⟨rfl, rfl⟩
theorem right_lit (x : B32) (n : Nat) (k : Int) (hk : k = n) (h1 : 1 ≤ n) (h2 : n < 32) (w : World) : Calls Tryd.prog 75 #[.int .u32 (iv x), .int .u64 k] w (Plain (.int .u32 (iv (rot x n))) w) := by
  subst hk; exact right_any x n h1 h2 w

set_option maxHeartbeats 1000000 in
theorem start_any (w : World) : Calls Tryd.prog 66 #[] w (Tells (.agg #[.int .u32 (iv st0.a), .int .u32 (iv st0.b), .int .u32 (iv st0.c), .int .u32 (iv st0.d), .int .u32 (iv st0.e), .int .u32 (iv st0.f), .int .u32 (iv st0.g), .int .u32 (iv st0.h)]) w.heap.size w) := by
  go_enter Tryd.func66, Tryd.ntmps66
  go_wp2
  obtain ⟨i0, i1, i2, i3, i4, i5, i6, i7⟩ := st0_iv
  exact bodyPost_ret (v := .agg #[.int .u32 (iv st0.a), .int .u32 (iv st0.b), .int .u32 (iv st0.c), .int .u32 (iv st0.d), .int .u32 (iv st0.e), .int .u32 (iv st0.f), .int .u32 (iv st0.g), .int .u32 (iv st0.h)]) (by simp [results, Tryd.results66, go_sem, i0, i1, i2, i3, i4, i5, i6, i7]) rfl ⟨rfl, (Below.refl _ _).alloc (Nat.le_refl _) _⟩
def kLit : Array Value := #[.int .u32 1116352408, .int .u32 1899447441, .int .u32 3049323471, .int .u32 3921009573, .int .u32 961987163, .int .u32 1508970993, .int .u32 2453635748, .int .u32 2870763221, .int .u32 3624381080, .int .u32 310598401, .int .u32 607225278, .int .u32 1426881987, .int .u32 1925078388, .int .u32 2162078206, .int .u32 2614888103, .int .u32 3248222580, .int .u32 3835390401, .int .u32 4022224774, .int .u32 264347078, .int .u32 604807628, .int .u32 770255983, .int .u32 1249150122, .int .u32 1555081692, .int .u32 1996064986, .int .u32 2554220882, .int .u32 2821834349, .int .u32 2952996808, .int .u32 3210313671, .int .u32 3336571891, .int .u32 3584528711, .int .u32 113926993, .int .u32 338241895, .int .u32 666307205, .int .u32 773529912, .int .u32 1294757372, .int .u32 1396182291, .int .u32 1695183700, .int .u32 1986661051, .int .u32 2177026350, .int .u32 2456956037, .int .u32 2730485921, .int .u32 2820302411, .int .u32 3259730800, .int .u32 3345764771, .int .u32 3516065817, .int .u32 3600352804, .int .u32 4094571909, .int .u32 275423344, .int .u32 430227734, .int .u32 506948616, .int .u32 659060556, .int .u32 883997877, .int .u32 958139571, .int .u32 1322822218, .int .u32 1537002063, .int .u32 1747873779, .int .u32 1955562222, .int .u32 2024104815, .int .u32 2227730452, .int .u32 2361852424, .int .u32 2428436474, .int .u32 2756734187, .int .u32 3204031479, .int .u32 3329325298]
theorem kLit_eq : kLit = arr kB := by kernel_rfl
set_option maxHeartbeats 1000000 in
theorem table_any (w : World) : Calls Tryd.prog 65 #[] w fun e w' => e = .returned (.slice (some ⟨w.heap.size, 0, none⟩) 64 64) ∧ Box w' w.heap.size 86 (arr kB) ∧ Below w.heap.size w w' := by
  rw [← kLit_eq]
  go_enter Tryd.func65, Tryd.ntmps65
  go_wp2
  go_ret
  refine ⟨rfl, ?_, (Below.refl _ _).alloc (Nat.le_refl _) _⟩
  unfold kLit
  exact Box.made w 86 _

end Go.Proofs.YtkmnfogcocppjaaDoor
