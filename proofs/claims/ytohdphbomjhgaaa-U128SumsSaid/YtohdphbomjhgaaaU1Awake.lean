/-
  paymasterlaw01.awake, walked: the chapter's examples are answered as the chapter has them.
-/
import Derived.Test.YtohdphbomjhgaaaU1Over
import Derived.Test.YtohdphbomjhgaaaU1Bytes
import Derived.Deep.RegionHeld3
namespace Go.Proofs.Ytohdphbomjhgaaa
set_option linter.unusedVariables false
set_option linter.unusedSimpArgs false
open Go.RowKit

theorem word_lit {x : Int} (h0 : 0 ≤ x := by decide) (h1 : x < 18446744073709551616 := by decide) : Word x := ⟨h0, h1⟩
theorem add_ex1 (w : World) : Calls Try.prog 10 #[.agg #[.int .u64 0, .int .u64 18446744073709551615], .agg #[.int .u64 0, .int .u64 1]] w (Tells (.tuple #[.agg #[.int .u64 1, .int .u64 0], .int .i64 0]) w.heap.size w) := by
  refine (add_any 0 18446744073709551615 0 1 word_lit word_lit word_lit word_lit w).mono fun e w' ⟨he, hb⟩ => ⟨?_, hb⟩
  rw [he, show rh (nv 0 18446744073709551615 + nv 0 1) = 1 by decide, show rl (nv 0 18446744073709551615 + nv 0 1) = 0 by decide, show re (nv 0 18446744073709551615 + nv 0 1) = 0 by decide]
theorem add_ex2 (w : World) : Calls Try.prog 10 #[.agg #[.int .u64 18446744073709551615, .int .u64 18446744073709551615], .agg #[.int .u64 0, .int .u64 1]] w (Tells (.tuple #[.agg #[.int .u64 0, .int .u64 0], .int .i64 10]) w.heap.size w) := by
  refine (add_any 18446744073709551615 18446744073709551615 0 1 word_lit word_lit word_lit word_lit w).mono fun e w' ⟨he, hb⟩ => ⟨?_, hb⟩
  rw [he, show rh (nv 18446744073709551615 18446744073709551615 + nv 0 1) = 0 by decide, show rl (nv 18446744073709551615 18446744073709551615 + nv 0 1) = 0 by decide, show re (nv 18446744073709551615 18446744073709551615 + nv 0 1) = 10 by decide]
theorem sub_ex1 (w : World) : Calls Try.prog 12 #[.agg #[.int .u64 0, .int .u64 1], .agg #[.int .u64 0, .int .u64 2]] w (Tells (.tuple #[.agg #[.int .u64 0, .int .u64 0], .int .i64 10]) w.heap.size w) := by
  refine (sub_any 0 1 0 2 word_lit word_lit word_lit word_lit w).mono fun e w' ⟨he, hb⟩ => ⟨?_, hb⟩
  rw [he, show rh (nv 0 1 - nv 0 2) = 0 by decide, show rl (nv 0 1 - nv 0 2) = 0 by decide, show re (nv 0 1 - nv 0 2) = 10 by decide]
theorem over_ex1 (w : World) : Calls Try.prog 22 #[.agg #[.int .u64 1, .int .u64 3], .int .u64 10] w (Tells (.tuple #[.agg #[.int .u64 0, .int .u64 1844674407370955161], .int .u64 9, .int .i64 0]) w.heap.size w) := by
  refine (over_any 1 3 10 word_lit word_lit word_lit w).mono fun e w' ⟨he, hb⟩ => ⟨?_, hb⟩
  rw [he, show rh (nv 1 3 / 10) = 0 by decide, show rl (nv 1 3 / 10) = 1844674407370955161 by decide, show orest (nv 1 3) 10 = 9 by decide, show oerr 10 = 0 by decide]
theorem over_ex2 (w : World) : Calls Try.prog 22 #[.agg #[.int .u64 0, .int .u64 1], .int .u64 0] w (Tells (.tuple #[.agg #[.int .u64 0, .int .u64 0], .int .u64 0, .int .i64 2]) w.heap.size w) := by
  refine (over_any 0 1 0 word_lit word_lit word_lit w).mono fun e w' ⟨he, hb⟩ => ⟨?_, hb⟩
  rw [he, show rh (nv 0 1 / 0) = 0 by decide, show rl (nv 0 1 / 0) = 0 by decide, show orest (nv 0 1) 0 = 0 by decide, show oerr 0 = 2 by decide]
theorem bytes_ex1 (w : World) : Calls Try.prog 28 #[.agg #[.int .u64 1, .int .u64 258]] w (Tells (.string ⟨#[0, 0, 0, 0, 0, 0, 0, 1, 0, 0, 0, 0, 0, 0, 1, 2]⟩) w.heap.size w) := by
  refine (bytes_any 1 258 word_lit word_lit w).mono fun e w' ⟨he, hb⟩ => ⟨?_, hb⟩
  rw [he, show strOfNums (bytesOf 1 258) = ⟨#[0, 0, 0, 0, 0, 0, 0, 1, 0, 0, 0, 0, 0, 0, 1, 2]⟩ by decide]

set_option maxHeartbeats 4000000 in
theorem awake_any (w : World) : Calls Try.prog 30 #[] w (Tells (.bool true) w.heap.size w) := by
  go_enter Try.func30, Try.ntmps30
  go_upto_region 2 with (first
    | (go_at_call 16; refine (of_any _ _).mono ?_; rintro e w1 ⟨rfl, h1⟩)
    | (go_at_call 10; refine (add_ex1 _).mono ?_; rintro e w2 ⟨rfl, h2⟩))
  have A1 := Box.made w2 24 #[.int .u64 1, .int .u64 0]
  have L1 := chainA (chain h1 h2) (.cells #[.int .u64 1, .int .u64 0] 24)
  generalize w2.alloc (.cells #[.int .u64 1, .int .u64 0] 24) = W1 at *
  clear h1 h2
  go_upto_region 3 with (first
    | (go_at_call 18; refine (most_any _).mono ?_; rintro e w3 ⟨rfl, h3⟩)
    | (go_at_call 16; refine (of_any _ _).mono ?_; rintro e w4 ⟨rfl, h4⟩)
    | (go_at_call 10; refine (add_ex2 _).mono ?_; rintro e w5 ⟨rfl, h5⟩))
  have A2 := (((A1.call h3).call h4).call h5).past (.cells #[.int .u64 0, .int .u64 0] 24)
  have L2 := chainA (chain (chain (chain L1 h3) h4) h5) (.cells #[.int .u64 0, .int .u64 0] 24)
  generalize w5.alloc (.cells #[.int .u64 0, .int .u64 0] 24) = W2 at *
  clear h3 h4 h5 A1 L1
  go_upto_region 4 with (first
    | (go_at_call_of 16 (Value.int IntKind.u64 1); refine (of_any _ _).mono ?_; rintro e w6 ⟨rfl, h6⟩)
    | (go_at_call_of 16 (Value.int IntKind.u64 2); refine (of_any _ _).mono ?_; rintro e w7 ⟨rfl, h7⟩)
    | (go_at_call 12; refine (sub_ex1 _).mono ?_; rintro e w8 ⟨rfl, h8⟩))
  have A3 := (((A2.call h6).call h7).call h8).past (.cells #[.int .u64 0, .int .u64 0] 24)
  have L3 := chainA (chain (chain (chain L2 h6) h7) h8) (.cells #[.int .u64 0, .int .u64 0] 24)
  generalize w8.alloc (.cells #[.int .u64 0, .int .u64 0] 24) = W3 at *
  clear h6 h7 h8 A2 L2
  go_upto_region 5 with (first
    | (go_at_call 22; refine (over_ex1 _).mono ?_; rintro e w9 ⟨rfl, h9⟩))
  have B1 := Box.made w9 24 #[.int .u64 0, .int .u64 1844674407370955161]
  have A4 := (A3.call h9).past (.cells #[.int .u64 0, .int .u64 1844674407370955161] 24)
  have L4 := chainA (chain L3 h9) (.cells #[.int .u64 0, .int .u64 1844674407370955161] 24)
  generalize w9.alloc (.cells #[.int .u64 0, .int .u64 1844674407370955161] 24) = W4 at *
  clear h9 A3 L3
  go_upto_region 6 with (first
    | (go_at_call 16; refine (of_any _ _).mono ?_; rintro e v1 ⟨rfl, k1⟩)
    | (go_at_call 22; refine (over_ex2 _).mono ?_; rintro e v2 ⟨rfl, k2⟩))
  have A5 := ((A4.call k1).call k2).past (.cells #[.int .u64 0, .int .u64 0] 24)
  have B5 := ((B1.call k1).call k2).past (.cells #[.int .u64 0, .int .u64 0] 24)
  have L5 := chainA (chain (chain L4 k1) k2) (.cells #[.int .u64 0, .int .u64 0] 24)
  generalize v2.alloc (.cells #[.int .u64 0, .int .u64 0] 24) = W at *
  clear k1 k2 A4 B1 L4
  go_region_held3 (fun w' => Below W.heap.size W w' ∧ w'.cell? ⟨w2.heap.size, 0, none⟩ = some (.int .u64 1) ∧ w'.cell? ⟨w2.heap.size, 1, none⟩ = some (.int .u64 0) ∧
      w'.cell? ⟨w9.heap.size, 0, none⟩ = some (.int .u64 0) ∧ w'.cell? ⟨w9.heap.size, 1, none⟩ = some (.int .u64 1844674407370955161))
    (first
      | exact keep_first (by assumption) (by assumption) (fun hb => ⟨hb, (A5.call hb).read 0, (A5.call hb).read 1, (B5.call hb).read 0, (B5.call hb).read 1⟩)
      | exact ⟨(Below.refl _ _).drew, A5.read 0, A5.read 1, B5.read 0, B5.read 1⟩)
    (first
      | (go_at_call 16; refine (of_any _ _).mono ?_; rintro e u1 ⟨rfl, j1⟩)
      | (go_at_call 28; refine (bytes_ex1 _).mono ?_; rintro e u2 ⟨rfl, j2⟩))
  go_wp2
  have hh : ∃ Q, Below W.heap.size W u2 ∧ Q := ⟨_, by assumption⟩
  obtain ⟨Q, hh, -⟩ := hh
  go_ret
  exact ⟨rfl, chain L5 hh⟩
end Go.Proofs.Ytohdphbomjhgaaa
