/-
  paymasterlaw02.awake, walked: the chapter's examples are answered as the chapter has them.
-/
import Derived.Test.YtieieafjakcnpaaD2Group
import Derived.Test.YtieieafjakcnpaaD2Parse
import Derived.Test.YtieieafjakcnpaaD2Ten
namespace Go.Proofs.Ytieieafjakcnpaa
set_option linter.unusedVariables false
set_option linter.unusedSimpArgs false
open Go.RowKit

theorem refused_yes (s : ByteArray) (x : Int) (hs : s.size ≤ 9223372036854775807) (h1 : parH s.data.toList = 0) (h2 : parL s.data.toList = 0) (h3 : parE s.data.toList = x) (w : World) :
    Calls Try.prog 33 #[.string s, .int .i64 x] w (Tells (.bool true) w.heap.size w) := by
  have cP := fun u : World => (parse_any s hs u).mono fun e w' (hf : ParseTells _ _ _ _ _) => (⟨by rw [hf.1, h1, h2, h3], hf.2⟩ : e = .returned (.tuple #[.agg #[.int .u64 0, .int .u64 0], .int .i64 x]) ∧ Below u.heap.size u w')
  have hq := fun u : World => run_eql_num 0 0 0 0 u
  clear h1 h2 h3
  go_enter Try.func33, Try.ntmps33
  go_wp2_with (first
    | (go_at_call 9; refine (cP _).mono ?_; rintro e w1 ⟨rfl, k1⟩))
  go_ret
  exact ⟨rfl, chainA k1 _⟩
theorem parse_ex1 (w : World) : Calls Try.prog 9 #[.string ⟨#[51, 52, 48, 50, 56, 50, 51, 54, 54, 57, 50, 48, 57, 51, 56, 52, 54, 51, 52, 54, 51, 51, 55, 52, 54, 48, 55, 52, 51, 49, 55, 54, 56, 50, 49, 49, 52, 53, 53]⟩] w (Tells (.tuple #[.agg #[.int .u64 18446744073709551615, .int .u64 18446744073709551615], .int .i64 0]) w.heap.size w) := by
  refine (parse_any ⟨#[51, 52, 48, 50, 56, 50, 51, 54, 54, 57, 50, 48, 57, 51, 56, 52, 54, 51, 52, 54, 51, 51, 55, 52, 54, 48, 55, 52, 51, 49, 55, 54, 56, 50, 49, 49, 52, 53, 53]⟩ (by decide) w).mono fun e w' ⟨he, hb⟩ => ⟨?_, hb⟩
  rw [he, show parH (ByteArray.data ⟨#[51, 52, 48, 50, 56, 50, 51, 54, 54, 57, 50, 48, 57, 51, 56, 52, 54, 51, 52, 54, 51, 51, 55, 52, 54, 48, 55, 52, 51, 49, 55, 54, 56, 50, 49, 49, 52, 53, 53]⟩).toList = 18446744073709551615 by decide +kernel, show parL (ByteArray.data ⟨#[51, 52, 48, 50, 56, 50, 51, 54, 54, 57, 50, 48, 57, 51, 56, 52, 54, 51, 52, 54, 51, 51, 55, 52, 54, 48, 55, 52, 51, 49, 55, 54, 56, 50, 49, 49, 52, 53, 53]⟩).toList = 18446744073709551615 by decide +kernel, show parE (ByteArray.data ⟨#[51, 52, 48, 50, 56, 50, 51, 54, 54, 57, 50, 48, 57, 51, 56, 52, 54, 51, 52, 54, 51, 51, 55, 52, 54, 48, 55, 52, 51, 49, 55, 54, 56, 50, 49, 49, 52, 53, 53]⟩).toList = 0 by decide +kernel]
theorem ten_ex1 (w : World) : Calls Try.prog 15 #[.int .i64 38] w (Tells (.tuple #[.agg #[.int .u64 5421010862427522170, .int .u64 687399551400673280], .int .i64 0]) w.heap.size w) := by
  refine (ten_any 38 (by decide) (by decide) w).mono fun e w' ⟨he, hb⟩ => ⟨?_, hb⟩
  rw [he, show tenH 38 = 5421010862427522170 by decide +kernel, show tenL 38 = 687399551400673280 by decide +kernel, show tenE 38 = 0 by decide +kernel]
theorem ten_ex2 (w : World) : Calls Try.prog 15 #[.int .i64 39] w (Tells (.tuple #[.agg #[.int .u64 0, .int .u64 0], .int .i64 10]) w.heap.size w) := by
  refine (ten_any 39 (by decide) (by decide) w).mono fun e w' ⟨he, hb⟩ => ⟨?_, hb⟩
  rw [he, show tenH 39 = 0 by decide +kernel, show tenL 39 = 0 by decide +kernel, show tenE 39 = 10 by decide +kernel]
theorem text_ex1 (w : World) : Calls Try.prog 11 #[.agg #[.int .u64 0, .int .u64 0]] w (Tells (.string ⟨#[48]⟩) w.heap.size w) := by
  refine (text_any 0 0 word_lit word_lit w).mono fun e w' ⟨he, hb⟩ => ⟨?_, hb⟩
  rw [he, show str (decL (nv 0 0).toNat) = ⟨#[48]⟩ from congrArg str (show decL (nv 0 0).toNat = [48] by decide +kernel)]
theorem text_ex2 (w : World) : Calls Try.prog 11 #[.agg #[.int .u64 18446744073709551615, .int .u64 18446744073709551615]] w (Tells (.string ⟨#[51, 52, 48, 50, 56, 50, 51, 54, 54, 57, 50, 48, 57, 51, 56, 52, 54, 51, 52, 54, 51, 51, 55, 52, 54, 48, 55, 52, 51, 49, 55, 54, 56, 50, 49, 49, 52, 53, 53]⟩) w.heap.size w) := by
  refine (text_any 18446744073709551615 18446744073709551615 word_lit word_lit w).mono fun e w' ⟨he, hb⟩ => ⟨?_, hb⟩
  rw [he, show str (decL (nv 18446744073709551615 18446744073709551615).toNat) = ⟨#[51, 52, 48, 50, 56, 50, 51, 54, 54, 57, 50, 48, 57, 51, 56, 52, 54, 51, 52, 54, 51, 51, 55, 52, 54, 48, 55, 52, 51, 49, 55, 54, 56, 50, 49, 49, 52, 53, 53]⟩ from congrArg str (show decL (nv 18446744073709551615 18446744073709551615).toNat = [51, 52, 48, 50, 56, 50, 51, 54, 54, 57, 50, 48, 57, 51, 56, 52, 54, 51, 52, 54, 51, 51, 55, 52, 54, 48, 55, 52, 51, 49, 55, 54, 56, 50, 49, 49, 52, 53, 53] by decide +kernel)]
theorem nd_ex1 (w : World) : Calls Try.prog 17 #[.agg #[.int .u64 18446744073709551615, .int .u64 18446744073709551615]] w (Tells (.int .i64 39) w.heap.size w) := by
  refine (ndigits_any 18446744073709551615 18446744073709551615 word_lit word_lit w).mono fun e w' ⟨he, hb⟩ => ⟨?_, hb⟩
  rw [he, show ((decL (nv 18446744073709551615 18446744073709551615).toNat).length : Int) = 39 by decide +kernel]
theorem nd_ex2 (w : World) : Calls Try.prog 17 #[.agg #[.int .u64 5421010862427522170, .int .u64 687399551400673280]] w (Tells (.int .i64 39) w.heap.size w) := by
  refine (ndigits_any 5421010862427522170 687399551400673280 word_lit word_lit w).mono fun e w' ⟨he, hb⟩ => ⟨?_, hb⟩
  rw [he, show ((decL (nv 5421010862427522170 687399551400673280).toNat).length : Int) = 39 by decide +kernel]
theorem ref_ex1 (w : World) : Calls Try.prog 33 #[.string ⟨#[51, 52, 48, 50, 56, 50, 51, 54, 54, 57, 50, 48, 57, 51, 56, 52, 54, 51, 52, 54, 51, 51, 55, 52, 54, 48, 55, 52, 51, 49, 55, 54, 56, 50, 49, 49, 52, 53, 54]⟩, .int .i64 10] w (Tells (.bool true) w.heap.size w) :=
  refused_yes ⟨#[51, 52, 48, 50, 56, 50, 51, 54, 54, 57, 50, 48, 57, 51, 56, 52, 54, 51, 52, 54, 51, 51, 55, 52, 54, 48, 55, 52, 51, 49, 55, 54, 56, 50, 49, 49, 52, 53, 54]⟩ 10 (by decide) (by decide +kernel) (by decide +kernel) (by decide +kernel) w
theorem ref_ex2 (w : World) : Calls Try.prog 33 #[.string ⟨#[48, 48, 55]⟩, .int .i64 20] w (Tells (.bool true) w.heap.size w) :=
  refused_yes ⟨#[48, 48, 55]⟩ 20 (by decide) (by decide +kernel) (by decide +kernel) (by decide +kernel) w
theorem ref_ex3 (w : World) : Calls Try.prog 33 #[.string ⟨#[45, 49]⟩, .int .i64 20] w (Tells (.bool true) w.heap.size w) :=
  refused_yes ⟨#[45, 49]⟩ 20 (by decide) (by decide +kernel) (by decide +kernel) (by decide +kernel) w
theorem ref_ex4 (w : World) : Calls Try.prog 33 #[.string ⟨#[49, 32]⟩, .int .i64 20] w (Tells (.bool true) w.heap.size w) :=
  refused_yes ⟨#[49, 32]⟩ 20 (by decide) (by decide +kernel) (by decide +kernel) (by decide +kernel) w
theorem ref_ex5 (w : World) : Calls Try.prog 33 #[.string ⟨#[]⟩, .int .i64 20] w (Tells (.bool true) w.heap.size w) :=
  refused_yes ⟨#[]⟩ 20 (by decide) (by decide +kernel) (by decide +kernel) (by decide +kernel) w
theorem grp_ex1 (w : World) : Calls Try.prog 13 #[.agg #[.int .u64 0, .int .u64 1234567]] w (Tells (.string ⟨#[49, 95, 50, 51, 52, 95, 53, 54, 55]⟩) w.heap.size w) := by
  refine (grouped_any 0 1234567 word_lit word_lit w).mono fun e w' ⟨he, hb⟩ => ⟨?_, hb⟩
  rw [he, show str (grp (decL (nv 0 1234567).toNat)) = ⟨#[49, 95, 50, 51, 52, 95, 53, 54, 55]⟩ from congrArg str (show grp (decL (nv 0 1234567).toNat) = [49, 95, 50, 51, 52, 95, 53, 54, 55] by decide +kernel)]
theorem dg_ex1 (w : World) : Calls Try.prog 18 #[.agg #[.int .u64 5421010862427522170, .int .u64 687399551400673280], .int .i64 38] w (Tells (.int .u8 1) w.heap.size w) := by
  refine (ddigit_any 5421010862427522170 687399551400673280 38 word_lit word_lit (by decide) (by decide) w).mono fun e w' ⟨he, hb⟩ => ⟨?_, hb⟩
  rw [he, show digAt (nv 5421010862427522170 687399551400673280).toNat 38 = 1 by decide +kernel]
theorem dg_ex2 (w : World) : Calls Try.prog 18 #[.agg #[.int .u64 5421010862427522170, .int .u64 687399551400673280], .int .i64 37] w (Tells (.int .u8 0) w.heap.size w) := by
  refine (ddigit_any 5421010862427522170 687399551400673280 37 word_lit word_lit (by decide) (by decide) w).mono fun e w' ⟨he, hb⟩ => ⟨?_, hb⟩
  rw [he, show digAt (nv 5421010862427522170 687399551400673280).toNat 37 = 0 by decide +kernel]

set_option maxRecDepth 100000 in
set_option maxHeartbeats 16000000 in
theorem dawake_any (w : World) : Calls Try.prog 20 #[] w (Tells (.bool true) w.heap.size w) := by
  have hq : ∀ u : World, (binOp .eql 24 (.agg #[.int .u64 18446744073709551615, .int .u64 18446744073709551615]) (.agg #[.int .u64 18446744073709551615, .int .u64 18446744073709551615])).run Try.prog u = .ok (.bool true) u := fun u => by rw [run_eql_num]; rfl
  go_enter Try.func20, Try.ntmps20
  go_upto_region 2 with (first
    | (go_at_call 9; refine (parse_ex1 _).mono ?_; rintro e w1 ⟨rfl, h1⟩))
  have A1 := Box.made w1 24 #[.int .u64 18446744073709551615, .int .u64 18446744073709551615]
  have L1 := chainA h1 (.cells #[.int .u64 18446744073709551615, .int .u64 18446744073709551615] 24)
  generalize w1.alloc (.cells #[.int .u64 18446744073709551615, .int .u64 18446744073709551615] 24) = W1 at *
  go_upto_region 3 with (first
    | (go_at_call 15; refine (ten_ex1 _).mono ?_; rintro e w2 ⟨rfl, h2⟩))
  have A2 := (A1.call h2).past (.cells #[.int .u64 5421010862427522170, .int .u64 687399551400673280] 24)
  have B2 := Box.made w2 24 #[.int .u64 5421010862427522170, .int .u64 687399551400673280]
  have L2 := chainA (chain L1 h2) (.cells #[.int .u64 5421010862427522170, .int .u64 687399551400673280] 24)
  generalize w2.alloc (.cells #[.int .u64 5421010862427522170, .int .u64 687399551400673280] 24) = W2 at *
  go_upto_region 4 with (first
    | (go_at_call 15; refine (ten_ex2 _).mono ?_; rintro e w3 ⟨rfl, h3⟩))
  have A3 := (A2.call h3).past (.cells #[.int .u64 0, .int .u64 0] 24)
  have B3 := (B2.call h3).past (.cells #[.int .u64 0, .int .u64 0] 24)
  have L3 := chainA (chain L2 h3) (.cells #[.int .u64 0, .int .u64 0] 24)
  generalize w3.alloc (.cells #[.int .u64 0, .int .u64 0] 24) = W3 at *
  clear A1 A2 B2 L1 L2 h1 h2 h3
  simp only [List.append_eq, List.cons_append, List.nil_append]
  go_region_held3 (fun w' => Below W3.heap.size W3 w' ∧ w'.cell? ⟨w1.heap.size, 0, none⟩ = some (.int .u64 18446744073709551615) ∧ w'.cell? ⟨w1.heap.size, 1, none⟩ = some (.int .u64 18446744073709551615) ∧
      w'.cell? ⟨w2.heap.size, 0, none⟩ = some (.int .u64 5421010862427522170) ∧ w'.cell? ⟨w2.heap.size, 1, none⟩ = some (.int .u64 687399551400673280))
    (first
      | exact keep_first (by assumption) (by assumption) (fun hb => ⟨hb, (A3.call hb).read 0, (A3.call hb).read 1, (B3.call hb).read 0, (B3.call hb).read 1⟩)
      | exact ⟨(Below.refl _ _).drew, A3.read 0, A3.read 1, B3.read 0, B3.read 1⟩)
    (first
      | (go_at_call 32; refine (most_any _).mono ?_; rintro e y1 ⟨rfl, j1⟩)
      | (go_at_call_of 11 (Value.agg #[Value.int IntKind.u64 0, Value.int IntKind.u64 0]); ((with_reducible refine (text_ex1 _).mono ?_); rintro e y2 ⟨rfl, jy2⟩))
      | (go_at_call_of 11 (Value.agg #[Value.int IntKind.u64 18446744073709551615, Value.int IntKind.u64 18446744073709551615]); ((with_reducible refine (text_ex2 _).mono ?_); rintro e y3 ⟨rfl, jy3⟩))
      | (go_at_call_of 17 (Value.agg #[Value.int IntKind.u64 18446744073709551615, Value.int IntKind.u64 18446744073709551615]); ((with_reducible refine (nd_ex1 _).mono ?_); rintro e y4 ⟨rfl, jy4⟩))
      | (go_at_call_of 17 (Value.agg #[Value.int IntKind.u64 5421010862427522170, Value.int IntKind.u64 687399551400673280]); ((with_reducible refine (nd_ex2 _).mono ?_); rintro e y5 ⟨rfl, jy5⟩))
      | (go_at_call_of 33 (Value.int IntKind.i64 10); (refine (ref_ex1 _).mono ?_; rintro e y6 ⟨rfl, jy6⟩))
      | (go_at_call_of 33 (Value.string ⟨#[48, 48, 55]⟩); (refine (ref_ex2 _).mono ?_; rintro e y7 ⟨rfl, jy7⟩))
      | (go_at_call_of 33 (Value.string ⟨#[45, 49]⟩); (refine (ref_ex3 _).mono ?_; rintro e y8 ⟨rfl, jy8⟩))
      | (go_at_call_of 33 (Value.string ⟨#[49, 32]⟩); (refine (ref_ex4 _).mono ?_; rintro e y9 ⟨rfl, jy9⟩))
      | (go_at_call_of 33 (Value.string ⟨#[]⟩); (refine (ref_ex5 _).mono ?_; rintro e z1 ⟨rfl, jz1⟩))
      | (go_at_call 31; refine (of_any _ _).mono ?_; rintro e z2 ⟨rfl, jz2⟩)
      | (go_at_call 13; refine (grp_ex1 _).mono ?_; rintro e z3 ⟨rfl, jz3⟩)
      | (go_at_call_of 18 (Value.int IntKind.i64 38); ((with_reducible refine (dg_ex1 _).mono ?_); rintro e z4 ⟨rfl, jz4⟩))
      | (go_at_call_of 18 (Value.int IntKind.i64 37); ((with_reducible refine (dg_ex2 _).mono ?_); rintro e z5 ⟨rfl, jz5⟩)))
  go_wp2
  have hh : ∃ Q, Below W3.heap.size W3 z5 ∧ Q := ⟨_, by assumption⟩
  obtain ⟨Q, hh, -⟩ := hh
  go_ret
  exact ⟨rfl, chain L3 hh⟩
end Go.Proofs.Ytieieafjakcnpaa
