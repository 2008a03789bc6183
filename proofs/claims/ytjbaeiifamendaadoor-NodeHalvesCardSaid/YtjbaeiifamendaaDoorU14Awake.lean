/-
  What the laws of stage 14 that ask no document begin with: the chapter's examples.
-/
import Derived.Test.YtjbaeiifamendaaDoorL14Law
namespace Go.Proofs.YtjbaeiifamendaaDoor
set_option linter.unusedVariables false
set_option linter.unusedSimpArgs false
set_option maxRecDepth 10000
open Go.RowKit

def nA : Nd := ⟨⟨#[97]⟩, 0, 3⟩
def nB : Nd := ⟨⟨#[98]⟩, 0, 4⟩
def nC : Nd := ⟨⟨#[98]⟩, 18446744073709551615, 18446744073709551615⟩
theorem nA_ok : nA.halved ∧ nB.halved ∧ nC.halved := by refine ⟨⟨?_, ?_⟩, ⟨?_, ?_⟩, ?_, ?_⟩ <;> exact ⟨by decide, by decide⟩
theorem aw_of : nA.of 1 = true ∧ nB.of 1 = true ∧ nC.of 1 = true ∧ nA.of 2 = false := by decide +kernel
theorem aw_join : joinS 1 nA nB = (⟨dgB 1 (ndText nA nB), 0, 7⟩, 0) := by
  have h : nA.sum + nB.sum = 7 := by decide +kernel
  have h1 : rh 7 = 0 := by decide +kernel
  have h2 : rl 7 = 7 := by decide +kernel
  rw [joinS, h, if_pos (by decide +kernel), h1, h2]
theorem aw1 : joinN 1 nA nB = (⟨dgB 1 (ndText nA nB), 0, 7⟩, 0) := by
  rw [joinN, aw_of.1, aw_of.2.1, if_pos (by decide), aw_join]
theorem aw2 : foldN 1 [nA, nB] = (⟨dgB 1 (ndText nA nB), 0, 7⟩, 0) := by
  have hw : allW 1 [nA, nB] = true := by decide +kernel
  rw [foldN_pow (k := 1) hw rfl (by decide)]
  show (if (0 : Int) = 0 ∧ (0 : Int) = 0 then joinS 1 nA nB else (Nd.zero, 10)) = _
  rw [if_pos ⟨rfl, rfl⟩, aw_join]
theorem aw3 : climbN 1 nB 1 [nA] = (⟨dgB 1 (ndText nA nB), 0, 7⟩, 0) := by
  have hw : (nB.of 1 && allW 1 [nA]) = true := by decide +kernel
  rw [climbN, if_pos hw, if_pos (by decide)]
  show (if (joinS 1 nA nB).2 = 0 then climbS 1 (joinS 1 nA nB).1 _ [] else (Nd.zero, 10)) = _
  rw [aw_join]
  rfl
theorem aw4 : joinN 1 nA nC = (Nd.zero, 10) := by
  have h : room (nA.sum + nC.sum) = false := by decide +kernel
  rw [joinN, aw_of.1, aw_of.2.2.1, if_pos (by decide), join_no h]
theorem aw5 : joinN 2 nA nB = (Nd.zero, 70) := by
  rw [joinN, aw_of.2.2.2, Bool.false_and, if_neg (by decide)]
theorem aw6 : foldN 1 [nA, nB, nA] = (Nd.zero, 2) := by
  have hw : allW 1 [nA, nB, nA] = true := by decide +kernel
  rw [foldN, if_pos hw, if_neg (by decide +kernel)]
theorem aw_size : ((dgB 1 (ndText nA nB)).size : Int) = 1 := dgB_size (by decide) _
theorem eql_n14 (a b c d : Int) (u : World) : (binOp .eql 24 (.agg #[.int .u64 a, .int .u64 b]) (.agg #[.int .u64 c, .int .u64 d])).run Tryd.prog u = .ok (.bool (a == c && b == d)) u := run_eql_n7 a b c d u
set_option maxRecDepth 100000 in
set_option maxHeartbeats 4000000 in
theorem awake14_any (w : World) (hT : Tab w) : Calls Tryd.prog 19 #[] w (Tells (.bool true) w.heap.size w) := by
  have z1 : (⟨#[97]⟩ : ByteArray).size ≤ 1000000 := by decide
  have z2 : (⟨#[98]⟩ : ByteArray).size ≤ 1000000 := by decide
  have c1 := fun u hu => Join14_any 1 nA nB z1 z2 nA_ok.1 nA_ok.2.1 u hu
  have c4 := fun u hu => Join14_any 1 nA nC z1 z2 nA_ok.1 nA_ok.2.2 u hu
  have c5 := fun u hu => Join14_any 2 nA nB z1 z2 nA_ok.1 nA_ok.2.1 u hu
  have c2 := fun (A : Option Addr) u hu hv => fold14_any 1 A 2 [nA, nB] (by decide) (fun x hx => by
    simp only [List.mem_cons, List.not_mem_nil, or_false] at hx
    rcases hx with rfl | rfl
    · exact nA_ok.1
    · exact nA_ok.2.1) u hu hv
  have c6 := fun (A : Option Addr) u hu hv => fold14_any 1 A 3 [nA, nB, nA] (by decide) (fun x hx => by
    simp only [List.mem_cons, List.not_mem_nil, or_false] at hx
    rcases hx with rfl | rfl | rfl
    · exact nA_ok.1
    · exact nA_ok.2.1
    · exact nA_ok.1) u hu hv
  have c3 := fun (A : Option Addr) u hu hv => climb14_any 1 nB 1 (by decide) A 1 [nA] (by decide) nA_ok.2.1 (fun x hx => by
    simp only [List.mem_cons, List.not_mem_nil, or_false] at hx
    rcases hx with rfl
    exact nA_ok.1) u hu hv
  have hs := aw_size
  rw [aw1] at c1
  rw [aw2] at c2
  rw [aw3] at c3
  rw [aw4] at c4
  rw [aw5] at c5
  rw [aw6] at c6
  generalize dgB 1 (ndText nA nB) = D at *
  simp only [Nd.val, nA, nB, nC, Nd.zero, List.length_cons, List.length_nil, Nat.reduceAdd] at c1 c2 c3 c4 c5 c6
  have e1 := fun u => eql_nd_self ⟨D, 0, 7⟩ u
  simp only [Nd.val] at e1
  go_enter Tryd.func19, Tryd.ntmps19
  go_upto_region 2 with fail
  change Code.wp _ _ _ _ ((w.alloc (.cells #[.string ⟨#[97]⟩, .int .u64 0, .int .u64 3] 26)).alloc (.cells #[.string ⟨#[98]⟩, .int .u64 0, .int .u64 4] 26))
  have K0 := ((Has.start w).add 26 #[.string ⟨#[97]⟩, .int .u64 0, .int .u64 3]).addAt 26 #[.string ⟨#[98]⟩, .int .u64 0, .int .u64 4] (g := w.heap.size + 1) (by simp)
  generalize (w.alloc (.cells #[.string ⟨#[97]⟩, .int .u64 0, .int .u64 3] 26)).alloc (.cells #[.string ⟨#[98]⟩, .int .u64 0, .int .u64 4] 26) = W0 at *
  obtain ⟨x0, x1, x2, -, -, -, xi⟩ := (K0.box 0).three
  obtain ⟨y0, y1, y2, -, -, -, yi⟩ := (K0.box 1).three
  go_upto_region 3 with (first
    | (go_at_call 10; refine (c1 _ (hT.call K0.below)).mono ?_; rintro e K2w ⟨rfl, K2b⟩; have K2 := (K0.call K2b).add 26 (ndB D 0 7))
    | fail)
  obtain ⟨g2, hg2⟩ : ∃ g, K2w.heap.size = g := ⟨_, rfl⟩
  rw [hg2] at K2 ⊢
  change Code.wp _ _ _ _ (K2w.alloc (.cells (ndB D 0 7) 26))
  generalize K2w.alloc (.cells (ndB D 0 7) 26) = W2 at *
  clear x0 x1 x2 y0 y1 y2 xi yi K2b
  obtain ⟨x0, x1, x2, -, -, -, xi⟩ := (K2.box 1).three
  obtain ⟨y0, y1, y2, -, -, -, yi⟩ := (K2.box 2).three
  go_upto_region 4 with (first
    | (go_at_call 17; refine (c2 _ _ (nd_rowL _ [nA, nB]) (hT.call (K2.past (.cells #[.string ⟨#[97]⟩, .int .u64 0, .int .u64 3, .string ⟨#[98]⟩, .int .u64 0, .int .u64 4] 26)).below)).mono ?_; rintro e K3w ⟨rfl, K3b⟩; have K3 := ((K2.past (.cells #[.string ⟨#[97]⟩, .int .u64 0, .int .u64 3, .string ⟨#[98]⟩, .int .u64 0, .int .u64 4] 26)).call K3b).add 26 (ndB D 0 7))
    | fail)
  obtain ⟨g3, hg3⟩ : ∃ g, K3w.heap.size = g := ⟨_, rfl⟩
  rw [hg3] at K3 ⊢
  change Code.wp _ _ _ _ (K3w.alloc (.cells (ndB D 0 7) 26))
  generalize K3w.alloc (.cells (ndB D 0 7) 26) = W3 at *
  clear x0 x1 x2 y0 y1 y2 xi yi K3b
  obtain ⟨x0, x1, x2, -, -, -, xi⟩ := (K3.box 2).three
  obtain ⟨y0, y1, y2, -, -, -, yi⟩ := (K3.box 3).three
  go_upto_region 5 with (first
    | (go_at_call 14; refine (c3 _ _ (nd_rowL _ [nA]) (hT.call (K3.past (.cells #[.string ⟨#[97]⟩, .int .u64 0, .int .u64 3] 26)).below)).mono ?_; rintro e K4w ⟨rfl, K4b⟩; have K4 := ((K3.past (.cells #[.string ⟨#[97]⟩, .int .u64 0, .int .u64 3] 26)).call K4b).add 26 (ndB D 0 7))
    | fail)
  obtain ⟨g4, hg4⟩ : ∃ g, K4w.heap.size = g := ⟨_, rfl⟩
  rw [hg4] at K4 ⊢
  change Code.wp _ _ _ _ (K4w.alloc (.cells (ndB D 0 7) 26))
  generalize K4w.alloc (.cells (ndB D 0 7) 26) = W4 at *
  clear x0 x1 x2 y0 y1 y2 xi yi K4b
  obtain ⟨x0, x1, x2, -, -, -, xi⟩ := (K4.box 3).three
  obtain ⟨y0, y1, y2, -, -, -, yi⟩ := (K4.box 4).three
  go_upto_region 6 with (first
    | (go_at_call 10; refine (c4 _ (hT.call K4.below)).mono ?_; rintro e K5w ⟨rfl, K5b⟩; have K5 := (K4.call K5b).add 26 (ndB ⟨#[]⟩ 0 0))
    | fail)
  obtain ⟨g5, hg5⟩ : ∃ g, K5w.heap.size = g := ⟨_, rfl⟩
  rw [hg5] at K5 ⊢
  change Code.wp _ _ _ _ (K5w.alloc (.cells (ndB ⟨#[]⟩ 0 0) 26))
  generalize K5w.alloc (.cells (ndB ⟨#[]⟩ 0 0) 26) = W5 at *
  clear x0 x1 x2 y0 y1 y2 xi yi K5b
  obtain ⟨x0, x1, x2, -, -, -, xi⟩ := (K5.box 4).three
  obtain ⟨y0, y1, y2, -, -, -, yi⟩ := (K5.box 5).three
  go_upto_region 7 with (first
    | (go_at_call 10; refine (c5 _ (hT.call K5.below)).mono ?_; rintro e K6w ⟨rfl, K6b⟩; have K6 := (K5.call K6b).add 26 (ndB ⟨#[]⟩ 0 0))
    | fail)
  obtain ⟨g6, hg6⟩ : ∃ g, K6w.heap.size = g := ⟨_, rfl⟩
  rw [hg6] at K6 ⊢
  change Code.wp _ _ _ _ (K6w.alloc (.cells (ndB ⟨#[]⟩ 0 0) 26))
  generalize K6w.alloc (.cells (ndB ⟨#[]⟩ 0 0) 26) = W6 at *
  clear x0 x1 x2 y0 y1 y2 xi yi K6b
  obtain ⟨x0, x1, x2, -, -, -, xi⟩ := (K6.box 5).three
  obtain ⟨y0, y1, y2, -, -, -, yi⟩ := (K6.box 6).three
  go_upto_region 8 with (first
    | (go_at_call 17; refine (c6 _ _ (nd_rowL _ [nA, nB, nA]) (hT.call (K6.past (.cells #[.string ⟨#[97]⟩, .int .u64 0, .int .u64 3, .string ⟨#[98]⟩, .int .u64 0, .int .u64 4, .string ⟨#[97]⟩, .int .u64 0, .int .u64 3] 26)).below)).mono ?_; rintro e K7w ⟨rfl, K7b⟩; have K7 := ((K6.past (.cells #[.string ⟨#[97]⟩, .int .u64 0, .int .u64 3, .string ⟨#[98]⟩, .int .u64 0, .int .u64 4, .string ⟨#[97]⟩, .int .u64 0, .int .u64 3] 26)).call K7b).add 26 (ndB ⟨#[]⟩ 0 0))
    | fail)
  obtain ⟨g7, hg7⟩ : ∃ g, K7w.heap.size = g := ⟨_, rfl⟩
  rw [hg7] at K7 ⊢
  change Code.wp _ _ _ _ (K7w.alloc (.cells (ndB ⟨#[]⟩ 0 0) 26))
  generalize K7w.alloc (.cells (ndB ⟨#[]⟩ 0 0) 26) = W7 at *
  clear x0 x1 x2 y0 y1 y2 xi yi K7b
  obtain ⟨x0, x1, x2, -, -, -, xi⟩ := (K7.box 6).three
  obtain ⟨y0, y1, y2, -, -, -, yi⟩ := (K7.box 7).three
  obtain ⟨p0, p1, p2, -, -, -, pi⟩ := (K7.box 5).three
  obtain ⟨q0, q1, q2, -, -, -, qi⟩ := (K7.box 4).three
  obtain ⟨r0, r1, r2, -, -, -, ri⟩ := (K7.box 3).three
  have n1 := fun u => eql_n14 0 7 0 7 u
  go_wp2
  go_ret
  exact ⟨rfl, K7.below⟩
end Go.Proofs.YtjbaeiifamendaaDoor
