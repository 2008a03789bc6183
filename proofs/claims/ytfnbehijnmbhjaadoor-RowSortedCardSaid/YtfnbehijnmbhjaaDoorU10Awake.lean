/-
  The statements' refused and awake, walked: the chapter's examples.
-/
import Derived.Test.YtfnbehijnmbhjaaDoorU10Write
import Derived.Test.YtfnbehijnmbhjaaDoorE10Same
namespace Go.Proofs.YtfnbehijnmbhjaaDoor
set_option linter.unusedVariables false
set_option linter.unusedSimpArgs false
set_option maxRecDepth 10000
open Go.RowKit Go.Lib

set_option maxRecDepth 100000 in
set_option maxHeartbeats 2000000 in
theorem refused_any (s : ByteArray) (k : Nat) (hs : s.size ≤ 1000000) (hp : parR s.data.toList = (Rw.zero, k)) (w : World) (hT : TabU w) :
    Calls Tryd.prog 44 #[.string s, .int .i64 k] w (Tells (.bool true) w.heap.size w) := by
  have cP := fun u hu => rowparse_any s hs u hu
  rw [hp] at cP
  have hq := fun u => run_eql_rw Rw.zero Rw.zero u
  rw [Rw.same_self] at hq
  simp only [Rw.val, Rw.zero] at cP hq
  clear hp
  go_enter Tryd.func44, Tryd.ntmps44
  go_upto_region 2 with (first
    | (go_at_call 10; refine (cP _ hT).mono ?_; rintro e1 w1 ⟨rfl, j1⟩)
    | fail)
  have H2 := ((Has.start w).call j1).add 26 (rwB ⟨#[]⟩ 0 0)
  change Code.wp _ _ _ _ (w1.alloc (.cells (rwB ⟨#[]⟩ 0 0) 26))
  generalize w1.alloc (.cells (rwB ⟨#[]⟩ 0 0) 26) = W2 at *
  generalize w1.heap.size = g1 at *
  obtain ⟨z0, z1, z2, -, -, -, hin2⟩ := (H2.box 0).three
  go_wp2
  go_ret
  exact ⟨rfl, H2.below⟩

theorem p10_alice : parR [97, 108, 105, 99, 101, 32, 50, 53, 48] = (⟨bA [97, 108, 105, 99, 101], 0, 250⟩, 0) := by
  have h : cutL [97, 108, 105, 99, 101, 32, 50, 53, 48] = some ([97, 108, 105, 99, 101], [50, 53, 48]) := by decide
  rw [parR_ok h (by decide +kernel) (by decide +kernel)]
  have e1 : parH [50, 53, 48] = 0 := by decide +kernel
  have e2 : parL [50, 53, 48] = 250 := by decide +kernel
  rw [e1, e2]
theorem p10_none : parR [97, 108, 105, 99, 101] = (Rw.zero, 100) := parR_none (by decide)
theorem p10_slash : parR [97, 108, 47, 105, 99, 101, 32, 53] = (Rw.zero, 101) := parR_id (a := [97, 108, 47, 105, 99, 101]) (b := [53]) (by decide) (by decide +kernel)
theorem p10_nought : parR [97, 108, 105, 99, 101, 32, 48, 53] = (Rw.zero, 102) := parR_am (a := [97, 108, 105, 99, 101]) (b := [48, 53]) (by decide) (by decide +kernel) (by decide +kernel)
theorem p10_two : parR [97, 108, 105, 99, 101, 32, 32, 53] = (Rw.zero, 102) := parR_am (a := [97, 108, 105, 99, 101]) (b := [32, 53]) (by decide) (by decide +kernel) (by decide +kernel)
theorem p10_behind : parR [97, 108, 105, 99, 101, 32, 53, 32] = (Rw.zero, 102) := parR_am (a := [97, 108, 105, 99, 101]) (b := [53, 32]) (by decide) (by decide +kernel) (by decide +kernel)
theorem p10_ahead : parR [32, 53] = (Rw.zero, 101) := parR_id (a := []) (b := [53]) (by decide) (by decide +kernel)
theorem w10_b : wrR [⟨bA [98], 0, 7⟩] [120] = (bA [35, 32, 120, 10, 98, 32, 55, 10], 0) := by
  have h1 : allId [⟨bA [98], 0, 7⟩] = true := by decide +kernel
  have h2 : remOk [120] = true := by decide +kernel
  have h3 : remL [120] ++ rowsT [⟨bA [98], 0, 7⟩] = [35, 32, 120, 10, 98, 32, 55, 10] := by decide +kernel
  unfold wrR
  rw [h1, h2, h3]
  rfl

set_option maxRecDepth 100000 in
set_option maxHeartbeats 8000000 in
theorem awake10_any (w : World) (hT : TabU w) : Calls Tryd.prog 23 #[] w (Tells (.bool true) w.heap.size w) := by
  have c1 := fun u hu => rowparse_any ⟨#[97, 108, 105, 99, 101, 32, 50, 53, 48]⟩ (by decide) u hu
  have c2 := fun u hu => refused_any ⟨#[97, 108, 105, 99, 101]⟩ 100 (by decide) p10_none u hu
  have c3 := fun u hu => refused_any ⟨#[97, 108, 47, 105, 99, 101, 32, 53]⟩ 101 (by decide) p10_slash u hu
  have c4 := fun u hu => refused_any ⟨#[97, 108, 105, 99, 101, 32, 48, 53]⟩ 102 (by decide) p10_nought u hu
  have c5 := fun u hu => refused_any ⟨#[97, 108, 105, 99, 101, 32, 32, 53]⟩ 102 (by decide) p10_two u hu
  have c6 := fun u hu => refused_any ⟨#[97, 108, 105, 99, 101, 32, 53, 32]⟩ 102 (by decide) p10_behind u hu
  have c7 := fun u hu => refused_any ⟨#[32, 53]⟩ 101 (by decide) p10_ahead u hu
  have c8 : ∀ (A : Addr) (u : World), TabU u → A.block < u.heap.size → RwAt u A ⟨bA [98], 0, 7⟩ →
      Calls Tryd.prog 19 #[.slice (some A) 1 1, .string ⟨#[120]⟩] u (Tells (.tuple #[.string ⟨#[35, 32, 120, 10, 98, 32, 55, 10]⟩, .int .i64 0]) u.heap.size u) := fun A u hu hA hR => by
    have h := rowwrite_any (some A) 1 [⟨bA [98], 0, 7⟩] ⟨#[120]⟩ (by decide) (fun x hx => by rw [List.mem_singleton.1 hx]; exact ⟨word_lit, word_lit⟩) (fun x hx => by rw [List.mem_singleton.1 hx]; decide) (by decide +kernel) (by decide) u (fun i x hx => by
      have hi : i = 0 := by have := (List.getElem?_eq_some_iff.1 hx).1; simp at this; omega
      subst hi
      injection hx with hx
      subst hx
      exact ⟨A, rfl, hA, by simpa [Addr.add] using hR⟩) hu
    rw [show (⟨#[120]⟩ : ByteArray).data.toList = [120] from rfl, w10_b] at h
    exact h
  rw [show (⟨#[97, 108, 105, 99, 101, 32, 50, 53, 48]⟩ : ByteArray).data.toList = [97, 108, 105, 99, 101, 32, 50, 53, 48] from rfl, p10_alice] at c1
  have hq := fun u => run_eql_rw ⟨bA [97, 108, 105, 99, 101], 0, 250⟩ ⟨bA [97, 108, 105, 99, 101], 0, 250⟩ u
  rw [Rw.same_self] at hq
  simp only [Rw.val] at c1 hq
  change ∀ u, TabU u → Calls Tryd.prog 10 #[.string ⟨#[97, 108, 105, 99, 101, 32, 50, 53, 48]⟩] u (Tells (.tuple #[.agg #[.string ⟨#[97, 108, 105, 99, 101]⟩, .int .u64 0, .int .u64 250], .int .i64 0]) u.heap.size u) at c1
  change ∀ u, (binOp .eql 26 (.agg #[.string ⟨#[97, 108, 105, 99, 101]⟩, .int .u64 0, .int .u64 250]) (.agg #[.string ⟨#[97, 108, 105, 99, 101]⟩, .int .u64 0, .int .u64 250])).run Tryd.prog u = .ok (.bool true) u at hq
  go_enter Tryd.func23, Tryd.ntmps23
  go_upto_region 2 with (first
    | (go_at_call 10; refine (c1 _ hT).mono ?_; rintro e1 w1 ⟨rfl, j1⟩)
    | fail)
  have H2 := ((Has.start w).call j1).add 26 (rwB ⟨#[97, 108, 105, 99, 101]⟩ 0 250)
  change Code.wp _ _ _ _ (w1.alloc (.cells (rwB ⟨#[97, 108, 105, 99, 101]⟩ 0 250) 26))
  generalize w1.alloc (.cells (rwB ⟨#[97, 108, 105, 99, 101]⟩ 0 250) 26) = W2 at *
  generalize w1.heap.size = g1 at *
  have H3 := H2.add 26 (rwB ⟨#[98]⟩ 0 7)
  have cW := c8 ⟨W2.heap.size, 0, none⟩ (W2.alloc (.cells (rwB ⟨#[98]⟩ 0 7) 26)) (hT.call H3.below) (H3.box 0).inside ⟨(H3.box 0).read 0, (H3.box 0).read 1, (H3.box 0).read 2⟩
  go_upto_region 3 with (first
    | (go_at_call 19; refine cW.mono ?_; rintro e1 w3 ⟨rfl, j3⟩)
    | fail)
  have H4 := H3.call j3
  obtain ⟨z0, z1, z2, -, -, -, hin2⟩ := (H4.box 1).three
  have tok : ∀ u, Below w3.heap.size w3 u → TabU u := fun u hu => hT.call (H4.call hu).below
  clear c1 c8 cW
  go_wp2_with (first
    | (go_at_call_of 44 (Value.string ⟨#[97, 108, 105, 99, 101]⟩); refine (c2 _ (tok _ (Below.refl _ _))).mono ?_; rintro e1 w4 ⟨rfl, j4⟩)
    | (go_at_call_of 44 (Value.string ⟨#[97, 108, 47, 105, 99, 101, 32, 53]⟩); refine (c3 _ (tok _ j4)).mono ?_; rintro e1 w5 ⟨rfl, j5⟩; replace j5 := chain j4 j5)
    | (go_at_call_of 44 (Value.string ⟨#[97, 108, 105, 99, 101, 32, 48, 53]⟩); refine (c4 _ (tok _ j5)).mono ?_; rintro e1 w6 ⟨rfl, j6⟩; replace j6 := chain j5 j6)
    | (go_at_call_of 44 (Value.string ⟨#[97, 108, 105, 99, 101, 32, 32, 53]⟩); refine (c5 _ (tok _ j6)).mono ?_; rintro e1 w7 ⟨rfl, j7⟩; replace j7 := chain j6 j7)
    | (go_at_call_of 44 (Value.string ⟨#[97, 108, 105, 99, 101, 32, 53, 32]⟩); refine (c6 _ (tok _ j7)).mono ?_; rintro e1 w8 ⟨rfl, j8⟩; replace j8 := chain j7 j8)
    | (go_at_call_of 44 (Value.string ⟨#[32, 53]⟩); refine (c7 _ (tok _ j8)).mono ?_; rintro e1 w9 ⟨rfl, j9⟩; replace j9 := chain j8 j9)
    | fail)
  go_ret
  exact ⟨rfl, (H4.call j9).below⟩
end Go.Proofs.YtfnbehijnmbhjaaDoor
