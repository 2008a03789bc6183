/-
  The law BlockNext: what comes of any state by any text is what the document says, by its roots, and by its quick way too.
  Conditions: block's table of constants holds what the program's text lays (tied by the card).
-/
import Derived.Test.YtlceniljnejjeaaDoorH4Held
import Derived.Test.YtlceniljnejjeaaDoorW4Laid
import Derived.Test.YtlceniljnejjeaaDoorR4Next
import Derived.Test.YtlceniljnejjeaaDoorR5Quick
namespace Go.Proofs.YtlceniljnejjeaaDoor
set_option linter.unusedVariables false
set_option linter.unusedSimpArgs false
open Go.ChangeShapes Go.WideShapes Go.ChangeAt Go.RowKit

theorem Box.z8n {w : World} {g : Nat} {t : TypeId} (h : Box w g t #[.int .u32 0, .int .u32 0, .int .u32 0, .int .u32 0, .int .u32 0, .int .u32 0, .int .u32 0, .int .u32 0]) :
    w.cell? ⟨g, 0, none⟩ = some (.int .u32 0) ∧ w.cell? ⟨g, 1, none⟩ = some (.int .u32 0) ∧ w.cell? ⟨g, 2, none⟩ = some (.int .u32 0) ∧ w.cell? ⟨g, 3, none⟩ = some (.int .u32 0) ∧
    w.cell? ⟨g, 4, none⟩ = some (.int .u32 0) ∧ w.cell? ⟨g, 5, none⟩ = some (.int .u32 0) ∧ w.cell? ⟨g, 6, none⟩ = some (.int .u32 0) ∧ w.cell? ⟨g, 7, none⟩ = some (.int .u32 0) ∧
    w.frozen? ⟨g, 0, none⟩ = false ∧ w.frozen? ⟨g, 1, none⟩ = false ∧ w.frozen? ⟨g, 2, none⟩ = false ∧ w.frozen? ⟨g, 3, none⟩ = false ∧ w.frozen? ⟨g, 4, none⟩ = false ∧ w.frozen? ⟨g, 5, none⟩ = false ∧
    w.frozen? ⟨g, 6, none⟩ = false ∧ w.frozen? ⟨g, 7, none⟩ = false ∧ g < w.heap.size :=
  ⟨h.read 0, h.read 1, h.read 2, h.read 3, h.read 4, h.read 5, h.read 6, h.read 7, h.free 0, h.free 1, h.free 2, h.free 3, h.free 4, h.free 5, h.free 6, h.free 7, h.inside⟩

set_option maxHeartbeats 1000000 in
theorem nextlaw_long (s : St) (b : ByteArray) (h : 200 < b.size) (hm : b.size ≤ 9223372036854775807) (w : World) : Calls Tryd.prog 4 #[.agg #[.int .u32 (iv s.a), .int .u32 (iv s.b), .int .u32 (iv s.c), .int .u32 (iv s.d), .int .u32 (iv s.e), .int .u32 (iv s.f), .int .u32 (iv s.g), .int .u32 (iv s.h)], .string b] w (Tells (.bool true) w.heap.size w) := by
  have h1 : (200 : Int) < (b.size : Int) := by omega
  have L : Below w.heap.size w (w.alloc (.cells #[.int .u32 (iv s.a), .int .u32 (iv s.b), .int .u32 (iv s.c), .int .u32 (iv s.d), .int .u32 (iv s.e), .int .u32 (iv s.f), .int .u32 (iv s.g), .int .u32 (iv s.h)] 24)) := (Below.refl _ w).alloc (Nat.le_refl _) _
  go_enter Tryd.func4, Tryd.ntmps4
  go_wp2
  go_ret
  exact ⟨rfl, L⟩

set_option maxRecDepth 100000 in
set_option maxHeartbeats 2000000 in
theorem nextlaw_ok (s : St) (b : ByteArray) (hb : b.size = 64) (w : World) (hT : Tab w) : Calls Tryd.prog 4 #[.agg #[.int .u32 (iv s.a), .int .u32 (iv s.b), .int .u32 (iv s.c), .int .u32 (iv s.d), .int .u32 (iv s.e), .int .u32 (iv s.f), .int .u32 (iv s.g), .int .u32 (iv s.h)], .string b] w (Tells (.bool true) w.heap.size w) := by
  have H0 : Has w [(w.heap.size, 24, s.cs)] (w.alloc (.cells #[.int .u32 (iv s.a), .int .u32 (iv s.b), .int .u32 (iv s.c), .int .u32 (iv s.d), .int .u32 (iv s.e), .int .u32 (iv s.f), .int .u32 (iv s.g), .int .u32 (iv s.h)] 24)) := (Has.start w).add 24 #[.int .u32 (iv s.a), .int .u32 (iv s.b), .int .u32 (iv s.c), .int .u32 (iv s.d), .int .u32 (iv s.e), .int .u32 (iv s.f), .int .u32 (iv s.g), .int .u32 (iv s.h)]
  have t0 : Tab (w.alloc (.cells #[.int .u32 (iv s.a), .int .u32 (iv s.b), .int .u32 (iv s.c), .int .u32 (iv s.d), .int .u32 (iv s.e), .int .u32 (iv s.f), .int .u32 (iv s.g), .int .u32 (iv s.h)] 24)) := hT.past _
  have cC := rconsts_any
  have cN := next_ok s b hb
  have cM := rnext_ok s b hb
  have cQ := quick_any s b hb
  have cT := table_any
  obtain ⟨F, hF⟩ : ∃ F, nextS kB (words64 b.data.toList) s = F := ⟨_, rfl⟩
  rw [hF] at cN cM cQ
  clear hF
  have h1 : ¬ ((200 : Int) < (b.size : Int)) := by omega
  have q1 := fun u => eql_st F u
  have q2 := fun u => neq_a8 F u
  clear hb
  go_enter Tryd.func4, Tryd.ntmps4
  go_upto_region 3 with fail
  generalize w.alloc _ = W0 at *
  obtain ⟨r0, r1, r2, r3, r4, r5, r6, r7⟩ := (H0.box 0).st
  have hin := (H0.box 0).inside
  go_upto_region 4 with (first | (go_at_call 21; refine (cN _ t0).mono ?_; rintro e w1 ⟨rfl, b1⟩; have H1 := (H0.call b1).add 24 F.cs; have t1 := (t0.call b1).past (.cells F.cs 24)))
  change Code.wp _ _ _ _ (w1.alloc (.cells F.cs 24))
  have hn5 : w.heap.size < w1.heap.size := Nat.lt_of_lt_of_le hin b1.size
  clear H0 t0 cN b1 r0 r1 r2 r3 r4 r5 r6 r7 hin h1
  generalize w1.heap.size = n5 at *
  generalize w1.alloc (.cells F.cs 24) = W2 at *
  go_cut [7, 8] (fun p e wx => ∃ gn, p = .pointer (some ⟨gn, 0, none⟩) ∧ e = .int .i64 0 ∧ Has w [(gn, 23, F.cs), (n5, 24, F.cs), (w.heap.size, 24, s.cs)] wx)
  case first =>
    have fact : ∀ u, Has w [(n5, 24, F.cs), (w.heap.size, 24, s.cs)] u → u.cell? ⟨w.heap.size, 0, none⟩ = some (.int .u32 (iv s.a)) ∧ u.cell? ⟨w.heap.size, 1, none⟩ = some (.int .u32 (iv s.b)) ∧ u.cell? ⟨w.heap.size, 2, none⟩ = some (.int .u32 (iv s.c)) ∧ u.cell? ⟨w.heap.size, 3, none⟩ = some (.int .u32 (iv s.d)) ∧ u.cell? ⟨w.heap.size, 4, none⟩ = some (.int .u32 (iv s.e)) ∧ u.cell? ⟨w.heap.size, 5, none⟩ = some (.int .u32 (iv s.f)) ∧ u.cell? ⟨w.heap.size, 6, none⟩ = some (.int .u32 (iv s.g)) ∧ u.cell? ⟨w.heap.size, 7, none⟩ = some (.int .u32 (iv s.h)) := fun u h => (h.box 1).st
    have S2 := heldT_start fact H1.drew (W := W2.drew) t1
    have S2a := fun o : Obj => heldT_start fact (H1.past o).drew (t1.past o)
    have n0 : 0 < w.heap.size := hT.1
    clear hT
    have hin5 : n5 < W2.heap.size := (H1.box 0).inside
    go_wp2_with fail
    go_region_held3 (fun u => HasT w [(n5, 24, F.cs), (w.heap.size, 24, s.cs)] u ∧ u.cell? ⟨w.heap.size, 0, none⟩ = some (.int .u32 (iv s.a)) ∧ u.cell? ⟨w.heap.size, 1, none⟩ = some (.int .u32 (iv s.b)) ∧ u.cell? ⟨w.heap.size, 2, none⟩ = some (.int .u32 (iv s.c)) ∧ u.cell? ⟨w.heap.size, 3, none⟩ = some (.int .u32 (iv s.d)) ∧ u.cell? ⟨w.heap.size, 4, none⟩ = some (.int .u32 (iv s.e)) ∧ u.cell? ⟨w.heap.size, 5, none⟩ = some (.int .u32 (iv s.f)) ∧ u.cell? ⟨w.heap.size, 6, none⟩ = some (.int .u32 (iv s.g)) ∧ u.cell? ⟨w.heap.size, 7, none⟩ = some (.int .u32 (iv s.h)))
      (first
        | with_reducible exact S2
        | with_reducible exact S2a _
        | with_reducible assumption
        | with_reducible exact heldT_keep fact (by assumption) (by assumption)
        | with_reducible exact heldT_past fact (by assumption) _
        | (with_reducible refine heldT_set1 fact (by dsimp only; omega) (by dsimp only; omega) (by simp; omega) _ ?_; (with_reducible refine heldT_set1 fact (by dsimp only; omega) (by dsimp only; omega) (by simp; omega) _ ?_; (with_reducible refine heldT_set1 fact (by dsimp only; omega) (by dsimp only; omega) (by simp; omega) _ ?_; (with_reducible refine heldT_set1 fact (by dsimp only; omega) (by dsimp only; omega) (by simp; omega) _ ?_; (with_reducible refine heldT_set1 fact (by dsimp only; omega) (by dsimp only; omega) (by simp; omega) _ ?_; (with_reducible refine heldT_set1 fact (by dsimp only; omega) (by dsimp only; omega) (by simp; omega) _ ?_; (with_reducible refine heldT_set1 fact (by dsimp only; omega) (by dsimp only; omega) (by simp; omega) _ ?_; (with_reducible refine heldT_set1 fact (by dsimp only; omega) (by dsimp only; omega) (by simp; omega) _ ?_; with_reducible assumption))))))))
        | fail)
      (first
        | (go_at_call 23; refine (cC _).mono ?_; rintro e w5 ⟨g, cap, rfl, hg1, hg2, hg3, b5⟩
           have hR : Row32 w5 g kB := ⟨hg2, hg3⟩
           have S5 := heldT_keep fact (by assumption) b5
           have hin6 := (S5.1.1.box 0).inside
           clear hg2 hg3)
        | (go_at_call 22; refine (cM _ _ _ (by first | with_reducible exact hR | with_reducible exact hR.past _)).mono ?_; rintro e w6 ⟨rfl, b6⟩
           have S6 := heldT_keep fact (by assumption) b6
           (first
            | (have z : Box w6 W2.heap.size 23 #[.int .u32 0, .int .u32 0, .int .u32 0, .int .u32 0, .int .u32 0, .int .u32 0, .int .u32 0, .int .u32 0] := (((Box.made W2 23 #[.int .u32 0, .int .u32 0, .int .u32 0, .int .u32 0, .int .u32 0, .int .u32 0, .int .u32 0, .int .u32 0]).draw).call b5).call b6
               obtain ⟨y0, y1, y2, y3, y4, y5, y6, y7, z0, z1, z2, z3, z4, z5, z6, z7, z8⟩ := z.z8n)
            | (have z : Box w6 w5.heap.size 23 #[.int .u32 0, .int .u32 0, .int .u32 0, .int .u32 0, .int .u32 0, .int .u32 0, .int .u32 0, .int .u32 0] := (Box.made w5 23 #[.int .u32 0, .int .u32 0, .int .u32 0, .int .u32 0, .int .u32 0, .int .u32 0, .int .u32 0, .int .u32 0]).call b6
               obtain ⟨y0, y1, y2, y3, y4, y5, y6, y7, z0, z1, z2, z3, z4, z5, z6, z7, z8⟩ := z.z8n)
            | skip))
        | fail)
    all_goals go_wp2_with fail
    all_goals go_meet
    · exact ⟨w6.heap.size, rfl, rfl, S6.1.1.add 23 F.cs⟩
    · have hz : Box w6 w5.heap.size 23 (St.cs ⟨0, 0, 0, 0, 0, 0, 0, 0⟩) := z
      exact ⟨w5.heap.size, rfl, rfl, Has.st8 (S6.1.1.with hz) (by omega) (by simp; omega) F⟩
    · have hz : Box w6 W2.heap.size 23 (St.cs ⟨0, 0, 0, 0, 0, 0, 0, 0⟩) := z
      exact ⟨W2.heap.size, rfl, rfl, Has.st8 (S6.1.1.with hz) (by omega) (by simp; omega) F⟩
  case rest =>
    obtain ⟨gn, e1, e2, H9⟩ := hcut
    subst e1 e2
    clear H1 t1 hT cC cM
    have fact : ∀ u, Has w [(gn, 23, F.cs), (n5, 24, F.cs), (w.heap.size, 24, s.cs)] u → (u.cell? ⟨gn, 0, none⟩ = some (.int .u32 (iv F.a)) ∧ u.cell? ⟨gn, 1, none⟩ = some (.int .u32 (iv F.b)) ∧ u.cell? ⟨gn, 2, none⟩ = some (.int .u32 (iv F.c)) ∧ u.cell? ⟨gn, 3, none⟩ = some (.int .u32 (iv F.d)) ∧ u.cell? ⟨gn, 4, none⟩ = some (.int .u32 (iv F.e)) ∧ u.cell? ⟨gn, 5, none⟩ = some (.int .u32 (iv F.f)) ∧ u.cell? ⟨gn, 6, none⟩ = some (.int .u32 (iv F.g)) ∧ u.cell? ⟨gn, 7, none⟩ = some (.int .u32 (iv F.h))) ∧ (u.cell? ⟨w.heap.size, 0, none⟩ = some (.int .u32 (iv s.a)) ∧ u.cell? ⟨w.heap.size, 1, none⟩ = some (.int .u32 (iv s.b)) ∧ u.cell? ⟨w.heap.size, 2, none⟩ = some (.int .u32 (iv s.c)) ∧ u.cell? ⟨w.heap.size, 3, none⟩ = some (.int .u32 (iv s.d)) ∧ u.cell? ⟨w.heap.size, 4, none⟩ = some (.int .u32 (iv s.e)) ∧ u.cell? ⟨w.heap.size, 5, none⟩ = some (.int .u32 (iv s.f)) ∧ u.cell? ⟨w.heap.size, 6, none⟩ = some (.int .u32 (iv s.g)) ∧ u.cell? ⟨w.heap.size, 7, none⟩ = some (.int .u32 (iv s.h))) := fun u h => ⟨(h.box 0).st, (h.box 2).st⟩
    have K9 := held_drew fact H9
    have cQ2 : ∀ g u, Box u g 22 (arr kB) → Calls Tryd.prog 24 #[.agg #[.int .u32 (iv s.a), .int .u32 (iv s.b), .int .u32 (iv s.c), .int .u32 (iv s.d), .int .u32 (iv s.e), .int .u32 (iv s.f), .int .u32 (iv s.g), .int .u32 (iv s.h)], .string b, .slice (some ⟨g, 0, none⟩) 64 64] u (Tells (.agg #[.int .u32 (iv F.a), .int .u32 (iv F.b), .int .u32 (iv F.c), .int .u32 (iv F.d), .int .u32 (iv F.e), .int .u32 (iv F.f), .int .u32 (iv F.g), .int .u32 (iv F.h)]) u.heap.size u) := cQ
    clear cQ H9
    go_upto_region 5 with fail
    go_region_held3 (fun u => Has w [(gn, 23, F.cs), (n5, 24, F.cs), (w.heap.size, 24, s.cs)] u ∧ (u.cell? ⟨gn, 0, none⟩ = some (.int .u32 (iv F.a)) ∧ u.cell? ⟨gn, 1, none⟩ = some (.int .u32 (iv F.b)) ∧ u.cell? ⟨gn, 2, none⟩ = some (.int .u32 (iv F.c)) ∧ u.cell? ⟨gn, 3, none⟩ = some (.int .u32 (iv F.d)) ∧ u.cell? ⟨gn, 4, none⟩ = some (.int .u32 (iv F.e)) ∧ u.cell? ⟨gn, 5, none⟩ = some (.int .u32 (iv F.f)) ∧ u.cell? ⟨gn, 6, none⟩ = some (.int .u32 (iv F.g)) ∧ u.cell? ⟨gn, 7, none⟩ = some (.int .u32 (iv F.h))) ∧ (u.cell? ⟨w.heap.size, 0, none⟩ = some (.int .u32 (iv s.a)) ∧ u.cell? ⟨w.heap.size, 1, none⟩ = some (.int .u32 (iv s.b)) ∧ u.cell? ⟨w.heap.size, 2, none⟩ = some (.int .u32 (iv s.c)) ∧ u.cell? ⟨w.heap.size, 3, none⟩ = some (.int .u32 (iv s.d)) ∧ u.cell? ⟨w.heap.size, 4, none⟩ = some (.int .u32 (iv s.e)) ∧ u.cell? ⟨w.heap.size, 5, none⟩ = some (.int .u32 (iv s.f)) ∧ u.cell? ⟨w.heap.size, 6, none⟩ = some (.int .u32 (iv s.g)) ∧ u.cell? ⟨w.heap.size, 7, none⟩ = some (.int .u32 (iv s.h))))
      (first
        | with_reducible exact K9
        | with_reducible assumption
        | with_reducible exact held_keep fact (by assumption) (by assumption)
        | fail)
      (first
        | (go_at_call 25; refine (cT _).mono ?_; rintro e w7 ⟨rfl, k7, b7⟩)
        | (go_at_call 24; refine (cQ2 _ _ k7).mono ?_; rintro e w8 ⟨rfl, b8⟩)
        | fail)
    all_goals
      have hh : ∃ Q, Has w [(gn, 23, F.cs), (n5, 24, F.cs), (w.heap.size, 24, s.cs)] w8 ∧ Q := ⟨_, by assumption⟩
      obtain ⟨Q, hh, -⟩ := hh
      have hl := hh.below
      obtain ⟨a0, a1, a2, a3, a4, a5, a6, a7⟩ := (hh.box 0).st
      obtain ⟨d0, d1, d2, d3, d4, d5, d6, d7⟩ := (hh.box 1).st
      have i0 := (hh.box 0).inside
      have i1 := (hh.box 1).inside
      clear fact K9 cT cQ2 hh
      go_wp2_with fail
      go_ret
      exact ⟨rfl, hl⟩

set_option maxRecDepth 100000 in
set_option maxHeartbeats 2000000 in
theorem nextlaw_no (s : St) (b : ByteArray) (hb : b.size ≠ 64) (hm : b.size ≤ 9223372036854775807) (h2 : b.size ≤ 200) (w : World) (hT : Tab w) : Calls Tryd.prog 4 #[.agg #[.int .u32 (iv s.a), .int .u32 (iv s.b), .int .u32 (iv s.c), .int .u32 (iv s.d), .int .u32 (iv s.e), .int .u32 (iv s.f), .int .u32 (iv s.g), .int .u32 (iv s.h)], .string b] w (Tells (.bool true) w.heap.size w) := by
  have H0 : Has w [(w.heap.size, 24, s.cs)] (w.alloc (.cells #[.int .u32 (iv s.a), .int .u32 (iv s.b), .int .u32 (iv s.c), .int .u32 (iv s.d), .int .u32 (iv s.e), .int .u32 (iv s.f), .int .u32 (iv s.g), .int .u32 (iv s.h)] 24)) := (Has.start w).add 24 #[.int .u32 (iv s.a), .int .u32 (iv s.b), .int .u32 (iv s.c), .int .u32 (iv s.d), .int .u32 (iv s.e), .int .u32 (iv s.f), .int .u32 (iv s.g), .int .u32 (iv s.h)]
  have t0 : Tab (w.alloc (.cells #[.int .u32 (iv s.a), .int .u32 (iv s.b), .int .u32 (iv s.c), .int .u32 (iv s.d), .int .u32 (iv s.e), .int .u32 (iv s.f), .int .u32 (iv s.g), .int .u32 (iv s.h)] 24)) := hT.past _
  have cC := rconsts_any
  have cN := fun u (_ : Tab u) => next_no s b hb hm u
  have cM := fun (g cap : Nat) u (_ : Row32 u g kB) => rnext_no s b hb hm (.slice (some ⟨g, 0, none⟩) 64 cap) u
  obtain ⟨F, hF⟩ : ∃ F : St, (#[.int .u32 0, .int .u32 0, .int .u32 0, .int .u32 0, .int .u32 0, .int .u32 0, .int .u32 0, .int .u32 0] : Array Value) = #[.int .u32 (iv F.a), .int .u32 (iv F.b), .int .u32 (iv F.c), .int .u32 (iv F.d), .int .u32 (iv F.e), .int .u32 (iv F.f), .int .u32 (iv F.g), .int .u32 (iv F.h)] := ⟨⟨0, 0, 0, 0, 0, 0, 0, 0⟩, rfl⟩
  rw [hF] at cN cM
  clear hF
  have h1 : ¬ ((200 : Int) < (b.size : Int)) := by omega
  have q1 := fun u => eql_st F u
  have q2 := fun u => neq_a8 F u
  clear hb
  go_enter Tryd.func4, Tryd.ntmps4
  go_upto_region 3 with fail
  generalize w.alloc _ = W0 at *
  obtain ⟨r0, r1, r2, r3, r4, r5, r6, r7⟩ := (H0.box 0).st
  have hin := (H0.box 0).inside
  go_upto_region 4 with (first | (go_at_call 21; refine (cN _ t0).mono ?_; rintro e w1 ⟨rfl, b1⟩; have H1 := (H0.call b1).add 24 F.cs; have t1 := (t0.call b1).past (.cells F.cs 24)))
  change Code.wp _ _ _ _ (w1.alloc (.cells F.cs 24))
  have hn5 : w.heap.size < w1.heap.size := Nat.lt_of_lt_of_le hin b1.size
  clear H0 t0 cN b1 r0 r1 r2 r3 r4 r5 r6 r7 hin h1
  generalize w1.heap.size = n5 at *
  generalize w1.alloc (.cells F.cs 24) = W2 at *
  go_cut [7, 8] (fun p e wx => ∃ gn, p = .pointer (some ⟨gn, 0, none⟩) ∧ e = .int .i64 2 ∧ Has w [(gn, 23, F.cs), (n5, 24, F.cs), (w.heap.size, 24, s.cs)] wx)
  case first =>
    have fact : ∀ u, Has w [(n5, 24, F.cs), (w.heap.size, 24, s.cs)] u → u.cell? ⟨w.heap.size, 0, none⟩ = some (.int .u32 (iv s.a)) ∧ u.cell? ⟨w.heap.size, 1, none⟩ = some (.int .u32 (iv s.b)) ∧ u.cell? ⟨w.heap.size, 2, none⟩ = some (.int .u32 (iv s.c)) ∧ u.cell? ⟨w.heap.size, 3, none⟩ = some (.int .u32 (iv s.d)) ∧ u.cell? ⟨w.heap.size, 4, none⟩ = some (.int .u32 (iv s.e)) ∧ u.cell? ⟨w.heap.size, 5, none⟩ = some (.int .u32 (iv s.f)) ∧ u.cell? ⟨w.heap.size, 6, none⟩ = some (.int .u32 (iv s.g)) ∧ u.cell? ⟨w.heap.size, 7, none⟩ = some (.int .u32 (iv s.h)) := fun u h => (h.box 1).st
    have S2 := heldT_start fact H1.drew (W := W2.drew) t1
    have S2a := fun o : Obj => heldT_start fact (H1.past o).drew (t1.past o)
    have n0 : 0 < w.heap.size := hT.1
    clear hT
    have hin5 : n5 < W2.heap.size := (H1.box 0).inside
    go_wp2_with fail
    go_region_held3 (fun u => HasT w [(n5, 24, F.cs), (w.heap.size, 24, s.cs)] u ∧ u.cell? ⟨w.heap.size, 0, none⟩ = some (.int .u32 (iv s.a)) ∧ u.cell? ⟨w.heap.size, 1, none⟩ = some (.int .u32 (iv s.b)) ∧ u.cell? ⟨w.heap.size, 2, none⟩ = some (.int .u32 (iv s.c)) ∧ u.cell? ⟨w.heap.size, 3, none⟩ = some (.int .u32 (iv s.d)) ∧ u.cell? ⟨w.heap.size, 4, none⟩ = some (.int .u32 (iv s.e)) ∧ u.cell? ⟨w.heap.size, 5, none⟩ = some (.int .u32 (iv s.f)) ∧ u.cell? ⟨w.heap.size, 6, none⟩ = some (.int .u32 (iv s.g)) ∧ u.cell? ⟨w.heap.size, 7, none⟩ = some (.int .u32 (iv s.h)))
      (first
        | with_reducible exact S2
        | with_reducible exact S2a _
        | with_reducible assumption
        | with_reducible exact heldT_keep fact (by assumption) (by assumption)
        | with_reducible exact heldT_past fact (by assumption) _
        | (with_reducible refine heldT_set1 fact (by dsimp only; omega) (by dsimp only; omega) (by simp; omega) _ ?_; (with_reducible refine heldT_set1 fact (by dsimp only; omega) (by dsimp only; omega) (by simp; omega) _ ?_; (with_reducible refine heldT_set1 fact (by dsimp only; omega) (by dsimp only; omega) (by simp; omega) _ ?_; (with_reducible refine heldT_set1 fact (by dsimp only; omega) (by dsimp only; omega) (by simp; omega) _ ?_; (with_reducible refine heldT_set1 fact (by dsimp only; omega) (by dsimp only; omega) (by simp; omega) _ ?_; (with_reducible refine heldT_set1 fact (by dsimp only; omega) (by dsimp only; omega) (by simp; omega) _ ?_; (with_reducible refine heldT_set1 fact (by dsimp only; omega) (by dsimp only; omega) (by simp; omega) _ ?_; (with_reducible refine heldT_set1 fact (by dsimp only; omega) (by dsimp only; omega) (by simp; omega) _ ?_; with_reducible assumption))))))))
        | fail)
      (first
        | (go_at_call 23; refine (cC _).mono ?_; rintro e w5 ⟨g, cap, rfl, hg1, hg2, hg3, b5⟩
           have hR : Row32 w5 g kB := ⟨hg2, hg3⟩
           have S5 := heldT_keep fact (by assumption) b5
           have hin6 := (S5.1.1.box 0).inside
           clear hg2 hg3)
        | (go_at_call 22; refine (cM _ _ _ (by first | with_reducible exact hR | with_reducible exact hR.past _)).mono ?_; rintro e w6 ⟨rfl, b6⟩
           have S6 := heldT_keep fact (by assumption) b6
           (first
            | (have z : Box w6 W2.heap.size 23 #[.int .u32 0, .int .u32 0, .int .u32 0, .int .u32 0, .int .u32 0, .int .u32 0, .int .u32 0, .int .u32 0] := (((Box.made W2 23 #[.int .u32 0, .int .u32 0, .int .u32 0, .int .u32 0, .int .u32 0, .int .u32 0, .int .u32 0, .int .u32 0]).draw).call b5).call b6
               obtain ⟨y0, y1, y2, y3, y4, y5, y6, y7, z0, z1, z2, z3, z4, z5, z6, z7, z8⟩ := z.z8n)
            | (have z : Box w6 w5.heap.size 23 #[.int .u32 0, .int .u32 0, .int .u32 0, .int .u32 0, .int .u32 0, .int .u32 0, .int .u32 0, .int .u32 0] := (Box.made w5 23 #[.int .u32 0, .int .u32 0, .int .u32 0, .int .u32 0, .int .u32 0, .int .u32 0, .int .u32 0, .int .u32 0]).call b6
               obtain ⟨y0, y1, y2, y3, y4, y5, y6, y7, z0, z1, z2, z3, z4, z5, z6, z7, z8⟩ := z.z8n)
            | skip))
        | fail)
    all_goals go_wp2_with fail
    all_goals go_meet
    · exact ⟨w6.heap.size, rfl, rfl, S6.1.1.add 23 F.cs⟩
    · have hz : Box w6 w5.heap.size 23 (St.cs ⟨0, 0, 0, 0, 0, 0, 0, 0⟩) := z
      exact ⟨w5.heap.size, rfl, rfl, Has.st8 (S6.1.1.with hz) (by omega) (by simp; omega) F⟩
    · have hz : Box w6 W2.heap.size 23 (St.cs ⟨0, 0, 0, 0, 0, 0, 0, 0⟩) := z
      exact ⟨W2.heap.size, rfl, rfl, Has.st8 (S6.1.1.with hz) (by omega) (by simp; omega) F⟩
  case rest =>
    obtain ⟨gn, e1, e2, H9⟩ := hcut
    subst e1 e2
    clear H1 t1 hT cC cM
    have hl := H9.below
    obtain ⟨a0, a1, a2, a3, a4, a5, a6, a7⟩ := (H9.box 0).st
    obtain ⟨d0, d1, d2, d3, d4, d5, d6, d7⟩ := (H9.box 1).st
    have i0 := (H9.box 0).inside
    have i1 := (H9.box 1).inside
    obtain ⟨r0, r1, r2, r3, r4, r5, r6, r7⟩ := (H9.box 2).st
    have i2 := (H9.box 2).inside
    clear H9
    go_upto_region 5 with fail
    go_quiet (fail)
    go_wp2_with fail
    go_ret
    exact ⟨rfl, below_drewN hl _⟩

theorem next_walk (s : St) (b : ByteArray) (hm : b.size ≤ 9223372036854775807) (w : World) (hT : Tab w) : Calls Tryd.prog 4 #[.agg #[.int .u32 (iv s.a), .int .u32 (iv s.b), .int .u32 (iv s.c), .int .u32 (iv s.d), .int .u32 (iv s.e), .int .u32 (iv s.f), .int .u32 (iv s.g), .int .u32 (iv s.h)], .string b] w (Tells (.bool true) w.heap.size w) := by
  by_cases h : 200 < b.size
  · exact nextlaw_long s b h hm w
  · by_cases hb : b.size = 64
    · exact nextlaw_ok s b hb w hT
    · exact nextlaw_no s b hb hm (by omega) w hT

theorem blockNext_core (H : Type) (enc : TypeId × Value → H) (W : World) (base : Nat) (args : Array Value) (ds gs : List (DataW H)) (before : List MemPlace)
    (hval : ∀ (j : Nat) t v, Tryd.f4.params[j]? = some t → args[j]? = some v → Value.okWide Tryd.prog W .any base t v)
    (hW : DataW.Whole enc Tryd.prog Tryd.f4.params.toList Rows.blockNextSpec.vars false W args.toList ds gs before) (hT : Tab W) :
    gs = [] ∧ ds.length = 2 ∧ Calls Tryd.prog 4 args W (Tells (.bool true) W.heap.size W) := by
  obtain ⟨p, q, hA, hV, -, -, -⟩ := hW
  obtain ⟨rfl, rfl⟩ := trodVars_none hV
  have hA : DataW.TrodAll enc Tryd.prog W 0 (fun _ => true) true Tryd.f4.params.toList args.toList ds p := hA
  rw [Tryd.params4] at hA hval
  obtain ⟨v0, vs0, d0, ds0, p0, ps0, e0, rfl, -, h0, hA⟩ := trodAll_cons hA
  obtain ⟨v1, vs1, d1, ds1, p1, ps1, rfl, rfl, -, h1, hA⟩ := trodAll_cons hA
  obtain ⟨rfl, rfl, rfl⟩ := trodAll_nil hA
  obtain rfl : args = #[v0, v1] := Array.ext' e0
  obtain ⟨st, rfl⟩ := open_st (hval 0 24 v0 rfl rfl) h0
  obtain ⟨b, rfl, -, -, hb⟩ := Go.ChangeMaps.open_string Tryd.underlying9 (hval 1 9 v1 rfl rfl) h1
  exact ⟨rfl, rfl, next_walk st b hb W hT⟩

set_option maxRecDepth 100000 in
theorem blockNext_lifted (os : Os) (started : os.Started) (H : Type) (enc : TypeId × Value → H) :
    ReturnsInHanded {} Tryd.checked os 4 .any (fun w args => (Rows.blockNextSpec.pre enc Tryd.prog Tryd.f4 [] false w args ∧ laidMetH Tryd.prog laidK w) ∧ sizedMet enc Tryd.prog Tryd.f4 (OpenSpec.ofChange Rows.blockNextSpec) false w args)
      (Rows.blockNextSpec.post enc Tryd.prog Tryd.f4 false true false false) := by
  refine returnsInHanded_of_change_and (C := Tryd.checked) (X := fun w _ => laidMetH Tryd.prog laidK w) (fun _ _ _ hh h => h.of_heap hh) own_knob started (by kernel_rfl) Tryd.func4
    (ChangeSpec.witness_shaped (enc := enc) (C := Tryd.checked) (os := os) (X := fun w _ => laidMetH Tryd.prog laidK w) false (World.doorLaid Tryd.prog 14 os) #[.agg #[.int .u32 0, .int .u32 0, .int .u32 0, .int .u32 0, .int .u32 0, .int .u32 0, .int .u32 0, .int .u32 0], .string ⟨#[]⟩] 8 rfl (World.shaped_of_RefB (by kernel_rfl) (by kernel_rfl)) (by kernel_rfl) (by kernel_rfl) (by kernel_rfl) (door_met os _)) ?_
  intro W base args ds gs before hval0 hW _ hwt hL _
  have hval : ∀ (j : Nat) t v, Tryd.f4.params[j]? = some t → args[j]? = some v → Value.okWide Tryd.prog W .any base t v := hval0
  obtain ⟨hg, hlen, hc⟩ := blockNext_core H enc W base args ds gs before hval hW (tab_of_laid hL)
  subst hg
  have hr : (Tryd.f4.params.toList.all fun t => Tryd.prog.readableRec t && decide (t < Tryd.prog.types.size)) = true := by kernel_rfl
  have hread : ∀ t ∈ Tryd.f4.params.toList, Tryd.prog.readableRec t = true ∧ t < Tryd.prog.types.size := fun t ht => by
    have h := List.all_eq_true.1 hr t ht
    rw [Bool.and_eq_true, decide_eq_true_eq] at h
    exact h
  refine hc.mono fun e W' ⟨he, hb⟩ => ?_
  subst he
  match ds, hlen with
  | [d0, d1], _ => exact ⟨_, rfl, law_post laid_out Tryd.underlying4 rfl hread rfl hW rfl rfl rfl hb⟩

theorem blockNext_holds : Rows.BlockNextSaid :=
  OpenClaim.holds_of_wide 4 Tryd.f4 rfl rfl rfl rfl rfl rfl rfl ⟨rfl, rfl, rfl, rfl, rfl⟩ rfl rfl rfl rfl rfl (by kernel_rfl) Tryd.func4 (by kernel_rfl)
    (of_decide_eq_true (by kernel_rfl)) (by unfold Func.isWrapper; first | (rw [if_pos (by decide +kernel)]; kernel_rfl) | (rw [if_neg (by decide +kernel)]; exact ⟨rfl, rfl⟩))
    (fun os started H enc _ => blockNext_lifted os started H enc)

theorem blockNext_card : Rows.BlockNextCardSaid :=
  Claim7.holds_tied_plain_at .later [] [.data] true _ false
    blockNext_holds (fun _ h => by cases h) (by kernel_rfl) (fun _ h => by cases h) blockNext_row_tie rfl ⟨rfl, rfl⟩ (by kernel_rfl) rfl
    (fun f fn hf hfn => by
      obtain rfl : f = 4 := Option.some.inj ((show Tryd.prog.funcNamed "paymaster/paymasterlaw04.BlockNext" = some 4 by kernel_rfl).symm.trans hf) |>.symm
      obtain rfl : fn = Tryd.f4 := (Option.some.inj (Tryd.func4.symm.trans hfn)).symm
      exact ⟨by kernel_rfl, fun j t ht => by
        have hm : t ∈ Tryd.f4.params.toList := by simpa using Array.mem_of_getElem? ht
        have hall : (Tryd.f4.params.toList.all fun u => !Tryd.prog.wantsStandIn u) = true := by kernel_rfl
        exact (show Tryd.prog.wantsStandIn t = false by simpa using List.all_eq_true.1 hall t hm)⟩)
    (by kernel_rfl)

end Go.Proofs.YtlceniljnejjeaaDoor
