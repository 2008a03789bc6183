/-
  block.Next, walked: any state, any text.
-/
import Derived.Test.YtkmnfogcocppjaaDoorU4Unround
import Derived.Test.YtkmnfogcocppjaaDoorU4Words
namespace Go.Proofs.YtkmnfogcocppjaaDoor
set_option linter.unusedVariables false
set_option linter.unusedSimpArgs false
set_option maxRecDepth 10000
open Go.RowKit

theorem kAt_nat (k : Nat) (hk : k < 64) : kAt (k : Int) = kB.getD k 0 := by unfold kAt; rw [if_pos (by omega)]; rfl
theorem rN_succ (ks ws : List B32) (s : St) (k : Nat) : rN ks ws s (k + 1) = turned (rN ks ws s k) (ks.getD k 0) (ws.getD k 0) := rfl

theorem next_no (s : St) (b : ByteArray) (hb : b.size ≠ 64) (hm : b.size ≤ 9223372036854775807) (w : World) :
    Calls Tryd.prog 71 #[.agg #[.int .u32 (iv s.a), .int .u32 (iv s.b), .int .u32 (iv s.c), .int .u32 (iv s.d), .int .u32 (iv s.e), .int .u32 (iv s.f), .int .u32 (iv s.g), .int .u32 (iv s.h)], .string b] w (Tells (.tuple #[.agg #[.int .u32 0, .int .u32 0, .int .u32 0, .int .u32 0, .int .u32 0, .int .u32 0, .int .u32 0, .int .u32 0], .int .i64 2]) w.heap.size w) := by
  have c := fun u => words_no b hb hm u
  go_enter Tryd.func71, Tryd.ntmps71
  go_wp2_with (first | (go_at_call 79; refine (c _).mono ?_; rintro e w' ⟨rfl, rfl⟩))
  exact bodyPost_ret (v := .tuple #[.agg #[.int .u32 0, .int .u32 0, .int .u32 0, .int .u32 0, .int .u32 0, .int .u32 0, .int .u32 0, .int .u32 0], .int .i64 2]) (by simp [results, Tryd.results71, go_sem]) rfl
    ⟨rfl, ((Below.refl _ w).alloc (Nat.le_refl _) _).alloc (by simp) _⟩

set_option maxHeartbeats 4000000 in
theorem next_ok (s : St) (b : ByteArray) (hb : b.size = 64) (w : World) (hT : Tab w) :
    Calls Tryd.prog 71 #[.agg #[.int .u32 (iv s.a), .int .u32 (iv s.b), .int .u32 (iv s.c), .int .u32 (iv s.d), .int .u32 (iv s.e), .int .u32 (iv s.f), .int .u32 (iv s.g), .int .u32 (iv s.h)], .string b] w (Tells (.tuple #[.agg #[.int .u32 (iv (nextS kB (words64 b.data.toList) s).a), .int .u32 (iv (nextS kB (words64 b.data.toList) s).b), .int .u32 (iv (nextS kB (words64 b.data.toList) s).c), .int .u32 (iv (nextS kB (words64 b.data.toList) s).d), .int .u32 (iv (nextS kB (words64 b.data.toList) s).e), .int .u32 (iv (nextS kB (words64 b.data.toList) s).f), .int .u32 (iv (nextS kB (words64 b.data.toList) s).g), .int .u32 (iv (nextS kB (words64 b.data.toList) s).h)], .int .i64 0]) w.heap.size w) := by
  have c := fun u => words_ok b hb u
  have hl64 := words64_len b.data.toList
  generalize words64 b.data.toList = l at *
  have H0 : Has w [(w.heap.size + 1, 90, St.cs ⟨0, 0, 0, 0, 0, 0, 0, 0⟩), (w.heap.size, 90, s.cs)] ((w.alloc (.cells #[.int .u32 (iv s.a), .int .u32 (iv s.b), .int .u32 (iv s.c), .int .u32 (iv s.d), .int .u32 (iv s.e), .int .u32 (iv s.f), .int .u32 (iv s.g), .int .u32 (iv s.h)] 90)).alloc (.cells (St.cs ⟨0, 0, 0, 0, 0, 0, 0, 0⟩) 90)) :=
    ((Has.start w).add 90 #[.int .u32 (iv s.a), .int .u32 (iv s.b), .int .u32 (iv s.c), .int .u32 (iv s.d), .int .u32 (iv s.e), .int .u32 (iv s.f), .int .u32 (iv s.g), .int .u32 (iv s.h)]).addAt 90 (St.cs ⟨0, 0, 0, 0, 0, 0, 0, 0⟩) (by simp)
  have hz : ((w.alloc (.cells #[.int .u32 (iv s.a), .int .u32 (iv s.b), .int .u32 (iv s.c), .int .u32 (iv s.d), .int .u32 (iv s.e), .int .u32 (iv s.f), .int .u32 (iv s.g), .int .u32 (iv s.h)] 90)).alloc (.cells (St.cs ⟨0, 0, 0, 0, 0, 0, 0, 0⟩) 90)).heap.size = w.heap.size + 1 + 1 := by simp
  go_enter Tryd.func71, Tryd.ntmps71
  go_upto_region 1 with fail
  generalize hW : World.alloc (World.alloc _ _) _ = W
  have H : Has w [(w.heap.size + 1, 90, St.cs ⟨0, 0, 0, 0, 0, 0, 0, 0⟩), (w.heap.size, 90, s.cs)] W := by rw [← hW]; exact H0
  have hz2 : W.heap.size = w.heap.size + 1 + 1 := by rw [← hW]; exact hz
  clear H0 hW hz
  go_upto_region 4 with (first | (go_at_call 79; refine (c _).mono ?_; rintro e w1 ⟨rfl, hbx, hbl⟩; have H1 := (H.call hbl).with hbx; rw [hz2] at H1))
  clear H hbx
  have hz3 : w.heap.size + 1 + 1 < w1.heap.size := (H1.box 0).inside
  obtain ⟨r0, r1, r2, r3, r4, r5, r6, r7⟩ := (H1.box 2).st
  have H2 := H1.add 90 s.cs
  obtain ⟨n3, hn3⟩ : ∃ n3, w1.heap.size = n3 := ⟨_, rfl⟩
  rw [hn3] at H2
  have hT1 : Tab w1 := hT.call H1.below
  have hT2 : Tab (w1.alloc (.cells s.cs 90)) := hT1.past _
  clear c hbl hT hT1
  go_upto_region 5 with fail
  change Code.wp _ _ _ _ (w1.alloc (.cells s.cs 90))
  rw [hn3] at hz3
  clear H1 r0 r1 r2 r3 r4 r5 r6 r7 hn3 hz2
  generalize w1.alloc (.cells s.cs 90) = W5 at *
  go_wp2
  go_loopg [9, 10, 24] 64 (fun gk _ _ i wr => ∃ k : Nat, k ≤ 64 ∧ gk = 64 - k ∧ i = .int .i64 k ∧ Has w [(n3, 90, (rN kB l s k).cs), (w.heap.size + 1 + 1, 86, arr l), (w.heap.size + 1, 90, St.cs ⟨0, 0, 0, 0, 0, 0, 0, 0⟩), (w.heap.size, 90, s.cs)] wr ∧ Tab wr)
  case atStart => exact ⟨0, by omega, rfl, rfl, H2, hT2⟩
  case round =>
    clear H2 hT2
    obtain ⟨k, hk, hgk, rfl, H, hT⟩ := hrel
    have HG := hideIt hgk
    clear hgk
    by_cases hlt : k < 64
    · have HS := hideIt (rN_succ kB l s k)
      have rw_ := (H.box 1).read k
      rw [arr_at l k (by omega)] at rw_
      obtain ⟨r0, r1, r2, r3, r4, r5, r6, r7⟩ := (H.box 0).st
      have hbx := H.box 0
      have hin := hbx.inside
      have cR := round_any (rN kB l s k) k (l.getD k 0) wr hT
      rw [kAt_nat k hlt, ← HS.out] at cR
      generalize l.getD k 0 = x at *
      generalize rN kB l s k = sk at *
      have b1 : (k : Int) < 64 := by omega
      go_wp2_with (first
        | (go_at_call 80; refine cR.mono ?_; rintro e w6 ⟨rfl, hbl⟩
           have H6 := H.call hbl
           have hT6 := hT.call hbl
           obtain ⟨z0, z1, z2, z3, z4, z5, z6, z7, z8⟩ := (H6.box 0).eight
           obtain ⟨y0, y1, y2, y3, y4, y5, y6, y7⟩ := (H6.box 0).st
           clear r0 r1 r2 r3 r4 r5 r6 r7 rw_ cR H hT hbl hbx hin))
      have H7 := H6.st8 (by omega) (by simp; omega) (rN kB l s (k + 1))
      have hT7 := hT6.set8 (g := n3) (by omega) (rN kB l s (k + 1))
      clear z0 z1 z2 z3 z4 z5 z6 z7 z8 y0 y1 y2 y3 y4 y5 y6 y7 H6 hT6
      go_roundg (64 - (k + 1))
      case measure => have := HG.out; omega
      case rel => exact ⟨k + 1, by omega, rfl, by go_num, H7, hT7⟩
    · have e : k = 64 := by omega
      subst e
      clear HG
      have hA : nextS kB l s = (rN kB l s 64).plus s := rfl
      generalize rN kB l s 64 = A at *
      have HA := hideIt hA
      clear hA
      go_wp2
      go_loopg [11, 34] 8 (fun gk _ i wr => ∃ i' : Nat, i' ≤ 8 ∧ gk = 8 - i' ∧ i = .int .i64 i' ∧ Has w [(n3, 90, (plusN A s i').cs), (w.heap.size + 1 + 1, 86, arr l), (w.heap.size + 1, 90, St.cs ⟨0, 0, 0, 0, 0, 0, 0, 0⟩), (w.heap.size, 90, s.cs)] wr)
      case atStart => exact ⟨0, by omega, rfl, rfl, H⟩
      case round =>
        clear H hT
        obtain ⟨i, hi, hgi, rfl, H⟩ := hrel
        have HI := hideIt hgi
        clear hgi
        by_cases hlt : i < 8
        · have r1 := (H.box 0).read i
          rw [St.cs_at _ _ hlt, plusN_at _ _ _ hlt] at r1
          have r2 := (H.box 3).read i
          rw [St.cs_at _ _ hlt] at r2
          have hf := (H.box 0).free i
          have hin := (H.box 0).inside
          have HP := hideIt (plusN_succ A s i)
          have hput := St.cs_put (plusN A s i) i (A.at i + s.at i) hlt
          generalize A.at i = x at *
          generalize s.at i = y at *
          have b1 : (i : Int) < 8 := by omega
          go_wp2
          refine wp_region_still_tail 8 (by kernel_rfl) (by kernel_rfl) ?_
          simp only [List.take_succ_cons, List.take_zero, List.drop_succ_cons, List.drop_zero]
          iterate 8 (refine wpStill_step (fun K hK => ?_); go_simp; refine hK _ ?_; clear hK K)
          refine wpStill_nil ?_
          change wpList _ _ _ _ _ wr.drew
          simp only [iv_add]
          have H2 := H.drew
          have r3 : wr.drew.cell? ⟨n3, i, none⟩ = some (.int .u32 (iv x)) := r1
          have hf2 : wr.drew.frozen? ⟨n3, i, none⟩ = false := hf
          have H3 := H2.wrote (by omega) (by simp; omega) i (.int .u32 (iv (x + y)))
          rw [hput, ← HP.out] at H3
          clear H H2 r1 r2 hf hput hin
          generalize wr.drew = w8 at *
          go_wp2
          go_roundg (8 - (i + 1))
          case measure => have := HI.out; omega
          case rel => exact ⟨i + 1, by omega, rfl, by go_num, H3⟩
        · have e : i = 8 := by omega
          subst e
          clear HI
          rw [plusN_all] at H
          have hA := HA.out
          clear HA
          generalize A.plus s = F at *
          have HA := hideIt hA
          clear hA
          obtain ⟨r0, r1, r2, r3, r4, r5, r6, r7⟩ := (H.box 0).st
          obtain ⟨z0, z1, z2, z3, z4, z5, z6, z7, z8⟩ := (H.box 2).eight
          obtain ⟨y0, y1, y2, y3, y4, y5, y6, y7⟩ := (H.box 2).st
          have hin := (H.box 0).inside
          go_wp2
          generalize hX : World.setCell (World.setCell _ _ _) _ _ = X
          have hbx : Box X (w.heap.size + 1) 90 F.cs := by rw [← hX]; exact Box.wrote8 (H.box 2) F
          have hbl : Below w.heap.size w X := by rw [← hX]; exact below_set8 H.below (by omega) F
          clear hX y0 y1 y2 y3 y4 y5 y6 y7 z0 z1 z2 z3 z4 z5 z6 z7 z8 r0 r1 r2 r3 r4 r5 r6 r7 hin
          obtain ⟨x0, x1, x2, x3, x4, x5, x6, x7⟩ := hbx.st
          have hgx := hbx.inside
          exact bodyPost_ret (v := .tuple #[.agg #[.int .u32 (iv F.a), .int .u32 (iv F.b), .int .u32 (iv F.c), .int .u32 (iv F.d), .int .u32 (iv F.e), .int .u32 (iv F.f), .int .u32 (iv F.g), .int .u32 (iv F.h)], .int .i64 0]) (by simp [results, Tryd.results71, go_sem, x0, x1, x2, x3, x4, x5, x6, x7]) rfl ⟨by rw [HA.out], hbl⟩
end Go.Proofs.YtkmnfogcocppjaaDoor
