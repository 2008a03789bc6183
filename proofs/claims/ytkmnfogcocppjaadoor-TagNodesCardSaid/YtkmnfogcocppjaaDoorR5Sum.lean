/-
  The document's Sum, walked: the digest of any text.
-/
import Derived.Test.YtkmnfogcocppjaaDoorR5Quick
import Derived.Test.YtkmnfogcocppjaaDoorR5Pad
import Derived.Test.YtkmnfogcocppjaaDoorU5Dig
import Derived.Test.YtkmnfogcocppjaaDoorD5Run
namespace Go.Proofs.YtkmnfogcocppjaaDoor
set_option linter.unusedVariables false
set_option linter.unusedSimpArgs false
set_option maxRecDepth 10000
open Go.RowKit

set_option maxRecDepth 100000 in
set_option maxHeartbeats 4000000 in
theorem rsum_any (s : ByteArray) (hs : s.size ≤ 1000000000) (w : World) : Calls Tryd.prog 51 #[.string s] w (Tells (.string (digB s.data.toList)) w.heap.size w) := by
  obtain ⟨i0, hi, hzi0, hzi1, hzi2⟩ := info_parts info_u8
  have cP := fun u => rpadding_any s.size (by omega) u
  have cT := fun u => table_any u
  have cS := fun u => start_any u
  have hps := padB_size s.size
  have hpz := pad_bd s.size
  have hpw := pad_whole s.size
  obtain ⟨ALL, hALL⟩ : ∃ ALL, s ++ padB s.size = ALL := ⟨_, rfl⟩
  have hAs : ALL.size = s.size + (padN s.size + 9) := by rw [← hALL, ByteArray.size_append, hps]
  have hcat : ∀ u : World, (Op.stringOp .add s (padB s.size)).run Tryd.prog u = .ok (.string ALL) u := fun u => by rw [← hALL]; exact run_string_add_sum u _ _ (by omega)
  obtain ⟨M, hM⟩ : ∃ M, ALL.size = 64 * M := ⟨ALL.size / 64, by omega⟩
  have hMs : M ≤ 100000000 := by omega
  have hD : digB s.data.toList = strOfNums (stI (runJ ALL st0 M)) := by
    rw [runJ_all ALL M hM, ← hALL, ByteArray.data_append, Array.toList_append]
    unfold digB pad
    rw [show s.data.toList.length = s.size by simp]
  have e1 : (s.size : Int) % 18446744073709551616 = (s.size : Int) := by omega
  have HM := hideIt hM
  generalize padB s.size = PB at *
  generalize digB s.data.toList = D at *
  have HD := hideIt hD
  clear hD hps hALL hAs hpw hM
  go_enter Tryd.func51, Tryd.ntmps51
  go_upto_region 3 with (first
    | (go_at_call 64; refine (cP _).mono ?_; rintro e w1 ⟨rfl, b1⟩)
    | (go_at_call 65; refine (cT _).mono ?_; rintro e w2 ⟨rfl, k2, b2⟩))
  have H2 := ((Has.start w).call (chain b1 b2)).with k2
  have hg2 : w.heap.size ≤ w1.heap.size := b1.size
  clear cP cT hcat b1 b2 k2 e1
  go_upto_region 4 with (first
    | (go_at_call 66; refine (cS _).mono ?_; rintro e w3 ⟨rfl, b3⟩))
  have H4 := (H2.call b3).add 87 st0.cs
  have hn4 : w1.heap.size < w3.heap.size := ((H2.call b3).box 0).inside
  clear cS b3
  change Code.wp _ _ _ _ (w3.alloc (.cells st0.cs 87))
  generalize w3.heap.size = n4 at *
  generalize w3.alloc (.cells st0.cs 87) = W4 at *
  generalize w1.heap.size = gt at *
  go_wp2
  go_loopg [6] M (fun gk i wr => ∃ j : Nat, j ≤ M ∧ gk = M - j ∧ i = .int .i64 ((64 * j : Nat) : Int) ∧ Has w [(n4, 87, (runJ ALL st0 j).cs), (gt, 86, arr kB)] wr)
  case atStart => exact ⟨0, by omega, rfl, rfl, H4⟩
  case round =>
    clear H4
    obtain ⟨j, hj, hgk, rfl, H⟩ := hrel
    have HG := hideIt hgk
    clear hgk
    obtain ⟨N, hN⟩ : ∃ N, 64 * j = N := ⟨_, rfl⟩
    have hMs := HM.out
    by_cases hlt : j < M
    · obtain ⟨N2, hN2⟩ : ∃ N2, N + 64 = N2 := ⟨_, rfl⟩
      have hbs := blkA_size ALL j (by omega)
      have hbd : blkA ALL j = ALL.extract N N2 := by unfold blkA; rw [hN, hN2]
      have hsucc := runJ_succ ALL st0 j
      obtain ⟨A, hA⟩ : ∃ A, runJ ALL st0 j = A := ⟨_, rfl⟩
      obtain ⟨F, hF⟩ : ∃ F, runJ ALL st0 (j + 1) = F := ⟨_, rfl⟩
      rw [hA, hF, hbd] at hsucc
      rw [hbd] at hbs
      rw [hA] at H
      obtain ⟨X, hX⟩ : ∃ X, ALL.extract N N2 = X := ⟨_, rfl⟩
      rw [hX] at hbs hsucc
      have cQ : ∀ u, Box u gt 86 (arr kB) → Calls Tryd.prog 67 #[.agg #[.int .u32 (iv A.a), .int .u32 (iv A.b), .int .u32 (iv A.c), .int .u32 (iv A.d), .int .u32 (iv A.e), .int .u32 (iv A.f), .int .u32 (iv A.g), .int .u32 (iv A.h)], .string X, .slice (some ⟨gt, 0, none⟩) 64 64] u (Tells (.agg #[.int .u32 (iv F.a), .int .u32 (iv F.b), .int .u32 (iv F.c), .int .u32 (iv F.d), .int .u32 (iv F.e), .int .u32 (iv F.f), .int .u32 (iv F.g), .int .u32 (iv F.h)]) u.heap.size u) := fun u hu => by rw [hsucc]; exact quick_any A X hbs gt u hu
      have x1 : IntKind.i64.wrap ((N : Int) + 64) = (N2 : Int) := by rw [IntWalk.i64_in _ (by omega)]; omega
      have x2 : (N : Int) + 64 = (N2 : Int) := by omega
      have x3 : IntKind.i64.wrap (N2 : Int) = (N2 : Int) := IntWalk.i64_in _ (by omega)
      have i1 : (N : Int) < (ALL.size : Int) := by omega
      have i2 : (N2 : Int) ≤ (ALL.size : Int) := by omega
      have i3 : (N : Int) ≤ (N2 : Int) := by omega
      rw [hN]
      have HN2 := hideIt hN2
      have HN := hideIt hN
      have HF := hideIt hF
      clear hbd hsucc hA hF hbs hN2 hN hMs
      obtain ⟨r0, r1, r2, r3, r4, r5, r6, r7⟩ := (H.box 0).st
      have hin := (H.box 0).inside
      go_upto_region 7 with fail
      refine wp_region_still_tail 7 (by kernel_rfl) (by kernel_rfl) ?_
      simp only [List.take_succ_cons, List.take_zero, List.drop_succ_cons, List.drop_zero]
      iterate 7 (refine wpStill_step (fun K hK => ?_); go_simp; refine hK _ ?_; clear hK K)
      refine wpStill_nil ?_
      change wpList _ _ _ _ _ wr.drew
      have H5 := H.drew
      clear H r0 r1 r2 r3 r4 r5 r6 r7 hin
      generalize wr.drew = W5 at *
      obtain ⟨r0, r1, r2, r3, r4, r5, r6, r7⟩ := (H5.box 0).st
      go_wp2_with (first
        | (go_at_call 67; refine (cQ _ (H5.box 1)).mono ?_; rintro e w6 ⟨rfl, b6⟩
           have H6 := H5.call b6
           obtain ⟨z0, z1, z2, z3, z4, z5, z6, z7, z8⟩ := (H6.box 0).eight
           obtain ⟨y0, y1, y2, y3, y4, y5, y6, y7⟩ := (H6.box 0).st
           clear r0 r1 r2 r3 r4 r5 r6 r7 H5))
      have H7 := H6.st8 (by omega) (by simp; omega) F
      clear z0 z1 z2 z3 z4 z5 z6 z7 z8 y0 y1 y2 y3 y4 y5 y6 y7 H6
      go_roundg (M - (j + 1))
      case measure => have := HG.out; omega
      case rel => exact ⟨j + 1, by omega, rfl, by have := HN.out; have := HN2.out; go_num, by rw [HF.out]; exact H7⟩
    · have e : j = M := by omega
      subst e
      have c1 : IntKind.i64.wrap ((N : Int) + 64) = (N : Int) + 64 := IntWalk.i64_in _ (by omega)
      have c2 : ¬ ((N : Int) + 64 ≤ (ALL.size : Int)) := by omega
      have c2d : decide ((N : Int) + 64 ≤ (ALL.size : Int)) = false := decide_eq_false c2
      rw [hN]
      have hDD := HD.out
      generalize runJ ALL st0 j = A at *
      have HDD := hideIt hDD
      clear HG hMs hDD HD HM
      go_upto_region 8 with fail
      clear c1 c2 c2d
      go_wp2
      go_loopg [7, 8] 8 (fun gk v i wr => ∃ k : Nat, k ≤ 8 ∧ gk = 8 - k ∧ i = .int .i64 k ∧ wr.ownsRow (n4 + 1) 5 1 v (4 * k) (u8s ((stI A).take (4 * k))) ∧ Has w [(n4, 87, A.cs), (gt, 86, arr kB)] wr)
      case atStart => exact ⟨0, by omega, rfl, rfl, World.ownsRow_nil _ _ _ _, H⟩
      case round =>
        clear H
        obtain ⟨k, hk, hgk, rfl, hown, H⟩ := hrel
        have HG := hideIt hgk
        clear hgk
        by_cases hlt : k < 8
        · have r1 := (H.box 0).read k
          rw [St.cs_at _ _ hlt] at r1
          have hin := (H.box 0).inside
          have HS := hideIt (stI_step A k hlt)
          generalize A.at k = x at *
          have b1 : (k : Int) < 8 := by omega
          have hx0 := iv_bd x
          obtain ⟨y0, h0⟩ : ∃ y, iv x / 16777216 = y := ⟨_, rfl⟩
          obtain ⟨q1, g1⟩ : ∃ y, iv x / 65536 = y := ⟨_, rfl⟩
          obtain ⟨q2, g2⟩ : ∃ y, iv x / 256 = y := ⟨_, rfl⟩
          obtain ⟨y1, h1⟩ : ∃ y, q1 % 256 = y := ⟨_, rfl⟩
          obtain ⟨y2, h2⟩ : ∃ y, q2 % 256 = y := ⟨_, rfl⟩
          obtain ⟨y3, h3⟩ : ∃ y, iv x % 256 = y := ⟨_, rfl⟩
          have hwb : wbI x = [y0, y1, y2, y3] := by
            obtain ⟨w0, w1, w2, w3⟩ := wb_eq x
            unfold wbI
            rw [w0, w1, w2, w3, g1, g2, h1, h2, h3, h0, show y0 % 256 = y0 by omega]
          have a0 : (iv x).tdiv 16777216 = y0 := by rw [Int.tdiv_eq_ediv_of_nonneg hx0.1]; exact h0
          have a1 : (iv x).tdiv 65536 = q1 := by rw [Int.tdiv_eq_ediv_of_nonneg hx0.1]; exact g1
          have a2 : (iv x).tdiv 256 = q2 := by rw [Int.tdiv_eq_ediv_of_nonneg hx0.1]; exact g2
          have a3 : (iv x).tmod 256 = y3 := by rw [Int.tmod_eq_emod_of_nonneg hx0.1]; exact h3
          have a4 : q1.tmod 256 = y1 := by rw [Int.tmod_eq_emod_of_nonneg (by omega)]; exact h1
          have a5 : q2.tmod 256 = y2 := by rw [Int.tmod_eq_emod_of_nonneg (by omega)]; exact h2
          have v0 : IntKind.u32.wrap y0 = y0 := by rw [IntKind.wrap_u32']; omega
          have v1 : IntKind.u32.wrap q1 = q1 := by rw [IntKind.wrap_u32']; omega
          have v2 : IntKind.u32.wrap q2 = q2 := by rw [IntKind.wrap_u32']; omega
          have v3 : IntKind.u32.wrap y1 = y1 := by rw [IntKind.wrap_u32']; omega
          have v4 : IntKind.u32.wrap y2 = y2 := by rw [IntKind.wrap_u32']; omega
          have v5 : IntKind.u32.wrap y3 = y3 := by rw [IntKind.wrap_u32']; omega
          have u0 : y0 % 256 = y0 := by omega
          have u1 : y1 % 256 = y1 := by omega
          have u2 : y2 % 256 = y2 := by omega
          have u3 : y3 % 256 = y3 := by omega
          have ex : (b8s [y0, y1, y2, y3]).size = 4 := rfl
          have hgs : n4 + 1 ≤ wr.heap.size := hin
          have HW := hideIt hwb
          clear h0 g1 g2 h1 h2 h3 hwb hx0
          go_wp2_with (first
            | (at_builtin; refine wp_append_new rfl _ _ 66 rfl (n4 + 1) 5 i0 (.int .u8 0) 1 Tryd.underlying66 hi hzi0 hzi1 hzi2 rfl _ _ _ rfl hown (b8s [y0, y1, y2, y3]) rfl (by rw [u8s_b8s]; exact u8s_one _) (by rw [ex]; omega) (by omega) hgs ?_))
          intro vv w3 hown2 hb2 hk2
          have H3 : Has w [(n4, 87, A.cs), (gt, 86, arr kB)] w3 := by
            refine ⟨fun y hy => hk2 _ _ _ (H.1 y hy) ?_, H.2.trans (hb2 w.heap.size (by omega))⟩
            simp only [List.mem_cons, List.not_mem_nil, or_false] at hy
            rcases hy with rfl | rfl
            · show n4 < n4 + 1; omega
            · show gt < n4 + 1; omega
          rw [u8s_b8s, ← u8s_app, ← HW.out, ← HS.out] at hown2
          clear hk2 hb2 hown H r1 hin hgs a0 a1 a2 a3 a4 a5 v0 v1 v2 v3 v4 v5 u0 u1 u2 u3
          go_wp2
          go_roundg (8 - (k + 1))
          case measure => have := HG.out; omega
          case rel => exact ⟨k + 1, by omega, rfl, by go_num, hown2, H3⟩
        · have e : k = 8 := by omega
          subst e
          rw [show (stI A).take (4 * 8) = stI A from rfl] at hown
          have hcv := conv_row hown (by omega)
          rw [← HDD.out] at hcv
          have L := H.below
          clear HG hown H
          go_wp2
          go_ret
          exact ⟨rfl, L⟩
end Go.Proofs.YtkmnfogcocppjaaDoor
