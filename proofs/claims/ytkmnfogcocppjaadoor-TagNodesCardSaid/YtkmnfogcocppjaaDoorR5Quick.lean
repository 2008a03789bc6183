/-
  The document's quick way of a block, walked: it is the plain one.
-/
import Derived.Test.YtkmnfogcocppjaaDoorR5Table
import Derived.StillTail
namespace Go.Proofs.YtkmnfogcocppjaaDoor
set_option linter.unusedVariables false
set_option linter.unusedSimpArgs false
set_option maxRecDepth 10000
open Go.RowKit

theorem qstr_index (s : ByteArray) (n : Nat) (h : n < s.size) (w : World) : (Instr.index 9 (.string s) (.int .i64 n)).run Tryd.prog w = .ok (.int .u8 (s[n].toNat : Int)) w := by
  rw [run_index_string w _ _ _ _ Tryd.underlying9, dif_pos ⟨by omega, by omega⟩]
  rfl
/-- Four bytes put together by '|'. -/
theorem or_24 (a b : Nat) (h : b < 16777216) : a * 16777216 ||| b = a * 16777216 + b := by
  have := Nat.two_pow_add_eq_or_of_lt (i := 24) h a
  rw [Nat.mul_comm a]; exact this.symm
theorem or_16 (a b : Nat) (h : b < 65536) : a * 65536 ||| b = a * 65536 + b := by
  have := Nat.two_pow_add_eq_or_of_lt (i := 16) h a
  rw [Nat.mul_comm a]; exact this.symm
theorem or_8 (a b : Nat) (h : b < 256) : a * 256 ||| b = a * 256 + b := by
  have := Nat.two_pow_add_eq_or_of_lt (i := 8) h a
  rw [Nat.mul_comm a]; exact this.symm
set_option maxRecDepth 100000 in
theorem or_be4 (p q r s : UInt8) : bits .or .u32 (bits .or .u32 (bits .or .u32 ((p.toNat : Int) * 16777216) ((q.toNat : Int) * 65536)) ((r.toNat : Int) * 256)) (s.toNat : Int) = iv (be4 p q r s) := by
  have hp := p.toNat_lt; have hq := q.toNat_lt; have hr := r.toNat_lt; have hs := s.toNat_lt
  rw [← be4_eq]
  simp only [beI, List.foldl_cons, List.foldl_nil]
  generalize p.toNat = a at *
  generalize q.toNat = b at *
  generalize r.toNat = c at *
  generalize s.toNat = d at *
  have e1 := u32_or_nat (a * 16777216) (b * 65536) (by omega) (by omega)
  rw [or_24 a (b * 65536) (by omega), show a * 16777216 + b * 65536 = (a * 256 + b) * 65536 by omega] at e1
  have e2 := u32_or_nat ((a * 256 + b) * 65536) (c * 256) (by omega) (by omega)
  rw [or_16 _ (c * 256) (by omega), show (a * 256 + b) * 65536 + c * 256 = ((a * 256 + b) * 256 + c) * 256 by omega] at e2
  have e3 := u32_or_nat (((a * 256 + b) * 256 + c) * 256) d (by omega) (by omega)
  rw [or_8 _ d (by omega)] at e3
  have g1 : ((a * 16777216 : Nat) : Int) = (a : Int) * 16777216 := Int.natCast_mul a 16777216
  have g2 : ((b * 65536 : Nat) : Int) = (b : Int) * 65536 := Int.natCast_mul b 65536
  have g3 : ((c * 256 : Nat) : Int) = (c : Int) * 256 := Int.natCast_mul c 256
  rw [g1, g2] at e1
  rw [g3] at e2
  rw [e1, e2, e3]
  omega

set_option maxRecDepth 100000 in
set_option maxHeartbeats 4000000 in
theorem quick_any (s : St) (b : ByteArray) (hb : b.size = 64) (gt : Nat) (w : World) (hK : Box w gt 86 (arr kB)) :
    Calls Tryd.prog 67 #[.agg #[.int .u32 (iv s.a), .int .u32 (iv s.b), .int .u32 (iv s.c), .int .u32 (iv s.d), .int .u32 (iv s.e), .int .u32 (iv s.f), .int .u32 (iv s.g), .int .u32 (iv s.h)], .string b, .slice (some ⟨gt, 0, none⟩) 64 64] w (Tells (.agg #[.int .u32 (iv (nextS kB (words64 b.data.toList) s).a), .int .u32 (iv (nextS kB (words64 b.data.toList) s).b), .int .u32 (iv (nextS kB (words64 b.data.toList) s).c), .int .u32 (iv (nextS kB (words64 b.data.toList) s).d), .int .u32 (iv (nextS kB (words64 b.data.toList) s).e), .int .u32 (iv (nextS kB (words64 b.data.toList) s).f), .int .u32 (iv (nextS kB (words64 b.data.toList) s).g), .int .u32 (iv (nextS kB (words64 b.data.toList) s).h)]) w.heap.size w) := by
  have H0 : Has w [(w.heap.size + 1 + 1, 102, arr z64), (w.heap.size + 1, 87, St.cs ⟨0, 0, 0, 0, 0, 0, 0, 0⟩), (w.heap.size, 87, s.cs), (gt, 86, arr kB)]
      (((w.alloc (.cells s.cs 87)).alloc (.cells (St.cs ⟨0, 0, 0, 0, 0, 0, 0, 0⟩) 87)).alloc (.cells (arr z64) 102)) :=
    (((((Has.start w).with hK).add 87 s.cs).addAt 87 (St.cs ⟨0, 0, 0, 0, 0, 0, 0, 0⟩) (by simp)).addAt 102 (arr z64) (by simp))
  go_enter Tryd.func67, Tryd.ntmps67
  go_upto_region 2 with fail
  have hbl : b.data.toList.length = 64 := by simpa using hb
  generalize hW : World.alloc (World.alloc (World.alloc _ _) _) _ = W
  have H : Has w [(w.heap.size + 1 + 1, 102, arr z64), (w.heap.size + 1, 87, St.cs ⟨0, 0, 0, 0, 0, 0, 0, 0⟩), (w.heap.size, 87, s.cs), (gt, 86, arr kB)] W := by rw [← hW]; exact H0
  clear H0 hW
  have hgt : gt < w.heap.size := hK.inside
  have HL := hideIt hbl
  obtain ⟨n7, hn7⟩ : ∃ n7, w.heap.size + 1 + 1 = n7 := ⟨_, rfl⟩
  rw [hn7] at H ⊢
  have HN7 := hideIt hn7
  have hn7w : w.heap.size ≤ n7 := by omega
  clear hbl hn7
  go_wp2
  go_loopg [8] 16 (fun gk i wr => ∃ (k : Nat) (l : List B32), k ≤ 16 ∧ gk = 16 - k ∧ i = .int .i64 k ∧ l.length = 64 ∧ l.take k = (own16 b.data.toList).take k ∧ Has w [(n7, 102, arr l), (w.heap.size + 1, 87, St.cs ⟨0, 0, 0, 0, 0, 0, 0, 0⟩), (w.heap.size, 87, s.cs), (gt, 86, arr kB)] wr)
  case atStart => exact ⟨0, z64, by omega, rfl, rfl, z64_len, rfl, H⟩
  case round =>
    clear H
    obtain ⟨k, l, hk, hgk, rfl, hll, hlt0, H⟩ := hrel
    have HG := hideIt hgk
    clear hgk
    by_cases hlt : k < 16
    · have hw := be_take b.data.toList (4 * k) (by rw [HL.out]; omega)
      have hs16 := own16_step b.data.toList k hlt
      obtain ⟨N0, hN0⟩ : ∃ N, 4 * k = N := ⟨_, rfl⟩
      obtain ⟨N1, hN1⟩ : ∃ N, 4 * k + 1 = N := ⟨_, rfl⟩
      obtain ⟨N2, hN2⟩ : ∃ N, 4 * k + 2 = N := ⟨_, rfl⟩
      obtain ⟨N3, hN3⟩ : ∃ N, 4 * k + 3 = N := ⟨_, rfl⟩
      have l0 : N0 < b.size := by omega
      have l1 : N1 < b.size := by omega
      have l2 : N2 < b.size := by omega
      have l3 : N3 < b.size := by omega
      have g : ∀ N (h : N < b.size), b.data.toList.getD N 0 = b[N] := fun N h => by
        rw [List.getD_eq_getElem?_getD, List.getElem?_eq_getElem (by rw [HL.out]; omega)]; rfl
      rw [hN1, hN2, hN3, hN0, g N0 l0, g N1 l1, g N2 l2, g N3 l3] at hs16
      have j0 := fun u => qstr_index b N0 l0 u
      have j1 := fun u => qstr_index b N1 l1 u
      have j2 := fun u => qstr_index b N2 l2 u
      have j3 := fun u => qstr_index b N3 l3 u
      have hor := or_be4 b[N0] b[N1] b[N2] b[N3]
      generalize be4 b[N0] b[N1] b[N2] b[N3] = x at *
      generalize hc0 : b[N0] = c0 at *
      generalize hc1 : b[N1] = c1 at *
      generalize hc2 : b[N2] = c2 at *
      generalize hc3 : b[N3] = c3 at *
      have x0 : IntKind.i64.wrap (4 * (k : Int)) = (N0 : Int) := by rw [IntWalk.i64_in _ (by omega)]; omega
      have x00 : 4 * (k : Int) = (N0 : Int) := by omega
      have x01 : IntKind.i64.wrap (N0 : Int) = (N0 : Int) := IntWalk.i64_in _ (by omega)
      have x1 : IntKind.i64.wrap ((N0 : Int) + 1) = (N1 : Int) := by rw [IntWalk.i64_in _ (by omega)]; omega
      have x2 : IntKind.i64.wrap ((N0 : Int) + 2) = (N2 : Int) := by rw [IntWalk.i64_in _ (by omega)]; omega
      have x3 : IntKind.i64.wrap ((N0 : Int) + 3) = (N3 : Int) := by rw [IntWalk.i64_in _ (by omega)]; omega
      have b0 := c0.toNat_lt
      have b1 := c1.toNat_lt
      have b2 := c2.toNat_lt
      have b3 := c3.toNat_lt
      have y0 : IntKind.u32.wrap (c0.toNat : Int) = (c0.toNat : Int) := by rw [IntKind.wrap_u32']; omega
      have z0 : IntKind.u32.wrap ((c0.toNat : Int) * 16777216) = (c0.toNat : Int) * 16777216 := by rw [IntKind.wrap_u32']; omega
      have y1 : IntKind.u32.wrap (c1.toNat : Int) = (c1.toNat : Int) := by rw [IntKind.wrap_u32']; omega
      have z1 : IntKind.u32.wrap ((c1.toNat : Int) * 65536) = (c1.toNat : Int) * 65536 := by rw [IntKind.wrap_u32']; omega
      have y2 : IntKind.u32.wrap (c2.toNat : Int) = (c2.toNat : Int) := by rw [IntKind.wrap_u32']; omega
      have z2 : IntKind.u32.wrap ((c2.toNat : Int) * 256) = (c2.toNat : Int) * 256 := by rw [IntKind.wrap_u32']; omega
      have y3 : IntKind.u32.wrap (c3.toNat : Int) = (c3.toNat : Int) := by rw [IntKind.wrap_u32']; omega
      have hb0 := H.box 0
      have r0 := hb0.read k
      rw [arr_at l k (by omega)] at r0
      have f0 := hb0.free k
      have hin := hb0.inside
      have k16 : (k : Int) < 64 := by omega
      have HS16 := hideIt hs16
      have HT0 := hideIt hlt0
      have HLL := hideIt hll
      generalize l.getD k 0 = x9 at *
      clear hw hs16 hlt0 hll hb0 hN0 hN1 hN2 hN3 g l0 l1 l2 l3 hc0 hc1 hc2 hc3 b0 b1 b2 b3
      go_wp2
      refine wp_region_still_tail 31 (by kernel_rfl) (by kernel_rfl) ?_
      simp only [List.take_succ_cons, List.take_zero, List.drop_succ_cons, List.drop_zero]
      iterate 31 (refine wpStill_step (fun K hK => ?_); go_simp; refine hK _ ?_; clear hK K)
      refine wpStill_nil ?_
      change wpList _ _ _ _ _ wr.drew
      have H2 := H.drew
      have H3 := H2.wrote (by omega) (by have := HN7.out; simp; omega) k (.int .u32 (iv x))
      rw [arr_set] at H3
      have r1 : wr.drew.cell? ⟨n7, k, none⟩ = some (.int .u32 (iv x9)) := r0
      have f1 : wr.drew.frozen? ⟨n7, k, none⟩ = false := f0
      have hin1 : n7 < wr.drew.heap.size := hin
      clear H H2 r0 f0 hin hor
      generalize wr.drew = w8 at *
      go_wp2
      go_roundg (16 - (k + 1))
      case measure => have := HG.out; omega
      case rel => exact ⟨k + 1, l.set k x, by omega, rfl, by go_num, by rw [List.length_set]; exact HLL.out, by rw [take_set _ _ _ (by rw [HLL.out]; omega), HT0.out, HS16.out], H3⟩
    · have e : k = 16 := by omega
      subst e
      rw [List.take_of_length_le (Nat.le_of_eq (own16_len _))] at hlt0
      have hw0 : words64 b.data.toList = grow 48 (own16 b.data.toList) := rfl
      have ho : (own16 b.data.toList).length = 16 := own16_len _
      have HO := hideIt ho
      have HW0 := hideIt hw0
      clear hw0 HG
      generalize own16 b.data.toList = o at *
      go_wp2
      go_loopg [9] 48 (fun gk i wr => ∃ (k : Nat) (l : List B32), 16 ≤ k ∧ k ≤ 64 ∧ gk = 64 - k ∧ i = .int .i64 k ∧ l.length = 64 ∧ l.take k = grow (k - 16) o ∧ Has w [(n7, 102, arr l), (w.heap.size + 1, 87, St.cs ⟨0, 0, 0, 0, 0, 0, 0, 0⟩), (w.heap.size, 87, s.cs), (gt, 86, arr kB)] wr)
      case atStart => exact ⟨16, l, by omega, by omega, by omega, rfl, hll, hlt0, H⟩
      case round =>
        clear hll hlt0 H ho
        obtain ⟨k, l, hk0, hk, hgk, rfl, hll, hlt0, H⟩ := hrel
        have HG := hideIt hgk
        clear hgk
        by_cases hlt : k < 64
        · have hlen : (grow (k - 16) o).length = k := by rw [grow_len, HO.out]; omega
          have hst : grow (k + 1 - 16) o = grow (k - 16) o ++ [nextW (grow (k - 16) o)] := by rw [show k + 1 - 16 = (k - 16) + 1 by omega, grow_snoc]
          have hn : nextW (grow (k - 16) o) = l.getD (k - 16) 0 + sig0 (l.getD (k - 15) 0) + l.getD (k - 7) 0 + sig1 (l.getD (k - 2) 0) := by
            unfold nextW
            rw [hlen, take_getD l _ k (k - 16) hlt0 (by omega), take_getD l _ k (k - 15) hlt0 (by omega), take_getD l _ k (k - 7) hlt0 (by omega), take_getD l _ k (k - 2) hlt0 (by omega)]
          have HS := hideIt hst
          have HNX := hideIt hn
          have hbx := H.box 0
          have r1 := hbx.read (k - 16)
          rw [arr_at l (k - 16) (by omega)] at r1
          have r2 := hbx.read (k - 15)
          rw [arr_at l (k - 15) (by omega)] at r2
          have r3 := hbx.read (k - 7)
          rw [arr_at l (k - 7) (by omega)] at r3
          have r4 := hbx.read (k - 2)
          rw [arr_at l (k - 2) (by omega)] at r4
          have r5 := hbx.read k
          rw [arr_at l k (by omega)] at r5
          have f5 := hbx.free k
          have hin := hbx.inside
          have HT0 := hideIt hlt0
          have HLL := hideIt hll
          generalize l.getD (k - 16) 0 = x1 at *
          generalize l.getD (k - 15) 0 = x2 at *
          generalize l.getD (k - 7) 0 = x3 at *
          generalize l.getD (k - 2) 0 = x4 at *
          generalize l.getD k 0 = x9 at *
          have C1 := hideIt (fun u : World => (right_lit x2 7 7 rfl (by decide) (by decide) u).mono fun e w'' h => (⟨h.1, h.2.symm⟩ : _ ∧ w'' = u))
          have C2 := hideIt (fun u : World => (right_lit x2 18 18 rfl (by decide) (by decide) u).mono fun e w'' h => (⟨h.1, h.2.symm⟩ : _ ∧ w'' = u))
          have C3 := hideIt (fun u : World => (right_lit x4 17 17 rfl (by decide) (by decide) u).mono fun e w'' h => (⟨h.1, h.2.symm⟩ : _ ∧ w'' = u))
          have C4 := hideIt (fun u : World => (right_lit x4 19 19 rfl (by decide) (by decide) u).mono fun e w'' h => (⟨h.1, h.2.symm⟩ : _ ∧ w'' = u))
          obtain ⟨K, hK'⟩ : ∃ K : Int, (k : Int) = K := ⟨_, rfl⟩
          have K0 : 0 ≤ K := by omega
          have K1 : K < 64 := by omega
          have K2 : K.toNat = k := by omega
          rw [hK']
          obtain ⟨i1, f1⟩ : ∃ i, K - 16 = i := ⟨_, rfl⟩
          obtain ⟨j1, g1⟩ : ∃ j, k - 16 = j := ⟨_, rfl⟩
          have w1 : IntKind.i64.wrap (K - 16) = i1 := by rw [f1]; exact IntWalk.i64_in _ (by omega)
          have s1 : 0 ≤ i1 := by omega
          have t1 : i1 < 64 := by omega
          have n1 : i1.toNat = j1 := by omega
          rw [g1] at r1
          obtain ⟨i2, f2⟩ : ∃ i, K - 15 = i := ⟨_, rfl⟩
          obtain ⟨j2, g2⟩ : ∃ j, k - 15 = j := ⟨_, rfl⟩
          have w2 : IntKind.i64.wrap (K - 15) = i2 := by rw [f2]; exact IntWalk.i64_in _ (by omega)
          have s2 : 0 ≤ i2 := by omega
          have t2 : i2 < 64 := by omega
          have n2 : i2.toNat = j2 := by omega
          rw [g2] at r2
          obtain ⟨i3, f3⟩ : ∃ i, K - 7 = i := ⟨_, rfl⟩
          obtain ⟨j3, g3⟩ : ∃ j, k - 7 = j := ⟨_, rfl⟩
          have w3 : IntKind.i64.wrap (K - 7) = i3 := by rw [f3]; exact IntWalk.i64_in _ (by omega)
          have s3 : 0 ≤ i3 := by omega
          have t3 : i3 < 64 := by omega
          have n3 : i3.toNat = j3 := by omega
          rw [g3] at r3
          obtain ⟨i4, f4⟩ : ∃ i, K - 2 = i := ⟨_, rfl⟩
          obtain ⟨j4, g4⟩ : ∃ j, k - 2 = j := ⟨_, rfl⟩
          have w4 : IntKind.i64.wrap (K - 2) = i4 := by rw [f4]; exact IntWalk.i64_in _ (by omega)
          have s4 : 0 ≤ i4 := by omega
          have t4 : i4 < 64 := by omega
          have n4 : i4.toNat = j4 := by omega
          rw [g4] at r4
          have HK0 := hideIt hk0
          have HKK := hideIt hK'
          clear hk0 hK' g1 g2 g3 g4 f1 f2 f3 f4 hlen hst hn hlt0 hll hbx
          go_upto_region 9 with fail
          go_quiet (fail)
          have H2 := H.drewN nq
          have r1' : (wr.drewN nq).cell? ⟨n7, j1, none⟩ = some (.int .u32 (iv x1)) := r1
          have r3' : (wr.drewN nq).cell? ⟨n7, j3, none⟩ = some (.int .u32 (iv x3)) := r3
          have r5' : (wr.drewN nq).cell? ⟨n7, k, none⟩ = some (.int .u32 (iv x9)) := r5
          have f5' : (wr.drewN nq).frozen? ⟨n7, k, none⟩ = false := f5
          have hin' : n7 < (wr.drewN nq).heap.size := hin
          clear r1 r2 r3 r4 r5 f5 hin H
          generalize World.drewN _ _ = W2 at *
          go_upto_region 10 with fail
          refine wp_region_still_tail 29 (by kernel_rfl) (by kernel_rfl) ?_
          simp only [List.take_succ_cons, List.take_zero, List.drop_succ_cons, List.drop_zero]
          iterate 6 (refine wpStill_step (fun K hK => ?_); go_simp; refine hK _ ?_; clear hK K)
          (refine wpStill_step (fun K hK => ?_); go_simp; refine ⟨_, C1.out _, hK _ ?_⟩; clear hK K)
          (refine wpStill_step (fun K hK => ?_); go_simp; refine hK _ ?_; clear hK K)
          (refine wpStill_step (fun K hK => ?_); go_simp; refine ⟨_, C2.out _, hK _ ?_⟩; clear hK K)
          iterate 11 (refine wpStill_step (fun K hK => ?_); go_simp; refine hK _ ?_; clear hK K)
          (refine wpStill_step (fun K hK => ?_); go_simp; refine ⟨_, C3.out _, hK _ ?_⟩; clear hK K)
          (refine wpStill_step (fun K hK => ?_); go_simp; refine hK _ ?_; clear hK K)
          (refine wpStill_step (fun K hK => ?_); go_simp; refine ⟨_, C4.out _, hK _ ?_⟩; clear hK K)
          iterate 6 (refine wpStill_step (fun K hK => ?_); go_simp; refine hK _ ?_; clear hK K)
          refine wpStill_nil ?_
          change wpList _ _ _ _ _ W2.drew
          have e1 : bits .xor .u32 (bits .xor .u32 (iv (rot x2 7)) (iv (rot x2 18))) (iv x2 / (8 : Int)) = iv (sig0 x2) := by rw [shr3, iv_xor, iv_xor]; rfl
          have e2 : bits .xor .u32 (bits .xor .u32 (iv (rot x4 17)) (iv (rot x4 19))) (iv x4 / (1024 : Int)) = iv (sig1 x4) := by rw [shr10, iv_xor, iv_xor]; rfl
          simp only [e1, e2, iv_add, iv_addm]
          have H3 := H2.drew
          have H4 := H3.wrote (by omega) (by have := HN7.out; simp; omega) k (.int .u32 (iv (x1 + sig0 x2 + x3 + sig1 x4)))
          rw [arr_set, ← HNX.out] at H4
          have r5 : W2.drew.cell? ⟨n7, k, none⟩ = some (.int .u32 (iv x9)) := r5'
          have f5 : W2.drew.frozen? ⟨n7, k, none⟩ = false := f5'
          have hin : n7 < W2.drew.heap.size := hin'
          rw [HNX.out] at H4
          clear H2 H3 r5' f5' hin' r1' r3' e1 e2 w1 w2 w3 w4 s1 s2 s3 s4 t1 t2 t3 t4 n1 n2 n3 n4 C1 C2 C3 C4
          generalize W2.drew = w8 at *
          rw [← HKK.out] at K0 K1 ⊢
          clear K2
          go_wp2
          go_roundg (64 - (k + 1))
          case measure => have := HG.out; omega
          case rel => exact ⟨k + 1, l.set k (x1 + sig0 x2 + x3 + sig1 x4), by have := HK0.out; omega, by omega, rfl, by go_num, by rw [List.length_set]; exact HLL.out, by rw [take_set _ _ _ (by rw [HLL.out]; omega), HT0.out, HS.out, HNX.out], H4⟩
        · have e : k = 64 := by omega
          subst e
          clear HG
          rw [List.take_of_length_le (Nat.le_of_eq hll)] at hlt0
          have hl64 : l = words64 b.data.toList := by rw [HW0.out]; exact hlt0
          have HL64 := hideIt hl64
          clear hl64 hlt0
          obtain ⟨r0, r1, r2, r3, r4, r5, r6, r7⟩ := (H.box 2).st
          have hin0 := (H.box 0).inside
          have H2 := H.add 87 s.cs
          obtain ⟨n3, hn3⟩ : ∃ n3, wr.heap.size = n3 := ⟨_, rfl⟩
          rw [hn3] at H2
          go_upto_region 12 with fail
          change Code.wp _ _ _ _ (wr.alloc (.cells s.cs 87))
          rw [hn3] at hin0
          clear H r0 r1 r2 r3 r4 r5 r6 r7 hn3
          generalize wr.alloc (.cells s.cs 87) = W5 at *
          go_wp2
          go_loopg [13] 64 (fun gk i wr => ∃ k : Nat, k ≤ 64 ∧ gk = 64 - k ∧ i = .int .i64 k ∧ Has w [(n3, 87, (rN kB l s k).cs), (n7, 102, arr l), (w.heap.size + 1, 87, St.cs ⟨0, 0, 0, 0, 0, 0, 0, 0⟩), (w.heap.size, 87, s.cs), (gt, 86, arr kB)] wr)
          case atStart => exact ⟨0, by omega, rfl, rfl, H2⟩
          case round =>
            clear H2
            obtain ⟨k, hk, hgk, rfl, H⟩ := hrel
            have HG := hideIt hgk
            clear hgk
            by_cases hlt : k < 64
            · have HS := hideIt (rN_succ kB l s k)
              have rw_ := (H.box 1).read k
              rw [arr_at l k (by omega)] at rw_
              have rk_ := (H.box 4).read k
              rw [arr_at kB k (by rw [show kB.length = 64 from rfl]; omega)] at rk_
              obtain ⟨r0, r1, r2, r3, r4, r5, r6, r7⟩ := (H.box 0).st
              have hin := (H.box 0).inside
              have hin1 := (H.box 1).inside
              have hin4 := (H.box 4).inside
              have C1 := hideIt (fun u : World => (right_lit (rN kB l s k).e 6 6 rfl (by decide) (by decide) u).mono fun e w'' h => (⟨h.1, h.2.symm⟩ : _ ∧ w'' = u))
              have C2 := hideIt (fun u : World => (right_lit (rN kB l s k).e 11 11 rfl (by decide) (by decide) u).mono fun e w'' h => (⟨h.1, h.2.symm⟩ : _ ∧ w'' = u))
              have C3 := hideIt (fun u : World => (right_lit (rN kB l s k).e 25 25 rfl (by decide) (by decide) u).mono fun e w'' h => (⟨h.1, h.2.symm⟩ : _ ∧ w'' = u))
              have c4 := fun u => right_lit (rN kB l s k).a 2 2 rfl (by decide) (by decide) u
              have c5 := fun u => right_lit (rN kB l s k).a 13 13 rfl (by decide) (by decide) u
              have c6 := fun u => right_lit (rN kB l s k).a 22 22 rfl (by decide) (by decide) u
              generalize l.getD k 0 = x at *
              generalize kB.getD k 0 = kc at *
              generalize rN kB l s k = sk at *
              have b1 : (k : Int) < 64 := by omega
              have HC4 := hideIt c4
              have HC5 := hideIt c5
              have HC6 := hideIt c6
              clear c4 c5 c6
              go_upto_region 15 with fail
              go_quiet (fail)
              have q4 : (wr.drewN nq).cell? ⟨n3, 4, none⟩ = some (.int .u32 (iv sk.e)) := r4
              have q5 : (wr.drewN nq).cell? ⟨n3, 5, none⟩ = some (.int .u32 (iv sk.f)) := r5
              have q6 : (wr.drewN nq).cell? ⟨n3, 6, none⟩ = some (.int .u32 (iv sk.g)) := r6
              have q7 : (wr.drewN nq).cell? ⟨n3, 7, none⟩ = some (.int .u32 (iv sk.h)) := r7
              have qx : (wr.drewN nq).cell? ⟨n7, k, none⟩ = some (.int .u32 (iv x)) := rw_
              have qk : (wr.drewN nq).cell? ⟨gt, k, none⟩ = some (.int .u32 (iv kc)) := rk_
              have i3 : n3 < (wr.drewN nq).heap.size := hin
              have i7 : n7 < (wr.drewN nq).heap.size := hin1
              have ig : gt < (wr.drewN nq).heap.size := hin4
              have H2 := H.drewN nq
              clear H r0 r1 r2 r3 r4 r5 r6 r7 rw_ rk_ hin hin1 hin4
              generalize World.drewN _ _ = W2 at *
              go_upto_region 16 with fail
              go_quiet (fail)
              have p7 : (W2.drewN nq).cell? ⟨n3, 7, none⟩ = some (.int .u32 (iv sk.h)) := q7
              have px : (W2.drewN nq).cell? ⟨n7, k, none⟩ = some (.int .u32 (iv x)) := qx
              have pk : (W2.drewN nq).cell? ⟨gt, k, none⟩ = some (.int .u32 (iv kc)) := qk
              have j3 : n3 < (W2.drewN nq).heap.size := i3
              have j7 : n7 < (W2.drewN nq).heap.size := i7
              have jg : gt < (W2.drewN nq).heap.size := ig
              have H3 := H2.drewN nq
              clear H2 q4 q5 q6 q7 qx qk i3 i7 ig
              generalize World.drewN _ _ = W3 at *
              go_upto_region 17 with fail
              refine wp_region_still_tail 29 (by kernel_rfl) (by kernel_rfl) ?_
              simp only [List.take_succ_cons, List.take_zero, List.drop_succ_cons, List.drop_zero]
              iterate 3 (refine wpStill_step (fun K hK => ?_); go_simp; refine hK _ ?_; clear hK K)
              (refine wpStill_step (fun K hK => ?_); go_simp; refine ⟨_, C1.out _, hK _ ?_⟩; clear hK K)
              (refine wpStill_step (fun K hK => ?_); go_simp; refine hK _ ?_; clear hK K)
              (refine wpStill_step (fun K hK => ?_); go_simp; refine ⟨_, C2.out _, hK _ ?_⟩; clear hK K)
              iterate 2 (refine wpStill_step (fun K hK => ?_); go_simp; refine hK _ ?_; clear hK K)
              (refine wpStill_step (fun K hK => ?_); go_simp; refine ⟨_, C3.out _, hK _ ?_⟩; clear hK K)
              iterate 20 (refine wpStill_step (fun K hK => ?_); go_simp; refine hK _ ?_; clear hK K)
              refine wpStill_nil ?_
              change wpList _ _ _ _ _ W3.drew
              have hnot : ∀ y : B32, IntKind.u32.wrap (4294967295 - iv y) = iv (~~~y) := fun y => by rw [iv_not, wrap_iv]
              have hnot2 : ∀ y : B32, (4294967295 - iv y) % 4294967296 = iv (~~~y) := fun y => by rw [iv_not, iv_mod]
              simp only [hnot, hnot2, iv_xor, iv_and, iv_add, iv_addm]
              clear hnot hnot2 C1 C2 C3
              rw [ch_xor]
              obtain ⟨T, hT⟩ : ∃ T, sk.h + (rot sk.e 6 ^^^ rot sk.e 11 ^^^ rot sk.e 25) + chB sk.e sk.f sk.g + kc + x = T := ⟨_, rfl⟩
              rw [hT]
              have H4 := H3.drew
              clear H3 p7 px pk j3 j7 jg
              generalize World.drew W3 = W4 at *
              go_upto_region 18 with fail
              have c4 := HC4.out
              have c5 := HC5.out
              have c6 := HC6.out
              go_upto_region 19 with (first
                | (go_at_call_of 75 (Value.int .u64 2); refine (c4 _).mono ?_; rintro e w' ⟨rfl, rfl⟩)
                | (go_at_call_of 75 (Value.int .u64 13); refine (c5 _).mono ?_; rintro e w' ⟨rfl, rfl⟩)
                | (go_at_call_of 75 (Value.int .u64 22); refine (c6 _).mono ?_; rintro e w' ⟨rfl, rfl⟩))
              clear c4 c5 c6 HC4 HC5 HC6
              simp only [iv_xor, iv_and, iv_add, iv_addm]
              rw [maj_xor]
              obtain ⟨U, hU⟩ : ∃ U, (rot sk.a 2 ^^^ rot sk.a 13 ^^^ rot sk.a 22) + majB sk.a sk.b sk.c = U := ⟨_, rfl⟩
              rw [hU]
              have hnew : turned sk kc x = ⟨T + U, sk.a, sk.b, sk.c, sk.d + T, sk.e, sk.f, sk.g⟩ := by
                have e0 : sk.h + (sum1 sk.e + chB sk.e sk.f sk.g) + kc + x = T := by rw [← hT]; unfold sum1; grind
                have e1 : sum0 sk.a + majB sk.a sk.b sk.c = U := by rw [← hU]; rfl
                simp only [turned, e0, e1]
              have HNEW := hideIt hnew
              clear hnew hT hU
              obtain ⟨z0, z1, z2, z3, z4, z5, z6, z7, z8⟩ := (H4.box 0).eight
              obtain ⟨y0, y1, y2, y3, y4, y5, y6, y7⟩ := (H4.box 0).st
              have e1 := iv_addm
              have e2 := iv_add
              go_wp2
              have H5 := H4.st8 (by omega) (by have := HN7.out; simp; omega) ⟨T + U, sk.a, sk.b, sk.c, sk.d + T, sk.e, sk.f, sk.g⟩
              rw [← HNEW.out, ← HS.out] at H5
              clear e1 e2 z0 z1 z2 z3 z4 z5 z6 z7 z8 y0 y1 y2 y3 y4 y5 y6 y7 H4
              go_roundg (64 - (k + 1))
              case measure => have := HG.out; omega
              case rel => exact ⟨k + 1, by omega, rfl, by go_num, by rw [HS.out, HNEW.out] at H5 ⊢; exact H5⟩
            · have e : k = 64 := by omega
              subst e
              clear HG
              have hA : nextS kB l s = (rN kB l s 64).plus s := rfl
              generalize rN kB l s 64 = A at *
              have HA := hideIt hA
              clear hA
              go_wp2
              go_loopg [22] 8 (fun gk i wr => ∃ i' : Nat, i' ≤ 8 ∧ gk = 8 - i' ∧ i = .int .i64 i' ∧ Has w [(n3, 87, (plusN A s i').cs), (n7, 102, arr l), (w.heap.size + 1, 87, St.cs ⟨0, 0, 0, 0, 0, 0, 0, 0⟩), (w.heap.size, 87, s.cs), (gt, 86, arr kB)] wr)
              case atStart => exact ⟨0, by omega, rfl, rfl, H⟩
              case round =>
                clear H
                obtain ⟨i, hi, hgi, rfl, H⟩ := hrel
                have HI := hideIt hgi
                clear hgi
                by_cases hlt : i < 8
                · have r1 := (H.box 0).read i
                  rw [St.cs_at _ _ hlt, plusN_at _ _ _ hlt] at r1
                  have r2 := (H.box 3).read i
                  rw [St.cs_at _ _ hlt] at r2
                  have hf := (H.box 0).free i
                  have hin := (H.box 0).inside
                  have HP := hideIt (plusN_succ A s i)
                  have hput := St.cs_put (plusN A s i) i (A.at i + s.at i) hlt
                  generalize A.at i = x at *
                  generalize s.at i = y at *
                  have b1 : (i : Int) < 8 := by omega
                  go_wp2
                  refine wp_region_still_tail 9 (by kernel_rfl) (by kernel_rfl) ?_
                  simp only [List.take_succ_cons, List.take_zero, List.drop_succ_cons, List.drop_zero]
                  iterate 9 (refine wpStill_step (fun K hK => ?_); go_simp; refine hK _ ?_; clear hK K)
                  refine wpStill_nil ?_
                  change wpList _ _ _ _ _ wr.drew
                  simp only [iv_add]
                  have H2 := H.drew
                  have r3 : wr.drew.cell? ⟨n3, i, none⟩ = some (.int .u32 (iv x)) := r1
                  have hf2 : wr.drew.frozen? ⟨n3, i, none⟩ = false := hf
                  have hin2 : n3 < wr.drew.heap.size := hin
                  have H3 := H2.wrote (by omega) (by have := HN7.out; simp; omega) i (.int .u32 (iv (x + y)))
                  rw [hput, ← HP.out] at H3
                  clear H H2 r1 r2 hf hput hin
                  generalize wr.drew = w8 at *
                  go_wp2
                  go_roundg (8 - (i + 1))
                  case measure => have := HI.out; omega
                  case rel => exact ⟨i + 1, by omega, rfl, by go_num, H3⟩
                · have e : i = 8 := by omega
                  subst e
                  clear HI
                  rw [plusN_all] at H
                  have hA := HA.out
                  clear HA
                  generalize A.plus s = F at *
                  have HA := hideIt hA
                  clear hA
                  obtain ⟨r0, r1, r2, r3, r4, r5, r6, r7⟩ := (H.box 0).st
                  obtain ⟨z0, z1, z2, z3, z4, z5, z6, z7, z8⟩ := (H.box 2).eight
                  obtain ⟨y0, y1, y2, y3, y4, y5, y6, y7⟩ := (H.box 2).st
                  have hin := (H.box 0).inside
                  go_wp2
                  generalize hX : World.setCell (World.setCell _ _ _) _ _ = X
                  have hbx : Box X (w.heap.size + 1) 87 F.cs := by rw [← hX]; exact Box.wrote8 (H.box 2) F
                  have hbl : Below w.heap.size w X := by rw [← hX]; exact below_set8 H.below (by omega) F
                  clear hX y0 y1 y2 y3 y4 y5 y6 y7 z0 z1 z2 z3 z4 z5 z6 z7 z8 r0 r1 r2 r3 r4 r5 r6 r7 hin
                  obtain ⟨x0, x1, x2, x3, x4, x5, x6, x7⟩ := hbx.st
                  have hgx := hbx.inside
                  exact bodyPost_ret (v := .agg #[.int .u32 (iv F.a), .int .u32 (iv F.b), .int .u32 (iv F.c), .int .u32 (iv F.d), .int .u32 (iv F.e), .int .u32 (iv F.f), .int .u32 (iv F.g), .int .u32 (iv F.h)]) (by simp [results, Tryd.results67, go_sem, x0, x1, x2, x3, x4, x5, x6, x7]) rfl ⟨by rw [← HL64.out, HA.out], hbl⟩
end Go.Proofs.YtkmnfogcocppjaaDoor
