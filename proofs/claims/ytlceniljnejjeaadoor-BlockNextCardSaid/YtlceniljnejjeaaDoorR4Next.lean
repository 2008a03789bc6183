/-
  The document's Round and Next, walked.
-/
import Derived.Test.YtlceniljnejjeaaDoorR4Const
namespace Go.Proofs.YtlceniljnejjeaaDoor
set_option linter.unusedVariables false
set_option linter.unusedSimpArgs false
open Go.RowKit

set_option maxHeartbeats 4000000 in
theorem rround_any (s : St) (k : Int) (x : B32) (w : World) : Calls Tryd.prog 13 #[.agg #[.int .u32 (iv s.a), .int .u32 (iv s.b), .int .u32 (iv s.c), .int .u32 (iv s.d), .int .u32 (iv s.e), .int .u32 (iv s.f), .int .u32 (iv s.g), .int .u32 (iv s.h)], .int .i64 k, .int .u32 (iv x)] w (Tells (.agg #[.int .u32 (iv (turned s (kAt k) x).a), .int .u32 (iv (turned s (kAt k) x).b), .int .u32 (iv (turned s (kAt k) x).c), .int .u32 (iv (turned s (kAt k) x).d), .int .u32 (iv (turned s (kAt k) x).e), .int .u32 (iv (turned s (kAt k) x).f), .int .u32 (iv (turned s (kAt k) x).g), .int .u32 (iv (turned s (kAt k) x).h)]) w.heap.size w) := by
  have cK := fun u => rconst_any k u
  have cT := fun u => rturned_any s (kAt k) x u
  generalize kAt k = kc at *
  generalize turned s kc x = F at *
  have H0 : Has w [(w.heap.size + 1, 23, St.cs ⟨0, 0, 0, 0, 0, 0, 0, 0⟩), (w.heap.size, 23, s.cs)] ((w.alloc (.cells #[.int .u32 (iv s.a), .int .u32 (iv s.b), .int .u32 (iv s.c), .int .u32 (iv s.d), .int .u32 (iv s.e), .int .u32 (iv s.f), .int .u32 (iv s.g), .int .u32 (iv s.h)] 23)).alloc (.cells (St.cs ⟨0, 0, 0, 0, 0, 0, 0, 0⟩) 23)) :=
    ((Has.start w).add 23 #[.int .u32 (iv s.a), .int .u32 (iv s.b), .int .u32 (iv s.c), .int .u32 (iv s.d), .int .u32 (iv s.e), .int .u32 (iv s.f), .int .u32 (iv s.g), .int .u32 (iv s.h)]).addAt 23 (St.cs ⟨0, 0, 0, 0, 0, 0, 0, 0⟩) (by simp)
  go_enter Tryd.func13, Tryd.ntmps13
  go_upto_region 1 with fail
  generalize hW : World.alloc (World.alloc _ _) _ = W
  have H : Has w [(w.heap.size + 1, 23, St.cs ⟨0, 0, 0, 0, 0, 0, 0, 0⟩), (w.heap.size, 23, s.cs)] W := by rw [← hW]; exact H0
  clear H0 hW
  obtain ⟨r0, r1, r2, r3, r4, r5, r6, r7⟩ := (H.box 1).st
  have hin := (H.box 1).inside
  have hz := (H.box 0).inside
  go_region_with (first
    | (go_at_call 17; refine (cK _).mono ?_; rintro e w5 ⟨rfl, b5⟩
       have H5 := H.drew.call b5
       obtain ⟨q0, q1, q2, q3, q4, q5, q6, q7⟩ := (H5.box 1).st
       have hin5 := (H5.box 1).inside)
    | (go_at_call 41; refine (cT _).mono ?_; rintro e w6 ⟨rfl, b6⟩
       have H6 := H5.call b6
       obtain ⟨z0, z1, z2, z3, z4, z5, z6, z7, z8⟩ := (H6.box 0).eight
       obtain ⟨y0, y1, y2, y3, y4, y5, y6, y7⟩ := (H6.box 0).st))
  all_goals
    generalize hX : World.setCell (World.setCell _ _ _) _ _ = X
    have hbx : Box X (w.heap.size + 1) 23 F.cs := by rw [← hX]; exact Box.wrote8 (H6.box 0) F
    have hbl : Below w.heap.size w X := by rw [← hX]; exact below_set8 H6.below (by omega) F
    clear hX y0 y1 y2 y3 y4 y5 y6 y7 z0 z1 z2 z3 z4 z5 z6 z7 z8
    go_wp2
    obtain ⟨x0, x1, x2, x3, x4, x5, x6, x7⟩ := hbx.st
    have hgx := hbx.inside
    exact bodyPost_ret (v := .agg #[.int .u32 (iv F.a), .int .u32 (iv F.b), .int .u32 (iv F.c), .int .u32 (iv F.d), .int .u32 (iv F.e), .int .u32 (iv F.f), .int .u32 (iv F.g), .int .u32 (iv F.h)]) (by simp [results, Tryd.results13, go_sem, x0, x1, x2, x3, x4, x5, x6, x7]) rfl ⟨rfl, hbl⟩

set_option maxHeartbeats 2000000 in
theorem rnext_no (s : St) (b : ByteArray) (hb : b.size ≠ 64) (hm : b.size ≤ 9223372036854775807) (v : Value) (w : World) :
    Calls Tryd.prog 22 #[.agg #[.int .u32 (iv s.a), .int .u32 (iv s.b), .int .u32 (iv s.c), .int .u32 (iv s.d), .int .u32 (iv s.e), .int .u32 (iv s.f), .int .u32 (iv s.g), .int .u32 (iv s.h)], .string b, v] w (Tells (.tuple #[.agg #[.int .u32 0, .int .u32 0, .int .u32 0, .int .u32 0, .int .u32 0, .int .u32 0, .int .u32 0, .int .u32 0], .int .i64 2]) w.heap.size w) := by
  have c := fun u => rwords_no b hb hm u
  have H0 : Has w [(w.heap.size + 1, 23, St.cs ⟨0, 0, 0, 0, 0, 0, 0, 0⟩), (w.heap.size, 23, s.cs)] ((w.alloc (.cells #[.int .u32 (iv s.a), .int .u32 (iv s.b), .int .u32 (iv s.c), .int .u32 (iv s.d), .int .u32 (iv s.e), .int .u32 (iv s.f), .int .u32 (iv s.g), .int .u32 (iv s.h)] 23)).alloc (.cells (St.cs ⟨0, 0, 0, 0, 0, 0, 0, 0⟩) 23)) :=
    ((Has.start w).add 23 #[.int .u32 (iv s.a), .int .u32 (iv s.b), .int .u32 (iv s.c), .int .u32 (iv s.d), .int .u32 (iv s.e), .int .u32 (iv s.f), .int .u32 (iv s.g), .int .u32 (iv s.h)]).addAt 23 (St.cs ⟨0, 0, 0, 0, 0, 0, 0, 0⟩) (by simp)
  go_enter Tryd.func22, Tryd.ntmps22
  go_upto_region 1 with fail
  generalize hW : World.alloc (World.alloc _ _) _ = W
  have H : Has w [(w.heap.size + 1, 23, St.cs ⟨0, 0, 0, 0, 0, 0, 0, 0⟩), (w.heap.size, 23, s.cs)] W := by rw [← hW]; exact H0
  clear H0 hW
  obtain ⟨z0, z1, z2, z3, z4, z5, z6, z7, z8⟩ := (H.box 0).eight
  obtain ⟨y0, y1, y2, y3, y4, y5, y6, y7⟩ := (H.box 0).st
  go_wp2_with (first | (go_at_call 47; refine (c _).mono ?_; rintro e w' ⟨rfl, rfl⟩))
  generalize hX : World.setCell (World.setCell _ _ _) _ _ = X
  have hbx : Box X (w.heap.size + 1) 23 (St.cs ⟨0, 0, 0, 0, 0, 0, 0, 0⟩) := by rw [← hX]; exact Box.wrote8 (H.box 0) ⟨0, 0, 0, 0, 0, 0, 0, 0⟩
  have hbl : Below w.heap.size w X := by rw [← hX]; exact below_set8 H.below (by omega) ⟨0, 0, 0, 0, 0, 0, 0, 0⟩
  clear hX y0 y1 y2 y3 y4 y5 y6 y7 z0 z1 z2 z3 z4 z5 z6 z7 z8
  obtain ⟨x0, x1, x2, x3, x4, x5, x6, x7⟩ := hbx.st
  have hgx := hbx.inside
  exact bodyPost_ret (v := .tuple #[.agg #[.int .u32 0, .int .u32 0, .int .u32 0, .int .u32 0, .int .u32 0, .int .u32 0, .int .u32 0, .int .u32 0], .int .i64 2]) (by simp [results, Tryd.results22, go_sem, x0, x1, x2, x3, x4, x5, x6, x7]; rfl) rfl ⟨rfl, hbl⟩

/-- Sixty-four words stand in a block. -/
def Row32 (u : World) (g : Nat) (l : List B32) : Prop := g < u.heap.size ∧ ∀ i, i < 64 → u.cell? ⟨g, i, none⟩ = some (.int .u32 (iv (l.getD i 0)))
theorem Row32.call {u u' : World} {g : Nat} {l : List B32} (h : Row32 u g l) (hb : Below u.heap.size u u') : Row32 u' g l :=
  ⟨Nat.lt_of_lt_of_le h.1 hb.size, fun i hi => (hb.cell (p := ⟨g, i, none⟩) h.1).trans (h.2 i hi)⟩
theorem Row32.past {u : World} {g : Nat} {l : List B32} (h : Row32 u g l) (o : Obj) : Row32 (u.alloc o) g l := h.call ((Below.refl _ u).alloc (Nat.le_refl _) o)
theorem Row32.drew {u : World} {g : Nat} {l : List B32} (h : Row32 u g l) : Row32 u.drew g l := h
theorem Row32.put {u : World} {g n : Nat} {l : List B32} (h : Row32 u g l) (hne : n ≠ g) (i : Nat) (v : Value) : Row32 (u.setCell ⟨n, i, none⟩ v) g l :=
  ⟨by simpa using h.1, fun j hj => (World.cell?_setCell_far u ⟨n, i, none⟩ ⟨g, j, none⟩ v hne).trans (h.2 j hj)⟩
theorem Row32.set8 {u : World} {g n : Nat} {l : List B32} (h : Row32 u g l) (hne : n ≠ g) (s : St) : Row32 (set8 u n s) g l :=
  (((((((h.put hne 0 _).put hne 1 _).put hne 2 _).put hne 3 _).put hne 4 _).put hne 5 _).put hne 6 _).put hne 7 _

set_option maxRecDepth 100000 in
set_option maxHeartbeats 4000000 in
theorem rnext_ok (s : St) (b : ByteArray) (hb : b.size = 64) (g cap : Nat) (w : World) (hK : Row32 w g kB) :
    Calls Tryd.prog 22 #[.agg #[.int .u32 (iv s.a), .int .u32 (iv s.b), .int .u32 (iv s.c), .int .u32 (iv s.d), .int .u32 (iv s.e), .int .u32 (iv s.f), .int .u32 (iv s.g), .int .u32 (iv s.h)], .string b, .slice (some ⟨g, 0, none⟩) 64 cap] w (Tells (.tuple #[.agg #[.int .u32 (iv (nextS kB (words64 b.data.toList) s).a), .int .u32 (iv (nextS kB (words64 b.data.toList) s).b), .int .u32 (iv (nextS kB (words64 b.data.toList) s).c), .int .u32 (iv (nextS kB (words64 b.data.toList) s).d), .int .u32 (iv (nextS kB (words64 b.data.toList) s).e), .int .u32 (iv (nextS kB (words64 b.data.toList) s).f), .int .u32 (iv (nextS kB (words64 b.data.toList) s).g), .int .u32 (iv (nextS kB (words64 b.data.toList) s).h)], .int .i64 0]) w.heap.size w) := by
  have c := fun u => rwords_ok b hb u
  have hl64 := words64_len b.data.toList
  generalize words64 b.data.toList = l at *
  have H0 : Has w [(w.heap.size + 1, 23, St.cs ⟨0, 0, 0, 0, 0, 0, 0, 0⟩), (w.heap.size, 23, s.cs)] ((w.alloc (.cells #[.int .u32 (iv s.a), .int .u32 (iv s.b), .int .u32 (iv s.c), .int .u32 (iv s.d), .int .u32 (iv s.e), .int .u32 (iv s.f), .int .u32 (iv s.g), .int .u32 (iv s.h)] 23)).alloc (.cells (St.cs ⟨0, 0, 0, 0, 0, 0, 0, 0⟩) 23)) :=
    ((Has.start w).add 23 #[.int .u32 (iv s.a), .int .u32 (iv s.b), .int .u32 (iv s.c), .int .u32 (iv s.d), .int .u32 (iv s.e), .int .u32 (iv s.f), .int .u32 (iv s.g), .int .u32 (iv s.h)]).addAt 23 (St.cs ⟨0, 0, 0, 0, 0, 0, 0, 0⟩) (by simp)
  have hz : ((w.alloc (.cells #[.int .u32 (iv s.a), .int .u32 (iv s.b), .int .u32 (iv s.c), .int .u32 (iv s.d), .int .u32 (iv s.e), .int .u32 (iv s.f), .int .u32 (iv s.g), .int .u32 (iv s.h)] 23)).alloc (.cells (St.cs ⟨0, 0, 0, 0, 0, 0, 0, 0⟩) 23)).heap.size = w.heap.size + 1 + 1 := by simp
  have K0 : Row32 ((w.alloc (.cells #[.int .u32 (iv s.a), .int .u32 (iv s.b), .int .u32 (iv s.c), .int .u32 (iv s.d), .int .u32 (iv s.e), .int .u32 (iv s.f), .int .u32 (iv s.g), .int .u32 (iv s.h)] 23)).alloc (.cells (St.cs ⟨0, 0, 0, 0, 0, 0, 0, 0⟩) 23)) g kB := (hK.past _).past _
  have hgw := hK.1
  go_enter Tryd.func22, Tryd.ntmps22
  go_upto_region 1 with fail
  generalize hW : World.alloc (World.alloc _ _) _ = W
  have H : Has w [(w.heap.size + 1, 23, St.cs ⟨0, 0, 0, 0, 0, 0, 0, 0⟩), (w.heap.size, 23, s.cs)] W := by rw [← hW]; exact H0
  have hz2 : W.heap.size = w.heap.size + 1 + 1 := by rw [← hW]; exact hz
  have K1 : Row32 W g kB := by rw [← hW]; exact K0
  clear H0 hW hz K0 hK
  go_upto_region 4 with (first | (go_at_call 47; refine (c _).mono ?_; rintro e w1 ⟨v, rfl, hown, hbl⟩; rw [hl64] at hown; obtain ⟨g1, cap1, rfl, hg1, hlt1, hc1, hm1, hr1, hf1⟩ := own_row hown (by omega)))
  have H1 := H.call hbl
  have K2 := K1.call hbl
  have R2 : Row32 w1 g1 l := ⟨hlt1, fun i hi => hr1 i _ (by simp [w32s, List.getD_eq_getElem?_getD, hl64, hi])⟩
  rw [hz2] at hg1
  clear H K1 c hbl hown hr1 hf1 hz2 hc1 hm1
  obtain ⟨r0, r1, r2, r3, r4, r5, r6, r7⟩ := (H1.box 1).st
  have H2 := H1.add 23 s.cs
  have K3 := K2.past (.cells s.cs 23)
  have R3 := R2.past (.cells s.cs 23)
  obtain ⟨n3, hn3⟩ : ∃ n3, w1.heap.size = n3 := ⟨_, rfl⟩
  rw [hn3] at H2 hlt1
  go_upto_region 5 with fail
  change Code.wp _ _ _ _ (w1.alloc (.cells s.cs 23))
  clear H1 r0 r1 r2 r3 r4 r5 r6 r7 hn3 K2 R2
  generalize w1.alloc (.cells s.cs 23) = W5 at *
  go_wp2
  go_loopg [11] 64 (fun gk i wr => ∃ k : Nat, k ≤ 64 ∧ gk = 64 - k ∧ i = .int .i64 k ∧ Has w [(n3, 23, (rN kB l s k).cs), (w.heap.size + 1, 23, St.cs ⟨0, 0, 0, 0, 0, 0, 0, 0⟩), (w.heap.size, 23, s.cs)] wr ∧ Row32 wr g kB ∧ Row32 wr g1 l)
  case atStart => exact ⟨0, by omega, rfl, rfl, H2, K3, R3⟩
  case round =>
    clear H2 K3 R3
    obtain ⟨k, hk, hgk, rfl, H, K, R⟩ := hrel
    have HG := hideIt hgk
    clear hgk
    by_cases hlt : k < 64
    · have HS := hideIt (rN_succ kB l s k)
      have rk_ := K.2 k hlt
      have rw_ := R.2 k hlt
      have hk1 := K.1
      have hk2 := R.1
      obtain ⟨r0, r1, r2, r3, r4, r5, r6, r7⟩ := (H.box 0).st
      have hin := (H.box 0).inside
      have cR := fun u => rturned_any (rN kB l s k) (kB.getD k 0) (l.getD k 0) u
      rw [← HS.out] at cR
      generalize l.getD k 0 = x at *
      generalize kB.getD k 0 = kc at *
      generalize rN kB l s k = sk at *
      have b1 : (k : Int) < 64 := by omega
      have HC := hideIt cR
      clear cR
      go_upto_region 8 with fail
      refine wp_region_still_tail 9 (by kernel_rfl) (by kernel_rfl) ?_
      simp only [List.take_succ_cons, List.take_zero, List.drop_succ_cons, List.drop_zero]
      iterate 9 (refine wpStill_step (fun K hK => ?_); go_simp; refine hK _ ?_; clear hK K)
      refine wpStill_nil ?_
      change wpList _ _ _ _ _ wr.drew
      have H5 := H.drew
      have K5 := K.drew
      have R5 := R.drew
      clear H K R r0 r1 r2 r3 r4 r5 r6 r7 hin rk_ rw_ hk1 hk2
      generalize wr.drew = W6 at *
      have cR := HC.out
      go_wp2_with (first
        | (go_at_call 41; refine (cR _).mono ?_; rintro e w6 ⟨rfl, b6⟩
           have H6 := H5.call b6
           have K6 := K5.call b6
           have R6 := R5.call b6
           obtain ⟨z0, z1, z2, z3, z4, z5, z6, z7, z8⟩ := (H6.box 0).eight
           obtain ⟨y0, y1, y2, y3, y4, y5, y6, y7⟩ := (H6.box 0).st))
      have H7 := H6.st8 (by omega) (by simp; omega) (rN kB l s (k + 1))
      have K7 := K6.set8 (n := n3) (by omega) (rN kB l s (k + 1))
      have R7 := R6.set8 (n := n3) (by omega) (rN kB l s (k + 1))
      clear z0 z1 z2 z3 z4 z5 z6 z7 z8 y0 y1 y2 y3 y4 y5 y6 y7 H6 H5 K5 K6 R5 R6 cR HC
      go_roundg (64 - (k + 1))
      case measure => have := HG.out; omega
      case rel => exact ⟨k + 1, by omega, rfl, by go_num, H7, K7, R7⟩
    · have e : k = 64 := by omega
      subst e
      clear HG K R
      have hA : nextS kB l s = (rN kB l s 64).plus s := rfl
      generalize rN kB l s 64 = A at *
      have HA := hideIt hA
      clear hA
      go_wp2
      go_loopg [12] 8 (fun gk i wr => ∃ i' : Nat, i' ≤ 8 ∧ gk = 8 - i' ∧ i = .int .i64 i' ∧ Has w [(n3, 23, (plusN A s i').cs), (w.heap.size + 1, 23, St.cs ⟨0, 0, 0, 0, 0, 0, 0, 0⟩), (w.heap.size, 23, s.cs)] wr)
      case atStart => exact ⟨0, by omega, rfl, rfl, H⟩
      case round =>
        clear H
        obtain ⟨i, hi, hgi, rfl, H⟩ := hrel
        have HI := hideIt hgi
        clear hgi
        by_cases hlt : i < 8
        · have r1 := (H.box 0).read i
          rw [St.cs_at _ _ hlt, plusN_at _ _ _ hlt] at r1
          have r2 := (H.box 2).read i
          rw [St.cs_at _ _ hlt] at r2
          have hf := (H.box 0).free i
          have hin := (H.box 0).inside
          have HP := hideIt (plusN_succ A s i)
          have hput := St.cs_put (plusN A s i) i (A.at i + s.at i) hlt
          generalize A.at i = x at *
          generalize s.at i = y at *
          have b1 : (i : Int) < 8 := by omega
          go_wp2
          refine wp_region_still_tail 9 (by kernel_rfl) (by kernel_rfl) ?_
          simp only [List.take_succ_cons, List.take_zero, List.drop_succ_cons, List.drop_zero]
          iterate 9 (refine wpStill_step (fun K hK => ?_); go_simp; refine hK _ ?_; clear hK K)
          refine wpStill_nil ?_
          change wpList _ _ _ _ _ wr.drew
          simp only [iv_add]
          have H2 := H.drew
          have r3 : wr.drew.cell? ⟨n3, i, none⟩ = some (.int .u32 (iv x)) := r1
          have hf2 : wr.drew.frozen? ⟨n3, i, none⟩ = false := hf
          have hin2 : n3 < wr.drew.heap.size := hin
          have H3 := H2.wrote (by omega) (by simp; omega) i (.int .u32 (iv (x + y)))
          rw [hput, ← HP.out] at H3
          clear H H2 r1 r2 hf hput hin
          generalize wr.drew = w8 at *
          go_wp2
          go_roundg (8 - (i + 1))
          case measure => have := HI.out; omega
          case rel => exact ⟨i + 1, by omega, rfl, by go_num, H3⟩
        · have e : i = 8 := by omega
          subst e
          clear HI
          rw [plusN_all] at H
          have hA := HA.out
          clear HA
          generalize A.plus s = F at *
          have HA := hideIt hA
          clear hA
          obtain ⟨r0, r1, r2, r3, r4, r5, r6, r7⟩ := (H.box 0).st
          obtain ⟨z0, z1, z2, z3, z4, z5, z6, z7, z8⟩ := (H.box 1).eight
          obtain ⟨y0, y1, y2, y3, y4, y5, y6, y7⟩ := (H.box 1).st
          have hin := (H.box 0).inside
          go_wp2
          generalize hX : World.setCell (World.setCell _ _ _) _ _ = X
          have hbx : Box X (w.heap.size + 1) 23 F.cs := by rw [← hX]; exact Box.wrote8 (H.box 1) F
          have hbl : Below w.heap.size w X := by rw [← hX]; exact below_set8 H.below (by omega) F
          clear hX y0 y1 y2 y3 y4 y5 y6 y7 z0 z1 z2 z3 z4 z5 z6 z7 z8 r0 r1 r2 r3 r4 r5 r6 r7 hin
          obtain ⟨x0, x1, x2, x3, x4, x5, x6, x7⟩ := hbx.st
          have hgx := hbx.inside
          exact bodyPost_ret (v := .tuple #[.agg #[.int .u32 (iv F.a), .int .u32 (iv F.b), .int .u32 (iv F.c), .int .u32 (iv F.d), .int .u32 (iv F.e), .int .u32 (iv F.f), .int .u32 (iv F.g), .int .u32 (iv F.h)], .int .i64 0]) (by simp [results, Tryd.results22, go_sem, x0, x1, x2, x3, x4, x5, x6, x7]) rfl ⟨by rw [HA.out], hbl⟩
end Go.Proofs.YtlceniljnejjeaaDoor
