/-
  The law BlockBack: each round may be undone, and so may all rounds of a block; what comes of a state, less that, is what the rounds alone make of it, whatever the state, the text.
  Conditions: block's table of constants holds what the program's text lays (tied by the card).
-/
import Derived.Test.YtkpkncgcbghlcaaDoorH4Held
import Derived.StillTail
import Derived.Test.YtkpkncgcbghlcaaDoorW4Laid
import Derived.Lib.LazyBuf
namespace Go.Proofs.YtkpkncgcbghlcaaDoor
set_option linter.unusedVariables false
set_option linter.unusedSimpArgs false
open Go.ChangeShapes Go.WideShapes Go.ChangeAt Go.RowKit

/-- Bytes written one behind the other into a block of bytes. -/
theorem has_setCells {w : World} {g : Nat} {t : TypeId} {l : List Blk} (hg : w.heap.size ≤ g) (h0 : 0 < g) (hl : ∀ x ∈ l, x.1 ≠ g) : ∀ (bs : List UInt8) (o : Nat) (N : List Int) (W : World), Has w ((g, t, b8s N) :: l) W → Tab W →
    ∃ N' : List Int, N'.length = N.length ∧ Has w ((g, t, b8s N') :: l) (W.setCells g o (bs.map fun x => Value.int .u8 (x.toNat : Int))) ∧ Tab (W.setCells g o (bs.map fun x => Value.int .u8 (x.toNat : Int)))
  | [], o, N, W, h, ht => ⟨N, rfl, h, ht⟩
  | c :: r, o, N, W, h, ht => by
    have h1 := h.wrote hg hl o (Value.int .u8 (c.toNat : Int))
    rw [b8s_set] at h1
    obtain ⟨N', e, h2, h3⟩ := has_setCells hg h0 hl r (o + 1) _ _ h1 (ht.set h0 o _)
    exact ⟨N', by rw [e]; simp, h2, h3⟩
theorem size_u8 (w : World) : (Go.sizeOf 5).run Tryd.prog w = .ok 1 w := by kernel_rfl

theorem plus_sub_at (a s : St) (i : Nat) (hi : i < 8) : (a.plus s).at i - s.at i = a.at i := by
  match i, hi with
  | 0, _ => exact add_sub_b _ _
  | 1, _ => exact add_sub_b _ _
  | 2, _ => exact add_sub_b _ _
  | 3, _ => exact add_sub_b _ _
  | 4, _ => exact add_sub_b _ _
  | 5, _ => exact add_sub_b _ _
  | 6, _ => exact add_sub_b _ _
  | 7, _ => exact add_sub_b _ _

set_option maxHeartbeats 4000000 in
theorem back_long (s : St) (b : ByteArray) (hm : b.size ≤ 9223372036854775807) (h64 : 64 < b.size) (w : World) (hT : Tab w) : Calls Tryd.prog 5 #[.agg #[.int .u32 (iv s.a), .int .u32 (iv s.b), .int .u32 (iv s.c), .int .u32 (iv s.d), .int .u32 (iv s.e), .int .u32 (iv s.f), .int .u32 (iv s.g), .int .u32 (iv s.h)], .string b] w (Tells (.bool true) w.heap.size w) := by
  have t0 : Tab (w.alloc (.cells #[.int .u32 (iv s.a), .int .u32 (iv s.b), .int .u32 (iv s.c), .int .u32 (iv s.d), .int .u32 (iv s.e), .int .u32 (iv s.f), .int .u32 (iv s.g), .int .u32 (iv s.h)] 24)) := hT.past _
  have cA := fun u hu => awake_any u hu
  have hb0 : Below w.heap.size w (w.alloc (.cells #[.int .u32 (iv s.a), .int .u32 (iv s.b), .int .u32 (iv s.c), .int .u32 (iv s.d), .int .u32 (iv s.e), .int .u32 (iv s.f), .int .u32 (iv s.g), .int .u32 (iv s.h)] 24)) := (Below.refl _ w).alloc (Nat.le_refl _) _
  have h : (64 : Int) < (b.size : Int) := by omega
  go_enter Tryd.func5, Tryd.ntmps5
  go_upto_region 1 with fail
  generalize w.alloc _ = W0 at *
  go_wp2_with (first | (go_at_call 21; refine (cA _ t0).mono ?_; rintro e w1 ⟨rfl, b1⟩))
  go_ret
  exact ⟨rfl, chain hb0 b1⟩

set_option maxHeartbeats 4000000 in
theorem back_short (s : St) (b : ByteArray) (h64 : b.size ≤ 64) (w : World) (hT : Tab w) : Calls Tryd.prog 5 #[.agg #[.int .u32 (iv s.a), .int .u32 (iv s.b), .int .u32 (iv s.c), .int .u32 (iv s.d), .int .u32 (iv s.e), .int .u32 (iv s.f), .int .u32 (iv s.g), .int .u32 (iv s.h)], .string b] w (Tells (.bool true) w.heap.size w) := by
  have n0 := hT.1
  have H0 : Has w [(w.heap.size, 24, s.cs)] (w.alloc (.cells #[.int .u32 (iv s.a), .int .u32 (iv s.b), .int .u32 (iv s.c), .int .u32 (iv s.d), .int .u32 (iv s.e), .int .u32 (iv s.f), .int .u32 (iv s.g), .int .u32 (iv s.h)] 24)) := (Has.start w).add 24 #[.int .u32 (iv s.a), .int .u32 (iv s.b), .int .u32 (iv s.c), .int .u32 (iv s.d), .int .u32 (iv s.e), .int .u32 (iv s.f), .int .u32 (iv s.g), .int .u32 (iv s.h)]
  have t0 : Tab (w.alloc (.cells #[.int .u32 (iv s.a), .int .u32 (iv s.b), .int .u32 (iv s.c), .int .u32 (iv s.d), .int .u32 (iv s.e), .int .u32 (iv s.f), .int .u32 (iv s.g), .int .u32 (iv s.h)] 24)) := hT.past _
  have cA := fun u hu => awake_any u hu
  have hmk := make_b64
  have h : (b.size : Int) ≤ 64 := by omega
  go_enter Tryd.func5, Tryd.ntmps5
  go_upto_region 1 with fail
  generalize w.alloc _ = W0 at *
  go_upto_region 6 with (first | (go_at_call 21; refine (cA _ t0).mono ?_; rintro e w1 ⟨rfl, b1⟩; have H1 := H0.call b1; have t1 := t0.call b1))
  have hw1 : w.heap.size < w1.heap.size := (H1.box 0).inside
  have H2 := H1.add 5 (b8s n64)
  have t2 := t1.past (.cells (b8s n64) 5)
  generalize hnb : w1.heap.size = nb at *
  clear H0 H1 t0 t1 b1 cA hmk
  generalize w1.alloc _ = W2 at *
  have hcp := fun ty => run_copy_string (P := Tryd.prog) W2 41 9 ty 5 nb 0 64 64 b Tryd.underlying41 size_u8 h64
    (fun j hj => by rw [Nat.zero_add, (H2.box 0).read j, b8s_at _ j (by simp [n64]; omega)]; rfl) (fun j hj => (H2.box 0).free _)
  obtain ⟨N, hN, H3, t3⟩ := has_setCells (w := w) (g := nb) (t := 5) (by omega) (by omega) (by simp; omega) b.data.toList 0 n64 W2 H2 t2
  have hN64 : N.length = 64 := by rw [hN]; simp [n64]
  go_upto_region 7 with fail
  generalize World.setCells _ _ _ _ = W3 at *
  clear hcp H2 t2
  have hcv := run_convert_bytes_arg (P := Tryd.prog) W3 41 5 Tryd.underlying41 Tryd.underlying5 nb 0 64 64 N hN64 (fun i hi => by
    rw [Nat.zero_add, (H3.box 0).read i]; exact b8s_at N i (by omega)) 9 Tryd.underlying9
  have hsz : (strOfNums N).size = 64 := by rw [strOfNums_size, hN64]
  have cW := fun u => words_ok (strOfNums N) hsz u
  have cX := fun u hu => next_ok s (strOfNums N) hsz u hu
  have hl64 := words64_len (strOfNums N).data.toList
  generalize words64 (strOfNums N).data.toList = l at *
  obtain ⟨B, hB⟩ : ∃ B, strOfNums N = B := ⟨_, rfl⟩
  rw [hB] at hcv cW cX hsz
  have HBN := hideIt hB
  clear hB
  go_upto_region 10 with (first | (go_at_call 22; refine (cW _).mono ?_; rintro e w4 ⟨rfl, hbx, b4⟩; have H4 := (H3.call b4).with hbx; have t4 := t3.call b4))
  have hi1 : nb < W3.heap.size := (H3.box 0).inside
  generalize hg2 : W3.heap.size = g2 at *
  have hi2 : g2 < w4.heap.size := (H4.box 0).inside
  obtain ⟨r0, r1, r2, r3, r4, r5, r6, r7⟩ := (H4.box 2).st
  have H5 := H4.add 24 s.cs
  have t5 := t4.past (.cells s.cs 24)
  obtain ⟨nn, hnn⟩ : ∃ nn, w4.heap.size = nn := ⟨_, rfl⟩
  rw [hnn] at H5 hi2
  clear hcv cW b4 hbx H3 t3 t4
  go_upto_region 11 with fail
  change Code.wp _ _ _ _ (w4.alloc (.cells s.cs 24))
  clear H4 r0 r1 r2 r3 r4 r5 r6 r7 hnn
  generalize w4.alloc (.cells s.cs 24) = W5 at *
  have HL := hideIt hl64
  have CX := hideIt cX
  clear hl64 cX
  go_wp2
  go_loopg [9, 10] 64 (fun gk i _ wr => ∃ k : Nat, k ≤ 64 ∧ gk = 64 - k ∧ i = .int .i64 k ∧ Has w [(nn, 24, (rN kB l s k).cs), (g2, 22, arr l), (nb, 5, b8s N), (w.heap.size, 24, s.cs)] wr ∧ Tab wr)
  case atStart => exact ⟨0, by omega, rfl, rfl, H5, t5⟩
  case round =>
    clear H5 t5
    obtain ⟨k, hk, hgk, rfl, H, hT0⟩ := hrel
    have HG := hideIt hgk
    clear hgk
    by_cases hlt : k < 64
    · obtain ⟨x, hx⟩ : ∃ x, l.getD k 0 = x := ⟨_, rfl⟩
      obtain ⟨sk, hsk⟩ : ∃ sk, rN kB l s k = sk := ⟨_, rfl⟩
      obtain ⟨kc, hkc⟩ : ∃ kc, kB.getD k 0 = kc := ⟨_, rfl⟩
      have hka : kAt (k : Int) = kc := by rw [kAt_nat k hlt, hkc]
      have hsucc := rN_succ kB l s k
      obtain ⟨A, hA⟩ : ∃ A, rN kB l s (k + 1) = A := ⟨_, rfl⟩
      rw [hA, hsk, hkc, hx] at hsucc
      rw [hsk] at H
      have cR := fun u hu => round_any sk k x u hu
      have cU1 := fun u hu => unround_any A k x u hu
      have cU2 := fun u hu => unround_any sk k x u hu
      have cR2 := fun u hu => round_any (unturned sk kc x) k x u hu
      rw [hka] at cR cU1 cU2 cR2
      rw [← hsucc] at cR
      rw [hsucc, unturned_turned, ← hsucc] at cU1
      rw [turned_unturned] at cR2
      generalize unturned sk kc x = D at *
      have fact : ∀ u, Has w [(nn, 24, sk.cs), (g2, 22, arr l), (nb, 5, b8s N), (w.heap.size, 24, s.cs)] u → u.cell? ⟨nn, 0, none⟩ = some (.int .u32 (iv sk.a)) ∧ u.cell? ⟨nn, 1, none⟩ = some (.int .u32 (iv sk.b)) ∧ u.cell? ⟨nn, 2, none⟩ = some (.int .u32 (iv sk.c)) ∧ u.cell? ⟨nn, 3, none⟩ = some (.int .u32 (iv sk.d)) ∧ u.cell? ⟨nn, 4, none⟩ = some (.int .u32 (iv sk.e)) ∧ u.cell? ⟨nn, 5, none⟩ = some (.int .u32 (iv sk.f)) ∧ u.cell? ⟨nn, 6, none⟩ = some (.int .u32 (iv sk.g)) ∧ u.cell? ⟨nn, 7, none⟩ = some (.int .u32 (iv sk.h)) ∧ u.cell? ⟨g2, k, none⟩ = some (.int .u32 (iv x)) := fun u h => by
        have hr := (h.box 1).read k
        rw [arr_at l k (by rw [HL.out]; exact hlt), hx] at hr
        obtain ⟨r0, r1, r2, r3, r4, r5, r6, r7⟩ := (h.box 0).st
        exact ⟨r0, r1, r2, r3, r4, r5, r6, r7, hr⟩
      have HA := hideIt hA
      clear hA hsucc hka hkc hsk hx
      have b1 : (k : Int) < 64 := by omega
      have S2 := heldT_start fact H.drew (W := wr.drew) hT0
      have S2a := fun o : Obj => heldT_start fact (H.past o).drew (hT0.past o)
      have hin : nn < wr.heap.size := (H.box 0).inside
      go_wp2_with fail
      go_cut [10] (fun p wx => ∃ gn, p = .pointer (some ⟨gn, 0, none⟩) ∧ nn < gn ∧ HasT w ((gn, 24, A.cs) :: [(nn, 24, sk.cs), (g2, 22, arr l), (nb, 5, b8s N), (w.heap.size, 24, s.cs)]) wx)
      case first =>
        go_region_held3 (fun u => HasT w [(nn, 24, sk.cs), (g2, 22, arr l), (nb, 5, b8s N), (w.heap.size, 24, s.cs)] u ∧ u.cell? ⟨nn, 0, none⟩ = some (.int .u32 (iv sk.a)) ∧ u.cell? ⟨nn, 1, none⟩ = some (.int .u32 (iv sk.b)) ∧ u.cell? ⟨nn, 2, none⟩ = some (.int .u32 (iv sk.c)) ∧ u.cell? ⟨nn, 3, none⟩ = some (.int .u32 (iv sk.d)) ∧ u.cell? ⟨nn, 4, none⟩ = some (.int .u32 (iv sk.e)) ∧ u.cell? ⟨nn, 5, none⟩ = some (.int .u32 (iv sk.f)) ∧ u.cell? ⟨nn, 6, none⟩ = some (.int .u32 (iv sk.g)) ∧ u.cell? ⟨nn, 7, none⟩ = some (.int .u32 (iv sk.h)) ∧ u.cell? ⟨g2, k, none⟩ = some (.int .u32 (iv x)))
          (first
            | with_reducible exact S2
            | with_reducible exact S2a _
            | with_reducible assumption
            | with_reducible exact heldT_keep fact (by assumption) (by assumption)
            | with_reducible exact heldT_past fact (by assumption) _
            | (with_reducible refine heldT_set1 fact (by dsimp only; omega) (by dsimp only; omega) (by simp; omega) _ ?_; (with_reducible refine heldT_set1 fact (by dsimp only; omega) (by dsimp only; omega) (by simp; omega) _ ?_; (with_reducible refine heldT_set1 fact (by dsimp only; omega) (by dsimp only; omega) (by simp; omega) _ ?_; (with_reducible refine heldT_set1 fact (by dsimp only; omega) (by dsimp only; omega) (by simp; omega) _ ?_; (with_reducible refine heldT_set1 fact (by dsimp only; omega) (by dsimp only; omega) (by simp; omega) _ ?_; (with_reducible refine heldT_set1 fact (by dsimp only; omega) (by dsimp only; omega) (by simp; omega) _ ?_; (with_reducible refine heldT_set1 fact (by dsimp only; omega) (by dsimp only; omega) (by simp; omega) _ ?_; (with_reducible refine heldT_set1 fact (by dsimp only; omega) (by dsimp only; omega) (by simp; omega) _ ?_; with_reducible assumption))))))))
            | fail)
          (first
            | (go_at_call 9; refine (cR _ (tabOf (w := w) (l := [(nn, 24, sk.cs), (g2, 22, arr l), (nb, 5, b8s N), (w.heap.size, 24, s.cs)]) (C := fun u => u.cell? ⟨nn, 0, none⟩ = some (.int .u32 (iv sk.a)) ∧ u.cell? ⟨nn, 1, none⟩ = some (.int .u32 (iv sk.b)) ∧ u.cell? ⟨nn, 2, none⟩ = some (.int .u32 (iv sk.c)) ∧ u.cell? ⟨nn, 3, none⟩ = some (.int .u32 (iv sk.d)) ∧ u.cell? ⟨nn, 4, none⟩ = some (.int .u32 (iv sk.e)) ∧ u.cell? ⟨nn, 5, none⟩ = some (.int .u32 (iv sk.f)) ∧ u.cell? ⟨nn, 6, none⟩ = some (.int .u32 (iv sk.g)) ∧ u.cell? ⟨nn, 7, none⟩ = some (.int .u32 (iv sk.h)) ∧ u.cell? ⟨g2, k, none⟩ = some (.int .u32 (iv x))) (by assumption))).mono ?_; rintro e w6 ⟨rfl, b6⟩
               have S6 := heldT_keep fact (by assumption) b6
               (first
                | (have z : Box w6 wr.heap.size 24 #[.int .u32 0, .int .u32 0, .int .u32 0, .int .u32 0, .int .u32 0, .int .u32 0, .int .u32 0, .int .u32 0] := ((Box.made wr 24 #[.int .u32 0, .int .u32 0, .int .u32 0, .int .u32 0, .int .u32 0, .int .u32 0, .int .u32 0, .int .u32 0]).draw).call b6
                   obtain ⟨z0, z1, z2, z3, z4, z5, z6, z7, z8⟩ := z.eight
                   have y0 := z.read 0
                   have y1 := z.read 1
                   have y2 := z.read 2
                   have y3 := z.read 3
                   have y4 := z.read 4
                   have y5 := z.read 5
                   have y6 := z.read 6
                   have y7 := z.read 7
                   simp only [List.getElem?_toArray, List.getElem?_cons_zero, List.getElem?_cons_succ] at y0 y1 y2 y3 y4 y5 y6 y7)
                | skip))
            | fail)
        all_goals go_wp2_with fail
        all_goals go_meet
        · exact ⟨w6.heap.size, rfl, Nat.lt_of_lt_of_le hin b6.size, S6.1.1.add 24 A.cs, S6.1.2.past _⟩
        · have hz : Box w6 wr.heap.size 24 (St.cs ⟨0, 0, 0, 0, 0, 0, 0, 0⟩) := z
          exact ⟨wr.heap.size, rfl, hin, Has.st8 (S6.1.1.with hz) (by omega) (by simp; omega) A, S6.1.2.set8 (by omega) A⟩
      case rest =>
        obtain ⟨gn, e1, hgn, HT1⟩ := hcut
        subst e1
        have factG : ∀ u, Has w ((gn, 24, A.cs) :: [(nn, 24, sk.cs), (g2, 22, arr l), (nb, 5, b8s N), (w.heap.size, 24, s.cs)]) u → (u.cell? ⟨gn, 0, none⟩ = some (.int .u32 (iv A.a)) ∧ u.cell? ⟨gn, 1, none⟩ = some (.int .u32 (iv A.b)) ∧ u.cell? ⟨gn, 2, none⟩ = some (.int .u32 (iv A.c)) ∧ u.cell? ⟨gn, 3, none⟩ = some (.int .u32 (iv A.d)) ∧ u.cell? ⟨gn, 4, none⟩ = some (.int .u32 (iv A.e)) ∧ u.cell? ⟨gn, 5, none⟩ = some (.int .u32 (iv A.f)) ∧ u.cell? ⟨gn, 6, none⟩ = some (.int .u32 (iv A.g)) ∧ u.cell? ⟨gn, 7, none⟩ = some (.int .u32 (iv A.h))) ∧ (u.cell? ⟨nn, 0, none⟩ = some (.int .u32 (iv sk.a)) ∧ u.cell? ⟨nn, 1, none⟩ = some (.int .u32 (iv sk.b)) ∧ u.cell? ⟨nn, 2, none⟩ = some (.int .u32 (iv sk.c)) ∧ u.cell? ⟨nn, 3, none⟩ = some (.int .u32 (iv sk.d)) ∧ u.cell? ⟨nn, 4, none⟩ = some (.int .u32 (iv sk.e)) ∧ u.cell? ⟨nn, 5, none⟩ = some (.int .u32 (iv sk.f)) ∧ u.cell? ⟨nn, 6, none⟩ = some (.int .u32 (iv sk.g)) ∧ u.cell? ⟨nn, 7, none⟩ = some (.int .u32 (iv sk.h))) ∧ u.cell? ⟨g2, k, none⟩ = some (.int .u32 (iv x)) := fun u h => ⟨(h.box 0).st, (h.box 1).st, (fact u h.tail).2.2.2.2.2.2.2.2⟩
        have hq := fun u => neq_st sk u
        have S3 := heldT_start factG HT1.1.drew HT1.2.drew
        clear S2 S2a HT1 H hT0 cR
        go_wp2_with fail
        go_region_held3 (fun u => HasT w ((gn, 24, A.cs) :: [(nn, 24, sk.cs), (g2, 22, arr l), (nb, 5, b8s N), (w.heap.size, 24, s.cs)]) u ∧ (u.cell? ⟨gn, 0, none⟩ = some (.int .u32 (iv A.a)) ∧ u.cell? ⟨gn, 1, none⟩ = some (.int .u32 (iv A.b)) ∧ u.cell? ⟨gn, 2, none⟩ = some (.int .u32 (iv A.c)) ∧ u.cell? ⟨gn, 3, none⟩ = some (.int .u32 (iv A.d)) ∧ u.cell? ⟨gn, 4, none⟩ = some (.int .u32 (iv A.e)) ∧ u.cell? ⟨gn, 5, none⟩ = some (.int .u32 (iv A.f)) ∧ u.cell? ⟨gn, 6, none⟩ = some (.int .u32 (iv A.g)) ∧ u.cell? ⟨gn, 7, none⟩ = some (.int .u32 (iv A.h))) ∧ (u.cell? ⟨nn, 0, none⟩ = some (.int .u32 (iv sk.a)) ∧ u.cell? ⟨nn, 1, none⟩ = some (.int .u32 (iv sk.b)) ∧ u.cell? ⟨nn, 2, none⟩ = some (.int .u32 (iv sk.c)) ∧ u.cell? ⟨nn, 3, none⟩ = some (.int .u32 (iv sk.d)) ∧ u.cell? ⟨nn, 4, none⟩ = some (.int .u32 (iv sk.e)) ∧ u.cell? ⟨nn, 5, none⟩ = some (.int .u32 (iv sk.f)) ∧ u.cell? ⟨nn, 6, none⟩ = some (.int .u32 (iv sk.g)) ∧ u.cell? ⟨nn, 7, none⟩ = some (.int .u32 (iv sk.h))) ∧ u.cell? ⟨g2, k, none⟩ = some (.int .u32 (iv x)))
          (first
            | with_reducible exact S3
            | with_reducible assumption
            | with_reducible exact heldT_keep factG (by assumption) (by assumption)
            | fail)
          (first
            | (go_at_call_of 10 (Value.int .u32 (iv A.a)); refine (cU1 _ (tabOf (w := w) (l := ((gn, 24, A.cs) :: [(nn, 24, sk.cs), (g2, 22, arr l), (nb, 5, b8s N), (w.heap.size, 24, s.cs)])) (C := fun u => (u.cell? ⟨gn, 0, none⟩ = some (.int .u32 (iv A.a)) ∧ u.cell? ⟨gn, 1, none⟩ = some (.int .u32 (iv A.b)) ∧ u.cell? ⟨gn, 2, none⟩ = some (.int .u32 (iv A.c)) ∧ u.cell? ⟨gn, 3, none⟩ = some (.int .u32 (iv A.d)) ∧ u.cell? ⟨gn, 4, none⟩ = some (.int .u32 (iv A.e)) ∧ u.cell? ⟨gn, 5, none⟩ = some (.int .u32 (iv A.f)) ∧ u.cell? ⟨gn, 6, none⟩ = some (.int .u32 (iv A.g)) ∧ u.cell? ⟨gn, 7, none⟩ = some (.int .u32 (iv A.h))) ∧ (u.cell? ⟨nn, 0, none⟩ = some (.int .u32 (iv sk.a)) ∧ u.cell? ⟨nn, 1, none⟩ = some (.int .u32 (iv sk.b)) ∧ u.cell? ⟨nn, 2, none⟩ = some (.int .u32 (iv sk.c)) ∧ u.cell? ⟨nn, 3, none⟩ = some (.int .u32 (iv sk.d)) ∧ u.cell? ⟨nn, 4, none⟩ = some (.int .u32 (iv sk.e)) ∧ u.cell? ⟨nn, 5, none⟩ = some (.int .u32 (iv sk.f)) ∧ u.cell? ⟨nn, 6, none⟩ = some (.int .u32 (iv sk.g)) ∧ u.cell? ⟨nn, 7, none⟩ = some (.int .u32 (iv sk.h))) ∧ u.cell? ⟨g2, k, none⟩ = some (.int .u32 (iv x))) (by assumption))).mono ?_; rintro e w7 ⟨rfl, b7⟩)
            | (go_at_call_of 10 (Value.int .u32 (iv sk.a)); refine (cU2 _ (tabOf (w := w) (l := ((gn, 24, A.cs) :: [(nn, 24, sk.cs), (g2, 22, arr l), (nb, 5, b8s N), (w.heap.size, 24, s.cs)])) (C := fun u => (u.cell? ⟨gn, 0, none⟩ = some (.int .u32 (iv A.a)) ∧ u.cell? ⟨gn, 1, none⟩ = some (.int .u32 (iv A.b)) ∧ u.cell? ⟨gn, 2, none⟩ = some (.int .u32 (iv A.c)) ∧ u.cell? ⟨gn, 3, none⟩ = some (.int .u32 (iv A.d)) ∧ u.cell? ⟨gn, 4, none⟩ = some (.int .u32 (iv A.e)) ∧ u.cell? ⟨gn, 5, none⟩ = some (.int .u32 (iv A.f)) ∧ u.cell? ⟨gn, 6, none⟩ = some (.int .u32 (iv A.g)) ∧ u.cell? ⟨gn, 7, none⟩ = some (.int .u32 (iv A.h))) ∧ (u.cell? ⟨nn, 0, none⟩ = some (.int .u32 (iv sk.a)) ∧ u.cell? ⟨nn, 1, none⟩ = some (.int .u32 (iv sk.b)) ∧ u.cell? ⟨nn, 2, none⟩ = some (.int .u32 (iv sk.c)) ∧ u.cell? ⟨nn, 3, none⟩ = some (.int .u32 (iv sk.d)) ∧ u.cell? ⟨nn, 4, none⟩ = some (.int .u32 (iv sk.e)) ∧ u.cell? ⟨nn, 5, none⟩ = some (.int .u32 (iv sk.f)) ∧ u.cell? ⟨nn, 6, none⟩ = some (.int .u32 (iv sk.g)) ∧ u.cell? ⟨nn, 7, none⟩ = some (.int .u32 (iv sk.h))) ∧ u.cell? ⟨g2, k, none⟩ = some (.int .u32 (iv x))) (by assumption))).mono ?_; rintro e w8 ⟨rfl, b8⟩)
            | (go_at_call_of 9 (Value.int .u32 (iv D.a)); refine (cR2 _ (tabOf (w := w) (l := ((gn, 24, A.cs) :: [(nn, 24, sk.cs), (g2, 22, arr l), (nb, 5, b8s N), (w.heap.size, 24, s.cs)])) (C := fun u => (u.cell? ⟨gn, 0, none⟩ = some (.int .u32 (iv A.a)) ∧ u.cell? ⟨gn, 1, none⟩ = some (.int .u32 (iv A.b)) ∧ u.cell? ⟨gn, 2, none⟩ = some (.int .u32 (iv A.c)) ∧ u.cell? ⟨gn, 3, none⟩ = some (.int .u32 (iv A.d)) ∧ u.cell? ⟨gn, 4, none⟩ = some (.int .u32 (iv A.e)) ∧ u.cell? ⟨gn, 5, none⟩ = some (.int .u32 (iv A.f)) ∧ u.cell? ⟨gn, 6, none⟩ = some (.int .u32 (iv A.g)) ∧ u.cell? ⟨gn, 7, none⟩ = some (.int .u32 (iv A.h))) ∧ (u.cell? ⟨nn, 0, none⟩ = some (.int .u32 (iv sk.a)) ∧ u.cell? ⟨nn, 1, none⟩ = some (.int .u32 (iv sk.b)) ∧ u.cell? ⟨nn, 2, none⟩ = some (.int .u32 (iv sk.c)) ∧ u.cell? ⟨nn, 3, none⟩ = some (.int .u32 (iv sk.d)) ∧ u.cell? ⟨nn, 4, none⟩ = some (.int .u32 (iv sk.e)) ∧ u.cell? ⟨nn, 5, none⟩ = some (.int .u32 (iv sk.f)) ∧ u.cell? ⟨nn, 6, none⟩ = some (.int .u32 (iv sk.g)) ∧ u.cell? ⟨nn, 7, none⟩ = some (.int .u32 (iv sk.h))) ∧ u.cell? ⟨g2, k, none⟩ = some (.int .u32 (iv x))) (by assumption))).mono ?_; rintro e w9 ⟨rfl, b9⟩)
            | fail)
        have H9 := ((S3.1.1.call b7).call b8).call b9
        have t9 := ((S3.1.2.call b7).call b8).call b9
        clear S3 cU1 cU2 cR2 b7 b8 b9 hq fact factG
        obtain ⟨r0, r1, r2, r3, r4, r5, r6, r7⟩ := (H9.box 0).st
        obtain ⟨y0, y1, y2, y3, y4, y5, y6, y7⟩ := (H9.box 1).st
        obtain ⟨z0, z1, z2, z3, z4, z5, z6, z7, z8⟩ := (H9.box 1).eight
        have hg9 := (H9.box 0).inside
        have H10 := H9.tail.st8 (by omega) (by simp; omega) A
        have t10 := t9.set8 (g := nn) (by omega) A
        clear H9 t9 hin
        go_wp2
        go_roundg (64 - (k + 1))
        case measure => have := HG.out; omega
        case rel => exact ⟨k + 1, by omega, rfl, by go_num, by rw [HA.out]; exact H10, t10⟩
    · have e : k = 64 := by omega
      subst e
      clear HG hk hlt
      have hcv := run_convert_bytes_arg (P := Tryd.prog) wr 41 5 Tryd.underlying41 Tryd.underlying5 nb 0 64 64 N hN64 (fun i hi => by
        rw [Nat.zero_add, (H.box 2).read i]; exact b8s_at N i (by omega)) 9 Tryd.underlying9
      rw [HBN.out] at hcv
      obtain ⟨r0, r1, r2, r3, r4, r5, r6, r7⟩ := (H.box 3).st
      have hin := (H.box 3).inside
      have cX := CX.out wr hT0
      have hF : nextS kB l s = (rN kB l s 64).plus s := rfl
      obtain ⟨F, hF2⟩ : ∃ F, nextS kB l s = F := ⟨_, rfl⟩
      obtain ⟨Q, hQ⟩ : ∃ Q, rN kB l s 64 = Q := ⟨_, rfl⟩
      rw [hF2] at cX hF
      rw [hQ] at hF H
      have HF := hideIt hF
      have HQ := hideIt hQ
      clear hF hF2 CX hQ
      go_upto_region 19 with (first | (go_at_call 16; refine cX.mono ?_; rintro e w7 ⟨rfl, b7⟩; have H7 := (H.call b7).add 24 F.cs; have t7 := (hT0.call b7).past (.cells F.cs 24)))
      change Code.wp _ _ _ _ (w7.alloc (.cells F.cs 24))
      generalize hno : w7.heap.size = no at *
      have hno2 : nn < no := by rw [← hno]; exact ((H.call b7).box 0).inside
      clear hcv r0 r1 r2 r3 r4 r5 r6 r7 hin cX b7 hno H hT0
      generalize w7.alloc (.cells F.cs 24) = W8 at *
      go_wp2
      go_loopg [13] 8 (fun gk i wr => ∃ k : Nat, k ≤ 8 ∧ gk = 8 - k ∧ i = .int .i64 k ∧ ∃ q, wr = W8.drewN q)
      case atStart => exact ⟨0, by omega, rfl, rfl, 0, rfl⟩
      case round =>
        obtain ⟨k, hk, hgk, rfl, q, rfl⟩ := hrel
        have HG := hideIt hgk
        clear hgk
        by_cases hlt : k < 8
        · have r1 := (H7.box 0).read k
          have r2 := (H7.box 4).read k
          have r3 := (H7.box 1).read k
          rw [St.cs_at _ _ hlt] at r1 r2 r3
          have hsub : (iv (F.at k) - iv (s.at k)) % 4294967296 = iv (Q.at k) := by rw [iv_subm, HF.out, plus_sub_at Q s k hlt]
          generalize F.at k = f1 at *
          generalize s.at k = f2 at *
          generalize Q.at k = f3 at *
          have b1 : (k : Int) < 8 := by omega
          go_wp2
          go_quiet (fail)
          go_wp2
          go_roundg (8 - (k + 1))
          case measure => have := HG.out; omega
          case rel => exact ⟨k + 1, by omega, rfl, by go_num, _, rfl⟩
        · have e : k = 8 := by omega
          subst e
          clear HG hk hlt
          have H9 := (H7.drewN q).tail
          have t9 : Tab (W8.drewN q) := t7
          rw [← HQ.out] at H9
          clear H7 t7
          generalize W8.drewN q = W9 at *
          go_wp2
          go_loopg [14] 64 (fun gk i wr => ∃ m : Nat, m ≤ 64 ∧ gk = m ∧ i = .int .i64 ((m : Int) - 1) ∧ Has w [(nn, 24, (rN kB l s m).cs), (g2, 22, arr l), (nb, 5, b8s N), (w.heap.size, 24, s.cs)] wr ∧ Tab wr)
          case atStart => exact ⟨64, by omega, rfl, rfl, H9, t9⟩
          case round =>
            clear H9 t9
            obtain ⟨m, hm, hgm, rfl, H, hT0⟩ := hrel
            have HG := hideIt hgm
            clear hgm
            by_cases hz : m = 0
            · subst hz
              have hr0 : rN kB l s 0 = s := rfl
              rw [hr0] at H
              clear hr0 HG
              obtain ⟨r0, r1, r2, r3, r4, r5, r6, r7⟩ := (H.box 0).st
              obtain ⟨y0, y1, y2, y3, y4, y5, y6, y7⟩ := (H.box 3).st
              have hq := fun u => eql_st s u
              have hin := (H.box 0).inside
              have hin2 := (H.box 3).inside
              go_wp2
              go_ret
              exact ⟨rfl, H.below⟩
            · obtain ⟨j, rfl⟩ : ∃ j, m = j + 1 := ⟨m - 1, by omega⟩
              have em : (((j + 1 : Nat) : Int) - 1) = (j : Int) := by omega
              rw [em]
              clear em hz
              have hj : j < 64 := by omega
              have hun : unturned (rN kB l s (j + 1)) (kB.getD j 0) (l.getD j 0) = rN kB l s j := by rw [rN_succ, unturned_turned]
              have cU := unround_any (rN kB l s (j + 1)) (j : Int) (l.getD j 0) wr.drew hT0.drew
              rw [kAt_nat j hj, hun] at cU
              clear hun
              have hrw := (H.box 1).read j
              rw [arr_at l j (by rw [HL.out]; exact hj)] at hrw
              generalize l.getD j 0 = x at *
              generalize rN kB l s (j + 1) = sk at *
              obtain ⟨P, hP⟩ : ∃ P, rN kB l s j = P := ⟨_, rfl⟩
              rw [hP] at cU
              have HP := hideIt hP
              clear hP
              obtain ⟨r0, r1, r2, r3, r4, r5, r6, r7⟩ := (H.box 0).st
              have hin := (H.box 0).inside
              have hin2 := (H.box 1).inside
              have b1 : (j : Int) < 64 := by omega
              go_wp2_with fail
              have H2 := H.drew
              have t2 := hT0.drew
              have cU2 := hideIt cU
              clear H hT0 cU
              go_wp2_with fail
              refine wp_region_still_tail 6 (by kernel_rfl) (by kernel_rfl) ?_
              simp only [List.take_succ_cons, List.take_zero, List.drop_succ_cons, List.drop_zero]
              iterate 6 (refine wpStill_step (fun K hK => ?_); go_simp; refine hK _ ?_; clear hK K)
              refine wpStill_nil ?_
              change wpList _ _ _ _ _ wr.drew
              clear r0 r1 r2 r3 r4 r5 r6 r7 hrw hin hin2
              go_wp2_with (first
                | (go_at_call 10; refine cU2.out.mono ?_; rintro e w5 ⟨rfl, b5⟩
                   have H5 := H2.call b5
                   have t5 := t2.call b5
                   obtain ⟨z0, z1, z2, z3, z4, z5, z6, z7, z8⟩ := (H5.box 0).eight
                   obtain ⟨y0, y1, y2, y3, y4, y5, y6, y7⟩ := (H5.box 0).st))
              all_goals
                have H6 := H5.st8 (by omega) (by simp; omega) P
                have t6 := t5.set8 (g := nn) (by omega) P
                clear H5 t5 y0 y1 y2 y3 y4 y5 y6 y7 z0 z1 z2 z3 z4 z5 z6 z7 z8
                go_roundg j
                case measure => have := HG.out; omega
                case rel => exact ⟨j, by omega, rfl, by go_num, by rw [HP.out]; exact H6, t6⟩

theorem blockBack_core (H : Type) (enc : TypeId × Value → H) (W : World) (base : Nat) (args : Array Value) (ds gs : List (DataW H)) (before : List MemPlace)
    (hval : ∀ (j : Nat) t v, Tryd.f5.params[j]? = some t → args[j]? = some v → Value.okWide Tryd.prog W .any base t v)
    (hW : DataW.Whole enc Tryd.prog Tryd.f5.params.toList Rows.blockBackSpec.vars false W args.toList ds gs before) (hT : Tab W) :
    gs = [] ∧ ds.length = 2 ∧ Calls Tryd.prog 5 args W (Tells (.bool true) W.heap.size W) := by
  obtain ⟨p, q, hA, hV, -, -, -⟩ := hW
  obtain ⟨rfl, rfl⟩ := trodVars_none hV
  have hA : DataW.TrodAll enc Tryd.prog W 0 (fun _ => true) true Tryd.f5.params.toList args.toList ds p := hA
  rw [Tryd.params5] at hA hval
  obtain ⟨v0, v1, d0, d1, p0, p1, rfl, rfl, -, h0, h1⟩ := trodAll_two hA
  obtain ⟨st, rfl⟩ := open_st (hval 0 24 v0 rfl rfl) h0
  obtain ⟨s, rfl, rfl, rfl, hs⟩ := Go.ChangeMaps.open_string Tryd.underlying9 (hval 1 9 v1 rfl rfl) h1
  refine ⟨rfl, rfl, ?_⟩
  by_cases h64 : 64 < s.size
  · exact back_long st s hs h64 W hT
  · exact back_short st s (by omega) W hT

set_option maxRecDepth 100000 in
theorem blockBack_lifted (os : Os) (started : os.Started) (H : Type) (enc : TypeId × Value → H) :
    ReturnsInHanded {} Tryd.checked os 5 .any (fun w args => (Rows.blockBackSpec.pre enc Tryd.prog Tryd.f5 [] false w args ∧ laidMetH Tryd.prog laidK w) ∧ sizedMet enc Tryd.prog Tryd.f5 (OpenSpec.ofChange Rows.blockBackSpec) false w args)
      (Rows.blockBackSpec.post enc Tryd.prog Tryd.f5 false true false false) := by
  refine returnsInHanded_of_change_and (C := Tryd.checked) (X := fun w _ => laidMetH Tryd.prog laidK w) (fun _ _ _ hh h => h.of_heap hh) own_knob started (by kernel_rfl) Tryd.func5
    (ChangeSpec.witness_shaped (enc := enc) (C := Tryd.checked) (os := os) (X := fun w _ => laidMetH Tryd.prog laidK w) false (World.doorLaid Tryd.prog 14 os) #[.agg #[.int .u32 0, .int .u32 0, .int .u32 0, .int .u32 0, .int .u32 0, .int .u32 0, .int .u32 0, .int .u32 0], .string ⟨#[]⟩] 8 rfl (World.shaped_of_RefB (by kernel_rfl) (by kernel_rfl)) (by kernel_rfl) (by kernel_rfl) (by kernel_rfl) (door_met os _)) ?_
  intro W base args ds gs before hval0 hW _ _ hL _
  have hval : ∀ (j : Nat) t v, Tryd.f5.params[j]? = some t → args[j]? = some v → Value.okWide Tryd.prog W .any base t v := hval0
  obtain ⟨hg, hlen, hc⟩ := blockBack_core H enc W base args ds gs before hval hW (tab_of_laid hL)
  subst hg
  have hr : (Tryd.f5.params.toList.all fun t => Tryd.prog.readableRec t && decide (t < Tryd.prog.types.size)) = true := by kernel_rfl
  have hread : ∀ t ∈ Tryd.f5.params.toList, Tryd.prog.readableRec t = true ∧ t < Tryd.prog.types.size := fun t ht => by
    have h := List.all_eq_true.1 hr t ht
    rw [Bool.and_eq_true, decide_eq_true_eq] at h
    exact h
  refine hc.mono fun e W' ⟨he, hb⟩ => ?_
  subst he
  match ds, hlen with
  | [d0, d1], _ => exact ⟨_, rfl, law_post laid_out Tryd.underlying4 rfl hread rfl hW rfl rfl rfl hb⟩

theorem blockBack_holds : Rows.BlockBackSaid :=
  OpenClaim.holds_of_wide 5 Tryd.f5 rfl rfl rfl rfl rfl rfl rfl ⟨rfl, rfl, rfl, rfl, rfl⟩ rfl rfl rfl rfl rfl (by kernel_rfl) Tryd.func5 (by kernel_rfl)
    (of_decide_eq_true (by kernel_rfl)) (by unfold Func.isWrapper; first | (rw [if_pos (by decide +kernel)]; kernel_rfl) | (rw [if_neg (by decide +kernel)]; exact ⟨rfl, rfl⟩))
    (fun os started H enc _ => blockBack_lifted os started H enc)

theorem blockBack_card : Rows.BlockBackCardSaid :=
  Claim7.holds_tied_plain_at .later [] [.data] true _ false
    blockBack_holds (fun _ h => by cases h) (by kernel_rfl) (fun _ h => by cases h) blockBack_row_tie rfl ⟨rfl, rfl⟩ (by kernel_rfl) rfl
    (fun f fn hf hfn => by
      obtain rfl : f = 5 := Option.some.inj ((show Tryd.prog.funcNamed "paymaster/paymasterlaw04.BlockBack" = some 5 by kernel_rfl).symm.trans hf) |>.symm
      obtain rfl : fn = Tryd.f5 := (Option.some.inj (Tryd.func5.symm.trans hfn)).symm
      exact ⟨by kernel_rfl, fun j t ht => by
        have hm : t ∈ Tryd.f5.params.toList := by simpa using Array.mem_of_getElem? ht
        have hall : (Tryd.f5.params.toList.all fun u => !Tryd.prog.wantsStandIn u) = true := by kernel_rfl
        exact (show Tryd.prog.wantsStandIn t = false by simpa using List.all_eq_true.1 hall t hm)⟩)
    (by kernel_rfl)

end Go.Proofs.YtkpkncgcbghlcaaDoor
