/-
  paymasterlaw08.same, walked: of a thing the same is read.
-/
import Derived.Test.YtakhdhbalmcohaaR8Num
import Derived.Test.YtakhdhbalmcohaaT8Row
import Derived.Test.YtakhdhbalmcohaaD8Op
import Derived.Test.YtakhdhbalmcohaaE8Num
import Derived.Deep.RegionHeld3
namespace Go.Proofs.Ytakhdhbalmcohaa
set_option linter.unusedVariables false
set_option linter.unusedSimpArgs false
set_option maxRecDepth 10000
open Go.RowKit Go.Shelf

theorem RInS.in_ {w w' : World} {g b : Nat} {st st2 : Option (List UInt8)} (h : InS w g st) (h2 : RInS w b st2) (k : Off (One b) w w') (hne : g ≠ b) : InS w' g st := h.off k h2 hne (by decide)
set_option maxHeartbeats 4000000 in
theorem law_same (x : Th) (ok : x.Ok) (gi gx : Nat) (hne : gi ≠ gx) (st : Option (List UInt8)) (hz : restN st ≤ 4611686018427387903) (w : World) (hI : InS w gi st) (hX : RInS w gx st) :
    Calls Try.prog 6 #[.pointer (some ⟨gi, 0, none⟩), .pointer (some ⟨gx, 0, none⟩), x.val] w fun e w' =>
      e = .returned (.bool true) ∧ InS w' gi (nxt (opR x.k x.m.toNat st)) ∧ RInS w' gx (nxt (opR x.k x.m.toNat st)) ∧ Off (fun i => i = gi ∨ i = gx) w w' := by
  have L0 : Below w.heap.size w (w.alloc (.cells (thC x) 34)) := (Below.refl _ w).alloc (Nat.le_refl _) _
  have B0 := Box.made w 34 (thC x)
  obtain ⟨q0, q1, q2, q3, q4⟩ := B0.thing
  have hin := B0.inside
  have I0 := hI.call L0
  have X0 := hX.call L0
  have gi1 := hI.inside
  have gx1 := hX.inside
  have n1 : ∀ (u : World) {N : Option (List UInt8)} (s : InS u gi N) (k : Off (One gi) (w.alloc (.cells (thC x) 34)) u), RInS u gx st := fun u _ _ k => X0.off k (fun e => hne e.symm)
  have ev : x.val = .agg #[.int .u8 x.k, .int .u64 x.h, .int .u64 x.l, .string x.s, .int .i64 x.m] := rfl
  rw [ev]
  have hk5' : x.k % 5 < 5 := Nat.mod_lt _ (by decide)
  rcases (show x.k % 5 = 0 ∨ x.k % 5 = 1 ∨ x.k % 5 = 2 ∨ x.k % 5 = 3 ∨ x.k % 5 = 4 by omega) with hk | hk | hk | hk | hk
  · rw [(opR_0 (m := x.m.toNat) hk st).2]
    have c1 := in_byte _ gi st I0
    have c2 := fun u hu => r_byte u gx st hz hu
    have hbb : (bV (opB st) == bV (opB st)) = true := by simp
    generalize bV (opB st) = v at *
    generalize nxt (opB st) = N at *
    obtain ⟨m1, m2, m3⟩ := kind_five x.k 0 hk ok.k
    go_enter Try.func6, Try.ntmps6
    go_upto_region 1 with fail
    change Code.wp _ _ _ _ (w.alloc (.cells (thC x) 34))
    generalize w.alloc (.cells (thC x) 34) = W at *
    go_wp2_with (first
      | (go_at_call 12; refine c1.mono ?_; rintro e w1 ⟨rfl, s1, k1⟩)
      | (go_at_call 13; refine (c2 _ (n1 _ s1 k1)).mono ?_; rintro e w2 ⟨rfl, s2, k2⟩))
    have o2 := ((Off.of (S := fun i => i = gi ∨ i = gx) L0).trans (k1.mono fun i hi => Or.inl hi)).trans (k2.mono fun i hi => Or.inr hi)
    go_ret
    exact ⟨rfl, RInS.in_ s1 (n1 _ s1 k1) k2 hne, s2, o2⟩
  · rw [(opR_1 (m := x.m.toNat) hk st).2]
    have c1 := in_num _ gi st I0
    have c2 := fun u hu => r_num u gx st hz hu
    have hbb : (lV (opN 8 st) == lV (opN 8 st)) = true := by simp
    generalize lV (opN 8 st) = v at *
    generalize nxt (opN 8 st) = N at *
    obtain ⟨m1, m2, m3⟩ := kind_five x.k 1 hk ok.k
    go_enter Try.func6, Try.ntmps6
    go_upto_region 1 with fail
    change Code.wp _ _ _ _ (w.alloc (.cells (thC x) 34))
    generalize w.alloc (.cells (thC x) 34) = W at *
    go_wp2_with (first
      | (go_at_call 14; refine c1.mono ?_; rintro e w1 ⟨rfl, s1, k1⟩)
      | (go_at_call 15; refine (c2 _ (n1 _ s1 k1)).mono ?_; rintro e w2 ⟨rfl, s2, k2⟩))
    have o2 := ((Off.of (S := fun i => i = gi ∨ i = gx) L0).trans (k1.mono fun i hi => Or.inl hi)).trans (k2.mono fun i hi => Or.inr hi)
    go_ret
    exact ⟨rfl, RInS.in_ s1 (n1 _ s1 k1) k2 hne, s2, o2⟩
  · rw [(opR_2 (m := x.m.toNat) hk st).2]
    have c1 := in_wide _ gi st I0
    have c2 := fun u hu => r_wide u gx st hz hu
    have hbb := fun u => eql_n8_same (hV (opN 16 st)) (lV (opN 16 st)) u
    generalize hV (opN 16 st) = v at *
    generalize lV (opN 16 st) = v2 at *
    generalize nxt (opN 16 st) = N at *
    obtain ⟨m1, m2, m3⟩ := kind_five x.k 2 hk ok.k
    go_enter Try.func6, Try.ntmps6
    go_upto_region 1 with fail
    change Code.wp _ _ _ _ (w.alloc (.cells (thC x) 34))
    generalize w.alloc (.cells (thC x) 34) = W at *
    go_wp2_with (first
      | (go_at_call 16; refine c1.mono ?_; rintro e w1 ⟨rfl, s1, k1⟩)
      | (go_at_call 17; refine (c2 _ (n1 _ s1 k1)).mono ?_; rintro e w2 ⟨rfl, s2, k2⟩))
    have o2 := ((Off.of (S := fun i => i = gi ∨ i = gx) L0).trans (k1.mono fun i hi => Or.inl hi)).trans (k2.mono fun i hi => Or.inr hi)
    go_ret
    exact ⟨rfl, RInS.in_ s1 (n1 _ s1 k1) k2 hne, s2, o2⟩
  · rw [(opR_3 (m := x.m.toNat) hk st).2]
    have c1 := in_flag _ gi st I0
    have c2 := fun u hu => r_flag u gx st hz hu
    have hbb : (fV (opF st) == fV (opF st)) = true := by simp
    generalize fV (opF st) = v at *
    generalize nxt (opF st) = N at *
    obtain ⟨m1, m2, m3⟩ := kind_five x.k 3 hk ok.k
    go_enter Try.func6, Try.ntmps6
    go_upto_region 1 with fail
    change Code.wp _ _ _ _ (w.alloc (.cells (thC x) 34))
    generalize w.alloc (.cells (thC x) 34) = W at *
    go_wp2_with (first
      | (go_at_call 18; refine c1.mono ?_; rintro e w1 ⟨rfl, s1, k1⟩)
      | (go_at_call 19; refine (c2 _ (n1 _ s1 k1)).mono ?_; rintro e w2 ⟨rfl, s2, k2⟩))
    have o2 := ((Off.of (S := fun i => i = gi ∨ i = gx) L0).trans (k1.mono fun i hi => Or.inl hi)).trans (k2.mono fun i hi => Or.inr hi)
    go_ret
    exact ⟨rfl, RInS.in_ s1 (n1 _ s1 k1) k2 hne, s2, o2⟩
  · rw [(opR_4 (m := x.m.toNat) hk st).2.2.2]
    have c1 := fun u hu => in_text_any x.m ok.m u gi st hu
    have c2 := fun u hu => r_text x.m ok.m u gx st hz hu
    have hbb : ((tV (opT x.m.toNat st)).toList == (tV (opT x.m.toNat st)).toList) = true := by simp
    generalize tV (opT x.m.toNat st) = v at *
    generalize nxt (opT x.m.toNat st) = N at *
    obtain ⟨m1, m2, m3⟩ := kind_five x.k 4 hk ok.k
    go_enter Try.func6, Try.ntmps6
    go_upto_region 1 with fail
    change Code.wp _ _ _ _ (w.alloc (.cells (thC x) 34))
    generalize w.alloc (.cells (thC x) 34) = W at *
    go_upto_region 10 with fail
    have B1 : Box W.drew w.heap.size 34 (thC x) := B0
    have keep : ∀ (u : World), Off (fun i => i = gi ∨ i = gx) W.drew u → u.cell? ⟨w.heap.size, 4, none⟩ = some (.int .i64 x.m) ∧ w.heap.size < u.heap.size := fun u hu =>
      ⟨(hu.box B1 (by rintro (e | e) <;> omega)).read 4, (hu.box B1 (by rintro (e | e) <;> omega)).inside⟩
    have F0 := keep W.drew (Off.refl _ _)
    have I1 : InS W.drew gi st := I0
    have X1 : RInS W.drew gx st := X0
    have n2 : ∀ (u : World) {N : Option (List UInt8)} (s : InS u gi N) (k : Off (One gi) W.drew u), RInS u gx st := fun u _ _ k => X1.off k (fun e => hne e.symm)
    have L1 : Below w.heap.size w W.drew := L0.drew
    go_region_held3 (fun u => u.cell? ⟨w.heap.size, 4, none⟩ = some (.int .i64 x.m) ∧ w.heap.size < u.heap.size)
      (first
        | exact F0
        | exact keep _ (k1.mono fun i hi => Or.inl hi)
        | exact keep _ ((k1.mono fun i hi => Or.inl hi).trans (k2.mono fun i hi => Or.inr hi))
        | fail)
      (first
        | (go_at_call 20; refine (c1 _ I1).mono ?_; rintro e w1 ⟨rfl, s1, k1⟩)
        | (go_at_call 21; refine (c2 _ (n2 _ s1 k1)).mono ?_; rintro e w2 ⟨rfl, s2, k2⟩)
        | fail)
    go_wp2
    have o2 := ((Off.of (S := fun i => i = gi ∨ i = gx) L1).trans (k1.mono fun i hi => Or.inl hi)).trans (k2.mono fun i hi => Or.inr hi)
    go_ret
    exact ⟨rfl, RInS.in_ s1 (n2 _ s1 k1) k2 hne, s2, o2⟩
end Go.Proofs.Ytakhdhbalmcohaa
