/-
  paymasterlaw08.alike, walked: what was read of what was written of a thing is alike.
-/
import Derived.Test.YtakhdhbalmcohaaDoorT8Read
import Derived.Deep.RegionHeld3
namespace Go.Proofs.YtakhdhbalmcohaaDoor
set_option linter.unusedVariables false
set_option linter.unusedSimpArgs false
set_option maxRecDepth 10000
open Go.RowKit Go.Shelf

set_option maxHeartbeats 4000000 in
theorem law_alike (y : Th) (ok : y.Ok) (m : Int) (w : World) : Calls Tryd.prog 28 #[(rdTh y.k m y.vl).val, y.val] w (Tells (.bool true) w.heap.size w) := by
  have hk5 : y.k % 5 < 5 := Nat.mod_lt _ (by decide)
  have hl0 := ok.l
  obtain ⟨l0, l1⟩ := hl0
  obtain ⟨X, hX⟩ : ∃ X, rdTh y.k m y.vl = X := ⟨_, rfl⟩
  rw [hX]
  rcases (show y.k % 5 = 0 ∨ y.k % 5 = 1 ∨ y.k % 5 = 2 ∨ y.k % 5 = 3 ∨ y.k % 5 = 4 by omega) with hk | hk | hk | hk | hk
  · have ev : y.vl = ⟨0, y.l % 256, []⟩ := by unfold Th.vl; rw [if_pos hk]
    have e1 : X.h = 0 := by rw [← hX, ev]; rfl
    have e2 : y.l % 256 = X.l := by rw [← hX, ev]; rfl
    have cO : ∀ u, Calls Tryd.prog 29 #[.int .u64 X.l] u (Tells (.agg #[.int .u64 X.h, .int .u64 X.l]) u.heap.size u) := fun u => by rw [e1]; exact of_any X.l u
    have hz := fun u => eql_n8_same X.h X.l u
    have w1 : y.l.tmod 256 = X.l := by rw [Int.tmod_eq_emod_of_nonneg l0]; exact e2
    have w2 : y.l % 256 = X.l := e2
    clear hX ev e1 e2
    obtain ⟨m1, m2, m3⟩ := kind_five y.k 0 hk ok.k
    have H0 := ((Has.start w).addAt 37 (thC X) rfl).addAt 37 (thC y) (g := w.heap.size + 1) (by simp)
    have eX : X.val = .agg #[.int .u8 X.k, .int .u64 X.h, .int .u64 X.l, .string X.s, .int .i64 X.m] := rfl
    have eY : y.val = .agg #[.int .u8 y.k, .int .u64 y.h, .int .u64 y.l, .string y.s, .int .i64 y.m] := rfl
    rw [eX, eY]
    go_enter Tryd.func28, Tryd.ntmps28
    go_upto_region 1 with fail
    change Code.wp _ _ _ _ ((w.alloc (.cells (thC X) 37)).alloc (.cells (thC y) 37))
    generalize (w.alloc (.cells (thC X) 37)).alloc (.cells (thC y) 37) = W at *
    obtain ⟨u0, u1, u2, u3, u4⟩ := (H0.box 1).thing
    obtain ⟨v0, v1, v2, v3, v4⟩ := (H0.box 0).thing
    have in0 := (H0.box 0).inside
    have in1 := (H0.box 1).inside
    go_upto_region 3 with fail
    have keep : ∀ u, Below W.drew.heap.size W.drew u → u.cell? ⟨w.heap.size, 1, none⟩ = some (.int .u64 X.h) ∧ u.cell? ⟨w.heap.size, 2, none⟩ = some (.int .u64 X.l) ∧ u.cell? ⟨w.heap.size + 1, 2, none⟩ = some (.int .u64 y.l) ∧ w.heap.size < u.heap.size ∧ w.heap.size + 1 < u.heap.size := fun u hu =>
      have H1 := (H0.drew).call hu
      ⟨(H1.box 1).read 1, (H1.box 1).read 2, (H1.box 0).read 2, (H1.box 1).inside, (H1.box 0).inside⟩
    have F0 := keep W.drew (Below.refl _ _)
    go_region_held3 (fun u => u.cell? ⟨w.heap.size, 1, none⟩ = some (.int .u64 X.h) ∧ u.cell? ⟨w.heap.size, 2, none⟩ = some (.int .u64 X.l) ∧ u.cell? ⟨w.heap.size + 1, 2, none⟩ = some (.int .u64 y.l) ∧ w.heap.size < u.heap.size ∧ w.heap.size + 1 < u.heap.size)
      (first
        | exact F0
        | exact keep _ b1
        | fail)
      (first
        | (go_at_call 29; refine (cO _).mono ?_; rintro e w1 ⟨rfl, b1⟩)
        | fail)
    go_wp2
    go_ret
    exact ⟨rfl, chain (H0.drew).below b1⟩
  · have ev : y.vl = ⟨0, y.l, []⟩ := by unfold Th.vl; rw [if_neg (by omega), if_pos hk]
    have e1 : X.h = 0 := by rw [← hX, ev]; rfl
    have e2 : X.l = y.l := by rw [← hX, ev]; rfl
    have cO : ∀ u, Calls Tryd.prog 29 #[.int .u64 y.l] u (Tells (.agg #[.int .u64 X.h, .int .u64 X.l]) u.heap.size u) := fun u => by rw [e1, e2]; exact of_any y.l u
    have hz := fun u => eql_n8_same X.h X.l u
    clear hX ev e1 e2
    obtain ⟨m1, m2, m3⟩ := kind_five y.k 1 hk ok.k
    have H0 := ((Has.start w).addAt 37 (thC X) rfl).addAt 37 (thC y) (g := w.heap.size + 1) (by simp)
    have eX : X.val = .agg #[.int .u8 X.k, .int .u64 X.h, .int .u64 X.l, .string X.s, .int .i64 X.m] := rfl
    have eY : y.val = .agg #[.int .u8 y.k, .int .u64 y.h, .int .u64 y.l, .string y.s, .int .i64 y.m] := rfl
    rw [eX, eY]
    go_enter Tryd.func28, Tryd.ntmps28
    go_upto_region 1 with fail
    change Code.wp _ _ _ _ ((w.alloc (.cells (thC X) 37)).alloc (.cells (thC y) 37))
    generalize (w.alloc (.cells (thC X) 37)).alloc (.cells (thC y) 37) = W at *
    obtain ⟨u0, u1, u2, u3, u4⟩ := (H0.box 1).thing
    obtain ⟨v0, v1, v2, v3, v4⟩ := (H0.box 0).thing
    have in0 := (H0.box 0).inside
    have in1 := (H0.box 1).inside
    go_upto_region 5 with fail
    have keep : ∀ u, Below W.drew.heap.size W.drew u → u.cell? ⟨w.heap.size, 1, none⟩ = some (.int .u64 X.h) ∧ u.cell? ⟨w.heap.size, 2, none⟩ = some (.int .u64 X.l) ∧ u.cell? ⟨w.heap.size + 1, 2, none⟩ = some (.int .u64 y.l) ∧ w.heap.size < u.heap.size ∧ w.heap.size + 1 < u.heap.size := fun u hu =>
      have H1 := (H0.drew).call hu
      ⟨(H1.box 1).read 1, (H1.box 1).read 2, (H1.box 0).read 2, (H1.box 1).inside, (H1.box 0).inside⟩
    have F0 := keep W.drew (Below.refl _ _)
    go_region_held3 (fun u => u.cell? ⟨w.heap.size, 1, none⟩ = some (.int .u64 X.h) ∧ u.cell? ⟨w.heap.size, 2, none⟩ = some (.int .u64 X.l) ∧ u.cell? ⟨w.heap.size + 1, 2, none⟩ = some (.int .u64 y.l) ∧ w.heap.size < u.heap.size ∧ w.heap.size + 1 < u.heap.size)
      (first
        | exact F0
        | exact keep _ b1
        | fail)
      (first
        | (go_at_call 29; refine (cO _).mono ?_; rintro e w1 ⟨rfl, b1⟩)
        | fail)
    go_wp2
    go_ret
    exact ⟨rfl, chain (H0.drew).below b1⟩
  · have ev : y.vl = ⟨y.h, y.l, []⟩ := by unfold Th.vl; rw [if_neg (by omega), if_neg (by omega), if_pos hk]
    have e1 : X.h = y.h := by rw [← hX, ev]; rfl
    have e2 : X.l = y.l := by rw [← hX, ev]; rfl
    have hz := fun u => eql_n8_same y.h y.l u
    have E1 := hideIt e1
    have E2 := hideIt e2
    clear hX ev e1 e2
    obtain ⟨m1, m2, m3⟩ := kind_five y.k 2 hk ok.k
    have H0 := ((Has.start w).addAt 37 (thC X) rfl).addAt 37 (thC y) (g := w.heap.size + 1) (by simp)
    have eX : X.val = .agg #[.int .u8 X.k, .int .u64 X.h, .int .u64 X.l, .string X.s, .int .i64 X.m] := rfl
    have eY : y.val = .agg #[.int .u8 y.k, .int .u64 y.h, .int .u64 y.l, .string y.s, .int .i64 y.m] := rfl
    rw [eX, eY]
    go_enter Tryd.func28, Tryd.ntmps28
    go_upto_region 1 with fail
    change Code.wp _ _ _ _ ((w.alloc (.cells (thC X) 37)).alloc (.cells (thC y) 37))
    generalize (w.alloc (.cells (thC X) 37)).alloc (.cells (thC y) 37) = W at *
    obtain ⟨u0, u1, u2, u3, u4⟩ := (H0.box 1).thing
    obtain ⟨v0, v1, v2, v3, v4⟩ := (H0.box 0).thing
    have in0 := (H0.box 0).inside
    have in1 := (H0.box 1).inside
    rw [E1.out] at u1
    rw [E2.out] at u2
    go_wp2
    go_ret
    exact ⟨rfl, H0.below⟩
  · have ev : y.vl = ⟨0, y.l % 2, []⟩ := by unfold Th.vl; rw [if_neg (by omega), if_neg (by omega), if_neg (by omega), if_pos hk]
    have e1 : X.h = 0 := by rw [← hX, ev]; rfl
    have e2 : y.l % 2 = X.l := by rw [← hX, ev]; rfl
    have cO : ∀ u, Calls Tryd.prog 29 #[.int .u64 X.l] u (Tells (.agg #[.int .u64 X.h, .int .u64 X.l]) u.heap.size u) := fun u => by rw [e1]; exact of_any X.l u
    have hz := fun u => eql_n8_same X.h X.l u
    have w1 : y.l.tmod 2 = X.l := by rw [Int.tmod_eq_emod_of_nonneg l0]; exact e2
    have w2 : y.l % 2 = X.l := e2
    clear hX ev e1 e2
    obtain ⟨m1, m2, m3⟩ := kind_five y.k 3 hk ok.k
    have H0 := ((Has.start w).addAt 37 (thC X) rfl).addAt 37 (thC y) (g := w.heap.size + 1) (by simp)
    have eX : X.val = .agg #[.int .u8 X.k, .int .u64 X.h, .int .u64 X.l, .string X.s, .int .i64 X.m] := rfl
    have eY : y.val = .agg #[.int .u8 y.k, .int .u64 y.h, .int .u64 y.l, .string y.s, .int .i64 y.m] := rfl
    rw [eX, eY]
    go_enter Tryd.func28, Tryd.ntmps28
    go_upto_region 1 with fail
    change Code.wp _ _ _ _ ((w.alloc (.cells (thC X) 37)).alloc (.cells (thC y) 37))
    generalize (w.alloc (.cells (thC X) 37)).alloc (.cells (thC y) 37) = W at *
    obtain ⟨u0, u1, u2, u3, u4⟩ := (H0.box 1).thing
    obtain ⟨v0, v1, v2, v3, v4⟩ := (H0.box 0).thing
    have in0 := (H0.box 0).inside
    have in1 := (H0.box 1).inside
    go_upto_region 9 with fail
    have keep : ∀ u, Below W.drew.heap.size W.drew u → u.cell? ⟨w.heap.size, 1, none⟩ = some (.int .u64 X.h) ∧ u.cell? ⟨w.heap.size, 2, none⟩ = some (.int .u64 X.l) ∧ u.cell? ⟨w.heap.size + 1, 2, none⟩ = some (.int .u64 y.l) ∧ w.heap.size < u.heap.size ∧ w.heap.size + 1 < u.heap.size := fun u hu =>
      have H1 := (H0.drew).call hu
      ⟨(H1.box 1).read 1, (H1.box 1).read 2, (H1.box 0).read 2, (H1.box 1).inside, (H1.box 0).inside⟩
    have F0 := keep W.drew (Below.refl _ _)
    go_region_held3 (fun u => u.cell? ⟨w.heap.size, 1, none⟩ = some (.int .u64 X.h) ∧ u.cell? ⟨w.heap.size, 2, none⟩ = some (.int .u64 X.l) ∧ u.cell? ⟨w.heap.size + 1, 2, none⟩ = some (.int .u64 y.l) ∧ w.heap.size < u.heap.size ∧ w.heap.size + 1 < u.heap.size)
      (first
        | exact F0
        | exact keep _ b1
        | fail)
      (first
        | (go_at_call 29; refine (cO _).mono ?_; rintro e w1 ⟨rfl, b1⟩)
        | fail)
    go_wp2
    go_ret
    exact ⟨rfl, chain (H0.drew).below b1⟩
  · have ev : y.vl = ⟨0, 0, y.s.data.toList⟩ := by unfold Th.vl; rw [if_neg (by omega), if_neg (by omega), if_neg (by omega), if_neg (by omega)]
    have e1 : X.s = y.s := by rw [← hX, ev]; exact ofL_data _
    have hz : (y.s.toList == y.s.toList) = true := by simp
    have E1 := hideIt e1
    clear hX ev e1
    obtain ⟨m1, m2, m3⟩ := kind_five y.k 4 hk ok.k
    have H0 := ((Has.start w).addAt 37 (thC X) rfl).addAt 37 (thC y) (g := w.heap.size + 1) (by simp)
    have eX : X.val = .agg #[.int .u8 X.k, .int .u64 X.h, .int .u64 X.l, .string X.s, .int .i64 X.m] := rfl
    have eY : y.val = .agg #[.int .u8 y.k, .int .u64 y.h, .int .u64 y.l, .string y.s, .int .i64 y.m] := rfl
    rw [eX, eY]
    go_enter Tryd.func28, Tryd.ntmps28
    go_upto_region 1 with fail
    change Code.wp _ _ _ _ ((w.alloc (.cells (thC X) 37)).alloc (.cells (thC y) 37))
    generalize (w.alloc (.cells (thC X) 37)).alloc (.cells (thC y) 37) = W at *
    obtain ⟨u0, u1, u2, u3, u4⟩ := (H0.box 1).thing
    obtain ⟨v0, v1, v2, v3, v4⟩ := (H0.box 0).thing
    have in0 := (H0.box 0).inside
    have in1 := (H0.box 1).inside
    rw [E1.out] at u3
    go_wp2
    go_ret
    exact ⟨rfl, H0.below⟩
end Go.Proofs.YtakhdhbalmcohaaDoor
