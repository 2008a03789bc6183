/-
  (wide.Wide).And and Plus, walked: the sum of two wide numbers, of a wide number and a number; any halves.
-/
import Derived.Test.YtngofpdpangajaaDoorU3Calls
namespace Go.Proofs.YtngofpdpangajaaDoor
set_option linter.unusedVariables false
set_option linter.unusedSimpArgs false
set_option maxRecDepth 10000
open Go.RowKit

theorem and_told {H h l K j m : Int} (a : Word H) (b : Word h) (c : Word l) (a' : Word K) (b' : Word j) (c' : Word m) :
    wH (wv H h l + wv K j m) = (if topH < H + K + car (nv h l + nv j m) then topH else H + K + car (nv h l + nv j m)) ∧
    wh (wv H h l + wv K j m) = wh (nv h l + nv j m) ∧ wl (wv H h l + wv K j m) = wl (nv h l + nv j m) := by
  have h1 := nv_word b c
  have h2 := nv_word b' c'
  have e : wL (wv H h l + wv K j m) = wL (nv h l + nv j m) := by unfold wL wv; omega
  refine ⟨(and_parts a a' h1 h2).2, ?_, ?_⟩
  · unfold wh; rw [e]
  · unfold wl; rw [e]

set_option maxHeartbeats 4000000 in
theorem and_any (H h l K j m : Int) (a : Word H) (b : Word h) (c : Word l) (a' : Word K) (b' : Word j) (c' : Word m) (w : World) :
    Calls Tryd.prog 107 #[wide H h l, wide K j m] w (Tells (told (wv H h l + wv K j m)) w.heap.size w) := by
  obtain ⟨e1, e2, e3⟩ := and_told a b c a' b' c'
  have cL := fun u : World => lows_any h l j m b c b' c' u
  obtain ⟨k0, k1⟩ := car_01 (nv h l + nv j m)
  rw [told, e1, e2, e3]
  generalize wh (nv h l + nv j m) = x at *
  generalize wl (nv h l + nv j m) = y at *
  generalize car (nv h l + nv j m) = q at *
  have H0 := a.1
  have H1 := a.2
  have K0 := a'.1
  have K1 := a'.2
  have M0 := (((Has.start w).add 92 #[.int .u64 H, .int .u64 h, .int .u64 l]).addAt 92 #[.int .u64 K, .int .u64 j, .int .u64 m] (g := w.heap.size + 1) (by simp)).addAt 92 #[.int .u64 0, .int .u64 0, .int .u64 0] (g := w.heap.size + 1 + 1) (by simp)
  clear e1 e2 e3
  by_cases ht : topH < H + K + q
  · have o1 : (H + K + q) / 18446744073709551616 = 1 := by unfold topH at ht; omega
    rw [if_pos ht]
    unfold topH at *
    clear ht
    go_enter Tryd.func107, Tryd.ntmps107
    go_wp2_with (first
      | (go_at_call 119; refine (cL _).mono ?_; rintro e w1 ⟨rfl, h1⟩
         have M1 := (M0.call h1).add 36 #[.int .u64 x, .int .u64 y]
         obtain ⟨p1, p2, p3, p4, p5, p6, p7⟩ := ((M0.call h1).box 2).three
         obtain ⟨q1, q2, q3, q4, q5, q6, q7⟩ := ((M0.call h1).box 1).three
         obtain ⟨r1, r2, r3, r4, r5, r6, r7⟩ := ((M0.call h1).box 0).three)
      | simp only [add64 H K q H0 K0 k0 k1])
    have R9 := (((((M0.call h1).box 0).wrote 0 (.int .u64 18446744073709551615)).wrote 1 (.int .u64 x)).wrote 2 (.int .u64 y)).past (.cells #[.int .u64 x, .int .u64 y] 36)
    have e0 := R9.read 0
    have e1 := R9.read 1
    have e2 := R9.read 2
    simp only [Nat.reduceLT, List.setIfInBounds_toArray, List.set_cons_zero, List.set_cons_succ, List.getElem?_toArray, List.getElem?_cons_zero, List.getElem?_cons_succ] at e0 e1 e2
    have L9 := (M0.call h1).below
    have hw : w.heap.size ≤ w.heap.size + 1 + 1 := by omega
    exact bodyPost_ret (v := wide (18446744073709551615) x y) (by simp [results, Tryd.results107, go_sem, e0, e1, e2]) rfl ⟨rfl, (((L9.setCell hw _).setCell hw _).setCell hw _).alloc (by have := L9.size; simp; omega) _⟩
  · have o1 : (H + K + q) / 18446744073709551616 = 0 := by unfold topH at ht; omega
    have o2 : (H + K + q) % 18446744073709551616 = H + K + q := by unfold topH at ht; omega
    rw [if_neg ht]
    clear ht
    go_enter Tryd.func107, Tryd.ntmps107
    go_wp2_with (first
      | (go_at_call 119; refine (cL _).mono ?_; rintro e w1 ⟨rfl, h1⟩
         have M1 := (M0.call h1).add 36 #[.int .u64 x, .int .u64 y]
         obtain ⟨p1, p2, p3, p4, p5, p6, p7⟩ := ((M0.call h1).box 2).three
         obtain ⟨q1, q2, q3, q4, q5, q6, q7⟩ := ((M0.call h1).box 1).three
         obtain ⟨r1, r2, r3, r4, r5, r6, r7⟩ := ((M0.call h1).box 0).three)
      | simp only [add64 H K q H0 K0 k0 k1])
    have R9 := (((((M0.call h1).box 0).wrote 0 (.int .u64 (H + K + q))).wrote 1 (.int .u64 x)).wrote 2 (.int .u64 y)).past (.cells #[.int .u64 x, .int .u64 y] 36)
    have e0 := R9.read 0
    have e1 := R9.read 1
    have e2 := R9.read 2
    simp only [Nat.reduceLT, List.setIfInBounds_toArray, List.set_cons_zero, List.set_cons_succ, List.getElem?_toArray, List.getElem?_cons_zero, List.getElem?_cons_succ] at e0 e1 e2
    have L9 := (M0.call h1).below
    have hw : w.heap.size ≤ w.heap.size + 1 + 1 := by omega
    exact bodyPost_ret (v := wide ((H + K + q)) x y) (by simp [results, Tryd.results107, go_sem, e0, e1, e2]) rfl ⟨rfl, (((L9.setCell hw _).setCell hw _).setCell hw _).alloc (by have := L9.size; simp; omega) _⟩

set_option maxHeartbeats 4000000 in
theorem plus_any (H h l ah al : Int) (a : Word H) (b : Word h) (c : Word l) (a1 : Word ah) (a0 : Word al) (w : World) :
    Calls Tryd.prog 94 #[wide H h l, .agg #[.int .u64 ah, .int .u64 al]] w (Tells (told (wv H h l + nv ah al)) w.heap.size w) := by
  have cN := fun u : World => and_any H h l 0 ah al a b c word_lit a1 a0 u
  rw [show wv 0 ah al = nv ah al by unfold wv; omega] at cN
  rw [told] at cN ⊢
  generalize wH (wv H h l + nv ah al) = X at *
  generalize wh (wv H h l + nv ah al) = x at *
  generalize wl (wv H h l + nv ah al) = y at *
  have M0 := (((Has.start w).add 92 #[.int .u64 H, .int .u64 h, .int .u64 l]).addAt 36 #[.int .u64 ah, .int .u64 al] (g := w.heap.size + 1) (by simp)).addAt 92 #[.int .u64 0, .int .u64 0, .int .u64 0] (g := w.heap.size + 1 + 1) (by simp)
  go_enter Tryd.func94, Tryd.ntmps94
  go_upto_region 1 with fail
  generalize ((w.alloc (.cells #[.int .u64 H, .int .u64 h, .int .u64 l] 92)).alloc (.cells #[.int .u64 ah, .int .u64 al] 36)).alloc (.cells #[.int .u64 0, .int .u64 0, .int .u64 0] 92) = W0 at *
  obtain ⟨p1, p2, p3, p4, p5, p6, p7⟩ := (M0.box 2).three
  obtain ⟨q1, q2, q3, q4, q5⟩ := (M0.box 1).two
  go_region_with (first
    | (go_at_call 108; refine (wof_any _ _ _).mono ?_; rintro e w1 ⟨rfl, h1⟩
       have M1 := M0.drew.call h1
       obtain ⟨s1, s2, s3, s4, s5, s6, s7⟩ := (M1.box 2).three)
    | (go_at_call 107; refine (cN _).mono ?_; rintro e w2 ⟨rfl, h2⟩
       have M2 := M1.call h2
       obtain ⟨r1, r2, r3, r4, r5, r6, r7⟩ := (M2.box 0).three))
  all_goals go_wp2
  all_goals
    have R9 := (((M2.box 0).wrote 0 (.int .u64 X)).wrote 1 (.int .u64 x)).wrote 2 (.int .u64 y)
    have e0 := R9.read 0
    have e1 := R9.read 1
    have e2 := R9.read 2
    simp only [Nat.reduceLT, List.setIfInBounds_toArray, List.set_cons_zero, List.set_cons_succ, List.getElem?_toArray, List.getElem?_cons_zero, List.getElem?_cons_succ] at e0 e1 e2
    have L9 := M2.below
    have hw : w.heap.size ≤ w.heap.size + 1 + 1 := by omega
    exact bodyPost_ret (v := wide X x y) (by simp [results, Tryd.results94, go_sem, e0, e1, e2]) rfl ⟨rfl, ((L9.setCell hw _).setCell hw _).setCell hw _⟩
end Go.Proofs.YtngofpdpangajaaDoor
