/-
  wide.All and Balanced, walked, with each and the method value that it hands on: the sum of any row of numbers, High staying at its greatest; whether two rows have the same one.
-/
import Derived.Test.YtngofpdpangajaaDoorU3And
import Derived.Test.YtngofpdpangajaaDoorU3Cmp
import Derived.Test.YtngofpdpangajaaDoorU1Sum
namespace Go.Proofs.YtngofpdpangajaaDoor
set_option linter.unusedVariables false
set_option linter.unusedSimpArgs false
set_option maxRecDepth 10000
open Go.RowKit

/-- What is told of a sum, and a number more, is what is told of both. -/
theorem told_plus {v a : Int} (hv : 0 ≤ v) (ha : 0 ≤ a) : wH (wv (wH v) (wh v) (wl v) + a) = wH (v + a) ∧ wh (wv (wH v) (wh v) (wl v) + a) = wh (v + a) ∧ wl (wv (wH v) (wh v) (wl v) + a) = wl (v + a) := by
  have e : wL (wv (wH v) (wh v) (wl v) + a) = wL (v + a) := by
    unfold wv; rw [nv_wl]; unfold wL; omega
  refine ⟨?_, congrArg (· / 18446744073709551616) e, congrArg (· % 18446744073709551616) e⟩
  unfold wv; rw [nv_wl]
  unfold wH wL topH
  split <;> split <;> split <;> omega
theorem wide_word {v : Int} (hv : 0 ≤ v) : Word (wH v) ∧ Word (wh v) ∧ Word (wl v) := ⟨wH_word hv, wh_word v, wl_word v⟩

set_option maxHeartbeats 4000000 in
/-- The method: the number is put to the sum that lies in the block. -/
theorem wtake_any (g : Nat) (v ah al : Int) (hv : 0 ≤ v) (a1 : Word ah) (a0 : Word al) (w : World) (hb : Box w g 106 #[.int .u64 (wH v), .int .u64 (wh v), .int .u64 (wl v)]) :
    Calls Tryd.prog 81 #[.pointer (some ⟨g, 0, none⟩), .agg #[.int .u64 ah, .int .u64 al]] w
      (fun e w' => e = .returned (.tuple #[]) ∧ Box w' g 106 #[.int .u64 (wH (v + nv ah al)), .int .u64 (wh (v + nv ah al)), .int .u64 (wl (v + nv ah al))] ∧ Below g w w') := by
  obtain ⟨k1, k2, k3⟩ := wide_word hv
  have hg := hb.inside
  have cP := fun u : World => plus_any (wH v) (wh v) (wl v) ah al k1 k2 k3 a1 a0 u
  obtain ⟨e1, e2, e3⟩ := told_plus hv (nv_word a1 a0).1
  rw [told, e1, e2, e3] at cP
  clear e1 e2 e3 k1 k2 k3
  generalize wH (v + nv ah al) = X at *
  generalize wh (v + nv ah al) = x at *
  generalize wl (v + nv ah al) = y at *
  generalize wH v = H at *
  generalize wh v = h at *
  generalize wl v = l at *
  have M0 := (Has.start w).add 36 #[.int .u64 ah, .int .u64 al]
  have B0 := hb.past (.cells #[.int .u64 ah, .int .u64 al] 36)
  go_enter Tryd.func81, Tryd.ntmps81
  go_upto_region 1 with fail
  generalize w.alloc (.cells #[.int .u64 ah, .int .u64 al] 36) = W0 at *
  obtain ⟨p1, p2, p3, p4, p5⟩ := (M0.box 0).two
  obtain ⟨q1, q2, q3, q4, q5, q6, q7⟩ := B0.three
  go_region_with (first
    | (go_at_call 94; refine (cP _).mono ?_; rintro e w1 ⟨rfl, h1⟩
       have B1 := B0.draw.call h1
       have M1 := M0.drew.call h1
       obtain ⟨r1, r2, r3, r4, r5, r6, r7⟩ := B1.three))
  all_goals go_wp2
  all_goals
    have hw : g ≤ g := Nat.le_refl _
    exact bodyPost_end (v := .tuple #[]) (results_none Tryd.results81 _ _ _) rfl ⟨rfl, ((B1.wrote 0 (.int .u64 X)).wrote 1 (.int .u64 x)).wrote 2 (.int .u64 y), (((M1.below.mono (by omega)).setCell hw _).setCell hw _).setCell hw _⟩

set_option maxHeartbeats 4000000 in
/-- The method value is handed each number, from the first on. -/
theorem each_any (g : Nat) (v : Int) (hv : 0 ≤ v) (A : Option Addr) (c : Nat) (xs : List (Int × Int)) (hx : AllNum xs) (hm : xs.length ≤ 1000000) (w : World) (hr : NumRow w g A xs)
    (hb : Box w g 106 #[.int .u64 (wH v), .int .u64 (wh v), .int .u64 (wl v)]) :
    Calls Tryd.prog 80 #[.func (.func 81) #[.pointer (some ⟨g, 0, none⟩)] #[], .slice A xs.length c] w
      (fun e w' => e = .returned (.tuple #[]) ∧ Box w' g 106 #[.int .u64 (wH (v + sumN xs)), .int .u64 (wh (v + sumN xs)), .int .u64 (wl (v + sumN xs))] ∧ Below g w w') := by
  go_enter Tryd.func80, Tryd.ntmps80
  go_wp2
  go_loopg [8] xs.length (fun gk i wr => ∃ k : Nat, k ≤ xs.length ∧ gk = xs.length - k ∧ i = .int .i64 k ∧
    Box wr g 106 #[.int .u64 (wH (v + sumN (xs.take k))), .int .u64 (wh (v + sumN (xs.take k))), .int .u64 (wl (v + sumN (xs.take k)))] ∧ Below g w wr)
  case atStart => exact ⟨0, by omega, rfl, rfl, by rw [List.take_zero]; simpa [sumN] using hb, Below.refl _ _⟩
  case round =>
    obtain ⟨k, hk, rfl, rfl, hbx, hbel⟩ := hrel
    by_cases hlt : k < xs.length
    · obtain ⟨p, hp⟩ : ∃ p : Int × Int, xs[k] = p := ⟨_, rfl⟩
      obtain ⟨ad, rfl, had, c0, c1⟩ := hr k p.1 p.2 (by rw [List.getElem?_eq_getElem hlt, hp])
      have c0' : wr.cell? (ad.add (k * 2)) = some (.int .u64 p.1) := by rw [hbel.cell (by rw [add_block]; exact had)]; exact c0
      have c1' : wr.cell? ⟨(ad.add (k * 2)).block, (ad.add (k * 2)).off + 1, none⟩ = some (.int .u64 p.2) := by
        have e : (⟨(ad.add (k * 2)).block, (ad.add (k * 2)).off + 1, none⟩ : Addr) = ad.add (k * 2 + 1) := by rw [← add_two]; rfl
        rw [e, hbel.cell (by rw [add_block]; exact had)]; exact c1
      have e1 := sumN_take hlt
      rw [hp] at e1
      obtain ⟨w1, w2⟩ := hx p (by rw [← hp]; exact List.getElem_mem hlt)
      have hs := sumN_nonneg (hx.take k)
      have cT := fun (u : World) hu => wtake_any g (v + sumN (xs.take k)) p.1 p.2 (by omega) w1 w2 u hu
      rw [show v + sumN (xs.take k) + nv p.1 p.2 = v + sumN (xs.take (k + 1)) by omega] at cT
      have E1 := hideIt e1
      have HP := hideIt hp
      clear e1 hp
      have hin := hbx.inside
      have X1 := hbx.past (.cells #[.int .u64 p.1, .int .u64 p.2] 36)
      have L1 := hbel.alloc (by omega) (.cells #[.int .u64 p.1, .int .u64 p.2] 36)
      go_wp2_with (first
        | (go_at_call 81; refine (cT _ X1).mono ?_; rintro e w3 ⟨rfl, hb3, h3⟩))
      go_roundg (xs.length - (k + 1))
      case measure => omega
      case rel => exact ⟨k + 1, by omega, rfl, by go_num, hb3, L1.trans h3⟩
    · have e : k = xs.length := by omega
      subst e
      have ht : xs.take xs.length = xs := List.take_of_length_le (Nat.le_refl _)
      rw [ht] at hbx
      clear ht
      go_wp2
      exact bodyPost_end (v := .tuple #[]) (results_none Tryd.results80 _ _ _) rfl ⟨rfl, hbx, hbel⟩

theorem sumN_lt : ∀ {xs : List (Int × Int)}, AllNum xs → sumN xs ≤ xs.length * 340282366920938463463374607431768211455
  | [], _ => by simp [sumN]
  | x :: r, h => by
    have h1 := nv_word (h x (by simp)).1 (h x (by simp)).2
    have h2 := sumN_lt (xs := r) (fun y hy => h y (by simp [hy]))
    simp only [sumN, List.length_cons]
    push_cast
    omega
/-- A row of not too many numbers: what is told of its sum is the sum. -/
theorem wv_sum {xs : List (Int × Int)} (h : AllNum xs) (hm : xs.length ≤ 1000000) : wv (wH (sumN xs)) (wh (sumN xs)) (wl (sumN xs)) = sumN xs := by
  have h1 := sumN_lt h
  have h0 := sumN_nonneg h
  exact wv_told h0 (by unfold topH; omega)

set_option maxHeartbeats 4000000 in
theorem all_any (A : Option Addr) (c : Nat) (xs : List (Int × Int)) (hx : AllNum xs) (hm : xs.length ≤ 1000000) (w : World) (hr : NumRow w w.heap.size A xs) :
    Calls Tryd.prog 64 #[.slice A xs.length c] w (Tells (told (sumN xs)) w.heap.size w) := by
  obtain ⟨W0, hW0⟩ : ∃ W0 : World, W0 = (w.alloc (.cells #[.int .u64 0, .int .u64 0, .int .u64 0] 92)).alloc (.cells #[.int .u64 0, .int .u64 0, .int .u64 0] 106) := ⟨_, rfl⟩
  have M0 : Has w [(w.heap.size + 1, 106, #[.int .u64 0, .int .u64 0, .int .u64 0]), (w.heap.size, 92, #[.int .u64 0, .int .u64 0, .int .u64 0])] W0 := by
    rw [hW0]; exact ((Has.start w).add 92 #[.int .u64 0, .int .u64 0, .int .u64 0]).addAt 106 #[.int .u64 0, .int .u64 0, .int .u64 0] (g := w.heap.size + 1) (by simp)
  have cE := each_any (w.heap.size + 1) 0 (Int.le_refl 0) A c xs hx hm W0 ((hr.call M0.below).more (by omega)) (M0.box 0)
  rw [hW0, Int.zero_add] at cE
  rw [hW0] at M0
  clear hW0
  rw [told]
  generalize wH (sumN xs) = X at *
  generalize wh (sumN xs) = x at *
  generalize wl (sumN xs) = y at *
  go_enter Tryd.func64, Tryd.ntmps64
  go_wp2_with (first
    | (go_at_call 80; refine cE.mono ?_; rintro e w1 ⟨rfl, hb1, h1⟩
       have B1 := (M0.box 1).below h1 (by omega)
       obtain ⟨p1, p2, p3, p4, p5, p6, p7⟩ := hb1.three
       obtain ⟨q1, q2, q3, q4, q5, q6, q7⟩ := B1.three))
  have R9 := ((B1.wrote 0 (.int .u64 X)).wrote 1 (.int .u64 x)).wrote 2 (.int .u64 y)
  have e0 := R9.read 0
  have e1 := R9.read 1
  have e2 := R9.read 2
  simp only [Nat.reduceLT, List.setIfInBounds_toArray, List.set_cons_zero, List.set_cons_succ, List.getElem?_toArray, List.getElem?_cons_zero, List.getElem?_cons_succ] at e0 e1 e2
  have L9 := M0.below.trans (h1.mono (by omega))
  have hw : w.heap.size ≤ w.heap.size := Nat.le_refl _
  exact bodyPost_ret (v := wide X x y) (by simp [results, Tryd.results64, go_sem, e0, e1, e2]) rfl ⟨rfl, ((L9.setCell hw _).setCell hw _).setCell hw _⟩

theorem cmpI_zero {a b : Int} : cmpI a b = 0 ↔ a = b := by
  rcases Int.lt_trichotomy a b with h | h | h
  · rw [cmpI_lt h]; omega
  · subst h; rw [cmpI_eq]; simp
  · rw [cmpI_gt h]; omega

set_option maxHeartbeats 4000000 in
theorem balanced_any (A B : Option Addr) (c d : Nat) (xs ys : List (Int × Int)) (hx : AllNum xs) (hy : AllNum ys) (hm : xs.length ≤ 1000000) (hn : ys.length ≤ 1000000) (w : World)
    (hr : NumRow w w.heap.size A xs) (hr' : NumRow w w.heap.size B ys) :
    Calls Tryd.prog 34 #[.slice A xs.length c, .slice B ys.length d] w (Tells (.bool (decide (sumN xs = sumN ys))) w.heap.size w) := by
  have cA := all_any A c xs hx hm w hr
  have cB := fun (u : World) (hu : Below w.heap.size w u) => all_any B d ys hy hn u ((hr'.call hu).more hu.size)
  have cC := fun u : World => wcmp_any (wH (sumN xs)) (wh (sumN xs)) (wl (sumN xs)) (wH (sumN ys)) (wh (sumN ys)) (wl (sumN ys)) (wh_word _) (wl_word _) (wh_word _) (wl_word _) u
  rw [wv_sum hx hm, wv_sum hy hn] at cC
  obtain ⟨p, hp⟩ : ∃ p, cmpI (sumN xs) (sumN ys) = p := ⟨_, rfl⟩
  have e : decide (sumN xs = sumN ys) = decide (p = 0) := by rw [← hp]; exact decide_eq_decide.2 cmpI_zero.symm
  rw [e]
  rw [hp] at cC
  clear hp e
  rw [told] at cA
  rw [told] at cB
  generalize wH (sumN xs) = X at *
  generalize wh (sumN xs) = x at *
  generalize wl (sumN xs) = y at *
  generalize wH (sumN ys) = X' at *
  generalize wh (sumN ys) = x' at *
  generalize wl (sumN ys) = y' at *
  obtain ⟨b, hb⟩ : ∃ b, decide (p = 0) = b := ⟨_, rfl⟩
  have HB := hideIt hb
  rw [hb]
  clear hb
  go_enter Tryd.func34, Tryd.ntmps34
  go_wp2_with (first
    | (go_at_call 64; ((with_reducible refine cA.mono ?_); rintro e w1 ⟨rfl, h1⟩))
    | (go_at_call 64; ((with_reducible refine (cB _ h1).mono ?_); rintro e w2 ⟨rfl, h2⟩))
    | (go_at_call 65; refine (cC _).mono ?_; rintro e w3 ⟨rfl, h3⟩))
  go_ret
  exact ⟨by rw [← HB.out]; rfl, chain (chain h1 h2) h3⟩
end Go.Proofs.YtngofpdpangajaaDoor
