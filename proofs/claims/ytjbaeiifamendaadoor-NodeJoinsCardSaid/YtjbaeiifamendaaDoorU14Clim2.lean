/-
  Package node's Climb, whole.
-/
import Derived.Test.YtjbaeiifamendaaDoorU14Climb
namespace Go.Proofs.YtjbaeiifamendaaDoor
set_option linter.unusedVariables false
set_option linter.unusedSimpArgs false
set_option maxRecDepth 10000
open Go.RowKit

set_option maxRecDepth 100000 in
set_option maxHeartbeats 4000000 in
theorem climb14_bad (n : Int) (nd : Nd) (p : Nat) (A : Option Addr) (c : Nat) (ys : List Nd) (hm : ys.length ≤ 1000000000) (hb : (nd.of n && allW n ys) = false ∨ 63 < ys.length)
    (w : World) (hR : ndS.Row w w.heap.size A ys) :
    Calls Tryd.prog 14 #[.int .i64 n, nd.val, .int .u64 p, .slice A ys.length c] w (fun e w' => e = .returned (.tuple #[(climbN n nd p ys).1.val, .int .i64 (climbN n nd p ys).2]) ∧ Below w.heap.size w w') := by
  have cO := fun u => of14_any n nd u
  have cA := fun u hu => allOf14_any n A c ys (by omega) u hu
  have hc : climbN n nd p ys = if (nd.of n && allW n ys) = true then (if ys.length ≤ 63 then climbS n nd p ys else (Nd.zero, 2)) else (Nd.zero, 70) := rfl
  obtain ⟨N, hN⟩ : ∃ N, ys.length = N := ⟨_, rfl⟩
  rw [hN] at cA hm hb hc ⊢
  obtain ⟨R, hRR⟩ : ∃ R, climbN n nd p ys = R := ⟨_, rfl⟩
  rw [hRR] at hc ⊢
  generalize climbS n nd p ys = X at *
  obtain ⟨s, h, l⟩ := nd
  simp only [Nd.val] at cO
  generalize Nd.of n ⟨s, h, l⟩ = P at *
  generalize allW n ys = V at *
  show Calls _ _ #[.int .i64 n, .agg (ndB s h l), .int .u64 p, .slice A N c] _ _
  have H0 := ((((Has.start w).add 3 #[.int .i64 n]).addAt 26 (ndB s h l) (g := w.heap.size + 1) (by simp)).addAt 26 (ndB ⟨#[]⟩ 0 0) (g := w.heap.size + 1 + 1) (by simp)).addAt 29 #[.int .i64 0] (g := w.heap.size + 1 + 1 + 1) (by simp)
  clear hRR
  go_enter Tryd.func14, Tryd.ntmps14
  go_upto_region 1 with fail
  change Code.wp _ _ _ _ ((((w.alloc (.cells #[.int .i64 n] 3)).alloc (.cells (ndB s h l) 26)).alloc (.cells (ndB ⟨#[]⟩ 0 0) 26)).alloc (.cells #[.int .i64 0] 29))
  generalize (((w.alloc (.cells #[.int .i64 n] 3)).alloc (.cells (ndB s h l) 26)).alloc (.cells (ndB ⟨#[]⟩ 0 0) 26)).alloc (.cells #[.int .i64 0] 29) = W0 at *
  simp only [Nat.add_assoc, Nat.reduceAdd] at H0 ⊢
  obtain ⟨p0, p1, p2, -, -, -, hin1⟩ := (H0.box 2).three
  have n0 := (H0.box 3).read 0
  have hin2 := (H0.box 3).inside
  cases P with
  | false =>
    rw [Bool.false_and, if_neg (by decide)] at hc
    have HR := hideIt hc
    clear hc hb
    go_wp2_with (first
      | (go_at_call 12; refine (cO _).mono ?_; rintro e w1 ⟨rfl, b1⟩; have K1 := H0.call b1; obtain ⟨z0, z1, z2, zf0, zf1, zf2, zi⟩ := (K1.box 1).three; have y0 := (K1.box 0).read 0; have y1 := (K1.box 0).free 0; have y2 := (K1.box 0).inside)
      | fail)
    have E := (told4 K1 (by omega) (by omega) (fun x hx => by
      simp only [List.mem_cons, List.not_mem_nil, or_false] at hx
      rcases hx with rfl | rfl <;> simp only <;> omega) (.string ⟨#[]⟩) (.int .u64 0) (.int .u64 0)).wrote (by omega) (fun x hx => by
      simp only [List.mem_cons, List.not_mem_nil, or_false] at hx
      rcases hx with rfl | rfl | rfl <;> simp only <;> omega) 0 (.int .i64 70)
    generalize World.setCell (World.setCell (World.setCell (World.setCell _ _ _) _ _) _ _) _ _ = W9 at *
    obtain ⟨x0, x1, x2, -, -, -, xi⟩ := (E.box 1).three
    have x3 : W9.cell? ⟨w.heap.size + 3, 0, none⟩ = some (.int .i64 70) := (E.box 0).read 0
    exact bodyPost_ret (v := .tuple #[Nd.zero.val, .int .i64 70]) (by simp [results, Tryd.results14, go_sem, Nd.val, Nd.zero, x0, x1, x2, x3]) rfl ⟨by rw [HR.out], E.below⟩
  | true =>
    cases V with
    | false =>
      rw [Bool.and_false, if_neg (by decide)] at hc
      have HR := hideIt hc
      clear hc hb
      go_wp2_with (first
        | (go_at_call 12; refine (cO _).mono ?_; rintro e w1 ⟨rfl, b1⟩; have K1 := H0.call b1; obtain ⟨v0, v1, v2, -, -, -, vi⟩ := (K1.box 2).three; have n1 := (K1.box 3).read 0; have hin3 := (K1.box 3).inside)
        | (go_at_call 26; refine (cA _ (hR.on K1.below)).mono ?_; rintro e w2 ⟨rfl, b2⟩; have K2 := K1.call b2; obtain ⟨z0, z1, z2, zf0, zf1, zf2, zi⟩ := (K2.box 1).three; have y0 := (K2.box 0).read 0; have y1 := (K2.box 0).free 0; have y2 := (K2.box 0).inside)
        | fail)
      have E := (told4 K2 (by omega) (by omega) (fun x hx => by
        simp only [List.mem_cons, List.not_mem_nil, or_false] at hx
        rcases hx with rfl | rfl <;> simp only <;> omega) (.string ⟨#[]⟩) (.int .u64 0) (.int .u64 0)).wrote (by omega) (fun x hx => by
        simp only [List.mem_cons, List.not_mem_nil, or_false] at hx
        rcases hx with rfl | rfl | rfl <;> simp only <;> omega) 0 (.int .i64 70)
      generalize World.setCell (World.setCell (World.setCell (World.setCell _ _ _) _ _) _ _) _ _ = W9 at *
      obtain ⟨x0, x1, x2, -, -, -, xi⟩ := (E.box 1).three
      have x3 : W9.cell? ⟨w.heap.size + 3, 0, none⟩ = some (.int .i64 70) := (E.box 0).read 0
      exact bodyPost_ret (v := .tuple #[Nd.zero.val, .int .i64 70]) (by simp [results, Tryd.results14, go_sem, Nd.val, Nd.zero, x0, x1, x2, x3]) rfl ⟨by rw [HR.out], E.below⟩
    | true =>
      have hN63 : ¬ N ≤ 63 := by rcases hb with hb | hb; · cases hb
                                 · omega
      rw [Bool.and_true, if_pos rfl, if_neg hN63] at hc
      have hNi : (63 : Int) < N := by omega
      have HR := hideIt hc
      clear hc hb hN63
      go_wp2_with (first
        | (go_at_call 12; refine (cO _).mono ?_; rintro e w1 ⟨rfl, b1⟩; have K1 := H0.call b1; obtain ⟨v0, v1, v2, -, -, -, vi⟩ := (K1.box 2).three; have n1 := (K1.box 3).read 0; have hin3 := (K1.box 3).inside)
        | (go_at_call 26; refine (cA _ (hR.on K1.below)).mono ?_; rintro e w2 ⟨rfl, b2⟩; have K2 := K1.call b2; obtain ⟨z0, z1, z2, zf0, zf1, zf2, zi⟩ := (K2.box 1).three; have y0 := (K2.box 0).read 0; have y1 := (K2.box 0).free 0; have y2 := (K2.box 0).inside)
        | fail)
      have E := (told4 K2 (by omega) (by omega) (fun x hx => by
        simp only [List.mem_cons, List.not_mem_nil, or_false] at hx
        rcases hx with rfl | rfl <;> simp only <;> omega) (.string ⟨#[]⟩) (.int .u64 0) (.int .u64 0)).wrote (by omega) (fun x hx => by
        simp only [List.mem_cons, List.not_mem_nil, or_false] at hx
        rcases hx with rfl | rfl | rfl <;> simp only <;> omega) 0 (.int .i64 2)
      generalize World.setCell (World.setCell (World.setCell (World.setCell _ _ _) _ _) _ _) _ _ = W9 at *
      obtain ⟨x0, x1, x2, -, -, -, xi⟩ := (E.box 1).three
      have x3 : W9.cell? ⟨w.heap.size + 3, 0, none⟩ = some (.int .i64 2) := (E.box 0).read 0
      exact bodyPost_ret (v := .tuple #[Nd.zero.val, .int .i64 2]) (by simp [results, Tryd.results14, go_sem, Nd.val, Nd.zero, x0, x1, x2, x3]) rfl ⟨by rw [HR.out], E.below⟩
/-- Climb of anything. -/
theorem climb14_any (n : Int) (nd : Nd) (p : Nat) (hp : p < 18446744073709551616) (A : Option Addr) (c : Nat) (ys : List Nd) (hm : ys.length ≤ 1000000000) (hh : nd.halved) (hy : ∀ x ∈ ys, x.halved)
    (w : World) (hR : ndS.Row w w.heap.size A ys) (hT : Tab w) :
    Calls Tryd.prog 14 #[.int .i64 n, nd.val, .int .u64 p, .slice A ys.length c] w (fun e w' => e = .returned (.tuple #[(climbN n nd p ys).1.val, .int .i64 (climbN n nd p ys).2]) ∧ Below w.heap.size w w') := by
  by_cases hb : (nd.of n && allW n ys) = false ∨ 63 < ys.length
  · exact climb14_bad n nd p A c ys hm hb w hR
  · have h1 : (nd.of n && allW n ys) = true := by
      cases h : (nd.of n && allW n ys) with
      | true => rfl
      | false => exact absurd (Or.inl h) hb
    have h2 : ys.length ≤ 63 := by omega
    have h3 : nd.of n = true ∧ allW n ys = true := by simpa using h1
    have e : climbN n nd p ys = climbS n nd p ys := by rw [climbN, if_pos h1, if_pos h2]
    rw [e]
    exact climb14_good n nd p hp A c ys h2 h3.1 hh (fun x hx => ⟨(allW_mem h3.2).2 x hx, hy x hx⟩) w hR hT
end Go.Proofs.YtjbaeiifamendaaDoor
