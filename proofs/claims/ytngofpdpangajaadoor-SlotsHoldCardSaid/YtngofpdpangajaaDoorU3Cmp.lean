/-
  (wide.Wide).Cmp and Less, walked, with the library's cmp.Compare and cmp.Or at their types: how two wide numbers compare; any halves.
-/
import Derived.Test.YtngofpdpangajaaDoorU3Calls
import Derived.LoopTactic
import Derived.Deep.LoopGhost
namespace Go.Proofs.YtngofpdpangajaaDoor
set_option linter.unusedVariables false
set_option linter.unusedSimpArgs false
set_option maxRecDepth 10000
open Go.RowKit

theorem isNaN_any (x : Int) (w : World) : Calls Tryd.prog 95 #[.int .u64 x] w (Tells (.bool false) w.heap.size w) := by
  go_enter Tryd.func95, Tryd.ntmps95
  go_wp2
  exact bodyPost_ret (v := .bool false) (by simp [results, Tryd.results95, go_sem]) rfl ⟨rfl, by repeat (first | exact Below.refl _ _ | apply Below.drew | apply below_drewN | refine Below.alloc ?_ (by simp; try omega) _ | refine Below.setCell ?_ (by simp; try omega) _)⟩

set_option maxHeartbeats 1000000 in
theorem ucompare_any (x y : Int) (w : World) : Calls Tryd.prog 83 #[.int .u64 x, .int .u64 y] w (Tells (.int .i64 (cmpI x y)) w.heap.size w) := by
  have hL : Below w.heap.size w w := Below.refl _ _
  rcases Int.lt_trichotomy x y with h | h | h
  · rw [cmpI_lt h]
    go_enter Tryd.func83, Tryd.ntmps83
    go_wp2_with (first
      | (go_at_call_of 95 (Value.int IntKind.u64 x); refine (isNaN_any x _).mono ?_; rintro e w1 ⟨rfl, h1⟩)
      | (go_at_call_of 95 (Value.int IntKind.u64 y); refine (isNaN_any y _).mono ?_; rintro e w2 ⟨rfl, h2⟩))
    go_ret
    exact ⟨rfl, chain h1 h2⟩
  · subst h
    have n1 : ¬ (x < x) := by omega
    rw [cmpI_eq]
    go_enter Tryd.func83, Tryd.ntmps83
    go_upto_region 2 with (first
      | (go_at_call 95; refine (isNaN_any x _).mono ?_; rintro e w1 ⟨rfl, h1⟩))
    go_wp2_with (first
      | (go_at_call 95; refine (isNaN_any x _).mono ?_; rintro e w2 ⟨rfl, h2⟩))
    go_ret
    exact ⟨rfl, chain h1 h2⟩
  · have n1 : ¬ (x < y) := by omega
    rw [cmpI_gt h]
    go_enter Tryd.func83, Tryd.ntmps83
    go_wp2_with (first
      | (go_at_call_of 95 (Value.int IntKind.u64 x); refine (isNaN_any x _).mono ?_; rintro e w1 ⟨rfl, h1⟩)
      | (go_at_call_of 95 (Value.int IntKind.u64 y); refine (isNaN_any y _).mono ?_; rintro e w2 ⟨rfl, h2⟩))
    go_ret
    exact ⟨rfl, chain h1 h2⟩

set_option maxHeartbeats 1000000 in
/-- Of two: the first one that isn't 0. -/
theorem or_any (g cap : Nat) (x y : Int) (w : World) (h0 : w.cell? ⟨g, 0, none⟩ = some (.int .i64 x)) (h1 : w.cell? ⟨g, 1, none⟩ = some (.int .i64 y)) :
    Calls Tryd.prog 82 #[.slice (some ⟨g, 0, none⟩) 2 cap] w (Tells (.int .i64 (if x = 0 then y else x)) w.heap.size w) := by
  obtain ⟨r, hr⟩ : ∃ r, (if x = 0 then y else x) = r := ⟨_, rfl⟩
  rw [hr]
  have HR := hideIt hr
  clear hr
  go_enter Tryd.func82, Tryd.ntmps82
  go_wp2
  go_loopg [5, 8] 2 (fun gk s i wr => wr = w ∧ ((gk = 2 ∧ i = .int .i64 0) ∨ (gk = 1 ∧ i = .int .i64 1 ∧ x = 0) ∨ (gk = 0 ∧ i = .int .i64 2 ∧ x = 0 ∧ y = 0)))
  case atStart => exact ⟨rfl, .inl ⟨rfl, rfl⟩⟩
  case round =>
    obtain ⟨rfl, ⟨rfl, rfl⟩ | ⟨rfl, rfl, rfl⟩ | ⟨rfl, rfl, rfl, rfl⟩⟩ := hrel
    · by_cases hx : x = 0
      · subst hx
        go_wp2
        go_roundg 1
        case measure => omega
        case rel => exact ⟨rfl, .inr (.inl (by simp))⟩
      · go_wp2
        go_ret
        have e : r = x := by rw [← HR.out, if_neg hx]
        exact ⟨by rw [e]; rfl, Below.refl _ _⟩
    · by_cases hy : y = 0
      · subst hy
        go_wp2
        go_roundg 0
        case measure => omega
        case rel => exact ⟨rfl, .inr (.inr (by simp))⟩
      · go_wp2
        go_ret
        have e : r = y := by rw [← HR.out]; simp
        exact ⟨by rw [e]; rfl, Below.refl _ _⟩
    · go_wp2
      go_ret
      have e : r = 0 := by rw [← HR.out]; simp
      exact ⟨by rw [e]; rfl, Below.refl _ _⟩

theorem or_cmp {H h l K j m : Int} (b : Word h) (c : Word l) (b' : Word j) (c' : Word m) :
    (if cmpI H K = 0 then cmpI (nv h l) (nv j m) else cmpI H K) = cmpI (wv H h l) (wv K j m) := by
  rw [wv_cmp b c b' c']
  rcases Int.lt_trichotomy H K with g | g | g
  · rw [cmpI_lt g, if_neg (by omega), if_pos g]
  · subst g
    rw [cmpI_eq, if_pos rfl, if_neg (by omega), if_neg (by omega)]
  · rw [cmpI_gt g, if_neg (by omega), if_neg (by omega), if_pos g]

set_option maxHeartbeats 4000000 in
theorem wcmp_any (H h l K j m : Int) (b : Word h) (c : Word l) (b' : Word j) (c' : Word m) (w : World) :
    Calls Tryd.prog 65 #[wide H h l, wide K j m] w (Tells (.int .i64 (cmpI (wv H h l) (wv K j m))) w.heap.size w) := by
  have cC := fun u : World => cmp_any h l j m b c b' c' u
  have cH := fun u : World => ucompare_any H K u
  have hor := or_cmp (H := H) (K := K) b c b' c'
  rw [← hor]
  clear hor
  generalize cmpI H K = p at *
  generalize cmpI (nv h l) (nv j m) = q at *
  have cO := fun (g cap : Nat) (u : World) (h0 : u.cell? ⟨g, 0, none⟩ = some (.int .i64 p)) (h1 : u.cell? ⟨g, 1, none⟩ = some (.int .i64 q)) => or_any g cap p q u h0 h1
  generalize (if p = 0 then q else p) = r at *
  have M0 := ((Has.start w).add 92 #[.int .u64 H, .int .u64 h, .int .u64 l]).addAt 92 #[.int .u64 K, .int .u64 j, .int .u64 m] (g := w.heap.size + 1) (by simp)
  go_enter Tryd.func65, Tryd.ntmps65
  go_upto_region 1 with fail
  generalize ((w.alloc (.cells #[.int .u64 H, .int .u64 h, .int .u64 l] 92)).alloc (.cells #[.int .u64 K, .int .u64 j, .int .u64 m] 92)) = W0 at *
  obtain ⟨p1, p2, p3, p4, p5, p6, p7⟩ := (M0.box 1).three
  obtain ⟨q1, q2, q3, q4, q5, q6, q7⟩ := (M0.box 0).three
  have fact : ∀ u, Has w [(w.heap.size + 1, 92, #[.int .u64 K, .int .u64 j, .int .u64 m]), (w.heap.size, 92, #[.int .u64 H, .int .u64 h, .int .u64 l])] u →
      u.cell? ⟨w.heap.size, 0, none⟩ = some (.int .u64 H) ∧ u.cell? ⟨w.heap.size, 1, none⟩ = some (.int .u64 h) ∧ u.cell? ⟨w.heap.size, 2, none⟩ = some (.int .u64 l) ∧ u.cell? ⟨w.heap.size + 1, 0, none⟩ = some (.int .u64 K) ∧ u.cell? ⟨w.heap.size + 1, 1, none⟩ = some (.int .u64 j) ∧ u.cell? ⟨w.heap.size + 1, 2, none⟩ = some (.int .u64 m) := fun u hu => ⟨(hu.box 1).read 0, (hu.box 1).read 1, (hu.box 1).read 2, (hu.box 0).read 0, (hu.box 0).read 1, (hu.box 0).read 2⟩
  go_region_held3 (fun w' => Has w [(w.heap.size + 1, 92, #[.int .u64 K, .int .u64 j, .int .u64 m]), (w.heap.size, 92, #[.int .u64 H, .int .u64 h, .int .u64 l])] w' ∧
      w'.cell? ⟨w.heap.size, 0, none⟩ = some (.int .u64 H) ∧ w'.cell? ⟨w.heap.size, 1, none⟩ = some (.int .u64 h) ∧ w'.cell? ⟨w.heap.size, 2, none⟩ = some (.int .u64 l) ∧ w'.cell? ⟨w.heap.size + 1, 0, none⟩ = some (.int .u64 K) ∧ w'.cell? ⟨w.heap.size + 1, 1, none⟩ = some (.int .u64 j) ∧ w'.cell? ⟨w.heap.size + 1, 2, none⟩ = some (.int .u64 m))
    (first | exact held_drew fact M0 | exact held_keep fact (by assumption) (by assumption) | exact held_past fact (by assumption) _)
    (first
      | (go_at_call 83; refine (cH _).mono ?_; rintro e w1 ⟨rfl, h1⟩)
      | (go_at_call 84; refine (cC _).mono ?_; rintro e w2 ⟨rfl, h2⟩
         have B2 := Box.made w2 3 #[.int .i64 p, .int .i64 q])
      | (go_at_call 82; refine (cO _ _ _ (B2.read 0) (B2.read 1)).mono ?_; rintro e w3 ⟨rfl, h3⟩))
  go_wp2
  go_ret
  have hh : ∃ Q, Has w [(w.heap.size + 1, 92, #[.int .u64 K, .int .u64 j, .int .u64 m]), (w.heap.size, 92, #[.int .u64 H, .int .u64 h, .int .u64 l])] w3 ∧ Q := ⟨_, by assumption⟩
  obtain ⟨Q, hh, -⟩ := hh
  exact ⟨rfl, hh.below⟩

end Go.Proofs.YtngofpdpangajaaDoor
