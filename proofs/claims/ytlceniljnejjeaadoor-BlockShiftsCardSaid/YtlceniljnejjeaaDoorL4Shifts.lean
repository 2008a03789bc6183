/-
  The law BlockShifts: of a round's state six words are words of the one before, and the word that comes in is only added, whatever the state, the place, the two words.
  Conditions: block's table of constants holds what the program's text lays (tied by the card).
-/
import Derived.Test.YtlceniljnejjeaaDoorH4Held
import Derived.Test.YtlceniljnejjeaaDoorW4Laid
namespace Go.Proofs.YtlceniljnejjeaaDoor
set_option linter.unusedVariables false
set_option linter.unusedSimpArgs false
open Go.ChangeShapes Go.WideShapes Go.ChangeAt Go.RowKit

theorem Box.z8 {w : World} {g : Nat} {t : TypeId} (h : Box w g t #[.int .u32 0, .int .u32 0, .int .u32 0, .int .u32 0, .int .u32 0, .int .u32 0, .int .u32 0, .int .u32 0]) :
    w.cell? ⟨g, 0, none⟩ = some (.int .u32 0) ∧ w.cell? ⟨g, 1, none⟩ = some (.int .u32 0) ∧ w.cell? ⟨g, 2, none⟩ = some (.int .u32 0) ∧ w.cell? ⟨g, 3, none⟩ = some (.int .u32 0) ∧
    w.cell? ⟨g, 4, none⟩ = some (.int .u32 0) ∧ w.cell? ⟨g, 5, none⟩ = some (.int .u32 0) ∧ w.cell? ⟨g, 6, none⟩ = some (.int .u32 0) ∧ w.cell? ⟨g, 7, none⟩ = some (.int .u32 0) ∧
    w.frozen? ⟨g, 0, none⟩ = false ∧ w.frozen? ⟨g, 1, none⟩ = false ∧ w.frozen? ⟨g, 2, none⟩ = false ∧ w.frozen? ⟨g, 3, none⟩ = false ∧ w.frozen? ⟨g, 4, none⟩ = false ∧ w.frozen? ⟨g, 5, none⟩ = false ∧
    w.frozen? ⟨g, 6, none⟩ = false ∧ w.frozen? ⟨g, 7, none⟩ = false ∧ g < w.heap.size :=
  ⟨h.read 0, h.read 1, h.read 2, h.read 3, h.read 4, h.read 5, h.read 6, h.read 7, h.free 0, h.free 1, h.free 2, h.free 3, h.free 4, h.free 5, h.free 6, h.free 7, h.inside⟩
theorem box_at (w : World) (t : TypeId) (cs : Array Value) {g : Nat} (h : w.heap.size = g) : Box (w.alloc (.cells cs t)) g t cs := h ▸ Box.made w t cs
/-- What stands behind the two rounds: both states in blocks of their own. -/
def TwoIn (w : World) (s A B : St) (p q : Value) (W : World) : Prop := ∃ ga gb, p = .pointer (some ⟨ga, 0, none⟩) ∧ q = .pointer (some ⟨gb, 0, none⟩) ∧ Has w [(ga, 24, A.cs), (gb, 24, B.cs), (w.heap.size, 24, s.cs)] W ∧ Tab W

theorem set8_size (W : World) (g : Nat) (s : St) : (set8 W g s).heap.size = W.heap.size := by simp [set8, World.setCell]
section
variable {w w6 : World} {s : St}
theorem two_new (h : HasT w [(w.heap.size, 24, s.cs)] w6) (A B : St) : TwoIn w s A B (.pointer (some ⟨w6.heap.size, 0, none⟩)) (.pointer (some ⟨w6.heap.size + 1, 0, none⟩)) ((w6.alloc (.cells A.cs 24)).alloc (.cells B.cs 24)) :=
  ⟨_, _, rfl, rfl, ((h.1.add 24 A.cs).addAt 24 B.cs (size_al _ _)).swap, (h.2.past _).past _⟩
theorem two_newr (h : HasT w [(w.heap.size, 24, s.cs)] w6) (A B : St) : TwoIn w s A B (.pointer (some ⟨w6.heap.size + 1, 0, none⟩)) (.pointer (some ⟨w6.heap.size, 0, none⟩)) ((w6.alloc (.cells B.cs 24)).alloc (.cells A.cs 24)) :=
  ⟨_, _, rfl, rfl, (h.1.add 24 B.cs).addAt 24 A.cs (size_al _ _), (h.2.past _).past _⟩
theorem two_one (h : HasT w [(w.heap.size, 24, s.cs)] w6) (g6 : w.heap.size < w6.heap.size) (n0 : 0 < w.heap.size) {g : Nat} (z : Box w6 g 24 (St.cs ⟨0, 0, 0, 0, 0, 0, 0, 0⟩)) (A B : St) (hg : w.heap.size < g) :
    TwoIn w s A B (.pointer (some ⟨g, 0, none⟩)) (.pointer (some ⟨w6.heap.size, 0, none⟩)) ((set8 w6 g A).alloc (.cells B.cs 24)) :=
  ⟨_, _, rfl, rfl, ((Has.st8 (h.1.with z) (by omega) (by simp; omega) A).addAt 24 B.cs (set8_size _ _ _)).swap, (h.2.set8 (by omega) A).past _⟩
theorem two_oner (h : HasT w [(w.heap.size, 24, s.cs)] w6) (g6 : w.heap.size < w6.heap.size) (n0 : 0 < w.heap.size) {g : Nat} (z : Box w6 g 24 (St.cs ⟨0, 0, 0, 0, 0, 0, 0, 0⟩)) (A B : St) (hg : w.heap.size < g) :
    TwoIn w s A B (.pointer (some ⟨w6.heap.size, 0, none⟩)) (.pointer (some ⟨g, 0, none⟩)) ((set8 w6 g B).alloc (.cells A.cs 24)) :=
  ⟨_, _, rfl, rfl, (Has.st8 (h.1.with z) (by omega) (by simp; omega) B).addAt 24 A.cs (set8_size _ _ _), (h.2.set8 (by omega) B).past _⟩
theorem two_set (h : HasT w [(w.heap.size, 24, s.cs)] w6) (n0 : 0 < w.heap.size) {g k : Nat} (z : Box w6 g 24 (St.cs ⟨0, 0, 0, 0, 0, 0, 0, 0⟩)) (y : Box w6 k 24 (St.cs ⟨0, 0, 0, 0, 0, 0, 0, 0⟩)) (A B : St) (hg : w.heap.size < g) (hk : w.heap.size < k) (hne : g ≠ k) :
    TwoIn w s A B (.pointer (some ⟨g, 0, none⟩)) (.pointer (some ⟨k, 0, none⟩)) (set8 (set8 w6 g A) k B) := by
  have h1 := Has.st8 ((h.1.with y).with z) (by omega) (by simp; omega) A
  have h2 := Has.st8 h1.swap (by omega) (by simp; omega) B
  exact ⟨_, _, rfl, rfl, h2.swap, (h.2.set8 (by omega) A).set8 (by omega) B⟩
end

set_option maxHeartbeats 4000000 in
theorem shifts_walk (s : St) (k : Int) (x y : B32) (w : World) (hT : Tab w) : Calls Tryd.prog 5 #[.agg #[.int .u32 (iv s.a), .int .u32 (iv s.b), .int .u32 (iv s.c), .int .u32 (iv s.d), .int .u32 (iv s.e), .int .u32 (iv s.f), .int .u32 (iv s.g), .int .u32 (iv s.h)], .int .i64 k, .int .u32 (iv x), .int .u32 (iv y)] w (Tells (.bool true) w.heap.size w) := by
  have H0 : Has w [(w.heap.size, 24, s.cs)] (w.alloc (.cells #[.int .u32 (iv s.a), .int .u32 (iv s.b), .int .u32 (iv s.c), .int .u32 (iv s.d), .int .u32 (iv s.e), .int .u32 (iv s.f), .int .u32 (iv s.g), .int .u32 (iv s.h)] 24)) := (Has.start w).add 24 #[.int .u32 (iv s.a), .int .u32 (iv s.b), .int .u32 (iv s.c), .int .u32 (iv s.d), .int .u32 (iv s.e), .int .u32 (iv s.f), .int .u32 (iv s.g), .int .u32 (iv s.h)]
  have t0 : Tab (w.alloc (.cells #[.int .u32 (iv s.a), .int .u32 (iv s.b), .int .u32 (iv s.c), .int .u32 (iv s.d), .int .u32 (iv s.e), .int .u32 (iv s.f), .int .u32 (iv s.g), .int .u32 (iv s.h)] 24)) := hT.past _
  have cA := fun u hu => awake_any u hu
  have cR1 := fun u hu => round_any s k x u hu
  have cR2 := fun u hu => round_any s k y u hu
  obtain ⟨A, hA⟩ : ∃ A, turned s (kAt k) x = A := ⟨_, rfl⟩
  obtain ⟨B, hB⟩ : ∃ B, turned s (kAt k) y = B := ⟨_, rfl⟩
  rw [hA] at cR1
  rw [hB] at cR2
  go_enter Tryd.func5, Tryd.ntmps5
  go_upto_region 1 with fail
  generalize w.alloc _ = W0 at *
  go_upto_region 3 with (first | (go_at_call 26; refine (cA _ t0).mono ?_; rintro e w1 ⟨rfl, b1⟩; have H1 := H0.call b1; have t1 := t0.call b1))
  clear H0 t0 cA b1
  go_cut [9, 10] (fun p q wx => TwoIn w s A B p q wx)
  case first =>
    have fact : ∀ u, Has w [(w.heap.size, 24, s.cs)] u → u.cell? ⟨w.heap.size, 0, none⟩ = some (.int .u32 (iv s.a)) ∧ u.cell? ⟨w.heap.size, 1, none⟩ = some (.int .u32 (iv s.b)) ∧ u.cell? ⟨w.heap.size, 2, none⟩ = some (.int .u32 (iv s.c)) ∧ u.cell? ⟨w.heap.size, 3, none⟩ = some (.int .u32 (iv s.d)) ∧ u.cell? ⟨w.heap.size, 4, none⟩ = some (.int .u32 (iv s.e)) ∧ u.cell? ⟨w.heap.size, 5, none⟩ = some (.int .u32 (iv s.f)) ∧ u.cell? ⟨w.heap.size, 6, none⟩ = some (.int .u32 (iv s.g)) ∧ u.cell? ⟨w.heap.size, 7, none⟩ = some (.int .u32 (iv s.h)) := fun u h => (h.box 0).st
    have n0 : 0 < w.heap.size := hT.1
    have g1 : w.heap.size < w1.heap.size := (H1.box 0).inside
    have S2 := heldT_start fact H1.drew (W := w1.drew) t1
    have S2a := fun o : Obj => heldT_start fact (H1.past o).drew (t1.past o)
    have S2b := fun o p : Obj => heldT_start fact ((H1.past o).past p).drew ((t1.past o).past p)
    clear H1 t1 hT
    go_wp2_with fail
    go_region_held3 (fun u => HasT w [(w.heap.size, 24, s.cs)] u ∧ u.cell? ⟨w.heap.size, 0, none⟩ = some (.int .u32 (iv s.a)) ∧ u.cell? ⟨w.heap.size, 1, none⟩ = some (.int .u32 (iv s.b)) ∧ u.cell? ⟨w.heap.size, 2, none⟩ = some (.int .u32 (iv s.c)) ∧ u.cell? ⟨w.heap.size, 3, none⟩ = some (.int .u32 (iv s.d)) ∧ u.cell? ⟨w.heap.size, 4, none⟩ = some (.int .u32 (iv s.e)) ∧ u.cell? ⟨w.heap.size, 5, none⟩ = some (.int .u32 (iv s.f)) ∧ u.cell? ⟨w.heap.size, 6, none⟩ = some (.int .u32 (iv s.g)) ∧ u.cell? ⟨w.heap.size, 7, none⟩ = some (.int .u32 (iv s.h)))
      (first
        | with_reducible exact S2
        | with_reducible exact S2a _
        | with_reducible exact S2b _ _
        | with_reducible assumption
        | with_reducible exact heldT_keep fact (by assumption) (by assumption)
        | with_reducible exact heldT_past fact (by assumption) _
        | with_reducible exact heldT_past fact (heldT_past fact (by assumption) _) _
        | (with_reducible refine heldT_set1 fact (by dsimp only; first | omega | (simp only [size_al, size_dr]; omega)) (by dsimp only; first | omega | (simp only [size_al, size_dr]; omega)) (by simp; try omega) _ ?_; (with_reducible refine heldT_set1 fact (by dsimp only; first | omega | (simp only [size_al, size_dr]; omega)) (by dsimp only; first | omega | (simp only [size_al, size_dr]; omega)) (by simp; try omega) _ ?_; (with_reducible refine heldT_set1 fact (by dsimp only; first | omega | (simp only [size_al, size_dr]; omega)) (by dsimp only; first | omega | (simp only [size_al, size_dr]; omega)) (by simp; try omega) _ ?_; (with_reducible refine heldT_set1 fact (by dsimp only; first | omega | (simp only [size_al, size_dr]; omega)) (by dsimp only; first | omega | (simp only [size_al, size_dr]; omega)) (by simp; try omega) _ ?_; (with_reducible refine heldT_set1 fact (by dsimp only; first | omega | (simp only [size_al, size_dr]; omega)) (by dsimp only; first | omega | (simp only [size_al, size_dr]; omega)) (by simp; try omega) _ ?_; (with_reducible refine heldT_set1 fact (by dsimp only; first | omega | (simp only [size_al, size_dr]; omega)) (by dsimp only; first | omega | (simp only [size_al, size_dr]; omega)) (by simp; try omega) _ ?_; (with_reducible refine heldT_set1 fact (by dsimp only; first | omega | (simp only [size_al, size_dr]; omega)) (by dsimp only; first | omega | (simp only [size_al, size_dr]; omega)) (by simp; try omega) _ ?_; (with_reducible refine heldT_set1 fact (by dsimp only; first | omega | (simp only [size_al, size_dr]; omega)) (by dsimp only; first | omega | (simp only [size_al, size_dr]; omega)) (by simp; try omega) _ ?_; (first | with_reducible assumption | with_reducible exact heldT_past fact (by assumption) _ | with_reducible exact heldT_past fact (heldT_past fact (by assumption) _) _)))))))))
        | (with_reducible refine heldT_set1 fact (by dsimp only; first | omega | (simp only [size_al, size_dr]; omega)) (by dsimp only; first | omega | (simp only [size_al, size_dr]; omega)) (by simp; try omega) _ ?_; (with_reducible refine heldT_set1 fact (by dsimp only; first | omega | (simp only [size_al, size_dr]; omega)) (by dsimp only; first | omega | (simp only [size_al, size_dr]; omega)) (by simp; try omega) _ ?_; (with_reducible refine heldT_set1 fact (by dsimp only; first | omega | (simp only [size_al, size_dr]; omega)) (by dsimp only; first | omega | (simp only [size_al, size_dr]; omega)) (by simp; try omega) _ ?_; (with_reducible refine heldT_set1 fact (by dsimp only; first | omega | (simp only [size_al, size_dr]; omega)) (by dsimp only; first | omega | (simp only [size_al, size_dr]; omega)) (by simp; try omega) _ ?_; (with_reducible refine heldT_set1 fact (by dsimp only; first | omega | (simp only [size_al, size_dr]; omega)) (by dsimp only; first | omega | (simp only [size_al, size_dr]; omega)) (by simp; try omega) _ ?_; (with_reducible refine heldT_set1 fact (by dsimp only; first | omega | (simp only [size_al, size_dr]; omega)) (by dsimp only; first | omega | (simp only [size_al, size_dr]; omega)) (by simp; try omega) _ ?_; (with_reducible refine heldT_set1 fact (by dsimp only; first | omega | (simp only [size_al, size_dr]; omega)) (by dsimp only; first | omega | (simp only [size_al, size_dr]; omega)) (by simp; try omega) _ ?_; (with_reducible refine heldT_set1 fact (by dsimp only; first | omega | (simp only [size_al, size_dr]; omega)) (by dsimp only; first | omega | (simp only [size_al, size_dr]; omega)) (by simp; try omega) _ ?_; (with_reducible refine heldT_set1 fact (by dsimp only; first | omega | (simp only [size_al, size_dr]; omega)) (by dsimp only; first | omega | (simp only [size_al, size_dr]; omega)) (by simp; try omega) _ ?_; (with_reducible refine heldT_set1 fact (by dsimp only; first | omega | (simp only [size_al, size_dr]; omega)) (by dsimp only; first | omega | (simp only [size_al, size_dr]; omega)) (by simp; try omega) _ ?_; (with_reducible refine heldT_set1 fact (by dsimp only; first | omega | (simp only [size_al, size_dr]; omega)) (by dsimp only; first | omega | (simp only [size_al, size_dr]; omega)) (by simp; try omega) _ ?_; (with_reducible refine heldT_set1 fact (by dsimp only; first | omega | (simp only [size_al, size_dr]; omega)) (by dsimp only; first | omega | (simp only [size_al, size_dr]; omega)) (by simp; try omega) _ ?_; (with_reducible refine heldT_set1 fact (by dsimp only; first | omega | (simp only [size_al, size_dr]; omega)) (by dsimp only; first | omega | (simp only [size_al, size_dr]; omega)) (by simp; try omega) _ ?_; (with_reducible refine heldT_set1 fact (by dsimp only; first | omega | (simp only [size_al, size_dr]; omega)) (by dsimp only; first | omega | (simp only [size_al, size_dr]; omega)) (by simp; try omega) _ ?_; (with_reducible refine heldT_set1 fact (by dsimp only; first | omega | (simp only [size_al, size_dr]; omega)) (by dsimp only; first | omega | (simp only [size_al, size_dr]; omega)) (by simp; try omega) _ ?_; (with_reducible refine heldT_set1 fact (by dsimp only; first | omega | (simp only [size_al, size_dr]; omega)) (by dsimp only; first | omega | (simp only [size_al, size_dr]; omega)) (by simp; try omega) _ ?_; (first | with_reducible assumption | with_reducible exact heldT_past fact (by assumption) _ | with_reducible exact heldT_past fact (heldT_past fact (by assumption) _) _)))))))))))))))))
        | (with_reducible refine heldT_past fact ?_ _; (with_reducible refine heldT_set1 fact (by dsimp only; first | omega | (simp only [size_al, size_dr]; omega)) (by dsimp only; first | omega | (simp only [size_al, size_dr]; omega)) (by simp; try omega) _ ?_; (with_reducible refine heldT_set1 fact (by dsimp only; first | omega | (simp only [size_al, size_dr]; omega)) (by dsimp only; first | omega | (simp only [size_al, size_dr]; omega)) (by simp; try omega) _ ?_; (with_reducible refine heldT_set1 fact (by dsimp only; first | omega | (simp only [size_al, size_dr]; omega)) (by dsimp only; first | omega | (simp only [size_al, size_dr]; omega)) (by simp; try omega) _ ?_; (with_reducible refine heldT_set1 fact (by dsimp only; first | omega | (simp only [size_al, size_dr]; omega)) (by dsimp only; first | omega | (simp only [size_al, size_dr]; omega)) (by simp; try omega) _ ?_; (with_reducible refine heldT_set1 fact (by dsimp only; first | omega | (simp only [size_al, size_dr]; omega)) (by dsimp only; first | omega | (simp only [size_al, size_dr]; omega)) (by simp; try omega) _ ?_; (with_reducible refine heldT_set1 fact (by dsimp only; first | omega | (simp only [size_al, size_dr]; omega)) (by dsimp only; first | omega | (simp only [size_al, size_dr]; omega)) (by simp; try omega) _ ?_; (with_reducible refine heldT_set1 fact (by dsimp only; first | omega | (simp only [size_al, size_dr]; omega)) (by dsimp only; first | omega | (simp only [size_al, size_dr]; omega)) (by simp; try omega) _ ?_; (with_reducible refine heldT_set1 fact (by dsimp only; first | omega | (simp only [size_al, size_dr]; omega)) (by dsimp only; first | omega | (simp only [size_al, size_dr]; omega)) (by simp; try omega) _ ?_; (first | with_reducible assumption | with_reducible exact heldT_past fact (by assumption) _ | with_reducible exact heldT_past fact (heldT_past fact (by assumption) _) _))))))))))
        | (with_reducible refine heldT_past fact ?_ _; (with_reducible refine heldT_set1 fact (by dsimp only; first | omega | (simp only [size_al, size_dr]; omega)) (by dsimp only; first | omega | (simp only [size_al, size_dr]; omega)) (by simp; try omega) _ ?_; (with_reducible refine heldT_set1 fact (by dsimp only; first | omega | (simp only [size_al, size_dr]; omega)) (by dsimp only; first | omega | (simp only [size_al, size_dr]; omega)) (by simp; try omega) _ ?_; (with_reducible refine heldT_set1 fact (by dsimp only; first | omega | (simp only [size_al, size_dr]; omega)) (by dsimp only; first | omega | (simp only [size_al, size_dr]; omega)) (by simp; try omega) _ ?_; (with_reducible refine heldT_set1 fact (by dsimp only; first | omega | (simp only [size_al, size_dr]; omega)) (by dsimp only; first | omega | (simp only [size_al, size_dr]; omega)) (by simp; try omega) _ ?_; (with_reducible refine heldT_set1 fact (by dsimp only; first | omega | (simp only [size_al, size_dr]; omega)) (by dsimp only; first | omega | (simp only [size_al, size_dr]; omega)) (by simp; try omega) _ ?_; (with_reducible refine heldT_set1 fact (by dsimp only; first | omega | (simp only [size_al, size_dr]; omega)) (by dsimp only; first | omega | (simp only [size_al, size_dr]; omega)) (by simp; try omega) _ ?_; (with_reducible refine heldT_set1 fact (by dsimp only; first | omega | (simp only [size_al, size_dr]; omega)) (by dsimp only; first | omega | (simp only [size_al, size_dr]; omega)) (by simp; try omega) _ ?_; (with_reducible refine heldT_set1 fact (by dsimp only; first | omega | (simp only [size_al, size_dr]; omega)) (by dsimp only; first | omega | (simp only [size_al, size_dr]; omega)) (by simp; try omega) _ ?_; (with_reducible refine heldT_set1 fact (by dsimp only; first | omega | (simp only [size_al, size_dr]; omega)) (by dsimp only; first | omega | (simp only [size_al, size_dr]; omega)) (by simp; try omega) _ ?_; (with_reducible refine heldT_set1 fact (by dsimp only; first | omega | (simp only [size_al, size_dr]; omega)) (by dsimp only; first | omega | (simp only [size_al, size_dr]; omega)) (by simp; try omega) _ ?_; (with_reducible refine heldT_set1 fact (by dsimp only; first | omega | (simp only [size_al, size_dr]; omega)) (by dsimp only; first | omega | (simp only [size_al, size_dr]; omega)) (by simp; try omega) _ ?_; (with_reducible refine heldT_set1 fact (by dsimp only; first | omega | (simp only [size_al, size_dr]; omega)) (by dsimp only; first | omega | (simp only [size_al, size_dr]; omega)) (by simp; try omega) _ ?_; (with_reducible refine heldT_set1 fact (by dsimp only; first | omega | (simp only [size_al, size_dr]; omega)) (by dsimp only; first | omega | (simp only [size_al, size_dr]; omega)) (by simp; try omega) _ ?_; (with_reducible refine heldT_set1 fact (by dsimp only; first | omega | (simp only [size_al, size_dr]; omega)) (by dsimp only; first | omega | (simp only [size_al, size_dr]; omega)) (by simp; try omega) _ ?_; (with_reducible refine heldT_set1 fact (by dsimp only; first | omega | (simp only [size_al, size_dr]; omega)) (by dsimp only; first | omega | (simp only [size_al, size_dr]; omega)) (by simp; try omega) _ ?_; (with_reducible refine heldT_set1 fact (by dsimp only; first | omega | (simp only [size_al, size_dr]; omega)) (by dsimp only; first | omega | (simp only [size_al, size_dr]; omega)) (by simp; try omega) _ ?_; (first | with_reducible assumption | with_reducible exact heldT_past fact (by assumption) _ | with_reducible exact heldT_past fact (heldT_past fact (by assumption) _) _))))))))))))))))))
        | fail)
      (first
        | (go_at_call_of 14 (Value.int .u32 (iv x)); refine (cR1 _ (tabOf (w := w) (l := [(w.heap.size, 24, s.cs)]) (C := fun u => u.cell? ⟨w.heap.size, 0, none⟩ = some (.int .u32 (iv s.a)) ∧ u.cell? ⟨w.heap.size, 1, none⟩ = some (.int .u32 (iv s.b)) ∧ u.cell? ⟨w.heap.size, 2, none⟩ = some (.int .u32 (iv s.c)) ∧ u.cell? ⟨w.heap.size, 3, none⟩ = some (.int .u32 (iv s.d)) ∧ u.cell? ⟨w.heap.size, 4, none⟩ = some (.int .u32 (iv s.e)) ∧ u.cell? ⟨w.heap.size, 5, none⟩ = some (.int .u32 (iv s.f)) ∧ u.cell? ⟨w.heap.size, 6, none⟩ = some (.int .u32 (iv s.g)) ∧ u.cell? ⟨w.heap.size, 7, none⟩ = some (.int .u32 (iv s.h))) (by assumption))).mono ?_; rintro e w5 ⟨rfl, b5⟩
           have S5 := heldT_keep fact (by assumption) b5
           have s5 := S5.1.1.size
           have g5 : w.heap.size < w5.heap.size := (S5.1.1.box 0).inside
           (first
            | (have zA : Box w5 w1.heap.size 24 #[.int .u32 0, .int .u32 0, .int .u32 0, .int .u32 0, .int .u32 0, .int .u32 0, .int .u32 0, .int .u32 0] := (((Box.made w1 24 #[.int .u32 0, .int .u32 0, .int .u32 0, .int .u32 0, .int .u32 0, .int .u32 0, .int .u32 0, .int .u32 0]).past (.cells #[.int .u32 0, .int .u32 0, .int .u32 0, .int .u32 0, .int .u32 0, .int .u32 0, .int .u32 0, .int .u32 0] 24)).draw).call b5
               have zB : Box w5 (w1.heap.size + 1) 24 #[.int .u32 0, .int .u32 0, .int .u32 0, .int .u32 0, .int .u32 0, .int .u32 0, .int .u32 0, .int .u32 0] := ((box_at (w1.alloc (.cells #[.int .u32 0, .int .u32 0, .int .u32 0, .int .u32 0, .int .u32 0, .int .u32 0, .int .u32 0, .int .u32 0] 24)) 24 #[.int .u32 0, .int .u32 0, .int .u32 0, .int .u32 0, .int .u32 0, .int .u32 0, .int .u32 0, .int .u32 0] (size_al _ _)).draw).call b5)
            | (have zA : Box w5 w1.heap.size 24 #[.int .u32 0, .int .u32 0, .int .u32 0, .int .u32 0, .int .u32 0, .int .u32 0, .int .u32 0, .int .u32 0] := ((Box.made w1 24 #[.int .u32 0, .int .u32 0, .int .u32 0, .int .u32 0, .int .u32 0, .int .u32 0, .int .u32 0, .int .u32 0]).draw).call b5)
            | skip))
        | (go_at_call_of 14 (Value.int .u32 (iv y)); refine (cR2 _ (tabOf (w := w) (l := [(w.heap.size, 24, s.cs)]) (C := fun u => u.cell? ⟨w.heap.size, 0, none⟩ = some (.int .u32 (iv s.a)) ∧ u.cell? ⟨w.heap.size, 1, none⟩ = some (.int .u32 (iv s.b)) ∧ u.cell? ⟨w.heap.size, 2, none⟩ = some (.int .u32 (iv s.c)) ∧ u.cell? ⟨w.heap.size, 3, none⟩ = some (.int .u32 (iv s.d)) ∧ u.cell? ⟨w.heap.size, 4, none⟩ = some (.int .u32 (iv s.e)) ∧ u.cell? ⟨w.heap.size, 5, none⟩ = some (.int .u32 (iv s.f)) ∧ u.cell? ⟨w.heap.size, 6, none⟩ = some (.int .u32 (iv s.g)) ∧ u.cell? ⟨w.heap.size, 7, none⟩ = some (.int .u32 (iv s.h))) (by assumption))).mono ?_; rintro e w6 ⟨rfl, b6⟩
           have S6 := heldT_keep fact (by assumption) b6
           have g6 : w.heap.size < w6.heap.size := (S6.1.1.box 0).inside
           (first
            | (have yA : Box w6 w1.heap.size 24 #[.int .u32 0, .int .u32 0, .int .u32 0, .int .u32 0, .int .u32 0, .int .u32 0, .int .u32 0, .int .u32 0] := Box.call zA b6
               have yB : Box w6 (w1.heap.size + 1) 24 #[.int .u32 0, .int .u32 0, .int .u32 0, .int .u32 0, .int .u32 0, .int .u32 0, .int .u32 0, .int .u32 0] := Box.call zB b6
               obtain ⟨p0, p1, p2, p3, p4, p5, p6, p7, pa, pb, pc, pd, pe, pf, pg, ph, pi⟩ := Box.z8 yA
               obtain ⟨q0, q1, q2, q3, q4, q5, q6, q7, qa, qb, qc, qd, qe, qf, qg, qh, qi⟩ := Box.z8 yB
               have ne1 : w1.heap.size + 1 ≠ w1.heap.size := by omega
               have ne2 : w1.heap.size ≠ w1.heap.size + 1 := by omega)
            | (have yA : Box w6 w1.heap.size 24 #[.int .u32 0, .int .u32 0, .int .u32 0, .int .u32 0, .int .u32 0, .int .u32 0, .int .u32 0, .int .u32 0] := Box.call (Box.past zA _) b6
               have yB : Box w6 w5.heap.size 24 #[.int .u32 0, .int .u32 0, .int .u32 0, .int .u32 0, .int .u32 0, .int .u32 0, .int .u32 0, .int .u32 0] := Box.call (Box.made w5 24 #[.int .u32 0, .int .u32 0, .int .u32 0, .int .u32 0, .int .u32 0, .int .u32 0, .int .u32 0, .int .u32 0]) b6
               have lt1 : w1.heap.size < w5.heap.size := zA.inside
               obtain ⟨p0, p1, p2, p3, p4, p5, p6, p7, pa, pb, pc, pd, pe, pf, pg, ph, pi⟩ := Box.z8 yA
               obtain ⟨q0, q1, q2, q3, q4, q5, q6, q7, qa, qb, qc, qd, qe, qf, qg, qh, qi⟩ := Box.z8 yB
               have ne1 : w5.heap.size ≠ w1.heap.size := by omega
               have ne2 : w1.heap.size ≠ w5.heap.size := by omega)
            | (have yA : Box w6 w1.heap.size 24 #[.int .u32 0, .int .u32 0, .int .u32 0, .int .u32 0, .int .u32 0, .int .u32 0, .int .u32 0, .int .u32 0] := Box.call zA b6
               have lt1 : w1.heap.size < w6.heap.size := yA.inside
               obtain ⟨p0, p1, p2, p3, p4, p5, p6, p7, pa, pb, pc, pd, pe, pf, pg, ph, pi⟩ := Box.z8 yA
               obtain ⟨r0, r1, r2, r3, r4, r5, r6, r7, ra, rb, rc, rd, re, rf, rg, rh, ri⟩ := Box.z8 (yA.past (.cells #[.int .u32 0, .int .u32 0, .int .u32 0, .int .u32 0, .int .u32 0, .int .u32 0, .int .u32 0, .int .u32 0] 24))
               have ne1 : w6.heap.size ≠ w1.heap.size := by omega
               have ne2 : w1.heap.size ≠ w6.heap.size := by omega)
            | (have yA : Box w6 w5.heap.size 24 #[.int .u32 0, .int .u32 0, .int .u32 0, .int .u32 0, .int .u32 0, .int .u32 0, .int .u32 0, .int .u32 0] := Box.call (Box.past (Box.made w5 24 #[.int .u32 0, .int .u32 0, .int .u32 0, .int .u32 0, .int .u32 0, .int .u32 0, .int .u32 0, .int .u32 0]) _) b6
               have yB : Box w6 (w5.heap.size + 1) 24 #[.int .u32 0, .int .u32 0, .int .u32 0, .int .u32 0, .int .u32 0, .int .u32 0, .int .u32 0, .int .u32 0] := Box.call (box_at (w5.alloc (.cells #[.int .u32 0, .int .u32 0, .int .u32 0, .int .u32 0, .int .u32 0, .int .u32 0, .int .u32 0, .int .u32 0] 24)) 24 #[.int .u32 0, .int .u32 0, .int .u32 0, .int .u32 0, .int .u32 0, .int .u32 0, .int .u32 0, .int .u32 0] (size_al _ _)) b6
               obtain ⟨p0, p1, p2, p3, p4, p5, p6, p7, pa, pb, pc, pd, pe, pf, pg, ph, pi⟩ := Box.z8 yA
               obtain ⟨q0, q1, q2, q3, q4, q5, q6, q7, qa, qb, qc, qd, qe, qf, qg, qh, qi⟩ := Box.z8 yB
               have ne1 : w5.heap.size + 1 ≠ w5.heap.size := by omega
               have ne2 : w5.heap.size ≠ w5.heap.size + 1 := by omega)
            | (have yA : Box w6 w5.heap.size 24 #[.int .u32 0, .int .u32 0, .int .u32 0, .int .u32 0, .int .u32 0, .int .u32 0, .int .u32 0, .int .u32 0] := Box.call (Box.made w5 24 #[.int .u32 0, .int .u32 0, .int .u32 0, .int .u32 0, .int .u32 0, .int .u32 0, .int .u32 0, .int .u32 0]) b6
               have lt1 : w5.heap.size < w6.heap.size := yA.inside
               obtain ⟨p0, p1, p2, p3, p4, p5, p6, p7, pa, pb, pc, pd, pe, pf, pg, ph, pi⟩ := Box.z8 yA
               obtain ⟨r0, r1, r2, r3, r4, r5, r6, r7, ra, rb, rc, rd, re, rf, rg, rh, ri⟩ := Box.z8 (yA.past (.cells #[.int .u32 0, .int .u32 0, .int .u32 0, .int .u32 0, .int .u32 0, .int .u32 0, .int .u32 0, .int .u32 0] 24))
               have ne1 : w6.heap.size ≠ w5.heap.size := by omega
               have ne2 : w5.heap.size ≠ w6.heap.size := by omega)
            | skip))
        | fail)
    all_goals go_wp2_with fail
    all_goals go_meet
    · exact two_new S6.1 A B
    · exact two_newr S6.1 A B
    · exact two_one S6.1 g6 n0 yA A B (by omega)
    · exact two_set S6.1 n0 yA yB A B (by omega) (by omega) (by omega)
    · exact two_oner S6.1 g6 n0 yA A B (by omega)
    · exact two_set S6.1 n0 yB yA A B (by omega) (by omega) (by omega)
    · exact two_one S6.1 g6 n0 yA A B (by omega)
    · exact two_set S6.1 n0 yA yB A B (by omega) (by omega) (by omega)
    · exact two_set S6.1 n0 yA yB A B (by omega) (by omega) (by omega)
    · exact two_oner S6.1 g6 n0 yA A B (by omega)
    · exact two_set S6.1 n0 yB yA A B (by omega) (by omega) (by omega)
    · exact two_set S6.1 n0 yB yA A B (by omega) (by omega) (by omega)
  case rest =>
    obtain ⟨ga, gb, e1, e2, H, hT2⟩ := hcut
    subst e1 e2
    clear H1 t1
    obtain ⟨r0, r1, r2, r3, r4, r5, r6, r7⟩ := (H.box 0).st
    obtain ⟨q0, q1, q2, q3, q4, q5, q6, q7⟩ := (H.box 1).st
    obtain ⟨z0, z1, z2, z3, z4, z5, z6, z7⟩ := (H.box 2).st
    have hs := H.below
    have H2 := H.tail.tail
    have hia := (H.box 0).inside
    have hib := (H.box 1).inside
    have his := (H.box 2).inside
    have ab : A.b = s.a ∧ A.c = s.b ∧ A.d = s.c ∧ A.f = s.e ∧ A.g = s.f ∧ A.h = s.g := by subst hA; exact ⟨rfl, rfl, rfl, rfl, rfl, rfl⟩
    have bb : B.b = s.a ∧ B.c = s.b ∧ B.d = s.c ∧ B.f = s.e ∧ B.g = s.f ∧ B.h = s.g := by subst hB; exact ⟨rfl, rfl, rfl, rfl, rfl, rfl⟩
    rw [ab.1] at r1; rw [ab.2.1] at r2; rw [ab.2.2.1] at r3; rw [ab.2.2.2.1] at r5; rw [ab.2.2.2.2.1] at r6; rw [ab.2.2.2.2.2] at r7
    rw [bb.1] at q1; rw [bb.2.1] at q2; rw [bb.2.2.1] at q3; rw [bb.2.2.2.1] at q5; rw [bb.2.2.2.2.1] at q6; rw [bb.2.2.2.2.2] at q7
    have da : A.a - B.a = x - y ∧ A.e - B.e = x - y := by
      subst hA hB
      simp only [turned]
      exact ⟨by grind, by grind⟩
    have d0 : (iv A.a - iv B.a) % 4294967296 = iv (x - y) := by rw [iv_subm, da.1]
    have d1 : (iv A.e - iv B.e) % 4294967296 = iv (x - y) := by rw [iv_subm, da.2]
    have d2 : (iv x - iv y) % 4294967296 = iv (x - y) := iv_subm x y
    have cR3 := fun u hu => round_any s (-1) (x + kAt k) u hu
    have hk3 : turned s (kAt (-1)) (x + kAt k) = A := by
      rw [← hA, show kAt (-1) = 0 from rfl]
      simp only [turned]
      congr 1 <;> grind
    rw [hk3] at cR3
    have cK := fun u hu => const_any k u hu
    have hxk : (iv x + iv (kAt k)) % 4294967296 = iv (x + kAt k) := iv_addm x (kAt k)
    have hxw : IntKind.u32.wrap (iv x + iv (kAt k)) = iv (x + kAt k) := iv_add x (kAt k)
    have cR4 : ∀ u, Tab u → Calls Tryd.prog 14 #[.agg #[.int .u32 (iv s.a), .int .u32 (iv s.b), .int .u32 (iv s.c), .int .u32 (iv s.d), .int .u32 (iv s.e), .int .u32 (iv s.f), .int .u32 (iv s.g), .int .u32 (iv s.h)], .int .i64 (-1), .int .u32 (IntKind.u32.wrap (iv x + iv (kAt k)))] u (Tells (.agg #[.int .u32 (iv A.a), .int .u32 (iv A.b), .int .u32 (iv A.c), .int .u32 (iv A.d), .int .u32 (iv A.e), .int .u32 (iv A.f), .int .u32 (iv A.g), .int .u32 (iv A.h)]) u.heap.size u) := fun u hu => by rw [hxw]; exact cR3 u hu
    clear hxw cR3
    generalize x + kAt k = xk at *
    generalize kAt k = kc at *
    generalize x - y = xy at *
    have HAB := hideIt hA
    clear hA hB hk3 ab bb da H cR2
    go_wp2
    go_loopg [11] 7 (fun gk i wr => ∃ m : Nat, 1 ≤ m ∧ m ≤ 8 ∧ gk = 8 - m ∧ i = .int .i64 m ∧ ∃ q, wr = wc.drewN q)
    case atStart => exact ⟨1, by omega, by omega, by omega, rfl, 0, rfl⟩
    case round =>
      obtain ⟨m, hm1, hm, hgm, rfl, q, rfl⟩ := hrel
      have HG := hideIt hgm
      clear hgm
      by_cases hlt : m < 8
      · rcases (by omega : m = 1 ∨ m = 2 ∨ m = 3 ∨ m = 4 ∨ m = 5 ∨ m = 6 ∨ m = 7) with rfl | rfl | rfl | rfl | rfl | rfl | rfl
        all_goals
          clear hm1 hm hlt
          go_wp2
          go_quiet (fail)
          go_wp2
        all_goals
          first
            | (go_roundg 6; (case measure => have := HG.out; omega); (case rel => exact ⟨2, by decide, by decide, by decide, rfl, _, rfl⟩))
            | (go_roundg 5; (case measure => have := HG.out; omega); (case rel => exact ⟨3, by decide, by decide, by decide, rfl, _, rfl⟩))
            | (go_roundg 4; (case measure => have := HG.out; omega); (case rel => exact ⟨4, by decide, by decide, by decide, rfl, _, rfl⟩))
            | (go_roundg 3; (case measure => have := HG.out; omega); (case rel => exact ⟨5, by decide, by decide, by decide, rfl, _, rfl⟩))
            | (go_roundg 2; (case measure => have := HG.out; omega); (case rel => exact ⟨6, by decide, by decide, by decide, rfl, _, rfl⟩))
            | (go_roundg 1; (case measure => have := HG.out; omega); (case rel => exact ⟨7, by decide, by decide, by decide, rfl, _, rfl⟩))
            | (go_roundg 0; (case measure => have := HG.out; omega); (case rel => exact ⟨8, by decide, by decide, by decide, rfl, _, rfl⟩))
            | fail
      · have e : m = 8 := by omega
        subst e
        clear HG hm1 hm hlt
        have fact : ∀ u, Has w [(w.heap.size, 24, s.cs)] u → u.cell? ⟨w.heap.size, 0, none⟩ = some (.int .u32 (iv s.a)) ∧ u.cell? ⟨w.heap.size, 1, none⟩ = some (.int .u32 (iv s.b)) ∧ u.cell? ⟨w.heap.size, 2, none⟩ = some (.int .u32 (iv s.c)) ∧ u.cell? ⟨w.heap.size, 3, none⟩ = some (.int .u32 (iv s.d)) ∧ u.cell? ⟨w.heap.size, 4, none⟩ = some (.int .u32 (iv s.e)) ∧ u.cell? ⟨w.heap.size, 5, none⟩ = some (.int .u32 (iv s.f)) ∧ u.cell? ⟨w.heap.size, 6, none⟩ = some (.int .u32 (iv s.g)) ∧ u.cell? ⟨w.heap.size, 7, none⟩ = some (.int .u32 (iv s.h)) := fun u h => (h.box 0).st
        have S0 := heldT_start fact (H2.drewN (q + 1)) (W := wc.drewN (q + 1)) hT2
        have S1 := heldT_start fact (H2.drewN q).drew (W := (wc.drewN q).drew) hT2
        have hq := fun u => eql_st A u
        have hin := (H2.drewN q).box 0 |>.inside
        go_wp2
        go_region_held3 (fun u => HasT w [(w.heap.size, 24, s.cs)] u ∧ u.cell? ⟨w.heap.size, 0, none⟩ = some (.int .u32 (iv s.a)) ∧ u.cell? ⟨w.heap.size, 1, none⟩ = some (.int .u32 (iv s.b)) ∧ u.cell? ⟨w.heap.size, 2, none⟩ = some (.int .u32 (iv s.c)) ∧ u.cell? ⟨w.heap.size, 3, none⟩ = some (.int .u32 (iv s.d)) ∧ u.cell? ⟨w.heap.size, 4, none⟩ = some (.int .u32 (iv s.e)) ∧ u.cell? ⟨w.heap.size, 5, none⟩ = some (.int .u32 (iv s.f)) ∧ u.cell? ⟨w.heap.size, 6, none⟩ = some (.int .u32 (iv s.g)) ∧ u.cell? ⟨w.heap.size, 7, none⟩ = some (.int .u32 (iv s.h)))
          (first
            | with_reducible exact S0
            | with_reducible exact S1
            | with_reducible assumption
            | with_reducible exact heldT_keep fact (by assumption) (by assumption)
            | fail)
          (first
            | (go_at_call_of 14 (Value.int .u32 (iv x)); refine (cR1 _ (tabOf (w := w) (l := [(w.heap.size, 24, s.cs)]) (C := fun u => u.cell? ⟨w.heap.size, 0, none⟩ = some (.int .u32 (iv s.a)) ∧ u.cell? ⟨w.heap.size, 1, none⟩ = some (.int .u32 (iv s.b)) ∧ u.cell? ⟨w.heap.size, 2, none⟩ = some (.int .u32 (iv s.c)) ∧ u.cell? ⟨w.heap.size, 3, none⟩ = some (.int .u32 (iv s.d)) ∧ u.cell? ⟨w.heap.size, 4, none⟩ = some (.int .u32 (iv s.e)) ∧ u.cell? ⟨w.heap.size, 5, none⟩ = some (.int .u32 (iv s.f)) ∧ u.cell? ⟨w.heap.size, 6, none⟩ = some (.int .u32 (iv s.g)) ∧ u.cell? ⟨w.heap.size, 7, none⟩ = some (.int .u32 (iv s.h))) (by assumption))).mono ?_; rintro e w7 ⟨rfl, b7⟩; have S7 := heldT_keep fact (by assumption) b7)
            | (go_at_call 16; refine (cK _ (tabOf (w := w) (l := [(w.heap.size, 24, s.cs)]) (C := fun u => u.cell? ⟨w.heap.size, 0, none⟩ = some (.int .u32 (iv s.a)) ∧ u.cell? ⟨w.heap.size, 1, none⟩ = some (.int .u32 (iv s.b)) ∧ u.cell? ⟨w.heap.size, 2, none⟩ = some (.int .u32 (iv s.c)) ∧ u.cell? ⟨w.heap.size, 3, none⟩ = some (.int .u32 (iv s.d)) ∧ u.cell? ⟨w.heap.size, 4, none⟩ = some (.int .u32 (iv s.e)) ∧ u.cell? ⟨w.heap.size, 5, none⟩ = some (.int .u32 (iv s.f)) ∧ u.cell? ⟨w.heap.size, 6, none⟩ = some (.int .u32 (iv s.g)) ∧ u.cell? ⟨w.heap.size, 7, none⟩ = some (.int .u32 (iv s.h))) (by assumption))).mono ?_; rintro e w8 ⟨rfl, rfl⟩)
            | (go_at_call_of 14 (Value.int .u32 (IntKind.u32.wrap (iv x + iv kc))); refine (cR4 _ (tabOf (w := w) (l := [(w.heap.size, 24, s.cs)]) (C := fun u => u.cell? ⟨w.heap.size, 0, none⟩ = some (.int .u32 (iv s.a)) ∧ u.cell? ⟨w.heap.size, 1, none⟩ = some (.int .u32 (iv s.b)) ∧ u.cell? ⟨w.heap.size, 2, none⟩ = some (.int .u32 (iv s.c)) ∧ u.cell? ⟨w.heap.size, 3, none⟩ = some (.int .u32 (iv s.d)) ∧ u.cell? ⟨w.heap.size, 4, none⟩ = some (.int .u32 (iv s.e)) ∧ u.cell? ⟨w.heap.size, 5, none⟩ = some (.int .u32 (iv s.f)) ∧ u.cell? ⟨w.heap.size, 6, none⟩ = some (.int .u32 (iv s.g)) ∧ u.cell? ⟨w.heap.size, 7, none⟩ = some (.int .u32 (iv s.h))) (by assumption))).mono ?_; rintro e w9 ⟨rfl, b9⟩; have S9 := heldT_keep fact (by assumption) b9)
            | fail)
        all_goals go_wp2_with fail
        all_goals go_ret
        all_goals exact ⟨rfl, S9.1.1.below⟩

theorem blockShifts_core (H : Type) (enc : TypeId × Value → H) (W : World) (base : Nat) (args : Array Value) (ds gs : List (DataW H)) (before : List MemPlace)
    (hval : ∀ (j : Nat) t v, Tryd.f5.params[j]? = some t → args[j]? = some v → Value.okWide Tryd.prog W .any base t v)
    (hW : DataW.Whole enc Tryd.prog Tryd.f5.params.toList Rows.blockShiftsSpec.vars false W args.toList ds gs before) (hT : Tab W) :
    gs = [] ∧ ds.length = 4 ∧ Calls Tryd.prog 5 args W (Tells (.bool true) W.heap.size W) := by
  obtain ⟨p, q, hA, hV, -, -, -⟩ := hW
  obtain ⟨rfl, rfl⟩ := trodVars_none hV
  have hA : DataW.TrodAll enc Tryd.prog W 0 (fun _ => true) true Tryd.f5.params.toList args.toList ds p := hA
  rw [Tryd.params5] at hA hval
  obtain ⟨v0, vs0, d0, ds0, p0, ps0, e0, rfl, -, h0, hA⟩ := trodAll_cons hA
  obtain ⟨v1, vs1, d1, ds1, p1, ps1, rfl, rfl, -, h1, hA⟩ := trodAll_cons hA
  obtain ⟨v2, vs2, d2, ds2, p2, ps2, rfl, rfl, -, h2, hA⟩ := trodAll_cons hA
  obtain ⟨v3, vs3, d3, ds3, p3, ps3, rfl, rfl, -, h3, hA⟩ := trodAll_cons hA
  obtain ⟨rfl, rfl, rfl⟩ := trodAll_nil hA
  obtain rfl : args = #[v0, v1, v2, v3] := Array.ext' e0
  obtain ⟨st, rfl⟩ := open_st (hval 0 24 v0 rfl rfl) h0
  obtain ⟨n, rfl, -, -, -⟩ := open_int Tryd.underlying3 (hval 1 3 v1 rfl rfl) h1
  obtain ⟨x, rfl⟩ := open_u32 (hval 2 22 v2 rfl rfl) h2
  obtain ⟨y, rfl⟩ := open_u32 (hval 3 22 v3 rfl rfl) h3
  exact ⟨rfl, rfl, shifts_walk st n x y W hT⟩

set_option maxRecDepth 100000 in
theorem blockShifts_lifted (os : Os) (started : os.Started) (H : Type) (enc : TypeId × Value → H) :
    ReturnsInHanded {} Tryd.checked os 5 .any (fun w args => (Rows.blockShiftsSpec.pre enc Tryd.prog Tryd.f5 [] false w args ∧ laidMetH Tryd.prog laidK w) ∧ sizedMet enc Tryd.prog Tryd.f5 (OpenSpec.ofChange Rows.blockShiftsSpec) false w args)
      (Rows.blockShiftsSpec.post enc Tryd.prog Tryd.f5 false true false false) := by
  refine returnsInHanded_of_change_and (C := Tryd.checked) (X := fun w _ => laidMetH Tryd.prog laidK w) (fun _ _ _ hh h => h.of_heap hh) own_knob started (by kernel_rfl) Tryd.func5
    (ChangeSpec.witness_shaped (enc := enc) (C := Tryd.checked) (os := os) (X := fun w _ => laidMetH Tryd.prog laidK w) false (World.doorLaid Tryd.prog 14 os) #[.agg #[.int .u32 0, .int .u32 0, .int .u32 0, .int .u32 0, .int .u32 0, .int .u32 0, .int .u32 0, .int .u32 0], .int .i64 0, .int .u32 0, .int .u32 0] 8 rfl (World.shaped_of_RefB (by kernel_rfl) (by kernel_rfl)) (by kernel_rfl) (by kernel_rfl) (by kernel_rfl) (door_met os _)) ?_
  intro W base args ds gs before hval0 hW _ _ hL _
  have hval : ∀ (j : Nat) t v, Tryd.f5.params[j]? = some t → args[j]? = some v → Value.okWide Tryd.prog W .any base t v := hval0
  obtain ⟨hg, hlen, hc⟩ := blockShifts_core H enc W base args ds gs before hval hW (tab_of_laid hL)
  subst hg
  have hr : (Tryd.f5.params.toList.all fun t => Tryd.prog.readableRec t && decide (t < Tryd.prog.types.size)) = true := by kernel_rfl
  have hread : ∀ t ∈ Tryd.f5.params.toList, Tryd.prog.readableRec t = true ∧ t < Tryd.prog.types.size := fun t ht => by
    have h := List.all_eq_true.1 hr t ht
    rw [Bool.and_eq_true, decide_eq_true_eq] at h
    exact h
  refine hc.mono fun e W' ⟨he, hb⟩ => ?_
  subst he
  match ds, hlen with
  | [d0, d1, d2, d3], _ => exact ⟨_, rfl, law_post laid_out Tryd.underlying4 rfl hread rfl hW rfl rfl rfl hb⟩

theorem blockShifts_holds : Rows.BlockShiftsSaid :=
  OpenClaim.holds_of_wide 5 Tryd.f5 rfl rfl rfl rfl rfl rfl rfl ⟨rfl, rfl, rfl, rfl, rfl⟩ rfl rfl rfl rfl rfl (by kernel_rfl) Tryd.func5 (by kernel_rfl)
    (of_decide_eq_true (by kernel_rfl)) (by unfold Func.isWrapper; first | (rw [if_pos (by decide +kernel)]; kernel_rfl) | (rw [if_neg (by decide +kernel)]; exact ⟨rfl, rfl⟩))
    (fun os started H enc _ => blockShifts_lifted os started H enc)

theorem blockShifts_card : Rows.BlockShiftsCardSaid :=
  Claim7.holds_tied_plain_at .later [] [.data] true _ false
    blockShifts_holds (fun _ h => by cases h) (by kernel_rfl) (fun _ h => by cases h) blockShifts_row_tie rfl ⟨rfl, rfl⟩ (by kernel_rfl) rfl
    (fun f fn hf hfn => by
      obtain rfl : f = 5 := Option.some.inj ((show Tryd.prog.funcNamed "paymaster/paymasterlaw04.BlockShifts" = some 5 by kernel_rfl).symm.trans hf) |>.symm
      obtain rfl : fn = Tryd.f5 := (Option.some.inj (Tryd.func5.symm.trans hfn)).symm
      exact ⟨by kernel_rfl, fun j t ht => by
        have hm : t ∈ Tryd.f5.params.toList := by simpa using Array.mem_of_getElem? ht
        have hall : (Tryd.f5.params.toList.all fun u => !Tryd.prog.wantsStandIn u) = true := by kernel_rfl
        exact (show Tryd.prog.wantsStandIn t = false by simpa using List.all_eq_true.1 hall t hm)⟩)
    (by kernel_rfl)

end Go.Proofs.YtlceniljnejjeaaDoor
