/-
  ledger.Between, walked: who goes, stays, comes, each by Ids.
-/
import Derived.Test.YthindbmgnkohhaaDoorU11Part
namespace Go.Proofs.YthindbmgnkohhaaDoor
set_option linter.unusedVariables false
set_option linter.unusedSimpArgs false
set_option maxRecDepth 10000
open Go.RowKit Go.Sort

/-- Rows by Ids in a block of their own. -/
def SortedAt (w : World) (v : Value) (xs ys : List Rw) : Prop := Sd xs ys ∧ ys.length = xs.length ∧ ∃ g, v = .slice (some ⟨g, 0, none⟩) ys.length ys.length ∧ RowBox w g ys.toArray
theorem SortedAt.call {w w' : World} {v : Value} {xs ys : List Rw} (h : SortedAt w v xs ys) (hb : Below w.heap.size w w') : SortedAt w' v xs ys := by
  obtain ⟨h1, h2, g, h3, h4⟩ := h
  exact ⟨h1, h2, g, h3, h4.call hb⟩
theorem SortedAt.row {w : World} {v : Value} {xs ys : List Rw} (h : SortedAt w v xs ys) : ∃ A, v = .slice A ys.length ys.length ∧ RwRow w w.heap.size A ys := by
  obtain ⟨h1, h2, g, h3, h4⟩ := h
  exact ⟨_, h3, by simpa using h4.row⟩
theorem rowsort3_any (A : Option Addr) (c : Nat) (xs : List Rw) (hm : xs.length ≤ 1000000000) (hz : ∀ x ∈ xs, x.id.size ≤ 1000000) (w : World) (hR : RwRow w w.heap.size A xs) :
    Calls Tryd.prog 17 #[.slice A xs.length c] w fun e w' => ∃ v ys, e = .returned v ∧ SortedAt w' v xs ys ∧ Below w.heap.size w w' :=
  (rowsort2_any A c xs hm hz w hR).mono fun e w' h => by
    obtain ⟨g, ys, h1, h2, h3, h4, h5, h6⟩ := h
    exact ⟨_, ys, h1, ⟨h6, h3, g, by rw [h3], h4⟩, h5⟩
set_option maxRecDepth 100000 in
set_option maxHeartbeats 4000000 in
theorem between_any (A B : Option Addr) (c d : Nat) (xs ys : List Rw) (hm : xs.length ≤ 1000000) (hn : ys.length ≤ 1000000) (hz : ∀ x ∈ xs, x.id.size ≤ 1000000) (hy : ∀ x ∈ ys, x.id.size ≤ 1000000) (w : World) (hR : RwRow w w.heap.size A xs) (hS : RwRow w w.heap.size B ys) :
    Calls Tryd.prog 22 #[.slice A xs.length c, .slice B ys.length d] w fun e w' => ∃ v1 v2 v3 l1 l2 l3, e = .returned (.tuple #[v1, v2, v3]) ∧ SortedAt w' v1 (outL xs ys) l1 ∧ SortedAt w' v2 (inL ys xs) l2 ∧ SortedAt w' v3 (outL ys xs) l3 ∧ Below w.heap.size w w' := by
  have c1 := part_any A B c d xs ys hm hn hz hy w hR hS
  have a1 := outL_len xs ys
  have a2 := inL_len ys xs
  have a3 := outL_len ys xs
  go_enter Tryd.func22, Tryd.ntmps22
  go_upto_region 2 with (first
    | (go_at_call 46; refine c1.mono ?_; rintro e w1 ⟨u1, u2, rfl, -, O2, j1⟩)
    | fail)
  have c2 := part_any B A d c ys xs hn hm hy hz w1 ((hS.call j1).more j1.size) ((hR.call j1).more j1.size)
  clear c1
  go_upto_region 3 with (first
    | (go_at_call 46; refine c2.mono ?_; rintro e w2 ⟨u3, u4, rfl, O3, O4, j2⟩)
    | fail)
  clear c2
  have O2 := own_below O2 j2
  obtain ⟨A1, k1, rfl, -, R1⟩ := rows_of_own O2
  obtain ⟨A2, k2, rfl, -, R2⟩ := rows_of_own O3
  obtain ⟨A3, k3, rfl, -, R3⟩ := rows_of_own O4
  have d1 := rowsort3_any A1 k1 (outL xs ys) (by omega) (fun x hx => hz x (outL_mem hx).1) w2 R1
  have d2 := fun w3 (h : Below w2.heap.size w2 w3) => rowsort3_any A2 k2 (inL ys xs) (by omega) (fun x hx => hy x (inL_mem hx).1) w3 ((R2.call h).more h.size)
  have d3 := fun w3 (h : Below w2.heap.size w2 w3) => rowsort3_any A3 k3 (outL ys xs) (by omega) (fun x hx => hy x (outL_mem hx).1) w3 ((R3.call h).more h.size)
  have j := chain j1 j2
  clear O2 O3 O4 R1 R2 R3
  obtain ⟨N1, hN1⟩ : ∃ N, (outL xs ys).length = N := ⟨_, rfl⟩
  obtain ⟨N2, hN2⟩ : ∃ N, (inL ys xs).length = N := ⟨_, rfl⟩
  obtain ⟨N3, hN3⟩ : ∃ N, (outL ys xs).length = N := ⟨_, rfl⟩
  rw [hN1] at d1
  simp only [hN2] at d2
  simp only [hN3] at d3
  clear a1 a2 a3
  rw [hN1, hN2, hN3]
  clear hN1 hN2 hN3
  go_wp2_with (first
    | (go_at_call_of 17 (Value.slice A1 N1 k1); refine d1.mono ?_; rintro e w3 ⟨v1, l1, rfl, s1, j3⟩)
    | (go_at_call_of 17 (Value.slice A2 N2 k2); refine (d2 _ j3).mono ?_; rintro e w4 ⟨v2, l2, rfl, s2, j4⟩; have j34 := chain j3 j4)
    | (go_at_call_of 17 (Value.slice A3 N3 k3); refine (d3 _ j34).mono ?_; rintro e w5 ⟨v3, l3, rfl, s3, j5⟩)
    | fail)
  refine bodyPost_ret (results_tmp3 rfl _ _ _) rfl ?_
  exact ⟨v1, v2, v3, l1, l2, l3, rfl, s1.call (chain j4 j5), s2.call j5, s3, chain j (chain j34 j5)⟩
end Go.Proofs.YthindbmgnkohhaaDoor
