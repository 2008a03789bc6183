/- Several of my texts, laid as one. -/
import Derived.Test.YtkecekfapiegjaaDoorM17Pln
import Derived.Test.YtkecekfapiegjaaDoorM16Fn
import Derived.Test.YtkecekfapiegjaaDoorM7Fn
import Derived.Test.YtkecekfapiegjaaDoorM14Cl
import Derived.Test.YtkecekfapiegjaaDoorM13Nod
import Derived.Test.YtkecekfapiegjaaDoorM16Ent
import Derived.Laws.EntriesVeiled
/-
  Package verify's claims: where one lies, and its six checks, walked.
-/
namespace Go.Proofs.YtkecekfapiegjaaDoor
set_option linter.unusedVariables false
set_option linter.unusedSimpArgs false
set_option maxRecDepth 10000
open Go.RowKit

/-- A claim's cells: the root, a width, a height, the entry, what comes of it. -/
abbrev clmV (r : RtP) (n h : Int) (x : Lf) (p : Int) (A : Option Addr) (m c : Nat) (t : RtP) : Array Value :=
  #[.string r.hash, .int .u64 r.h, .int .u64 r.l, .int .i64 r.n, .int .i64 n, .int .i64 h, .bool x.pad, .string x.id, .string x.salt, .int .u64 x.h, .int .u64 x.l, .int .u64 p, .slice A m c, .string t.hash, .int .u64 t.h, .int .u64 t.l, .int .i64 t.n]
theorem rtSame_eq (x y : RtP) : rtSame x y = x.same y := rfl
section
variable (r : RtP) (n h : Int) (x : Lf) (p : Nat) (A : Option Addr) (m c : Nat) (t : RtP) (g : Nat) (w : World)
set_option maxHeartbeats 1000000 in
theorem tall17_any (hB : Box w g 82 (clmV r n h x p A m c t)) : Calls Tryd.prog 53 #[.pointer (some ⟨g, 0, none⟩)] w (Tells (.int .i64 (if h < 0 ∨ 63 < h then 120 else 0)) w.heap.size w) := by
  have x5 : w.cell? ⟨g, 5, none⟩ = some (.int .i64 h) := hB.read 5
  have xin := hB.inside
  clear hB
  by_cases h1 : h < 0
  · rw [if_pos (Or.inl h1)]
    go_enter Tryd.func53, Tryd.ntmps53
    go_wp2
    go_ret
    exact ⟨rfl, Below.refl _ _⟩
  · by_cases h2 : 63 < h
    · rw [if_pos (Or.inr h2)]
      go_enter Tryd.func53, Tryd.ntmps53
      go_wp2
      go_ret
      exact ⟨rfl, Below.refl _ _⟩
    · rw [if_neg (by omega)]
      go_enter Tryd.func53, Tryd.ntmps53
      go_wp2
      go_ret
      exact ⟨rfl, Below.refl _ _⟩
set_option maxHeartbeats 1000000 in
theorem wide17_any (hB : Box w g 82 (clmV r n h x p A m c t)) : Calls Tryd.prog 54 #[.pointer (some ⟨g, 0, none⟩)] w (Tells (.int .i64 (if mayW n = true then 0 else 70)) w.heap.size w) := by
  have x4 : w.cell? ⟨g, 4, none⟩ = some (.int .i64 n) := hB.read 4
  have xin := hB.inside
  clear hB
  have cW := fun u => mayWidth_any n u
  cases hm : mayW n with
  | true =>
    rw [hm] at cW
    rw [if_pos rfl]
    clear hm
    go_enter Tryd.func54, Tryd.ntmps54
    go_wp2_with (first | (go_at_call 51; refine (cW _).mono ?_; rintro e w2 ⟨rfl, rfl⟩) | fail)
    go_ret
    exact ⟨rfl, Below.refl _ _⟩
  | false =>
    rw [hm] at cW
    rw [if_neg (by decide)]
    clear hm
    go_enter Tryd.func54, Tryd.ntmps54
    go_wp2_with (first | (go_at_call 51; refine (cW _).mono ?_; rintro e w2 ⟨rfl, rfl⟩) | fail)
    go_ret
    exact ⟨rfl, Below.refl _ _⟩
set_option maxHeartbeats 1000000 in
theorem leaf17_any (hx : x.id.size ≤ 1000000 ∧ x.salt.size ≤ 1000000) (hU : TabU w) (hB : Box w g 82 (clmV r n h x p A m c t)) : Calls Tryd.prog 55 #[.pointer (some ⟨g, 0, none⟩)] w (Tells (.int .i64 (if x.may = true then 0 else 130)) w.heap.size w) := by
  have cM := fun u hu => mayLeaf_any x (by omega) (by omega) u hu
  obtain ⟨M, hM⟩ : ∃ M, x.may = M := ⟨_, rfl⟩
  rw [hM] at cM ⊢
  clear hM
  obtain ⟨xp, xi, xs, xh, xl⟩ := x
  have x6 : w.cell? ⟨g, 6, none⟩ = some (.bool xp) := hB.read 6
  have x7 : w.cell? ⟨g, 7, none⟩ = some (.string xi) := hB.read 7
  have x8 : w.cell? ⟨g, 8, none⟩ = some (.string xs) := hB.read 8
  have x9 : w.cell? ⟨g, 9, none⟩ = some (.int .u64 xh) := hB.read 9
  have x10 : w.cell? ⟨g, 10, none⟩ = some (.int .u64 xl) := hB.read 10
  have xin := hB.inside
  clear hB
  simp only [Lf.val] at cM
  cases M with
  | true =>
    rw [if_pos rfl]
    go_enter Tryd.func55, Tryd.ntmps55
    go_wp2_with (first | (go_at_call 67; refine (cM _ hU).mono ?_; rintro e w2 ⟨rfl, b2⟩) | fail)
    go_ret
    exact ⟨rfl, b2⟩
  | false =>
    rw [if_neg (by decide)]
    go_enter Tryd.func55, Tryd.ntmps55
    go_wp2_with (first | (go_at_call 67; refine (cM _ hU).mono ?_; rintro e w2 ⟨rfl, b2⟩) | fail)
    go_ret
    exact ⟨rfl, b2⟩
set_option maxHeartbeats 2000000 in
theorem same17_any (hB : Box w g 82 (clmV r n h x p A m c t)) : Calls Tryd.prog 58 #[.pointer (some ⟨g, 0, none⟩)] w (Tells (.int .i64 (if rtSame t r = true then 0 else 160)) w.heap.size w) := by
  have hq := fun u => run_neq_rt t r u
  rw [rtSame_eq]
  obtain ⟨S, hS⟩ : ∃ S, t.same r = S := ⟨_, rfl⟩
  rw [hS] at hq ⊢
  clear hS
  obtain ⟨rs, rh', rl', rn⟩ := r
  obtain ⟨ts, th, tl, tn⟩ := t
  have x0 : w.cell? ⟨g, 0, none⟩ = some (.string rs) := hB.read 0
  have x1 : w.cell? ⟨g, 1, none⟩ = some (.int .u64 rh') := hB.read 1
  have x2 : w.cell? ⟨g, 2, none⟩ = some (.int .u64 rl') := hB.read 2
  have x3 : w.cell? ⟨g, 3, none⟩ = some (.int .i64 rn) := hB.read 3
  have y0 : w.cell? ⟨g, 13, none⟩ = some (.string ts) := hB.read 13
  have y1 : w.cell? ⟨g, 14, none⟩ = some (.int .u64 th) := hB.read 14
  have y2 : w.cell? ⟨g, 15, none⟩ = some (.int .u64 tl) := hB.read 15
  have y3 : w.cell? ⟨g, 16, none⟩ = some (.int .i64 tn) := hB.read 16
  have xin := hB.inside
  clear hB
  simp only [RtP.val] at hq
  have J := Has.start w
  cases S with
  | true =>
    rw [if_pos rfl]
    go_enter Tryd.func58, Tryd.ntmps58
    go_upto_region 1 with fail
    go_quiet (fail)
    go_wp2
    go_ret
    exact ⟨rfl, below_drewN J.below _⟩
  | false =>
    rw [if_neg (by decide)]
    go_enter Tryd.func58, Tryd.ntmps58
    go_upto_region 1 with fail
    go_quiet (fail)
    go_wp2
    go_ret
    exact ⟨rfl, below_drewN J.below _⟩
end
set_option maxRecDepth 100000 in
set_option maxHeartbeats 2000000 in
theorem shape17_any (r : RtP) (n h : Int) (x : Lf) (p : Nat) (hp : p < 18446744073709551616) (A : Option Addr) (c : Nat) (l : List Nd) (hl : l.length ≤ 1000000000) (t : RtP) (g : Nat) (w : World) (hR : ndS.Row w w.heap.size A l) (hB : Box w g 82 (clmV r n h x p A l.length c t)) : Calls Tryd.prog 56 #[.pointer (some ⟨g, 0, none⟩)] w (Tells (.int .i64 (shapeN n h p l)) w.heap.size w) := by
  have cS := fun u hu => shape16_any n h p hp A c l hl u hu
  obtain ⟨E, hE⟩ : ∃ E, shapeN n h p l = E := ⟨_, rfl⟩
  rw [hE] at cS ⊢
  clear hE
  obtain ⟨N, hN⟩ : ∃ N, l.length = N := ⟨_, rfl⟩
  rw [hN] at cS hB
  clear hN hl
  have hS : ∀ u, Below w.heap.size w u → (u.cell? ⟨g, 4, none⟩ = some (.int .i64 n) ∧ u.cell? ⟨g, 5, none⟩ = some (.int .i64 h) ∧ u.cell? ⟨g, 11, none⟩ = some (.int .u64 p) ∧ u.cell? ⟨g, 12, none⟩ = some (.slice A N c) ∧ g < u.heap.size) := fun u hu => by
    have B := hB.call hu
    exact ⟨B.read 4, B.read 5, B.read 11, B.read 12, B.inside⟩
  clear hB
  go_enter Tryd.func56, Tryd.ntmps56
  go_upto_region 1 with fail
  have b0 := (Below.refl w.heap.size w).drew
  refine wp_region_held_drew (S := fun u => u.cell? ⟨g, 4, none⟩ = some (.int .i64 n) ∧ u.cell? ⟨g, 5, none⟩ = some (.int .i64 h) ∧ u.cell? ⟨g, 11, none⟩ = some (.int .u64 p) ∧ u.cell? ⟨g, 12, none⟩ = some (.slice A N c) ∧ g < u.heap.size) (by kernel_rfl) (hS _ b0) (fun hHeld => ?_)
  generalize w.drew = Wd at *
  refine wpAnyH_take (i := 0) (v := ?_) rfl (by kernel_rfl) (by kernel_rfl) (by kernel_rfl) (fun _ _ _ h => h) (Or.inl ⟨by rfl, ?_⟩) (by assumption) ?_
  rotate_left 1
  · intro w hSw; (try dsimp only at hSw); go_simp; try with_reducible rfl
  try simp only [Act.put, List.getElem_toArray, List.getElem_cons_succ, List.getElem_cons_zero, List.setIfInBounds_toArray, List.set_cons_zero, List.set_cons_succ]
  refine wpAnyH_take (i := 1) (v := ?_) rfl (by kernel_rfl) (by kernel_rfl) (by kernel_rfl) (fun _ _ _ h => h) (Or.inl ⟨by rfl, ?_⟩) (by assumption) ?_
  rotate_left 1
  · intro w hSw; (try dsimp only at hSw); go_simp; try with_reducible rfl
  try simp only [Act.put, List.getElem_toArray, List.getElem_cons_succ, List.getElem_cons_zero, List.setIfInBounds_toArray, List.set_cons_zero, List.set_cons_succ]
  refine wpAnyH_take (i := 2) (v := ?_) rfl (by kernel_rfl) (by kernel_rfl) (by kernel_rfl) (fun _ _ _ h => h) (Or.inl ⟨by rfl, ?_⟩) (by assumption) ?_
  rotate_left 1
  · intro w hSw; (try dsimp only at hSw); go_simp; try with_reducible rfl
  try simp only [Act.put, List.getElem_toArray, List.getElem_cons_succ, List.getElem_cons_zero, List.setIfInBounds_toArray, List.set_cons_zero, List.set_cons_succ]
  refine wpAnyH_take (i := 3) (v := ?_) rfl (by kernel_rfl) (by kernel_rfl) (by kernel_rfl) (fun _ _ _ h => h) (Or.inl ⟨by rfl, ?_⟩) (by assumption) ?_
  rotate_left 1
  · intro w hSw; (try dsimp only at hSw); go_simp; try with_reducible rfl
  try simp only [Act.put, List.getElem_toArray, List.getElem_cons_succ, List.getElem_cons_zero, List.setIfInBounds_toArray, List.set_cons_zero, List.set_cons_succ]
  refine wpAnyH_take (i := 4) (v := ?_) rfl (by kernel_rfl) (by kernel_rfl) (by kernel_rfl) (fun _ _ _ h => h) (Or.inl ⟨by rfl, ?_⟩) (by assumption) ?_
  rotate_left 1
  · intro w hSw; (try dsimp only at hSw); go_simp; try with_reducible rfl
  try simp only [Act.put, List.getElem_toArray, List.getElem_cons_succ, List.getElem_cons_zero, List.setIfInBounds_toArray, List.set_cons_zero, List.set_cons_succ]
  refine wpAnyH_take (i := 5) (v := ?_) rfl (by kernel_rfl) (by kernel_rfl) (by kernel_rfl) (fun _ _ _ h => h) (Or.inl ⟨by rfl, ?_⟩) (by assumption) ?_
  rotate_left 1
  · intro w hSw; (try dsimp only at hSw); go_simp; try with_reducible rfl
  try simp only [Act.put, List.getElem_toArray, List.getElem_cons_succ, List.getElem_cons_zero, List.setIfInBounds_toArray, List.set_cons_zero, List.set_cons_succ]
  refine wpAnyH_take (i := 6) (v := ?_) rfl (by kernel_rfl) (by kernel_rfl) (by kernel_rfl) (fun _ _ _ h => h) (Or.inl ⟨by rfl, ?_⟩) (by assumption) ?_
  rotate_left 1
  · intro w hSw; (try dsimp only at hSw); go_simp; try with_reducible rfl
  try simp only [Act.put, List.getElem_toArray, List.getElem_cons_succ, List.getElem_cons_zero, List.setIfInBounds_toArray, List.set_cons_zero, List.set_cons_succ]
  refine wpAnyH_take (i := 7) (v := ?_) rfl (by kernel_rfl) (by kernel_rfl) (by kernel_rfl) (fun _ _ _ h => h) (Or.inl ⟨by rfl, ?_⟩) (by assumption) ?_
  rotate_left 1
  · intro w hSw; (try dsimp only at hSw); go_simp; try with_reducible rfl
  try simp only [Act.put, List.getElem_toArray, List.getElem_cons_succ, List.getElem_cons_zero, List.setIfInBounds_toArray, List.set_cons_zero, List.set_cons_succ]
  refine wpAnyH_take (i := 8) (v := ?_) rfl (by kernel_rfl) (by kernel_rfl) (by kernel_rfl) (fun _ _ _ h => h) (Or.inl ⟨by rfl, ?_⟩) (by assumption) ?_
  rotate_left 1
  · intro w hSw; (try dsimp only at hSw); go_simp; try with_reducible rfl
  try simp only [Act.put, List.getElem_toArray, List.getElem_cons_succ, List.getElem_cons_zero, List.setIfInBounds_toArray, List.set_cons_zero, List.set_cons_succ]
  refine wpAnyH_take (i := 9) (v := ?_) rfl (by kernel_rfl) (by kernel_rfl) (by kernel_rfl) (fun _ _ _ h => h) (Or.inl ⟨by rfl, ?_⟩) (by assumption) ?_
  rotate_left 1
  · intro w hSw; (try dsimp only at hSw); go_simp; try with_reducible rfl
  try simp only [Act.put, List.getElem_toArray, List.getElem_cons_succ, List.getElem_cons_zero, List.setIfInBounds_toArray, List.set_cons_zero, List.set_cons_succ]
  refine wpAnyH_take (i := 10) (v := ?_) rfl (by kernel_rfl) (by kernel_rfl) (by kernel_rfl) (fun _ _ _ h => h) (Or.inl ⟨by rfl, ?_⟩) (by assumption) ?_
  rotate_left 1
  · intro w hSw; (try dsimp only at hSw); go_simp; try with_reducible rfl
  try simp only [Act.put, List.getElem_toArray, List.getElem_cons_succ, List.getElem_cons_zero, List.setIfInBounds_toArray, List.set_cons_zero, List.set_cons_succ]
  refine wpAnyH_take (i := 11) (v := ?_) rfl (by kernel_rfl) (by kernel_rfl) (by kernel_rfl) (fun _ _ _ h => h) (Or.inl ⟨by rfl, ?_⟩) (by assumption) ?_
  rotate_left 1
  · intro w hSw; (try dsimp only at hSw); go_simp; try with_reducible rfl
  try simp only [Act.put, List.getElem_toArray, List.getElem_cons_succ, List.getElem_cons_zero, List.setIfInBounds_toArray, List.set_cons_zero, List.set_cons_succ]
  refine wpAnyH_take (i := 12) (v := ?_) rfl (by kernel_rfl) (by kernel_rfl) (by kernel_rfl) (fun _ _ _ h => h) (Or.inl ⟨by rfl, ?_⟩) (by assumption) ?_
  rotate_left 1
  · intro w hSw; (try dsimp only at hSw); go_simp; try with_reducible rfl
  try simp only [Act.put, List.getElem_toArray, List.getElem_cons_succ, List.getElem_cons_zero, List.setIfInBounds_toArray, List.set_cons_zero, List.set_cons_succ]
  refine wpAnyH_ready (rs := [13]) (by kernel_rfl) (by simp) (AllReadyH.cons rfl (fun K hK => ?_) AllReadyH.nil)
  go_simp
  go_at_call 81
  refine (cS _ (hR.on b0)).mono ?_
  rintro e w6 ⟨rfl, b6⟩
  have b1 := chain b0 b6
  try simp only []
  refine hK.out _ _ (hS _ b1) (fun hHeld => ?_)
  clear hK K
  try simp only [Act.put, List.getElem_toArray, List.getElem_cons_succ, List.getElem_cons_zero, List.setIfInBounds_toArray, List.set_cons_zero, List.set_cons_succ]
  refine wpAnyH_take (i := 14) (v := ?_) rfl (by kernel_rfl) (by kernel_rfl) (by kernel_rfl) (fun _ _ _ h => h) (Or.inl ⟨by rfl, ?_⟩) (by assumption) ?_
  rotate_left 1
  · intro w hSw; (try dsimp only at hSw); go_simp; try with_reducible rfl
  try simp only [Act.put, List.getElem_toArray, List.getElem_cons_succ, List.getElem_cons_zero, List.setIfInBounds_toArray, List.set_cons_zero, List.set_cons_succ]
  refine wpAnyH_done (by kernel_rfl) ?_ _
  go_wp2
  go_ret
  exact ⟨rfl, b1⟩
set_option maxRecDepth 100000 in
set_option maxHeartbeats 8000000 in
theorem room17_any (r : RtP) (n h : Int) (x : Lf) (p : Nat) (hp : p < 18446744073709551616) (A : Option Addr) (c : Nat) (l : List Nd) (hl : l.length ≤ 1000000000) (t : RtP) (g : Nat) (w : World) (hR : ndS.Row w w.heap.size A l) (hx : x.id.size ≤ 1000000 ∧ x.salt.size ≤ 1000000) (hw : Word x.h ∧ Word x.l) (hy : ∀ y ∈ l, y.halved) (hK : Tab w) (hU : TabU w) (hB : Box w g 82 (clmV r n h x p A l.length c t)) :
    Calls Tryd.prog 57 #[.pointer (some ⟨g, 0, none⟩)] w (fun e w' => e = .returned (.int .i64 (topE n x p l).2) ∧ Box w' g 82 (clmV r n h x p A l.length c (if (topE n x p l).2 = 0 then (topE n x p l).1 else t)) ∧ Off (One g) w w') := by
  have cN := fun u hu hv => leafNode_any n x hx.1 hx.2 hw.1 hw.2 u hu hv
  have hX : (nodeOf n x).halved := by
    rw [nodeOf]
    split
    · exact hw
    · exact Nd.zero_halved
  have cC := fun u hR hT => climb14_any n (nodeOf n x) p hp A c l hl hX hy u hR hT
  have hE2 : (topE n x p l).2 = (climbN n (nodeOf n x) p l).2 := by
    rw [topE]
    split
    · rename_i e; exact e.symm
    · rfl
  have hE1 : (topE n x p l).2 = 0 → (topE n x p l).1 = ⟨(climbN n (nodeOf n x) p l).1.hash, (climbN n (nodeOf n x) p l).1.h, (climbN n (nodeOf n x) p l).1.l, l.length⟩ := fun e => by
    rw [hE2] at e
    rw [topE, if_pos e]
  rw [hE2] at hE1 ⊢
  generalize (topE n x p l).1 = T1 at *
  obtain ⟨⟨⟨ts, th, tl⟩, E⟩, hC⟩ : ∃ C, climbN n (nodeOf n x) p l = C := ⟨_, rfl⟩
  rw [hC] at cC hE1 ⊢
  clear hC hE2 hX hy
  simp only at hE1
  generalize nodeOf n x = X at *
  obtain ⟨xns, xnh, xnl⟩ := X
  obtain ⟨N, hN⟩ : ∃ N, l.length = N := ⟨_, rfl⟩
  rw [hN] at cC hB hE1 ⊢
  clear hN hl
  simp only [Nd.val] at cN cC
  have L0 := chainA (Below.refl w.heap.size w) (.cells #[.int .u64 p, .slice A N c] 37)
  have X1 := Box.made w 37 #[.int .u64 p, .slice A N c]
  have xB : (w.cell? ⟨g, 11, none⟩ = some (.int .u64 p) ∧ w.cell? ⟨g, 12, none⟩ = some (.slice A N c)) ∧ g < w.heap.size := ⟨⟨hB.read 11, hB.read 12⟩, hB.inside⟩
  obtain ⟨⟨x11, x12⟩, xin⟩ := xB
  have HE := hideIt hE1
  clear hE1
  go_enter Tryd.func57, Tryd.ntmps57
  go_upto_region 2 with fail
  change Code.wp _ _ _ _ (w.alloc (.cells #[.int .u64 p, .slice A N c] 37))
  obtain ⟨gp, hgp⟩ : ∃ g, w.heap.size = g := ⟨_, rfl⟩
  rw [hgp] at X1 ⊢
  have b01 : Below w.heap.size w (w.alloc (.cells #[.int .u64 p, .slice A N c] 37)) := L0
  generalize w.alloc (.cells #[.int .u64 p, .slice A N c] 37) = W1 at *
  clear x11 x12 xin L0 hgp
  have hKx := hK.call b01
  have hUx := hU.call b01
  have BS := hR.on b01
  have hS : ∀ u, Below W1.heap.size W1 u → ((u.cell? ⟨g, 4, none⟩ = some (.int .i64 n) ∧ u.cell? ⟨g, 6, none⟩ = some (.bool x.pad) ∧ u.cell? ⟨g, 7, none⟩ = some (.string x.id) ∧ u.cell? ⟨g, 8, none⟩ = some (.string x.salt) ∧ u.cell? ⟨g, 9, none⟩ = some (.int .u64 x.h) ∧ u.cell? ⟨g, 10, none⟩ = some (.int .u64 x.l) ∧ g < u.heap.size) ∧ (u.cell? ⟨gp, 0, none⟩ = some (.int .u64 p) ∧ u.cell? ⟨gp, 1, none⟩ = some (.slice A N c) ∧ gp < u.heap.size)) := fun u hu => by
    have B := (hB.call b01).call hu
    have Q := X1.call hu
    exact ⟨⟨B.read 4, B.read 6, B.read 7, B.read 8, B.read 9, B.read 10, B.inside⟩, Q.read 0, Q.read 1, Q.inside⟩
  obtain ⟨xp, xi, xs, xh, xl⟩ := x
  simp only [Lf.val] at cN hS
  have b0 := (Below.refl W1.heap.size W1).drew
  refine wp_region_held_drew (S := fun u => (u.cell? ⟨g, 4, none⟩ = some (.int .i64 n) ∧ u.cell? ⟨g, 6, none⟩ = some (.bool xp) ∧ u.cell? ⟨g, 7, none⟩ = some (.string xi) ∧ u.cell? ⟨g, 8, none⟩ = some (.string xs) ∧ u.cell? ⟨g, 9, none⟩ = some (.int .u64 xh) ∧ u.cell? ⟨g, 10, none⟩ = some (.int .u64 xl) ∧ g < u.heap.size) ∧ (u.cell? ⟨gp, 0, none⟩ = some (.int .u64 p) ∧ u.cell? ⟨gp, 1, none⟩ = some (.slice A N c) ∧ gp < u.heap.size)) (by kernel_rfl) (hS _ b0) (fun hHeld => ?_)
  generalize W1.drew = Wd at *
  have hs3 : W1.heap.size ≤ Wd.heap.size := b0.size
  refine wpAnyH_take (i := 0) (v := ?_) rfl (by kernel_rfl) (by kernel_rfl) (by kernel_rfl) (fun _ _ _ h => h) (Or.inl ⟨by rfl, ?_⟩) (by assumption) ?_
  rotate_left 1
  · intro w hSw; (try dsimp only at hSw); go_simp; try with_reducible rfl
  try simp only [Act.put, List.getElem_toArray, List.getElem_cons_succ, List.getElem_cons_zero, List.setIfInBounds_toArray, List.set_cons_zero, List.set_cons_succ]
  refine wpAnyH_take (i := 1) (v := ?_) rfl (by kernel_rfl) (by kernel_rfl) (by kernel_rfl) (fun _ _ _ h => h) (Or.inl ⟨by rfl, ?_⟩) (by assumption) ?_
  rotate_left 1
  · intro w hSw; (try dsimp only at hSw); go_simp; try with_reducible rfl
  try simp only [Act.put, List.getElem_toArray, List.getElem_cons_succ, List.getElem_cons_zero, List.setIfInBounds_toArray, List.set_cons_zero, List.set_cons_succ]
  refine wpAnyH_take (i := 2) (v := ?_) rfl (by kernel_rfl) (by kernel_rfl) (by kernel_rfl) (fun _ _ _ h => h) (Or.inl ⟨by rfl, ?_⟩) (by assumption) ?_
  rotate_left 1
  · intro w hSw; (try dsimp only at hSw); go_simp; try with_reducible rfl
  try simp only [Act.put, List.getElem_toArray, List.getElem_cons_succ, List.getElem_cons_zero, List.setIfInBounds_toArray, List.set_cons_zero, List.set_cons_succ]
  refine wpAnyH_take (i := 3) (v := ?_) rfl (by kernel_rfl) (by kernel_rfl) (by kernel_rfl) (fun _ _ _ h => h) (Or.inl ⟨by rfl, ?_⟩) (by assumption) ?_
  rotate_left 1
  · intro w hSw; (try dsimp only at hSw); go_simp; try with_reducible rfl
  try simp only [Act.put, List.getElem_toArray, List.getElem_cons_succ, List.getElem_cons_zero, List.setIfInBounds_toArray, List.set_cons_zero, List.set_cons_succ]
  refine wpAnyH_take (i := 4) (v := ?_) rfl (by kernel_rfl) (by kernel_rfl) (by kernel_rfl) (fun _ _ _ h => h) (Or.inl ⟨by rfl, ?_⟩) (by assumption) ?_
  rotate_left 1
  · intro w hSw; (try dsimp only at hSw); go_simp; try with_reducible rfl
  try simp only [Act.put, List.getElem_toArray, List.getElem_cons_succ, List.getElem_cons_zero, List.setIfInBounds_toArray, List.set_cons_zero, List.set_cons_succ]
  refine wpAnyH_take (i := 5) (v := ?_) rfl (by kernel_rfl) (by kernel_rfl) (by kernel_rfl) (fun _ _ _ h => h) (Or.inl ⟨by rfl, ?_⟩) (by assumption) ?_
  rotate_left 1
  · intro w hSw; (try dsimp only at hSw); go_simp; try with_reducible rfl
  try simp only [Act.put, List.getElem_toArray, List.getElem_cons_succ, List.getElem_cons_zero, List.setIfInBounds_toArray, List.set_cons_zero, List.set_cons_succ]
  refine wpAnyH_take (i := 6) (v := ?_) rfl (by kernel_rfl) (by kernel_rfl) (by kernel_rfl) (fun _ _ _ h => h) (Or.inl ⟨by rfl, ?_⟩) (by assumption) ?_
  rotate_left 1
  · intro w hSw; (try dsimp only at hSw); go_simp; try with_reducible rfl
  try simp only [Act.put, List.getElem_toArray, List.getElem_cons_succ, List.getElem_cons_zero, List.setIfInBounds_toArray, List.set_cons_zero, List.set_cons_succ]
  refine wpAnyH_take (i := 7) (v := ?_) rfl (by kernel_rfl) (by kernel_rfl) (by kernel_rfl) (fun _ _ _ h => h) (Or.inl ⟨by rfl, ?_⟩) (by assumption) ?_
  rotate_left 1
  · intro w hSw; (try dsimp only at hSw); go_simp; try with_reducible rfl
  try simp only [Act.put, List.getElem_toArray, List.getElem_cons_succ, List.getElem_cons_zero, List.setIfInBounds_toArray, List.set_cons_zero, List.set_cons_succ]
  refine wpAnyH_take (i := 8) (v := ?_) rfl (by kernel_rfl) (by kernel_rfl) (by kernel_rfl) (fun _ _ _ h => h) (Or.inl ⟨by rfl, ?_⟩) (by assumption) ?_
  rotate_left 1
  · intro w hSw; (try dsimp only at hSw); go_simp; try with_reducible rfl
  try simp only [Act.put, List.getElem_toArray, List.getElem_cons_succ, List.getElem_cons_zero, List.setIfInBounds_toArray, List.set_cons_zero, List.set_cons_succ]
  refine wpAnyH_take (i := 9) (v := ?_) rfl (by kernel_rfl) (by kernel_rfl) (by kernel_rfl) (fun _ _ _ h => h) (Or.inl ⟨by rfl, ?_⟩) (by assumption) ?_
  rotate_left 1
  · intro w hSw; (try dsimp only at hSw); go_simp; try with_reducible rfl
  try simp only [Act.put, List.getElem_toArray, List.getElem_cons_succ, List.getElem_cons_zero, List.setIfInBounds_toArray, List.set_cons_zero, List.set_cons_succ]
  refine wpAnyH_take (i := 10) (v := ?_) rfl (by kernel_rfl) (by kernel_rfl) (by kernel_rfl) (fun _ _ _ h => h) (Or.inl ⟨by rfl, ?_⟩) (by assumption) ?_
  rotate_left 1
  · intro w hSw; (try dsimp only at hSw); go_simp; try with_reducible rfl
  try simp only [Act.put, List.getElem_toArray, List.getElem_cons_succ, List.getElem_cons_zero, List.setIfInBounds_toArray, List.set_cons_zero, List.set_cons_succ]
  refine wpAnyH_take (i := 11) (v := ?_) rfl (by kernel_rfl) (by kernel_rfl) (by kernel_rfl) (fun _ _ _ h => h) (Or.inl ⟨by rfl, ?_⟩) (by assumption) ?_
  rotate_left 1
  · intro w hSw; (try dsimp only at hSw); go_simp; try with_reducible rfl
  try simp only [Act.put, List.getElem_toArray, List.getElem_cons_succ, List.getElem_cons_zero, List.setIfInBounds_toArray, List.set_cons_zero, List.set_cons_succ]
  refine wpAnyH_take (i := 12) (v := ?_) rfl (by kernel_rfl) (by kernel_rfl) (by kernel_rfl) (fun _ _ _ h => h) (Or.inl ⟨by rfl, ?_⟩) (by assumption) ?_
  rotate_left 1
  · intro w hSw; (try dsimp only at hSw); go_simp; try with_reducible rfl
  try simp only [Act.put, List.getElem_toArray, List.getElem_cons_succ, List.getElem_cons_zero, List.setIfInBounds_toArray, List.set_cons_zero, List.set_cons_succ]
  refine wpAnyH_take (i := 14) (v := ?_) rfl (by kernel_rfl) (by kernel_rfl) (by kernel_rfl) (fun _ _ _ h => h) (Or.inl ⟨by rfl, ?_⟩) (by assumption) ?_
  rotate_left 1
  · intro w hSw; (try dsimp only at hSw); go_simp; try with_reducible rfl
  try simp only [Act.put, List.getElem_toArray, List.getElem_cons_succ, List.getElem_cons_zero, List.setIfInBounds_toArray, List.set_cons_zero, List.set_cons_succ]
  refine wpAnyH_take (i := 15) (v := ?_) rfl (by kernel_rfl) (by kernel_rfl) (by kernel_rfl) (fun _ _ _ h => h) (Or.inl ⟨by rfl, ?_⟩) (by assumption) ?_
  rotate_left 1
  · intro w hSw; (try dsimp only at hSw); go_simp; try with_reducible rfl
  try simp only [Act.put, List.getElem_toArray, List.getElem_cons_succ, List.getElem_cons_zero, List.setIfInBounds_toArray, List.set_cons_zero, List.set_cons_succ]
  refine wpAnyH_take (i := 16) (v := ?_) rfl (by kernel_rfl) (by kernel_rfl) (by kernel_rfl) (fun _ _ _ h => h) (Or.inl ⟨by rfl, ?_⟩) (by assumption) ?_
  rotate_left 1
  · intro w hSw; (try dsimp only at hSw); go_simp; try with_reducible rfl
  try simp only [Act.put, List.getElem_toArray, List.getElem_cons_succ, List.getElem_cons_zero, List.setIfInBounds_toArray, List.set_cons_zero, List.set_cons_succ]
  refine wpAnyH_take (i := 17) (v := ?_) rfl (by kernel_rfl) (by kernel_rfl) (by kernel_rfl) (fun _ _ _ h => h) (Or.inl ⟨by rfl, ?_⟩) (by assumption) ?_
  rotate_left 1
  · intro w hSw; (try dsimp only at hSw); go_simp; try with_reducible rfl
  try simp only [Act.put, List.getElem_toArray, List.getElem_cons_succ, List.getElem_cons_zero, List.setIfInBounds_toArray, List.set_cons_zero, List.set_cons_succ]
  refine wpAnyH_ready (rs := [13, 22]) (by kernel_rfl) (by simp) (AllReadyH.cons rfl (fun K hK => ?_) (AllReadyH.cons rfl (fun K hK => ?_) AllReadyH.nil))
  · go_simp
    go_at_call 36
    refine (cN _ (hKx.call b0) (hUx.call b0)).mono ?_
    rintro e w6 ⟨rfl, b6⟩
    have b4 := chain b0 b6
    try simp only []
    refine hK.out _ _ (hS _ b4) (fun hHeld => ?_)
    clear hK K
    try simp only [Act.put, List.getElem_toArray, List.getElem_cons_succ, List.getElem_cons_zero, List.setIfInBounds_toArray, List.set_cons_zero, List.set_cons_succ]
    refine wpAnyH_ready (rs := [18, 22]) (by kernel_rfl) (by simp) (AllReadyH.cons rfl (fun K hK => ?_) (AllReadyH.cons rfl (fun K hK => ?_) AllReadyH.nil))
    · go_simp
      go_at_call 82
      refine (cC _ (BS.on b4) (hKx.call b4)).mono ?_
      rintro e w7 ⟨rfl, b7⟩
      have b5 := chain b4 b7
      try simp only []
      refine hK.out _ _ (hS _ b5) (fun hHeld => ?_)
      clear hK K
      try simp only [Act.put, List.getElem_toArray, List.getElem_cons_succ, List.getElem_cons_zero, List.setIfInBounds_toArray, List.set_cons_zero, List.set_cons_succ]
      refine wpAnyH_take (i := 19) (v := ?_) rfl (by kernel_rfl) (by kernel_rfl) (by kernel_rfl) (fun _ _ _ h => h) (Or.inl ⟨by rfl, ?_⟩) (by assumption) ?_
      rotate_left 1
      · intro w hSw; (try dsimp only at hSw); go_simp; try with_reducible rfl
      try simp only [Act.put, List.getElem_toArray, List.getElem_cons_succ, List.getElem_cons_zero, List.setIfInBounds_toArray, List.set_cons_zero, List.set_cons_succ]
      refine wpAnyH_take (i := 20) (v := ?_) rfl (by kernel_rfl) (by kernel_rfl) (by kernel_rfl) (fun _ _ _ h => h) (Or.inl ⟨by rfl, ?_⟩) (by assumption) ?_
      rotate_left 1
      · intro w hSw; (try dsimp only at hSw); go_simp; try with_reducible rfl
      try simp only [Act.put, List.getElem_toArray, List.getElem_cons_succ, List.getElem_cons_zero, List.setIfInBounds_toArray, List.set_cons_zero, List.set_cons_succ]
      refine wpAnyH_take (i := 21) (v := ?_) rfl (by kernel_rfl) (by kernel_rfl) (by kernel_rfl) (fun _ _ _ h => h) (Or.inl ⟨by rfl, ?_⟩) (by assumption) ?_
      rotate_left 1
      · intro w hSw; (try dsimp only at hSw); go_simp; try with_reducible rfl
      try simp only [Act.put, List.getElem_toArray, List.getElem_cons_succ, List.getElem_cons_zero, List.setIfInBounds_toArray, List.set_cons_zero, List.set_cons_succ]
      refine wpAnyH_ready (rs := [22]) (by kernel_rfl) (by simp) (AllReadyH.cons rfl (fun K hK => ?_) AllReadyH.nil)
      go_simp
      have bw := chainA b5 (.cells (ndB ⟨#[]⟩ 0 0) 49)
      have bz := Box.made w7 49 (ndB ⟨#[]⟩ 0 0)
      have hgz : W1.heap.size ≤ (w7).heap.size := Below.size b5
      obtain ⟨gz, hgz0⟩ : ∃ g, (w7).heap.size = g := ⟨_, rfl⟩
      rw [hgz0] at bz hgz ⊢
      change K _ (World.alloc w7 (.cells (ndB ⟨#[]⟩ 0 0) 49))
      generalize World.alloc w7 (.cells (ndB ⟨#[]⟩ 0 0) 49) = w8 at *
      clear hgz0
      refine hK.out _ _ (hS _ bw) (fun hHeld => ?_)
      clear hK K
      try simp only [Act.put, List.getElem_toArray, List.getElem_cons_succ, List.getElem_cons_zero, List.setIfInBounds_toArray, List.set_cons_zero, List.set_cons_succ]
      obtain ⟨v0, v1, v2, vf0, vf1, vf2, vin⟩ := bz.three
      refine wpAnyH_ready (rs := [23]) (by kernel_rfl) (by simp) (AllReadyH.cons rfl (fun K hK => ?_) AllReadyH.nil)
      go_simp
      have bz9 := ((bz.wrote 0 (.string ts)).wrote 1 (.int .u64 th)).wrote 2 (.int .u64 tl)
      have bw8 : Below W1.heap.size W1 (World.setCell (World.setCell (World.setCell w8 ⟨gz, 0, none⟩ (.string ts)) ⟨gz, 1, none⟩ (.int .u64 th)) ⟨gz, 2, none⟩ (.int .u64 tl)) := ((bw.setCell (p := ⟨gz, 0, none⟩) hgz _).setCell (p := ⟨gz, 1, none⟩) hgz _).setCell (p := ⟨gz, 2, none⟩) hgz _
      generalize World.setCell (World.setCell (World.setCell w8 _ _) _ _) _ _ = W9 at *
      have bz9 : Box W9 gz 49 (ndB ts th tl) := bz9
      refine hK.out _ _ (hS _ bw8) (fun hHeld => ?_)
      clear hK K
      try simp only [Act.put, List.getElem_toArray, List.getElem_cons_succ, List.getElem_cons_zero, List.setIfInBounds_toArray, List.set_cons_zero, List.set_cons_succ]
      refine wpAnyH_take (i := 24) (v := ?_) rfl (by kernel_rfl) (by kernel_rfl) (by kernel_rfl) (fun _ _ _ h => h) (Or.inl ⟨by rfl, ?_⟩) (by assumption) ?_
      rotate_left 1
      · intro w hSw; (try dsimp only at hSw); go_simp; try with_reducible rfl
      try simp only [Act.put, List.getElem_toArray, List.getElem_cons_succ, List.getElem_cons_zero, List.setIfInBounds_toArray, List.set_cons_zero, List.set_cons_succ]
      refine wpAnyH_done (by kernel_rfl) ?_ _
      clear v0 v1 v2 vf0 vf1 vf2 vin
      obtain ⟨z0, z1, z2, -, -, -, zin⟩ := bz9.three
      have BB := (hB.call b01).call bw8
      have PP := X1.call bw8
      have hO : Off (One g) w W9 := Off.of (chain b01 bw8)
      by_cases hE : E = 0
      · have e1 := HE.out hE
        subst e1
        subst hE
        clear HE
        have q13 := BB.free 13
        have q14 := BB.free 14
        have q15 := BB.free 15
        have q16 := BB.free 16
        have gin := BB.inside
        have pp1 : W9.cell? ⟨gp, 1, none⟩ = some (.slice A N c) := PP.read 1
        have ppin := PP.inside
        have y13 : W9.cell? ⟨g, 13, none⟩ = some (.string t.hash) := BB.read 13
        have y14 : W9.cell? ⟨g, 14, none⟩ = some (.int .u64 t.h) := BB.read 14
        have y15 : W9.cell? ⟨g, 15, none⟩ = some (.int .u64 t.l) := BB.read 15
        have y16 : W9.cell? ⟨g, 16, none⟩ = some (.int .i64 t.n) := BB.read 16
        have BN := (((BB.wrote 13 (.string ts)).wrote 14 (.int .u64 th)).wrote 15 (.int .u64 tl)).wrote 16 (.int .i64 (N : Nat))
        have ON := (((hO.set_ (p := ⟨g, 13, none⟩) (Or.inl rfl) (.string ts)).set_ (p := ⟨g, 14, none⟩) (Or.inl rfl) (.int .u64 th)).set_ (p := ⟨g, 15, none⟩) (Or.inl rfl) (.int .u64 tl)).set_ (p := ⟨g, 16, none⟩) (Or.inl rfl) (.int .i64 (N : Nat))
        go_wp2
        go_ret
        refine ⟨rfl, ?_, ON⟩
        first | exact BN | (rw [if_pos rfl]; exact BN)
      · have q0 : (E == 0) = false := by simpa using hE
        go_wp2
        go_ret
        refine ⟨rfl, ?_, hO⟩
        first | exact BB | (rw [if_neg hE]; exact BB)
    · go_simp
      have bw := chainA b4 (.cells (ndB ⟨#[]⟩ 0 0) 49)
      have bz := Box.made w6 49 (ndB ⟨#[]⟩ 0 0)
      have hgz : W1.heap.size ≤ (w6).heap.size := Below.size b4
      obtain ⟨gz, hgz0⟩ : ∃ g, (w6).heap.size = g := ⟨_, rfl⟩
      rw [hgz0] at bz hgz ⊢
      change K _ (World.alloc w6 (.cells (ndB ⟨#[]⟩ 0 0) 49))
      generalize World.alloc w6 (.cells (ndB ⟨#[]⟩ 0 0) 49) = w8 at *
      clear hgz0
      refine hK.out _ _ (hS _ bw) (fun hHeld => ?_)
      clear hK K
      try simp only [Act.put, List.getElem_toArray, List.getElem_cons_succ, List.getElem_cons_zero, List.setIfInBounds_toArray, List.set_cons_zero, List.set_cons_succ]
      refine wpAnyH_ready (rs := [18]) (by kernel_rfl) (by simp) (AllReadyH.cons rfl (fun K hK => ?_) AllReadyH.nil)
      go_simp
      go_at_call 82
      refine (cC _ (BS.on bw) (hKx.call bw)).mono ?_
      rintro e w7 ⟨rfl, b7⟩
      have b5 := chain bw b7
      try simp only []
      refine hK.out _ _ (hS _ b5) (fun hHeld => ?_)
      clear hK K
      try simp only [Act.put, List.getElem_toArray, List.getElem_cons_succ, List.getElem_cons_zero, List.setIfInBounds_toArray, List.set_cons_zero, List.set_cons_succ]
      have bz := bz.call b7
      have bw := b5
      refine wpAnyH_take (i := 19) (v := ?_) rfl (by kernel_rfl) (by kernel_rfl) (by kernel_rfl) (fun _ _ _ h => h) (Or.inl ⟨by rfl, ?_⟩) (by assumption) ?_
      rotate_left 1
      · intro w hSw; (try dsimp only at hSw); go_simp; try with_reducible rfl
      try simp only [Act.put, List.getElem_toArray, List.getElem_cons_succ, List.getElem_cons_zero, List.setIfInBounds_toArray, List.set_cons_zero, List.set_cons_succ]
      refine wpAnyH_take (i := 20) (v := ?_) rfl (by kernel_rfl) (by kernel_rfl) (by kernel_rfl) (fun _ _ _ h => h) (Or.inl ⟨by rfl, ?_⟩) (by assumption) ?_
      rotate_left 1
      · intro w hSw; (try dsimp only at hSw); go_simp; try with_reducible rfl
      try simp only [Act.put, List.getElem_toArray, List.getElem_cons_succ, List.getElem_cons_zero, List.setIfInBounds_toArray, List.set_cons_zero, List.set_cons_succ]
      refine wpAnyH_take (i := 21) (v := ?_) rfl (by kernel_rfl) (by kernel_rfl) (by kernel_rfl) (fun _ _ _ h => h) (Or.inl ⟨by rfl, ?_⟩) (by assumption) ?_
      rotate_left 1
      · intro w hSw; (try dsimp only at hSw); go_simp; try with_reducible rfl
      try simp only [Act.put, List.getElem_toArray, List.getElem_cons_succ, List.getElem_cons_zero, List.setIfInBounds_toArray, List.set_cons_zero, List.set_cons_succ]
      obtain ⟨v0, v1, v2, vf0, vf1, vf2, vin⟩ := bz.three
      refine wpAnyH_ready (rs := [23]) (by kernel_rfl) (by simp) (AllReadyH.cons rfl (fun K hK => ?_) AllReadyH.nil)
      go_simp
      have bz9 := ((bz.wrote 0 (.string ts)).wrote 1 (.int .u64 th)).wrote 2 (.int .u64 tl)
      have bw7 : Below W1.heap.size W1 (World.setCell (World.setCell (World.setCell w7 ⟨gz, 0, none⟩ (.string ts)) ⟨gz, 1, none⟩ (.int .u64 th)) ⟨gz, 2, none⟩ (.int .u64 tl)) := ((bw.setCell (p := ⟨gz, 0, none⟩) hgz _).setCell (p := ⟨gz, 1, none⟩) hgz _).setCell (p := ⟨gz, 2, none⟩) hgz _
      generalize World.setCell (World.setCell (World.setCell w7 _ _) _ _) _ _ = W9 at *
      have bz9 : Box W9 gz 49 (ndB ts th tl) := bz9
      refine hK.out _ _ (hS _ bw7) (fun hHeld => ?_)
      clear hK K
      try simp only [Act.put, List.getElem_toArray, List.getElem_cons_succ, List.getElem_cons_zero, List.setIfInBounds_toArray, List.set_cons_zero, List.set_cons_succ]
      refine wpAnyH_take (i := 24) (v := ?_) rfl (by kernel_rfl) (by kernel_rfl) (by kernel_rfl) (fun _ _ _ h => h) (Or.inl ⟨by rfl, ?_⟩) (by assumption) ?_
      rotate_left 1
      · intro w hSw; (try dsimp only at hSw); go_simp; try with_reducible rfl
      try simp only [Act.put, List.getElem_toArray, List.getElem_cons_succ, List.getElem_cons_zero, List.setIfInBounds_toArray, List.set_cons_zero, List.set_cons_succ]
      refine wpAnyH_done (by kernel_rfl) ?_ _
      clear v0 v1 v2 vf0 vf1 vf2 vin
      obtain ⟨z0, z1, z2, -, -, -, zin⟩ := bz9.three
      have BB := (hB.call b01).call bw7
      have PP := X1.call bw7
      have hO : Off (One g) w W9 := Off.of (chain b01 bw7)
      by_cases hE : E = 0
      · have e1 := HE.out hE
        subst e1
        subst hE
        clear HE
        have q13 := BB.free 13
        have q14 := BB.free 14
        have q15 := BB.free 15
        have q16 := BB.free 16
        have gin := BB.inside
        have pp1 : W9.cell? ⟨gp, 1, none⟩ = some (.slice A N c) := PP.read 1
        have ppin := PP.inside
        have y13 : W9.cell? ⟨g, 13, none⟩ = some (.string t.hash) := BB.read 13
        have y14 : W9.cell? ⟨g, 14, none⟩ = some (.int .u64 t.h) := BB.read 14
        have y15 : W9.cell? ⟨g, 15, none⟩ = some (.int .u64 t.l) := BB.read 15
        have y16 : W9.cell? ⟨g, 16, none⟩ = some (.int .i64 t.n) := BB.read 16
        have BN := (((BB.wrote 13 (.string ts)).wrote 14 (.int .u64 th)).wrote 15 (.int .u64 tl)).wrote 16 (.int .i64 (N : Nat))
        have ON := (((hO.set_ (p := ⟨g, 13, none⟩) (Or.inl rfl) (.string ts)).set_ (p := ⟨g, 14, none⟩) (Or.inl rfl) (.int .u64 th)).set_ (p := ⟨g, 15, none⟩) (Or.inl rfl) (.int .u64 tl)).set_ (p := ⟨g, 16, none⟩) (Or.inl rfl) (.int .i64 (N : Nat))
        go_wp2
        go_ret
        refine ⟨rfl, ?_, ON⟩
        first | exact BN | (rw [if_pos rfl]; exact BN)
      · have q0 : (E == 0) = false := by simpa using hE
        go_wp2
        go_ret
        refine ⟨rfl, ?_, hO⟩
        first | exact BB | (rw [if_neg hE]; exact BB)
  · go_simp
    have bw := chainA b0 (.cells (ndB ⟨#[]⟩ 0 0) 49)
    have bz := Box.made Wd 49 (ndB ⟨#[]⟩ 0 0)
    have hgz : W1.heap.size ≤ (Wd).heap.size := Below.size b0
    obtain ⟨gz, hgz0⟩ : ∃ g, (Wd).heap.size = g := ⟨_, rfl⟩
    rw [hgz0] at bz hgz ⊢
    change K _ (World.alloc Wd (.cells (ndB ⟨#[]⟩ 0 0) 49))
    generalize World.alloc Wd (.cells (ndB ⟨#[]⟩ 0 0) 49) = w8 at *
    clear hgz0
    refine hK.out _ _ (hS _ bw) (fun hHeld => ?_)
    clear hK K
    try simp only [Act.put, List.getElem_toArray, List.getElem_cons_succ, List.getElem_cons_zero, List.setIfInBounds_toArray, List.set_cons_zero, List.set_cons_succ]
    refine wpAnyH_ready (rs := [13]) (by kernel_rfl) (by simp) (AllReadyH.cons rfl (fun K hK => ?_) AllReadyH.nil)
    go_simp
    go_at_call 36
    refine (cN _ (hKx.call bw) (hUx.call bw)).mono ?_
    rintro e w6 ⟨rfl, b6⟩
    have b4 := chain bw b6
    try simp only []
    refine hK.out _ _ (hS _ b4) (fun hHeld => ?_)
    clear hK K
    try simp only [Act.put, List.getElem_toArray, List.getElem_cons_succ, List.getElem_cons_zero, List.setIfInBounds_toArray, List.set_cons_zero, List.set_cons_succ]
    have bz := bz.call b6
    refine wpAnyH_ready (rs := [18]) (by kernel_rfl) (by simp) (AllReadyH.cons rfl (fun K hK => ?_) AllReadyH.nil)
    go_simp
    go_at_call 82
    refine (cC _ (BS.on b4) (hKx.call b4)).mono ?_
    rintro e w7 ⟨rfl, b7⟩
    have b5 := chain b4 b7
    try simp only []
    refine hK.out _ _ (hS _ b5) (fun hHeld => ?_)
    clear hK K
    try simp only [Act.put, List.getElem_toArray, List.getElem_cons_succ, List.getElem_cons_zero, List.setIfInBounds_toArray, List.set_cons_zero, List.set_cons_succ]
    have bz := bz.call b7
    have bw := b5
    refine wpAnyH_take (i := 19) (v := ?_) rfl (by kernel_rfl) (by kernel_rfl) (by kernel_rfl) (fun _ _ _ h => h) (Or.inl ⟨by rfl, ?_⟩) (by assumption) ?_
    rotate_left 1
    · intro w hSw; (try dsimp only at hSw); go_simp; try with_reducible rfl
    try simp only [Act.put, List.getElem_toArray, List.getElem_cons_succ, List.getElem_cons_zero, List.setIfInBounds_toArray, List.set_cons_zero, List.set_cons_succ]
    refine wpAnyH_take (i := 20) (v := ?_) rfl (by kernel_rfl) (by kernel_rfl) (by kernel_rfl) (fun _ _ _ h => h) (Or.inl ⟨by rfl, ?_⟩) (by assumption) ?_
    rotate_left 1
    · intro w hSw; (try dsimp only at hSw); go_simp; try with_reducible rfl
    try simp only [Act.put, List.getElem_toArray, List.getElem_cons_succ, List.getElem_cons_zero, List.setIfInBounds_toArray, List.set_cons_zero, List.set_cons_succ]
    refine wpAnyH_take (i := 21) (v := ?_) rfl (by kernel_rfl) (by kernel_rfl) (by kernel_rfl) (fun _ _ _ h => h) (Or.inl ⟨by rfl, ?_⟩) (by assumption) ?_
    rotate_left 1
    · intro w hSw; (try dsimp only at hSw); go_simp; try with_reducible rfl
    try simp only [Act.put, List.getElem_toArray, List.getElem_cons_succ, List.getElem_cons_zero, List.setIfInBounds_toArray, List.set_cons_zero, List.set_cons_succ]
    obtain ⟨v0, v1, v2, vf0, vf1, vf2, vin⟩ := bz.three
    refine wpAnyH_ready (rs := [23]) (by kernel_rfl) (by simp) (AllReadyH.cons rfl (fun K hK => ?_) AllReadyH.nil)
    go_simp
    have bz9 := ((bz.wrote 0 (.string ts)).wrote 1 (.int .u64 th)).wrote 2 (.int .u64 tl)
    have bw7 : Below W1.heap.size W1 (World.setCell (World.setCell (World.setCell w7 ⟨gz, 0, none⟩ (.string ts)) ⟨gz, 1, none⟩ (.int .u64 th)) ⟨gz, 2, none⟩ (.int .u64 tl)) := ((bw.setCell (p := ⟨gz, 0, none⟩) hgz _).setCell (p := ⟨gz, 1, none⟩) hgz _).setCell (p := ⟨gz, 2, none⟩) hgz _
    generalize World.setCell (World.setCell (World.setCell w7 _ _) _ _) _ _ = W9 at *
    have bz9 : Box W9 gz 49 (ndB ts th tl) := bz9
    refine hK.out _ _ (hS _ bw7) (fun hHeld => ?_)
    clear hK K
    try simp only [Act.put, List.getElem_toArray, List.getElem_cons_succ, List.getElem_cons_zero, List.setIfInBounds_toArray, List.set_cons_zero, List.set_cons_succ]
    refine wpAnyH_take (i := 24) (v := ?_) rfl (by kernel_rfl) (by kernel_rfl) (by kernel_rfl) (fun _ _ _ h => h) (Or.inl ⟨by rfl, ?_⟩) (by assumption) ?_
    rotate_left 1
    · intro w hSw; (try dsimp only at hSw); go_simp; try with_reducible rfl
    try simp only [Act.put, List.getElem_toArray, List.getElem_cons_succ, List.getElem_cons_zero, List.setIfInBounds_toArray, List.set_cons_zero, List.set_cons_succ]
    refine wpAnyH_done (by kernel_rfl) ?_ _
    clear v0 v1 v2 vf0 vf1 vf2 vin
    obtain ⟨z0, z1, z2, -, -, -, zin⟩ := bz9.three
    have BB := (hB.call b01).call bw7
    have PP := X1.call bw7
    have hO : Off (One g) w W9 := Off.of (chain b01 bw7)
    by_cases hE : E = 0
    · have e1 := HE.out hE
      subst e1
      subst hE
      clear HE
      have q13 := BB.free 13
      have q14 := BB.free 14
      have q15 := BB.free 15
      have q16 := BB.free 16
      have gin := BB.inside
      have pp1 : W9.cell? ⟨gp, 1, none⟩ = some (.slice A N c) := PP.read 1
      have ppin := PP.inside
      have y13 : W9.cell? ⟨g, 13, none⟩ = some (.string t.hash) := BB.read 13
      have y14 : W9.cell? ⟨g, 14, none⟩ = some (.int .u64 t.h) := BB.read 14
      have y15 : W9.cell? ⟨g, 15, none⟩ = some (.int .u64 t.l) := BB.read 15
      have y16 : W9.cell? ⟨g, 16, none⟩ = some (.int .i64 t.n) := BB.read 16
      have BN := (((BB.wrote 13 (.string ts)).wrote 14 (.int .u64 th)).wrote 15 (.int .u64 tl)).wrote 16 (.int .i64 (N : Nat))
      have ON := (((hO.set_ (p := ⟨g, 13, none⟩) (Or.inl rfl) (.string ts)).set_ (p := ⟨g, 14, none⟩) (Or.inl rfl) (.int .u64 th)).set_ (p := ⟨g, 15, none⟩) (Or.inl rfl) (.int .u64 tl)).set_ (p := ⟨g, 16, none⟩) (Or.inl rfl) (.int .i64 (N : Nat))
      go_wp2
      go_ret
      refine ⟨rfl, ?_, ON⟩
      first | exact BN | (rw [if_pos rfl]; exact BN)
    · have q0 : (E == 0) = false := by simpa using hE
      go_wp2
      go_ret
      refine ⟨rfl, ?_, hO⟩
      first | exact BB | (rw [if_neg hE]; exact BB)
end Go.Proofs.YtkecekfapiegjaaDoor
/-
  Package verify's first: the error of the first check that has one.
-/
namespace Go.Proofs.YtkecekfapiegjaaDoor
set_option linter.unusedVariables false
set_option linter.unusedSimpArgs false
set_option maxRecDepth 10000
open Go.RowKit

set_option maxRecDepth 100000 in
set_option maxHeartbeats 4000000 in
theorem first17_any (N : Nat) (hN : N ≤ 100) (Ks : Nat → FuncId) (g gc lo cap : Nat) (E : Nat → Int) (J : Nat → World → Prop) (w : World)
    (he : ∀ i, i < N → ∀ args u, (callFunc (Ks i) args).run Tryd.prog u = .ok (.enter (Ks i) args) u)
    (hcell : ∀ i u, i < N → J i u → u.cell? ⟨gc, lo + i, none⟩ = some (.func (.func (Ks i)) #[.pointer (some ⟨g, 0, none⟩)] #[]) ∧ gc < u.heap.size)
    (hcall : ∀ i u, i < N → (∀ j, j < i → E j = 0) → J i u → Calls Tryd.prog (Ks i) #[.pointer (some ⟨g, 0, none⟩)] u (fun e u' => e = .returned (.int .i64 (E i)) ∧ J (i + 1) u'))
    (h0 : J 0 w) :
    Calls Tryd.prog 30 #[.slice (some ⟨gc, lo, none⟩) N cap] w (fun e w' => ∃ k, k ≤ N ∧ (∀ j, j < k → E j = 0) ∧ ((k = N ∧ e = .returned (.int .i64 0) ∧ J N w') ∨ (k < N ∧ E k ≠ 0 ∧ e = .returned (.int .i64 (E k)) ∧ J (k + 1) w'))) := by
  go_enter Tryd.func30, Tryd.ntmps30
  go_wp2
  go_loopg [8] N (fun gk i wr => ∃ k : Nat, k ≤ N ∧ N - k ≤ gk ∧ i = .int .i64 k ∧ (∀ j, j < k → E j = 0) ∧ J k wr)
  case atStart => exact ⟨0, Nat.zero_le _, by omega, rfl, fun j hj => absurd hj (Nat.not_lt_zero _), h0⟩
  case round =>
    obtain ⟨k, hk, hgk, rfl, hall, hJ⟩ := hrel
    have HG := hideIt hgk
    have HA := hideIt hall
    clear hgk hall
    by_cases hlt : k < N
    · have hlti : (k : Int) < (N : Int) := by omega
      obtain ⟨c0, cin⟩ := hcell k wr hlt hJ
      have cK := hcall k wr hlt HA.out hJ
      have hek := he k hlt
      obtain ⟨K, hK⟩ : ∃ K, Ks k = K := ⟨_, rfl⟩
      rw [hK] at c0 cK hek
      obtain ⟨V, hV⟩ : ∃ V, E k = V := ⟨_, rfl⟩
      rw [hV] at cK
      have HV := hideIt hV
      clear hV hK he hcell hcall
      by_cases hz : V = 0
      · subst hz
        go_wp2_with (first | (refine cK.mono ?_; rintro e w2 ⟨rfl, hJ2⟩) | fail)
        go_roundg (N - (k + 1))
        case measure => have := HG.out; omega
        case rel => exact ⟨k + 1, by omega, Nat.le_refl _, by go_num, fun j hj => by
            by_cases e : j = k
            · rw [e]; exact HV.out
            · exact HA.out j (by omega), hJ2⟩
      · have q0 : (V != 0) = true := bne_iff_ne.2 hz
        go_wp2_with (first | (refine cK.mono ?_; rintro e w2 ⟨rfl, hJ2⟩) | fail)
        go_ret
        exact ⟨k, by omega, HA.out, Or.inr ⟨hlt, by rw [HV.out]; exact hz, by rw [HV.out]; rfl, hJ2⟩⟩
    · have e : k = N := by omega
      subst e
      have hlti : ¬ (k : Int) < (k : Int) := by omega
      go_wp2
      go_ret
      exact ⟨k, Nat.le_refl _, HA.out, Or.inl ⟨rfl, rfl, hJ⟩⟩
end Go.Proofs.YtkecekfapiegjaaDoor
/-
  Package verify's May, Up and Check.
-/
namespace Go.Proofs.YtkecekfapiegjaaDoor
set_option linter.unusedVariables false
set_option linter.unusedSimpArgs false
set_option maxRecDepth 10000
open Go.RowKit

/-- The six checks as method values. -/
abbrev mFns (g : Nat) : Array Value :=
  #[.func (.func 53) #[.pointer (some ⟨g, 0, none⟩)] #[], .func (.func 54) #[.pointer (some ⟨g, 0, none⟩)] #[], .func (.func 55) #[.pointer (some ⟨g, 0, none⟩)] #[],
    .func (.func 56) #[.pointer (some ⟨g, 0, none⟩)] #[], .func (.func 57) #[.pointer (some ⟨g, 0, none⟩)] #[], .func (.func 58) #[.pointer (some ⟨g, 0, none⟩)] #[]]
theorem Box.six {w : World} {g : Nat} {t : TypeId} {a b c d e f : Value} (h : Box w g t #[a, b, c, d, e, f]) :
    (w.cell? ⟨g, 0, none⟩ = some a ∧ w.cell? ⟨g, 1, none⟩ = some b ∧ w.cell? ⟨g, 2, none⟩ = some c ∧ w.cell? ⟨g, 3, none⟩ = some d ∧ w.cell? ⟨g, 4, none⟩ = some e ∧ w.cell? ⟨g, 5, none⟩ = some f) ∧
      (w.frozen? ⟨g, 0, none⟩ = false ∧ w.frozen? ⟨g, 1, none⟩ = false ∧ w.frozen? ⟨g, 2, none⟩ = false ∧ w.frozen? ⟨g, 3, none⟩ = false ∧ w.frozen? ⟨g, 4, none⟩ = false ∧ w.frozen? ⟨g, 5, none⟩ = false) ∧ g < w.heap.size :=
  ⟨⟨h.read 0, h.read 1, h.read 2, h.read 3, h.read 4, h.read 5⟩, ⟨h.free 0, h.free 1, h.free 2, h.free 3, h.free 4, h.free 5⟩, h.inside⟩
set_option maxRecDepth 100000 in
set_option maxHeartbeats 2000000 in
theorem checks17_any (g : Nat) (w : World) : Calls Tryd.prog 29 #[.pointer (some ⟨g, 0, none⟩)] w (Tells (.agg (mFns g)) w.heap.size w) := by
  obtain ⟨gc, hgc⟩ : ∃ g, w.heap.size = g := ⟨_, rfl⟩
  have J1 := (Has.start w).addAt 72 (mFns g) (g := gc) hgc
  go_enter Tryd.func29, Tryd.ntmps29
  go_wp2
  change bodyPost _ _ _ _ _ (w.alloc (.cells (mFns g) 72))
  generalize w.alloc (.cells (mFns g) 72) = WR at *
  obtain ⟨⟨x0, x1, x2, x3, x4, x5⟩, -, xin⟩ := (J1.box 0).six
  exact bodyPost_ret (v := .agg (mFns g)) (by simp [results, Tryd.results29, go_sem, x0, x1, x2, x3, x4, x5]) rfl ⟨rfl, by first | exact J1.below | (rw [← hgc]; exact J1.below)⟩
set_option maxRecDepth 100000 in
set_option maxHeartbeats 2000000 in
theorem under17_any (r : RtP) (x : Lf) (p : Nat) (A : Option Addr) (m c : Nat) (w : World) :
    Calls Tryd.prog 28 #[r.val, .agg (enV x p A m c)] w (fun e w' => Below w.heap.size w w' ∧ ∃ g, e = .returned (.pointer (some ⟨g, 0, none⟩)) ∧ w.heap.size ≤ g ∧ Box w' g 82 (clmV r r.hash.size r.n x p A m c RtP.zero)) := by
  obtain ⟨rs, rh', rl', rn⟩ := r
  obtain ⟨xp, xi, xs, xh, xl⟩ := x
  obtain ⟨ge, hge⟩ : ∃ g, w.heap.size = g := ⟨_, rfl⟩
  have J0 := ((Has.start w).addAt 26 (rtB rs rh' rl' rn) (g := ge) hge).addAt 39 (enV ⟨xp, xi, xs, xh, xl⟩ p A m c) (g := ge + 1) (by simp [hge])
  obtain ⟨⟨x0, x1, x2, x3, x4, x5, x6⟩, xin⟩ := (J0.box 0).seven
  obtain ⟨⟨y0, y1, y2, y3⟩, -, yin⟩ := (J0.box 1).four4
  simp only at x0 x1 x2 x3 x4
  have J1 := J0.addAt 82 (clmV ⟨rs, rh', rl', rn⟩ rs.size rn ⟨xp, xi, xs, xh, xl⟩ p A m c RtP.zero) (g := ge + 1 + 1) (by simp [hge])
  show Calls _ _ #[.agg (rtB rs rh' rl' rn), _] _ _
  go_enter Tryd.func28, Tryd.ntmps28
  go_wp2
  go_ret
  exact ⟨J1.below, ge + 1 + 1, rfl, by omega, J1.box 0⟩
/-- The checks' functions, and what they tell. -/
def chkK : Nat → FuncId
  | 0 => 53
  | 1 => 54
  | 2 => 55
  | 3 => 56
  | 4 => 57
  | _ => 58
def chkE (r : RtP) (n h : Int) (x : Lf) (p : Nat) (l : List Nd) : Nat → Int
  | 0 => if h < 0 ∨ 63 < h then 120 else 0
  | 1 => if mayW n = true then 0 else 70
  | 2 => if x.may = true then 0 else 130
  | 3 => shapeN n h p l
  | 4 => (topE n x p l).2
  | _ => if rtSame (topE n x p l).1 r = true then 0 else 160
/-- A claim on its way through the checks. -/
structure ClmJ (w0 : World) (r : RtP) (n h : Int) (x : Lf) (p : Nat) (A : Option Addr) (m c : Nat) (g gc : Nat) (T : RtP) (i : Nat) (u : World) : Prop where
  below : Below w0.heap.size w0 u
  clm : Box u g 82 (clmV r n h x p A m c (if i ≤ 4 then RtP.zero else T))
  fns : Box u gc 72 (mFns g)
theorem topE_zero {n : Int} {x : Lf} {p : Nat} {l : List Nd} (e : (topE n x p l).2 ≠ 0) : (topE n x p l).1 = RtP.zero := by
  rw [topE] at e ⊢
  split
  · rename_i h; rw [if_pos h] at e; exact absurd rfl e
  · rfl
theorem chk_enters (i : Nat) (hi : i < 6) (args : Array Value) (u : World) : (callFunc (chkK i) args).run Tryd.prog u = .ok (.enter (chkK i) args) u := by
  have hc : i = 0 ∨ i = 1 ∨ i = 2 ∨ i = 3 ∨ i = 4 ∨ i = 5 := by omega
  rcases hc with rfl | rfl | rfl | rfl | rfl | rfl
  · exact enters_of Tryd.func53 (by kernel_rfl) rfl args u
  · exact enters_of Tryd.func54 (by kernel_rfl) rfl args u
  · exact enters_of Tryd.func55 (by kernel_rfl) rfl args u
  · exact enters_of Tryd.func56 (by kernel_rfl) rfl args u
  · exact enters_of Tryd.func57 (by kernel_rfl) rfl args u
  · exact enters_of Tryd.func58 (by kernel_rfl) rfl args u
section
variable {w0 : World} {r : RtP} {n h : Int} {x : Lf} {p : Nat} {A : Option Addr} {m c g gc : Nat} {T : RtP} {i : Nat} {u : World}
theorem ClmJ.cell (J : ClmJ w0 r n h x p A m c g gc T i u) (k : Nat) (hk : k < 6) : u.cell? ⟨gc, k, none⟩ = some (.func (.func (chkK k)) #[.pointer (some ⟨g, 0, none⟩)] #[]) ∧ gc < u.heap.size := by
  have hc : k = 0 ∨ k = 1 ∨ k = 2 ∨ k = 3 ∨ k = 4 ∨ k = 5 := by omega
  obtain ⟨⟨x0, x1, x2, x3, x4, x5⟩, -, xin⟩ := J.fns.six
  rcases hc with rfl | rfl | rfl | rfl | rfl | rfl
  · exact ⟨x0, xin⟩
  · exact ⟨x1, xin⟩
  · exact ⟨x2, xin⟩
  · exact ⟨x3, xin⟩
  · exact ⟨x4, xin⟩
  · exact ⟨x5, xin⟩
theorem ClmJ.call {u' : World} (J : ClmJ w0 r n h x p A m c g gc T i u) (hb : Below u.heap.size u u') (hi : i ≠ 4) : ClmJ w0 r n h x p A m c g gc T (i + 1) u' := by
  refine ⟨chain J.below hb, ?_, J.fns.call hb⟩
  have := J.clm.call hb
  by_cases h4 : i ≤ 4
  · rw [if_pos h4] at this
    rw [if_pos (by omega)]
    exact this
  · rw [if_neg h4] at this
    rw [if_neg (by omega)]
    exact this
end
/-- Each check tells its error. -/
theorem clm_step (w0 : World) (r : RtP) (n h : Int) (x : Lf) (p : Nat) (A : Option Addr) (c : Nat) (l : List Nd) (hl : l.length ≤ 1000000000) (g gc : Nat) (hg : w0.heap.size ≤ g) (hgc : gc ≠ g) (hp : p < 18446744073709551616) (hx : x.id.size ≤ 1000000 ∧ x.salt.size ≤ 1000000) (hw : Word x.h ∧ Word x.l) (hy : ∀ y ∈ l, y.halved) (hR : ndS.Row w0 w0.heap.size A l) (hK : Tab w0) (hU : TabU w0) (i : Nat) (hi : i < 6) (u : World) (J : ClmJ w0 r n h x p A l.length c g gc (topE n x p l).1 i u) :
    Calls Tryd.prog (chkK i) #[.pointer (some ⟨g, 0, none⟩)] u (fun e u' => e = .returned (.int .i64 (chkE r n h x p l i)) ∧ ClmJ w0 r n h x p A l.length c g gc (topE n x p l).1 (i + 1) u') := by
  have hR' := hR.on J.below
  have hK' := hK.call J.below
  have hU' := hU.call J.below
  have hc : i = 0 ∨ i = 1 ∨ i = 2 ∨ i = 3 ∨ i = 4 ∨ i = 5 := by omega
  rcases hc with rfl | rfl | rfl | rfl | rfl | rfl
  · exact (tall17_any r n h x p A l.length c _ g u J.clm).mono fun e u' ⟨h1, h2⟩ => ⟨h1, J.call h2 (by omega)⟩
  · exact (wide17_any r n h x p A l.length c _ g u J.clm).mono fun e u' ⟨h1, h2⟩ => ⟨h1, J.call h2 (by omega)⟩
  · exact (leaf17_any r n h x p A l.length c _ g u hx hU' J.clm).mono fun e u' ⟨h1, h2⟩ => ⟨h1, J.call h2 (by omega)⟩
  · exact (shape17_any r n h x p hp A c l hl _ g u hR' J.clm).mono fun e u' ⟨h1, h2⟩ => ⟨h1, J.call h2 (by omega)⟩
  · refine (room17_any r n h x p hp A c l hl _ g u hR' hx hw hy hK' hU' J.clm).mono fun e u' ⟨h1, h2, h3⟩ => ⟨h1, ?_, ?_, ?_⟩
    · exact J.below.trans (h3.below (fun i hi => by rw [show i = g from hi]; exact hg) J.below.size)
    · rw [if_neg (by omega)]
      by_cases e : (topE n x p l).2 = 0
      · rw [if_pos e] at h2; exact h2
      · rw [if_neg e] at h2; rw [topE_zero e]; exact h2
    · exact h3.box J.fns hgc
  · exact (same17_any r n h x p A l.length c _ g u J.clm).mono fun e u' ⟨h1, h2⟩ => ⟨h1, J.call h2 (by omega)⟩
/-- What the first of some checks' errors is. -/
theorem firstE {E : Nat → Int} {N : Nat} {v : Int} {k : Nat} (h : ∀ j, j < k → E j = 0) (hk : (k = N ∧ v = 0) ∨ (k < N ∧ E k ≠ 0 ∧ v = E k)) : (v = 0 ∧ ∀ j, j < N → E j = 0) ∨ (v ≠ 0 ∧ ∃ k, k < N ∧ v = E k ∧ ∀ j, j < k → E j = 0) := by
  rcases hk with ⟨rfl, rfl⟩ | ⟨h1, h2, rfl⟩
  · exact Or.inl ⟨rfl, h⟩
  · exact Or.inr ⟨h2, k, h1, rfl, h⟩
/-- All six: what Check tells. -/
theorem check_first {r : RtP} {x : Lf} {p : Nat} {l : List Nd} {v : Int} {k : Nat} (h : ∀ j, j < k → chkE r r.hash.size r.n x p l j = 0) (hk : (k = 6 ∧ v = 0) ∨ (k < 6 ∧ chkE r r.hash.size r.n x p l k ≠ 0 ∧ v = chkE r r.hash.size r.n x p l k)) : v = checkE r x p l := by
  have e0 : chkE r r.hash.size r.n x p l 0 = if r.n < 0 ∨ 63 < r.n then 120 else 0 := rfl
  have e1 : chkE r r.hash.size r.n x p l 1 = if mayW r.hash.size = true then 0 else 70 := rfl
  have e2 : chkE r r.hash.size r.n x p l 2 = if x.may = true then 0 else 130 := rfl
  have e3 : chkE r r.hash.size r.n x p l 3 = shapeN r.hash.size r.n p l := rfl
  have e4 : chkE r r.hash.size r.n x p l 4 = (topE r.hash.size x p l).2 := rfl
  have e5 : chkE r r.hash.size r.n x p l 5 = if rtSame (topE r.hash.size x p l).1 r = true then 0 else 160 := rfl
  generalize chkE r r.hash.size r.n x p l = E at *
  rw [checkE, mayR]
  by_cases h0 : r.n < 0 ∨ 63 < r.n
  · rw [if_pos h0] at e0 ⊢
    have : k = 0 := Nat.eq_zero_of_not_pos fun hp => by have := h 0 hp; omega
    subst this
    rw [if_neg (by decide)]
    omega
  · rw [if_neg h0] at e0 ⊢
    by_cases h1 : mayW r.hash.size = true
    · rw [if_pos h1] at e1 ⊢
      rw [if_pos rfl]
      by_cases h2 : x.may = true
      · rw [if_pos h2] at e2 ⊢
        by_cases h3 : shapeN r.hash.size r.n p l = 0
        · rw [if_pos h3]
          by_cases h4 : (topE r.hash.size x p l).2 = 0
          · rw [if_pos h4]
            rcases hk with ⟨rfl, rfl⟩ | ⟨a, b, c⟩
            · have := h 5 (by omega)
              rw [e5] at this
              split at this
              · rename_i q; rw [if_pos q]
              · exact absurd this (by decide)
            · have hc : k = 0 ∨ k = 1 ∨ k = 2 ∨ k = 3 ∨ k = 4 ∨ k = 5 := by omega
              rcases hc with rfl | rfl | rfl | rfl | rfl | rfl
              · exact absurd e0 b
              · exact absurd e1 b
              · exact absurd e2 b
              · rw [e3] at b; exact absurd h3 b
              · rw [e4] at b; exact absurd h4 b
              · rw [c, e5]
          · rw [if_neg h4]
            rcases hk with ⟨rfl, rfl⟩ | ⟨a, b, c⟩
            · have := h 4 (by omega); rw [e4] at this; exact absurd this h4
            · have hc : k = 0 ∨ k = 1 ∨ k = 2 ∨ k = 3 ∨ k = 4 ∨ k = 5 := by omega
              rcases hc with rfl | rfl | rfl | rfl | rfl | rfl
              · exact absurd e0 b
              · exact absurd e1 b
              · exact absurd e2 b
              · rw [e3] at b; exact absurd h3 b
              · rw [c, e4]
              · have := h 4 (by omega); rw [e4] at this; exact absurd this h4
        · rw [if_neg h3]
          rcases hk with ⟨rfl, rfl⟩ | ⟨a, b, c⟩
          · have := h 3 (by omega); rw [e3] at this; exact absurd this h3
          · by_cases hc : k ≤ 3
            · have hc : k = 0 ∨ k = 1 ∨ k = 2 ∨ k = 3 := by omega
              rcases hc with rfl | rfl | rfl | rfl
              · exact absurd e0 b
              · exact absurd e1 b
              · exact absurd e2 b
              · rw [c, e3]
            · have := h 3 (by omega); rw [e3] at this; exact absurd this h3
      · rw [if_neg h2] at e2 ⊢
        rcases hk with ⟨rfl, rfl⟩ | ⟨a, b, c⟩
        · have := h 2 (by omega); omega
        · by_cases hc : k ≤ 2
          · have hc : k = 0 ∨ k = 1 ∨ k = 2 := by omega
            rcases hc with rfl | rfl | rfl
            · exact absurd e0 b
            · exact absurd e1 b
            · rw [c, e2]
          · have := h 2 (by omega); omega
    · rw [if_neg h1] at e1 ⊢
      rw [if_neg (by decide)]
      rcases hk with ⟨rfl, rfl⟩ | ⟨a, b, c⟩
      · have := h 1 (by omega); omega
      · by_cases hc : k ≤ 1
        · have hc : k = 0 ∨ k = 1 := by omega
          rcases hc with rfl | rfl
          · exact absurd e0 b
          · rw [c, e1]
        · have := h 1 (by omega); omega
/-- The first two: whether a root may be. -/
theorem may_first {r : RtP} {x : Lf} {p : Nat} {l : List Nd} {v : Int} {k : Nat} (h : ∀ j, j < k → chkE r r.hash.size r.n x p l j = 0) (hk : (k = 2 ∧ v = 0) ∨ (k < 2 ∧ chkE r r.hash.size r.n x p l k ≠ 0 ∧ v = chkE r r.hash.size r.n x p l k)) : v = mayR r := by
  have e0 : chkE r r.hash.size r.n x p l 0 = if r.n < 0 ∨ 63 < r.n then 120 else 0 := rfl
  have e1 : chkE r r.hash.size r.n x p l 1 = if mayW r.hash.size = true then 0 else 70 := rfl
  generalize chkE r r.hash.size r.n x p l = E at *
  rw [mayR]
  rcases hk with ⟨rfl, rfl⟩ | ⟨a, b, c⟩
  · have h0 := h 0 (by omega)
    have h1 := h 1 (by omega)
    rw [e0] at h0
    rw [e1] at h1
    split at h0
    · exact absurd h0 (by decide)
    · rename_i q
      rw [if_neg q]
      exact h1.symm
  · have hc : k = 0 ∨ k = 1 := by omega
    rcases hc with rfl | rfl
    · rw [e0] at b c
      split at b
      · rename_i q; rw [if_pos q] at c; rw [if_pos q]; exact c
      · exact absurd rfl b
    · have h0 := h 0 (by omega)
      rw [e0] at h0
      split at h0
      · exact absurd h0 (by decide)
      · rename_i q; rw [if_neg q, c, e1]
/-- The middle three: what Up tells. -/
theorem up_first {r : RtP} {n : Int} {x : Lf} {p : Nat} {l : List Nd} {v : Int} {k : Nat} (h : ∀ j, j < k → chkE r n l.length x p l (2 + j) = 0) (hk : (k = 3 ∧ v = 0) ∨ (k < 3 ∧ chkE r n l.length x p l (2 + k) ≠ 0 ∧ v = chkE r n l.length x p l (2 + k))) : v = (upE n x p l).2 ∧ (v = 0 → (upE n x p l).1 = (topE n x p l).1) := by
  have e2 : chkE r n l.length x p l (2 + 0) = if x.may = true then 0 else 130 := rfl
  have e3 : chkE r n l.length x p l (2 + 1) = shapeN n l.length p l := rfl
  have e4 : chkE r n l.length x p l (2 + 2) = (topE n x p l).2 := rfl
  generalize chkE r n l.length x p l = E at *
  rw [upE]
  rcases hk with ⟨rfl, rfl⟩ | ⟨a, b, c⟩
  · have h0 := h 0 (by omega)
    have h1 := h 1 (by omega)
    have h2 := h 2 (by omega)
    rw [e2] at h0
    rw [e3] at h1
    rw [e4] at h2
    split at h0
    · rename_i q; rw [if_pos q, if_pos h1]; exact ⟨h2.symm, fun _ => rfl⟩
    · exact absurd h0 (by decide)
  · have hc : k = 0 ∨ k = 1 ∨ k = 2 := by omega
    rcases hc with rfl | rfl | rfl
    · rw [e2] at b c
      split at b
      · exact absurd rfl b
      · rename_i q; rw [if_neg q] at c; rw [if_neg q]; exact ⟨c, fun e => by rw [c] at e; exact absurd e (by decide)⟩
    · have h0 := h 0 (by omega)
      rw [e2] at h0
      rw [e3] at b c
      split at h0
      · rename_i q; rw [if_pos q, if_neg b]; exact ⟨c, fun e => by rw [c] at e; exact absurd e b⟩
      · exact absurd h0 (by decide)
    · have h0 := h 0 (by omega)
      have h1 := h 1 (by omega)
      rw [e2] at h0
      rw [e3] at h1
      rw [e4] at b c
      split at h0
      · rename_i q; rw [if_pos q, if_pos h1]; exact ⟨c, fun _ => rfl⟩
      · exact absurd h0 (by decide)
end Go.Proofs.YtkecekfapiegjaaDoor
/-
  Package verify's May, Check, Up and All, walked.
-/
namespace Go.Proofs.YtkecekfapiegjaaDoor
set_option linter.unusedVariables false
set_option linter.unusedSimpArgs false
set_option maxRecDepth 10000
open Go.RowKit

theorem ClmJ.start {w0 w : World} {r : RtP} {n h : Int} {x : Lf} {p : Nat} {A : Option Addr} {m c g gc : Nat} {T : RtP} (hb : Below w0.heap.size w0 w) (h1 : Box w g 82 (clmV r n h x p A m c RtP.zero)) (h2 : Box w gc 72 (mFns g)) (i : Nat) (hi : i ≤ 4) : ClmJ w0 r n h x p A m c g gc T i w :=
  ⟨hb, by rw [if_pos hi]; exact h1, h2⟩
/-- The first two checks. -/
theorem first_may (w0 : World) (r : RtP) (x : Lf) (p : Nat) (A : Option Addr) (m c g gc : Nat) (u : World) (hb : Below w0.heap.size w0 u) (h1 : Box u g 82 (clmV r r.hash.size r.n x p A m c RtP.zero)) (h2 : Box u gc 72 (mFns g)) :
    Calls Tryd.prog 30 #[.slice (some ⟨gc, 0, none⟩) 2 6] u (fun e u' => e = .returned (.int .i64 (mayR r)) ∧ Below w0.heap.size w0 u') :=
  (first17_any 2 (by omega) chkK g gc 0 6 (chkE r r.hash.size r.n x p []) (ClmJ w0 r r.hash.size r.n x p A m c g gc RtP.zero) u
    (fun i hi => chk_enters i (by omega))
    (fun i v hi J => by rw [Nat.zero_add]; exact J.cell i (by omega))
    (fun i v hi _ J => by
      have hc : i = 0 ∨ i = 1 := by omega
      rcases hc with rfl | rfl
      · exact (tall17_any r _ _ _ _ _ _ _ _ g v J.clm).mono fun e u' ⟨h1, h2⟩ => ⟨h1, J.call h2 (by omega)⟩
      · exact (wide17_any r _ _ _ _ _ _ _ _ g v J.clm).mono fun e u' ⟨h1, h2⟩ => ⟨h1, J.call h2 (by omega)⟩)
    (ClmJ.start hb h1 h2 0 (by omega))).mono fun e u' ⟨k, hk, hall, hend⟩ => by
    rcases hend with ⟨e1, e2, hJ⟩ | ⟨e1, e2, e3, hJ⟩
    · exact ⟨by rw [e2, may_first hall (Or.inl ⟨e1, rfl⟩)], hJ.below⟩
    · exact ⟨by rw [e3, may_first hall (Or.inr ⟨e1, e2, rfl⟩)], hJ.below⟩
/-- All six. -/
theorem first_check (w0 : World) (r : RtP) (x : Lf) (p : Nat) (hp : p < 18446744073709551616) (A : Option Addr) (c : Nat) (l : List Nd) (hl : l.length ≤ 1000000000) (hx : x.id.size ≤ 1000000 ∧ x.salt.size ≤ 1000000) (hw : Word x.h ∧ Word x.l) (hy : ∀ y ∈ l, y.halved) (hR : ndS.Row w0 w0.heap.size A l) (hK : Tab w0) (hU : TabU w0) (g gc : Nat) (hg : w0.heap.size ≤ g) (hgc : gc ≠ g) (u : World) (hb : Below w0.heap.size w0 u) (h1 : Box u g 82 (clmV r r.hash.size r.n x p A l.length c RtP.zero)) (h2 : Box u gc 72 (mFns g)) :
    Calls Tryd.prog 30 #[.slice (some ⟨gc, 0, none⟩) 6 6] u (fun e u' => e = .returned (.int .i64 (checkE r x p l)) ∧ Below w0.heap.size w0 u') :=
  (first17_any 6 (by omega) chkK g gc 0 6 (chkE r r.hash.size r.n x p l) (ClmJ w0 r r.hash.size r.n x p A l.length c g gc (topE r.hash.size x p l).1) u
    (fun i hi => chk_enters i hi)
    (fun i v hi J => by rw [Nat.zero_add]; exact J.cell i hi)
    (fun i v hi _ J => clm_step w0 r r.hash.size r.n x p A c l hl g gc hg hgc hp hx hw hy hR hK hU i hi v J)
    (ClmJ.start hb h1 h2 0 (by omega))).mono fun e u' ⟨k, hk, hall, hend⟩ => by
    rcases hend with ⟨e1, e2, hJ⟩ | ⟨e1, e2, e3, hJ⟩
    · exact ⟨by rw [e2, check_first hall (Or.inl ⟨e1, rfl⟩)], hJ.below⟩
    · exact ⟨by rw [e3, check_first hall (Or.inr ⟨e1, e2, rfl⟩)], hJ.below⟩
/-- The middle three. -/
theorem first_up (w0 : World) (r : RtP) (n : Int) (x : Lf) (p : Nat) (hp : p < 18446744073709551616) (A : Option Addr) (c : Nat) (l : List Nd) (hl : l.length ≤ 1000000000) (hx : x.id.size ≤ 1000000 ∧ x.salt.size ≤ 1000000) (hw : Word x.h ∧ Word x.l) (hy : ∀ y ∈ l, y.halved) (hR : ndS.Row w0 w0.heap.size A l) (hK : Tab w0) (hU : TabU w0) (g gc : Nat) (hg : w0.heap.size ≤ g) (hgc : gc ≠ g) (u : World) (hb : Below w0.heap.size w0 u) (h1 : Box u g 82 (clmV r n l.length x p A l.length c RtP.zero)) (h2 : Box u gc 72 (mFns g)) :
    Calls Tryd.prog 30 #[.slice (some ⟨gc, 2, none⟩) 3 4] u (fun e u' => e = .returned (.int .i64 (upE n x p l).2) ∧ Below w0.heap.size w0 u' ∧ ((upE n x p l).2 = 0 → Box u' g 82 (clmV r n l.length x p A l.length c (upE n x p l).1))) :=
  (first17_any 3 (by omega) (fun i => chkK (2 + i)) g gc 2 4 (fun i => chkE r n l.length x p l (2 + i)) (fun i => ClmJ w0 r n l.length x p A l.length c g gc (topE n x p l).1 (2 + i)) u
    (fun i hi => chk_enters (2 + i) (by omega))
    (fun i v hi J => J.cell (2 + i) (by omega))
    (fun i v hi _ J => clm_step w0 r n l.length x p A c l hl g gc hg hgc hp hx hw hy hR hK hU (2 + i) (by omega) v J)
    (ClmJ.start hb h1 h2 2 (by omega))).mono fun e u' ⟨k, hk, hall, hend⟩ => by
    rcases hend with ⟨e1, e2, hJ⟩ | ⟨e1, e2, e3, hJ⟩
    · obtain ⟨q1, q2⟩ := up_first hall (Or.inl ⟨e1, rfl⟩)
      refine ⟨by rw [e2, q1], hJ.below, fun _ => ?_⟩
      rw [q2 rfl]
      have := hJ.clm
      rw [if_neg (by omega)] at this
      exact this
    · obtain ⟨q1, q2⟩ := up_first hall (Or.inr ⟨e1, e2, rfl⟩)
      refine ⟨by rw [e3, q1], hJ.below, fun e0 => ?_⟩
      rw [q1] at e2
      exact absurd e0 e2
end Go.Proofs.YtkecekfapiegjaaDoor
/-
  Package verify's May, Check and Up, walked.
-/
namespace Go.Proofs.YtkecekfapiegjaaDoor
set_option linter.unusedVariables false
set_option linter.unusedSimpArgs false
set_option maxRecDepth 10000
open Go.RowKit

set_option maxRecDepth 100000 in
set_option maxHeartbeats 4000000 in
theorem may17_any (r : RtP) (w : World) : Calls Tryd.prog 10 #[r.val] w (Tells (.int .i64 (mayR r)) w.heap.size w) := by
  have cU := fun u => under17_any r Lf.zero 0 none 0 0 u
  have cC := fun g u => checks17_any g u
  have cF := fun gc g u hb h1 h2 => first_may w r Lf.zero 0 none 0 0 g gc u hb h1 h2
  generalize mayR r = V at *
  obtain ⟨rs, rh', rl', rn⟩ := r
  obtain ⟨ge, hge⟩ : ∃ g, w.heap.size = g := ⟨_, rfl⟩
  have J0 := (Has.start w).addAt 26 (rtB rs rh' rl' rn) (g := ge) hge
  obtain ⟨⟨y0, y1, y2, y3⟩, -, yin⟩ := (J0.box 0).four4
  simp only [RtP.val, Lf.zero] at cU
  simp only [Lf.zero] at cF
  show Calls _ _ #[.agg (rtB rs rh' rl' rn)] _ _
  go_enter Tryd.func10, Tryd.ntmps10
  go_upto_region 2 with (first
    | (go_at_call 28; refine (cU _).mono ?_; rintro e w2 ⟨b2, g, rfl, hg, hB⟩; have J2 := J0.call b2)
    | (go_at_call 29; refine (cC _ _).mono ?_; rintro e w3 ⟨rfl, b3⟩; have J3 := J2.call b3; have hB3 := hB.call b3)
    | fail)
  have L4 := chainA J3.below (.cells (mFns g) 72)
  have hFn := Box.made w3 72 (mFns g)
  have hB4 := hB3.past (.cells (mFns g) 72)
  have hin := hB3.inside
  obtain ⟨gc, hgc⟩ : ∃ g, w3.heap.size = g := ⟨_, rfl⟩
  rw [hgc] at hFn ⊢
  have hne : gc ≠ g := by omega
  change Code.wp _ _ _ _ (w3.alloc (.cells (mFns g) 72))
  generalize w3.alloc (.cells (mFns g) 72) = W4 at *
  have JJ := cF gc g W4 L4 hB4 hFn
  clear cU cC cF y0 y1 y2 y3 yin
  go_wp2_with (first
    | (go_at_call 30; refine JJ.mono ?_; rintro e w5 ⟨rfl, b5⟩)
    | fail)
  go_ret
  exact ⟨rfl, by first | exact b5 | (rw [← hge]; exact b5)⟩
set_option maxRecDepth 100000 in
set_option maxHeartbeats 4000000 in
theorem check17_any (r : RtP) (x : Lf) (p : Nat) (hp : p < 18446744073709551616) (A : Option Addr) (c : Nat) (l : List Nd) (hl : l.length ≤ 1000000000) (hx : x.id.size ≤ 1000000 ∧ x.salt.size ≤ 1000000) (hw : Word x.h ∧ Word x.l) (hy : ∀ y ∈ l, y.halved) (w : World) (hR : ndS.Row w w.heap.size A l) (hK : Tab w) (hU : TabU w) : Calls Tryd.prog 13 #[r.val, .agg (enV x p A l.length c)] w (Tells (.int .i64 (checkE r x p l)) w.heap.size w) := by
  have cU := fun u => under17_any r x p A l.length c u
  have cC := fun g u => checks17_any g u
  have cF := fun gc g hg hgc u hb h1 h2 => first_check w r x p hp A c l hl hx hw hy hR hK hU g gc hg hgc u hb h1 h2
  obtain ⟨V, hV⟩ : ∃ V, checkE r x p l = V := ⟨_, rfl⟩
  rw [hV] at cF ⊢
  obtain ⟨N, hN⟩ : ∃ N, l.length = N := ⟨_, rfl⟩
  rw [hN] at cU cF ⊢
  clear hV hN hl hx hw hy hR hK hU
  obtain ⟨rs, rh', rl', rn⟩ := r
  obtain ⟨xp, xi, xs, xh, xl⟩ := x
  obtain ⟨ge, hge⟩ : ∃ g, w.heap.size = g := ⟨_, rfl⟩
  have J0 := ((Has.start w).addAt 26 (rtB rs rh' rl' rn) (g := ge) hge).addAt 39 (enV ⟨xp, xi, xs, xh, xl⟩ p A N c) (g := ge + 1) (by simp [hge])
  obtain ⟨⟨x0, x1, x2, x3, x4, x5, x6⟩, xin⟩ := (J0.box 0).seven
  obtain ⟨⟨y0, y1, y2, y3⟩, -, yin⟩ := (J0.box 1).four4
  simp only at x0 x1 x2 x3 x4
  simp only [RtP.val] at cU
  show Calls _ _ #[.agg (rtB rs rh' rl' rn), _] _ _
  go_enter Tryd.func13, Tryd.ntmps13
  go_upto_region 2 with (first
    | (go_at_call 28; refine (cU _).mono ?_; rintro e w2 ⟨b2, g, rfl, hg, hB⟩; have hg := Nat.le_trans J0.size hg; have J2 := J0.call b2)
    | (go_at_call 29; refine (cC _ _).mono ?_; rintro e w3 ⟨rfl, b3⟩; have J3 := J2.call b3; have hB3 := hB.call b3)
    | fail)
  have L4 := chainA J3.below (.cells (mFns g) 72)
  have hFn := Box.made w3 72 (mFns g)
  have hB4 := hB3.past (.cells (mFns g) 72)
  have hin := hB3.inside
  obtain ⟨gc, hgc⟩ : ∃ g, w3.heap.size = g := ⟨_, rfl⟩
  rw [hgc] at hFn ⊢
  have hne : gc ≠ g := by omega
  change Code.wp _ _ _ _ (w3.alloc (.cells (mFns g) 72))
  generalize w3.alloc (.cells (mFns g) 72) = W4 at *
  have JJ := cF gc g hg hne W4 L4 hB4 hFn
  clear cU cC cF y0 y1 y2 y3 yin x0 x1 x2 x3 x4 x5 x6 xin
  go_wp2_with (first
    | (go_at_call 30; refine JJ.mono ?_; rintro e w5 ⟨rfl, b5⟩)
    | fail)
  go_ret
  exact ⟨rfl, by first | exact b5 | (rw [← hge]; exact b5)⟩
set_option maxRecDepth 100000 in
set_option maxHeartbeats 4000000 in
theorem up17_any (n : Int) (x : Lf) (p : Nat) (hp : p < 18446744073709551616) (A : Option Addr) (c : Nat) (l : List Nd) (hl : l.length ≤ 1000000000) (hx : x.id.size ≤ 1000000 ∧ x.salt.size ≤ 1000000) (hw : Word x.h ∧ Word x.l) (hy : ∀ y ∈ l, y.halved) (w : World) (hR : ndS.Row w w.heap.size A l) (hK : Tab w) (hU : TabU w) : Calls Tryd.prog 16 #[.int .i64 n, .agg (enV x p A l.length c)] w (Tells (.tuple #[(upE n x p l).1.val, .int .i64 (upE n x p l).2]) w.heap.size w) := by
  have cC := fun g u => checks17_any g u
  have cF := fun (w0 : World) hR hK hU gc g hg hgc u hb h1 h2 => first_up w0 RtP.zero n x p hp A c l hl hx hw hy hR hK hU g gc hg hgc u hb h1 h2
  have hZ := fun e => up_err (w := n) (x := x) (p := p) (l := l) e
  obtain ⟨⟨T, E⟩, hT⟩ : ∃ T, upE n x p l = T := ⟨_, rfl⟩
  rw [hT] at cF hZ ⊢
  simp only at cF hZ
  obtain ⟨N, hN⟩ : ∃ N, l.length = N := ⟨_, rfl⟩
  rw [hN] at cF ⊢
  clear hT hN hl hx hw hy
  obtain ⟨xp, xi, xs, xh, xl⟩ := x
  obtain ⟨ts, th, tl, tn⟩ := T
  obtain ⟨ge, hge⟩ : ∃ g, w.heap.size = g := ⟨_, rfl⟩
  have J0 := ((Has.start w).addAt 39 (enV ⟨xp, xi, xs, xh, xl⟩ p A N c) (g := ge) hge).addAt 26 (rtB ⟨#[]⟩ 0 0 0) (g := ge + 1) (by simp [hge])
  have hW1 : ((w.alloc (.cells (enV ⟨xp, xi, xs, xh, xl⟩ p A N c) 39)).alloc (.cells (rtB ⟨#[]⟩ 0 0 0) 26)).heap.size = ge + 1 + 1 := by simp [hge]
  have hgr : w.heap.size ≤ ge + 1 := by omega
  have hgn : ∀ y ∈ [((ge : Nat), 39, enV ⟨xp, xi, xs, xh, xl⟩ p A N c)], y.1 ≠ ge + 1 := fun y hy => by
    obtain rfl := List.mem_singleton.1 hy
    simp only
    omega
  have HZ := hideIt hZ
  clear hZ
  go_enter Tryd.func16, Tryd.ntmps16
  go_upto_region 1 with fail
  change Code.wp _ _ _ _ ((w.alloc (.cells (enV ⟨xp, xi, xs, xh, xl⟩ p A N c) 39)).alloc (.cells (rtB ⟨#[]⟩ 0 0 0) 26))
  generalize (w.alloc (.cells (enV ⟨xp, xi, xs, xh, xl⟩ p A N c) 39)).alloc (.cells (rtB ⟨#[]⟩ 0 0 0) 26) = W1 at *
  have cF := cF W1 (hR.on J0.below) (hK.call J0.below) (hU.call J0.below)
  clear hR hK hU
  obtain ⟨⟨x0, x1, x2, x3, x4, x5, x6⟩, xin⟩ := (J0.box 1).seven
  simp only at x0 x1 x2 x3 x4
  have K0 := (Has.start W1).addAt 82 (clmV RtP.zero n N ⟨xp, xi, xs, xh, xl⟩ p A N c RtP.zero) (g := ge + 1 + 1) hW1
  go_upto_region 3 with (first
    | (go_at_call 29; refine (cC _ _).mono ?_; rintro e w3 ⟨rfl, b3⟩; have J3 := K0.call b3)
    | fail)
  have hB3 : Box w3 (ge + 1 + 1) 82 (clmV RtP.zero n N ⟨xp, xi, xs, xh, xl⟩ p A N c RtP.zero) := J3.box 0
  obtain ⟨g, hgg⟩ : ∃ g, ge + 1 + 1 = g := ⟨_, rfl⟩
  have hg : W1.heap.size ≤ g := by omega
  rw [hgg] at hB3 ⊢
  have L4 := chainA J3.below (.cells (mFns g) 72)
  have hFn := Box.made w3 72 (mFns g)
  have hB4 := hB3.past (.cells (mFns g) 72)
  have hin := hB3.inside
  obtain ⟨gc, hgc⟩ : ∃ g, w3.heap.size = g := ⟨_, rfl⟩
  rw [hgc] at hFn ⊢
  have hne : gc ≠ g := by omega
  change Code.wp _ _ _ _ (w3.alloc (.cells (mFns g) 72))
  generalize w3.alloc (.cells (mFns g) 72) = W4 at *
  have JJ := cF gc g hg hne W4 L4 hB4 hFn
  clear cF cC x0 x1 x2 x3 x4 x5 x6 xin K0 J3 hB3
  by_cases hE : E = 0
  · subst hE
    clear HZ
    go_wp2_with (first
      | (go_at_call 30; refine JJ.mono ?_; rintro e w5 ⟨rfl, b5, hC⟩; have hC := hC rfl; have J5 := J0.call b5; obtain ⟨⟨y0, y1, y2, y3⟩, ⟨f0, f1, f2, f3⟩, yin⟩ := (J5.box 0).four4; have z0 : w5.cell? ⟨g, 13, none⟩ = some (.string ts) := hC.read 13; have z1 : w5.cell? ⟨g, 14, none⟩ = some (.int .u64 th) := hC.read 14; have z2 : w5.cell? ⟨g, 15, none⟩ = some (.int .u64 tl) := hC.read 15; have z3 : w5.cell? ⟨g, 16, none⟩ = some (.int .i64 tn) := hC.read 16; have zin := hC.inside)
      | fail)
    have HK := (((J5.wrote hgr hgn 0 (.string ts)).wrote hgr hgn 1 (.int .u64 th)).wrote hgr hgn 2 (.int .u64 tl)).wrote hgr hgn 3 (.int .i64 tn)
    generalize World.setCell (World.setCell (World.setCell (World.setCell _ _ _) _ _) _ _) _ _ = WR at *
    obtain ⟨⟨y0, y1, y2, y3⟩, -, yin⟩ := (HK.box 0).four4
    exact bodyPost_ret (v := .tuple #[RtP.val ⟨ts, th, tl, tn⟩, .int .i64 0]) (by simp [results, Tryd.results16, go_sem, RtP.val, RtP.zero, y0, y1, y2, y3]) rfl ⟨rfl, by first | exact HK.below | (rw [← hge]; exact HK.below)⟩
  · have q0 : (E != 0) = true := bne_iff_ne.2 hE
    have e1 := HZ.out hE
    clear HZ
    go_wp2_with (first
      | (go_at_call 30; refine JJ.mono ?_; rintro e w5 ⟨rfl, b5, -⟩; have J5 := J0.call b5; obtain ⟨⟨y0, y1, y2, y3⟩, ⟨f0, f1, f2, f3⟩, yin⟩ := (J5.box 0).four4)
      | fail)
    have HK := (((J5.wrote hgr hgn 0 (.string ⟨#[]⟩)).wrote hgr hgn 1 (.int .u64 0)).wrote hgr hgn 2 (.int .u64 0)).wrote hgr hgn 3 (.int .i64 0)
    rw [e1]
    generalize World.setCell (World.setCell (World.setCell (World.setCell _ _ _) _ _) _ _) _ _ = WR at *
    obtain ⟨⟨y0, y1, y2, y3⟩, -, yin⟩ := (HK.box 0).four4
    exact bodyPost_ret (v := .tuple #[RtP.val RtP.zero, .int .i64 E]) (by simp [results, Tryd.results16, go_sem, RtP.val, RtP.zero, y0, y1, y2, y3]) rfl ⟨rfl, by first | exact HK.below | (rw [← hge]; exact HK.below)⟩
end Go.Proofs.YtkecekfapiegjaaDoor
