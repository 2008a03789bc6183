/- Several of my texts, laid as one. -/
import Derived.Test.YtkecekfapiegjaaDoorM15Tre
import Derived.Test.YtkecekfapiegjaaDoorU5Clone
import Derived.Test.YtkecekfapiegjaaDoorM14W
import Derived.Test.YtkecekfapiegjaaDoorM14Fo
import Derived.Test.YtkecekfapiegjaaDoorM14Of
import Derived.Test.YtkecekfapiegjaaDoorM7Fn
import Derived.Test.YtkecekfapiegjaaDoorM14Cl
import Derived.Laws.Bits64
import Derived.Deep.RegionHeld3
/-
  Package tree: what is told in memory of its own.
-/
namespace Go.Proofs.YtkecekfapiegjaaDoor
set_option linter.unusedVariables false
set_option linter.unusedSimpArgs false
set_option maxRecDepth 10000
open Go.RowKit

set_option maxRecDepth 100000 in
set_option maxHeartbeats 2000000 in
theorem own15_any (x : Nd) (hx : x.hash.size ≤ 1000000) (w : World) : Calls Tryd.prog 72 #[x.val] w (Tells x.val w.heap.size w) := by
  have cC := fun u => clone_any x.hash (by omega) u
  obtain ⟨s, h, l⟩ := x
  simp only at cC
  show Calls _ _ #[.agg (ndB s h l)] _ _
  have hl2 : ∀ x ∈ ([(w.heap.size, 49, ndB s h l)] : List Blk), x.1 < w.heap.size + 1 := fun x hx => by
    simp only [List.mem_cons, List.not_mem_nil, or_false] at hx
    rcases hx with rfl
    exact Nat.lt_succ_self _
  have H0 := ((Has.start w).add 49 (ndB s h l)).addAt 49 (ndB ⟨#[]⟩ 0 0) (g := w.heap.size + 1) (by simp)
  go_enter Tryd.func72, Tryd.ntmps72
  go_upto_region 1 with fail
  change Code.wp _ _ _ _ ((w.alloc (.cells (ndB s h l) 49)).alloc (.cells (ndB ⟨#[]⟩ 0 0) 49))
  generalize (w.alloc (.cells (ndB s h l) 49)).alloc (.cells (ndB ⟨#[]⟩ 0 0) 49) = W0 at *
  have fact : ∀ u, Has w [(w.heap.size + 1, 49, ndB ⟨#[]⟩ 0 0), (w.heap.size, 49, ndB s h l)] u → Below w.heap.size w u ∧ (u.cell? ⟨w.heap.size, 0, none⟩ = some (.string s) ∧ u.cell? ⟨w.heap.size, 1, none⟩ = some (.int .u64 h) ∧ u.cell? ⟨w.heap.size, 2, none⟩ = some (.int .u64 l)) := fun u H =>
    ⟨H.below, (H.box 1).read 0, (H.box 1).read 1, (H.box 1).read 2⟩
  have fact2 : ∀ u, Has w [(w.heap.size + 1, 49, ndB s h l), (w.heap.size, 49, ndB s h l)] u → Below w.heap.size w u ∧ (u.cell? ⟨w.heap.size, 0, none⟩ = some (.string s) ∧ u.cell? ⟨w.heap.size, 1, none⟩ = some (.int .u64 h) ∧ u.cell? ⟨w.heap.size, 2, none⟩ = some (.int .u64 l)) := fun u H =>
    ⟨H.below, (H.box 1).read 0, (H.box 1).read 1, (H.box 1).read 2⟩
  have K4 := H0.drew
  have f0 := fact _ K4
  refine wp_region_held_drew (S := fun u => Below w.heap.size w u ∧ (u.cell? ⟨w.heap.size, 0, none⟩ = some (.string s) ∧ u.cell? ⟨w.heap.size, 1, none⟩ = some (.int .u64 h) ∧ u.cell? ⟨w.heap.size, 2, none⟩ = some (.int .u64 l))) (by kernel_rfl) f0 (fun hHeld => ?_)
  refine wpAnyH_take (i := 0) (v := ?_) rfl (by kernel_rfl) (by kernel_rfl) (by kernel_rfl) (fun _ _ _ h => h) (Or.inl ⟨by rfl, ?_⟩) (by assumption) ?_
  rotate_left 1
  · intro w hSw; (try dsimp only at hSw); go_simp; try with_reducible rfl
  try simp only [Act.put, List.getElem_toArray, List.getElem_cons_succ, List.getElem_cons_zero, List.setIfInBounds_toArray, List.set_cons_zero, List.set_cons_succ]
  refine wpAnyH_take (i := 1) (v := ?_) rfl (by kernel_rfl) (by kernel_rfl) (by kernel_rfl) (fun _ _ _ h => h) (Or.inl ⟨by rfl, ?_⟩) (by assumption) ?_
  rotate_left 1
  · intro w hSw; (try dsimp only at hSw); go_simp; try with_reducible rfl
  try simp only [Act.put, List.getElem_toArray, List.getElem_cons_succ, List.getElem_cons_zero, List.setIfInBounds_toArray, List.set_cons_zero, List.set_cons_succ]
  refine wpAnyH_take (i := 3) (v := ?_) rfl (by kernel_rfl) (by kernel_rfl) (by kernel_rfl) (fun _ _ _ h => h) (Or.inl ⟨by rfl, ?_⟩) (by assumption) ?_
  rotate_left 1
  · intro w hSw; (try dsimp only at hSw); go_simp; try with_reducible rfl
  try simp only [Act.put, List.getElem_toArray, List.getElem_cons_succ, List.getElem_cons_zero, List.setIfInBounds_toArray, List.set_cons_zero, List.set_cons_succ]
  refine wpAnyH_take (i := 4) (v := ?_) rfl (by kernel_rfl) (by kernel_rfl) (by kernel_rfl) (fun _ _ _ h => h) (Or.inl ⟨by rfl, ?_⟩) (by assumption) ?_
  rotate_left 1
  · intro w hSw; (try dsimp only at hSw); go_simp; try with_reducible rfl
  try simp only [Act.put, List.getElem_toArray, List.getElem_cons_succ, List.getElem_cons_zero, List.setIfInBounds_toArray, List.set_cons_zero, List.set_cons_succ]
  refine wpAnyH_ready (rs := [2]) (by kernel_rfl) (by simp) (AllReadyH.cons rfl (fun K hK => ?_) AllReadyH.nil)
  go_simp
  go_at_call 70
  refine (cC _).mono ?_
  rintro e w4 ⟨rfl, b4⟩
  have K5 := K4.call b4
  have F5 := fact _ K5
  try simp only []
  refine hK.out _ _ (F5) (fun hHeld => ?_)
  clear hK K
  try simp only [Act.put, List.getElem_toArray, List.getElem_cons_succ, List.getElem_cons_zero, List.setIfInBounds_toArray, List.set_cons_zero, List.set_cons_succ]
  refine wpAnyH_take (i := 5) (v := ?_) rfl (by kernel_rfl) (by kernel_rfl) (by kernel_rfl) (fun _ _ _ h => h) (Or.inl ⟨by rfl, ?_⟩) (by assumption) ?_
  rotate_left 1
  · intro w hSw; (try dsimp only at hSw); go_simp; try with_reducible rfl
  try simp only [Act.put, List.getElem_toArray, List.getElem_cons_succ, List.getElem_cons_zero, List.setIfInBounds_toArray, List.set_cons_zero, List.set_cons_succ]
  obtain ⟨x0, x1, x2, g0, g1, g2, hin4⟩ := (K5.box 0).three
  refine wpAnyH_ready (rs := [6]) (by kernel_rfl) (by simp) (AllReadyH.cons rfl (fun K hK => ?_) AllReadyH.nil)
  go_simp
  have E := told3 K5 (Nat.le_succ _) hl2 (.string s) (.int .u64 h) (.int .u64 l)
  generalize World.setCell (World.setCell (World.setCell w4 _ _) _ _) _ _ = W9 at *
  have FX := fact2 _ E
  obtain ⟨r0, r1, r2, -, -, -, hin9⟩ := (E.box 0).three
  refine hK.out _ _ (FX) (fun hHeld => ?_)
  clear hK K
  try simp only [Act.put, List.getElem_toArray, List.getElem_cons_succ, List.getElem_cons_zero, List.setIfInBounds_toArray, List.set_cons_zero, List.set_cons_succ]
  refine wpAnyH_done (by kernel_rfl) ?_ _
  clear x0 x1 x2 g0 g1 g2 hin4 F5 fact fact2
  go_wp2
  exact bodyPost_ret (v := Nd.val ⟨s, h, l⟩) (by simp [results, Tryd.results72, go_sem, Nd.val, r0, r1, r2]) rfl ⟨rfl, E.below⟩
end Go.Proofs.YtkecekfapiegjaaDoor
/-
  Package tree: whether a tree is nobody's; its width, its height; what stands at a place of a row; how many leaves there may be.
-/
namespace Go.Proofs.YtkecekfapiegjaaDoor
set_option linter.unusedVariables false
set_option linter.unusedSimpArgs false
set_option maxRecDepth 10000
open Go.RowKit

/-- A tree that nobody made: nil, or of no levels. -/
def NoTree (W : World) (v : Value) : Prop := v = .pointer none ∨ ∃ g, v = .pointer (some ⟨g, 0, none⟩) ∧ Box W g 98 #[.slice none 0 0, .slice none 0 0]
theorem NoTree.call {W W' : World} {v : Value} (h : NoTree W v) (hb : Below W.heap.size W W') : NoTree W' v := by
  rcases h with h | ⟨g, h, hx⟩
  · exact Or.inl h
  · exact Or.inr ⟨g, h, hx.call hb⟩
set_option maxHeartbeats 2000000 in
theorem nobodys_yes (v : Value) (W : World) (h : NoTree W v) : Calls Tryd.prog 47 #[v] W (Plain (.bool true) W) := by
  rcases h with rfl | ⟨g, rfl, hb⟩
  · go_enter Tryd.func47, Tryd.ntmps47
    go_wp2
    go_ret
    exact ⟨rfl, rfl⟩
  · obtain ⟨b0, b1, -, -, hin⟩ := hb.two
    clear hb
    go_enter Tryd.func47, Tryd.ntmps47
    go_wp2
    go_ret
    exact ⟨rfl, rfl⟩
section
variable {W : World} {q : TrG} {w : Int} {l : List Lf} {k : Nat}
set_option maxHeartbeats 2000000 in
theorem nobodys_no (h : TrAt W q w l k) : Calls Tryd.prog 47 #[.pointer (some ⟨q.g, 0, none⟩)] W (Plain (.bool false) W) := by
  obtain ⟨b0, b1, hin⟩ := h.topcells
  obtain ⟨K, hK⟩ : ∃ K, k + 1 = K := ⟨_, rfl⟩
  have hne : ¬ (K : Int) = 0 := by omega
  rw [hK] at b1
  have hne3 : ¬ K = 0 := by omega
  have hne2 : ((K : Int) == 0) = false := by simp [hne3]
  clear h hK
  go_enter Tryd.func47, Tryd.ntmps47
  go_wp2
  go_ret
  exact ⟨rfl, rfl⟩
set_option maxHeartbeats 2000000 in
theorem width15_any (h : TrAt W q w l k) : Calls Tryd.prog 45 #[.pointer (some ⟨q.g, 0, none⟩)] W (Plain (.int .i64 w) W) := by
  have cN := nobodys_no h
  obtain ⟨b0, b1, hin⟩ := h.topcells
  obtain ⟨b, c, c0, c1, -⟩ := h.level (Nat.zero_le k)
  have hvin := h.row.inside
  rw [Nat.zero_mul] at c0 c1
  obtain ⟨K, hK⟩ : ∃ K, k + 1 = K := ⟨_, rfl⟩
  have hne : (0 : Int) < (K : Int) := by omega
  have hne2 : 0 < K := by omega
  rw [hK] at b1
  clear h hK
  go_enter Tryd.func45, Tryd.ntmps45
  go_wp2_with (first | (go_at_call 47; refine cN.mono ?_; rintro e w1 ⟨rfl, rfl⟩) | fail)
  go_ret
  exact ⟨rfl, rfl⟩
set_option maxHeartbeats 2000000 in
theorem height15_any (h : TrAt W q w l k) (hk : k ≤ 1000) : Calls Tryd.prog 24 #[.pointer (some ⟨q.g, 0, none⟩)] W (Plain (.int .i64 k) W) := by
  have cN := nobodys_no h
  obtain ⟨b0, b1, hin⟩ := h.topcells
  obtain ⟨K, hK⟩ : ∃ K, k + 1 = K := ⟨_, rfl⟩
  have e1 : IntKind.i64.wrap ((K : Int) - 1) = (k : Int) := by rw [IntKind.wrap_i64]; omega
  rw [hK] at b1
  clear h hK
  go_enter Tryd.func24, Tryd.ntmps24
  go_wp2_with (first | (go_at_call 47; refine cN.mono ?_; rintro e w1 ⟨rfl, rfl⟩) | fail)
  go_ret
  exact ⟨rfl, rfl⟩
end
set_option maxHeartbeats 2000000 in
theorem width15_no (v : Value) (W : World) (h : NoTree W v) : Calls Tryd.prog 45 #[v] W (Plain (.int .i64 0) W) := by
  have cN := nobodys_yes v W h
  clear h
  go_enter Tryd.func45, Tryd.ntmps45
  go_wp2_with (first | (go_at_call 47; refine cN.mono ?_; rintro e w1 ⟨rfl, rfl⟩) | fail)
  go_ret
  exact ⟨rfl, rfl⟩
set_option maxHeartbeats 2000000 in
theorem height15_no (v : Value) (W : World) (h : NoTree W v) : Calls Tryd.prog 24 #[v] W (Plain (.int .i64 0) W) := by
  have cN := nobodys_yes v W h
  clear h
  go_enter Tryd.func24, Tryd.ntmps24
  go_wp2_with (first | (go_at_call 47; refine cN.mono ?_; rintro e w1 ⟨rfl, rfl⟩) | fail)
  go_ret
  exact ⟨rfl, rfl⟩
set_option maxHeartbeats 2000000 in
theorem atNd_any (A : Option Addr) (c : Nat) (l : List Nd) (hl : l.length ≤ 1000000000) (p : Nat) (hp : p < 18446744073709551616) (w : World) (hR : ndS.Row w w.heap.size A l) :
    Calls Tryd.prog 71 #[.slice A l.length c, .int .u64 p] w (Tells (.tuple #[(ndAt l p).val, .bool (decide (p < l.length))]) w.heap.size w) := by
  by_cases hlt : p < l.length
  · obtain ⟨x, hx⟩ : ∃ x, l[p]? = some x := ⟨_, List.getElem?_eq_getElem hlt⟩
    have e : ndAt l p = x := by rw [ndAt, List.getD_eq_getElem?_getD, hx]; rfl
    rw [e, decide_eq_true hlt]
    obtain ⟨ad, rfl, g1, p0, p1, p2⟩ := nd_get hR hx
    obtain ⟨N, hN⟩ : ∃ N, l.length = N := ⟨_, rfl⟩
    rw [hN] at hl hlt ⊢
    obtain ⟨xs, xh, xl⟩ := x
    simp only at p0 p1 p2
    have hw1 : IntKind.u64.wrap (N : Int) = (N : Int) := by rw [IntKind.wrap_u64]; omega
    have hlti : ¬ ((N : Int) ≤ (p : Int)) := by omega
    have hltj : (p : Int) < (N : Int) := by omega
    clear hR hx e hN
    go_enter Tryd.func71, Tryd.ntmps71
    go_wp2
    have E := (Has.start w).addAt 49 (ndB xs xh xl) (g := w.heap.size) rfl
    change bodyPost _ _ _ _ _ (w.alloc (.cells (ndB xs xh xl) 49))
    generalize w.alloc (.cells (ndB xs xh xl) 49) = W9 at *
    obtain ⟨v0, v1, v2, -, -, -, -⟩ := (E.box 0).three
    exact bodyPost_ret (v := .tuple #[Nd.val ⟨xs, xh, xl⟩, .bool true]) (by simp [results, Tryd.results71, go_sem, Nd.val, v0, v1, v2]) rfl ⟨rfl, E.below⟩
  · have e : ndAt l p = Nd.zero := by rw [ndAt, List.getD_eq_getElem?_getD, List.getElem?_eq_none (by omega)]; rfl
    rw [e, decide_eq_false hlt]
    obtain ⟨N, hN⟩ : ∃ N, l.length = N := ⟨_, rfl⟩
    rw [hN] at hl hlt ⊢
    have hw1 : IntKind.u64.wrap (N : Int) = (N : Int) := by rw [IntKind.wrap_u64]; omega
    have hlti : (N : Int) ≤ (p : Int) := by omega
    clear hR e hN
    go_enter Tryd.func71, Tryd.ntmps71
    go_wp2
    have E := ((Has.start w).addAt 49 (ndB ⟨#[]⟩ 0 0) (g := w.heap.size) rfl).addAt 49 (ndB ⟨#[]⟩ 0 0) (g := w.heap.size + 1) (by simp)
    change bodyPost _ _ _ _ _ ((w.alloc (.cells (ndB ⟨#[]⟩ 0 0) 49)).alloc (.cells (ndB ⟨#[]⟩ 0 0) 49))
    generalize (w.alloc (.cells (ndB ⟨#[]⟩ 0 0) 49)).alloc (.cells (ndB ⟨#[]⟩ 0 0) 49) = W9 at *
    obtain ⟨v0, v1, v2, -, -, -, -⟩ := (E.box 1).three
    exact bodyPost_ret (v := .tuple #[Nd.zero.val, .bool false]) (by simp [results, Tryd.results71, go_sem, Nd.val, Nd.zero, v0, v1, v2]) rfl ⟨rfl, E.below⟩
theorem lf_five {w : World} {g : Nat} {t : TypeId} {a b c d e : Value} (h : Box w g t #[a, b, c, d, e]) :
    w.cell? ⟨g, 0, none⟩ = some a ∧ w.cell? ⟨g, 1, none⟩ = some b ∧ w.cell? ⟨g, 2, none⟩ = some c ∧ w.cell? ⟨g, 3, none⟩ = some d ∧ w.cell? ⟨g, 4, none⟩ = some e := ⟨h.read 0, h.read 1, h.read 2, h.read 3, h.read 4⟩
set_option maxHeartbeats 2000000 in
theorem atLf_any (A : Option Addr) (c : Nat) (l : List Lf) (hl : l.length ≤ 1000000000) (p : Nat) (hp : p < 18446744073709551616) (w : World) (hR : lfS.Row w w.heap.size A l) :
    Calls Tryd.prog 75 #[.slice A l.length c, .int .u64 p] w (Tells (.tuple #[(lfAt l p).val, .bool (decide (p < l.length))]) w.heap.size w) := by
  by_cases hlt : p < l.length
  · obtain ⟨x, hx⟩ : ∃ x, l[p]? = some x := ⟨_, List.getElem?_eq_getElem hlt⟩
    have e : lfAt l p = x := by rw [lfAt, List.getD_eq_getElem?_getD, hx]; rfl
    rw [e, decide_eq_true hlt]
    obtain ⟨ad, rfl, g1, p0, p1, p2, p3, p4⟩ := lf_get hR hx
    obtain ⟨N, hN⟩ : ∃ N, l.length = N := ⟨_, rfl⟩
    rw [hN] at hl hlt ⊢
    obtain ⟨xp, xi, xs, xh, xl⟩ := x
    simp only at p0 p1 p2 p3 p4
    have hw1 : IntKind.u64.wrap (N : Int) = (N : Int) := by rw [IntKind.wrap_u64]; omega
    have hlti : ¬ ((N : Int) ≤ (p : Int)) := by omega
    have hltj : (p : Int) < (N : Int) := by omega
    clear hR hx e hN
    go_enter Tryd.func75, Tryd.ntmps75
    go_wp2
    have E := (Has.start w).addAt 34 (lfB xp xi xs xh xl) (g := w.heap.size) rfl
    change bodyPost _ _ _ _ _ (w.alloc (.cells (lfB xp xi xs xh xl) 34))
    generalize w.alloc (.cells (lfB xp xi xs xh xl) 34) = W9 at *
    obtain ⟨v0, v1, v2, v3, v4⟩ := lf_five (E.box 0)
    exact bodyPost_ret (v := .tuple #[Lf.val ⟨xp, xi, xs, xh, xl⟩, .bool true]) (by simp [results, Tryd.results75, go_sem, Lf.val, v0, v1, v2, v3, v4]) rfl ⟨rfl, E.below⟩
  · have e : lfAt l p = Lf.zero := by rw [lfAt, List.getD_eq_getElem?_getD, List.getElem?_eq_none (by omega)]; rfl
    rw [e, decide_eq_false hlt]
    obtain ⟨N, hN⟩ : ∃ N, l.length = N := ⟨_, rfl⟩
    rw [hN] at hl hlt ⊢
    have hw1 : IntKind.u64.wrap (N : Int) = (N : Int) := by rw [IntKind.wrap_u64]; omega
    have hlti : (N : Int) ≤ (p : Int) := by omega
    clear hR e hN
    go_enter Tryd.func75, Tryd.ntmps75
    go_wp2
    have E := ((Has.start w).addAt 34 (lfB false ⟨#[]⟩ ⟨#[]⟩ 0 0) (g := w.heap.size) rfl).addAt 34 (lfB false ⟨#[]⟩ ⟨#[]⟩ 0 0) (g := w.heap.size + 1) (by simp)
    change bodyPost _ _ _ _ _ ((w.alloc (.cells (lfB false ⟨#[]⟩ ⟨#[]⟩ 0 0) 34)).alloc (.cells (lfB false ⟨#[]⟩ ⟨#[]⟩ 0 0) 34))
    generalize (w.alloc (.cells (lfB false ⟨#[]⟩ ⟨#[]⟩ 0 0) 34)).alloc (.cells (lfB false ⟨#[]⟩ ⟨#[]⟩ 0 0) 34) = W9 at *
    obtain ⟨v0, v1, v2, v3, v4⟩ := lf_five (E.box 1)
    exact bodyPost_ret (v := .tuple #[Lf.zero.val, .bool false]) (by simp [results, Tryd.results75, go_sem, Lf.val, Lf.zero, v0, v1, v2, v3, v4]) rfl ⟨rfl, E.below⟩
/-- How many leaves there may be. -/
theorem ones_pow11 : ∀ n : Nat, n < 1025 → (onesN n == 1) = decide (n ≠ 0 ∧ n = 2 ^ Nat.log2 n) := by decide +kernel
def mayN (n : Nat) : Bool := decide (n ≠ 0 ∧ n = 2 ^ Nat.log2 n ∧ n ≤ 1024)
theorem mayN_ones (n : Nat) : mayN n = ((onesN n == 1) && decide (n ≤ 1024)) := by
  by_cases h : n ≤ 1024
  · rw [ones_pow11 n (by omega), decide_eq_true h, Bool.and_true, mayN]
    exact decide_eq_decide.2 ⟨fun x => ⟨x.1, x.2.1⟩, fun x => ⟨x.1, x.2, h⟩⟩
  · rw [decide_eq_false h, Bool.and_false, mayN]
    exact decide_eq_false fun x => h x.2.2
set_option maxHeartbeats 2000000 in
theorem mayMany_any (n : Nat) (hn : n ≤ 9223372036854775807) (w : World) : Calls Tryd.prog 68 #[.int .i64 n] w (Plain (.bool (mayN n)) w) := by
  have c := fun u => ones_any n u
  have e := mayN_ones n
  obtain ⟨o, ho⟩ : ∃ o, onesN n = o := ⟨_, rfl⟩
  rw [ho] at c e
  obtain ⟨V, hV⟩ : ∃ V, mayN n = V := ⟨_, rfl⟩
  rw [hV] at e ⊢
  have hw1 : IntKind.u64.wrap (n : Int) = (n : Int) := by rw [IntKind.wrap_u64]; omega
  clear ho hV
  by_cases h1 : o = 1
  · subst h1
    have e2 : V = decide (n ≤ 1024) := by rw [e]; rfl
    clear e
    by_cases h2 : n ≤ 1024
    · rw [decide_eq_true h2] at e2
      subst e2
      have h2i : (n : Int) ≤ 1024 := by omega
      go_enter Tryd.func68, Tryd.ntmps68
      go_wp2_with (first | (go_at_call 91; refine (c _).mono ?_; rintro e w1 ⟨rfl, rfl⟩) | fail)
      go_ret
      exact ⟨rfl, rfl⟩
    · rw [decide_eq_false h2] at e2
      subst e2
      have h2i : decide ((n : Int) ≤ 1024) = false := decide_eq_false (by omega)
      go_enter Tryd.func68, Tryd.ntmps68
      go_wp2_with (first | (go_at_call 91; refine (c _).mono ?_; rintro e w1 ⟨rfl, rfl⟩) | fail)
      go_ret
      exact ⟨rfl, rfl⟩
  · have h1b : (o == 1) = false := by simp [h1]
    rw [h1b, Bool.false_and] at e
    subst e
    go_enter Tryd.func68, Tryd.ntmps68
    go_wp2_with (first | (go_at_call 91; refine (c _).mono ?_; rintro e w1 ⟨rfl, rfl⟩) | fail)
    go_ret
    exact ⟨rfl, rfl⟩
end Go.Proofs.YtkecekfapiegjaaDoor
/-
  Package tree: a leaf in memory of its own; a leaf, a node, put at a place of a row.
-/
namespace Go.Proofs.YtkecekfapiegjaaDoor
set_option linter.unusedVariables false
set_option linter.unusedSimpArgs false
set_option maxRecDepth 10000
open Go.RowKit

set_option maxRecDepth 100000 in
set_option maxHeartbeats 4000000 in
theorem ownLf15_any (x : Lf) (h1 : x.id.size ≤ 1000000) (h2 : x.salt.size ≤ 1000000) (w : World) : Calls Tryd.prog 41 #[x.val] w (Tells x.val w.heap.size w) := by
  have cI := fun u => clone_any x.id (by omega) u
  have cS := fun u => clone_any x.salt (by omega) u
  obtain ⟨p, i, s, h, l⟩ := x
  simp only at cI cS
  show Calls _ _ #[.agg (lfB p i s h l)] _ _
  have hl2 : ∀ x ∈ ([(w.heap.size, 34, lfB p i s h l)] : List Blk), x.1 < w.heap.size + 1 := fun x hx => by
    simp only [List.mem_cons, List.not_mem_nil, or_false] at hx
    rcases hx with rfl
    exact Nat.lt_succ_self _
  have H0 := ((Has.start w).add 34 (lfB p i s h l)).addAt 34 (lfB false ⟨#[]⟩ ⟨#[]⟩ 0 0) (g := w.heap.size + 1) (by simp)
  go_enter Tryd.func41, Tryd.ntmps41
  go_upto_region 1 with fail
  change Code.wp _ _ _ _ ((w.alloc (.cells (lfB p i s h l) 34)).alloc (.cells (lfB false ⟨#[]⟩ ⟨#[]⟩ 0 0) 34))
  generalize (w.alloc (.cells (lfB p i s h l) 34)).alloc (.cells (lfB false ⟨#[]⟩ ⟨#[]⟩ 0 0) 34) = W0 at *
  have fact : ∀ u, Has w [(w.heap.size + 1, 34, lfB false ⟨#[]⟩ ⟨#[]⟩ 0 0), (w.heap.size, 34, lfB p i s h l)] u → Below w.heap.size w u ∧ (u.cell? ⟨w.heap.size, 0, none⟩ = some (.bool p) ∧ u.cell? ⟨w.heap.size, 1, none⟩ = some (.string i) ∧ u.cell? ⟨w.heap.size, 2, none⟩ = some (.string s) ∧ u.cell? ⟨w.heap.size, 3, none⟩ = some (.int .u64 h) ∧ u.cell? ⟨w.heap.size, 4, none⟩ = some (.int .u64 l)) := fun u H =>
    ⟨H.below, (H.box 1).five0.1⟩
  have fact2 : ∀ u, Has w [(w.heap.size + 1, 34, lfB p i s h l), (w.heap.size, 34, lfB p i s h l)] u → Below w.heap.size w u ∧ (u.cell? ⟨w.heap.size, 0, none⟩ = some (.bool p) ∧ u.cell? ⟨w.heap.size, 1, none⟩ = some (.string i) ∧ u.cell? ⟨w.heap.size, 2, none⟩ = some (.string s) ∧ u.cell? ⟨w.heap.size, 3, none⟩ = some (.int .u64 h) ∧ u.cell? ⟨w.heap.size, 4, none⟩ = some (.int .u64 l)) := fun u H =>
    ⟨H.below, (H.box 1).five0.1⟩
  have K4 := H0.drew
  have f0 := fact _ K4
  refine wp_region_held_drew (S := fun u => Below w.heap.size w u ∧ (u.cell? ⟨w.heap.size, 0, none⟩ = some (.bool p) ∧ u.cell? ⟨w.heap.size, 1, none⟩ = some (.string i) ∧ u.cell? ⟨w.heap.size, 2, none⟩ = some (.string s) ∧ u.cell? ⟨w.heap.size, 3, none⟩ = some (.int .u64 h) ∧ u.cell? ⟨w.heap.size, 4, none⟩ = some (.int .u64 l))) (by kernel_rfl) f0 (fun hHeld => ?_)
  refine wpAnyH_take (i := 0) (v := ?_) rfl (by kernel_rfl) (by kernel_rfl) (by kernel_rfl) (fun _ _ _ h => h) (Or.inl ⟨by rfl, ?_⟩) (by assumption) ?_
  rotate_left 1
  · intro w hSw; (try dsimp only at hSw); go_simp; try with_reducible rfl
  try simp only [Act.put, List.getElem_toArray, List.getElem_cons_succ, List.getElem_cons_zero, List.setIfInBounds_toArray, List.set_cons_zero, List.set_cons_succ]
  refine wpAnyH_take (i := 1) (v := ?_) rfl (by kernel_rfl) (by kernel_rfl) (by kernel_rfl) (fun _ _ _ h => h) (Or.inl ⟨by rfl, ?_⟩) (by assumption) ?_
  rotate_left 1
  · intro w hSw; (try dsimp only at hSw); go_simp; try with_reducible rfl
  try simp only [Act.put, List.getElem_toArray, List.getElem_cons_succ, List.getElem_cons_zero, List.setIfInBounds_toArray, List.set_cons_zero, List.set_cons_succ]
  refine wpAnyH_take (i := 2) (v := ?_) rfl (by kernel_rfl) (by kernel_rfl) (by kernel_rfl) (fun _ _ _ h => h) (Or.inl ⟨by rfl, ?_⟩) (by assumption) ?_
  rotate_left 1
  · intro w hSw; (try dsimp only at hSw); go_simp; try with_reducible rfl
  try simp only [Act.put, List.getElem_toArray, List.getElem_cons_succ, List.getElem_cons_zero, List.setIfInBounds_toArray, List.set_cons_zero, List.set_cons_succ]
  refine wpAnyH_take (i := 3) (v := ?_) rfl (by kernel_rfl) (by kernel_rfl) (by kernel_rfl) (fun _ _ _ h => h) (Or.inl ⟨by rfl, ?_⟩) (by assumption) ?_
  rotate_left 1
  · intro w hSw; (try dsimp only at hSw); go_simp; try with_reducible rfl
  try simp only [Act.put, List.getElem_toArray, List.getElem_cons_succ, List.getElem_cons_zero, List.setIfInBounds_toArray, List.set_cons_zero, List.set_cons_succ]
  refine wpAnyH_take (i := 5) (v := ?_) rfl (by kernel_rfl) (by kernel_rfl) (by kernel_rfl) (fun _ _ _ h => h) (Or.inl ⟨by rfl, ?_⟩) (by assumption) ?_
  rotate_left 1
  · intro w hSw; (try dsimp only at hSw); go_simp; try with_reducible rfl
  try simp only [Act.put, List.getElem_toArray, List.getElem_cons_succ, List.getElem_cons_zero, List.setIfInBounds_toArray, List.set_cons_zero, List.set_cons_succ]
  refine wpAnyH_take (i := 6) (v := ?_) rfl (by kernel_rfl) (by kernel_rfl) (by kernel_rfl) (fun _ _ _ h => h) (Or.inl ⟨by rfl, ?_⟩) (by assumption) ?_
  rotate_left 1
  · intro w hSw; (try dsimp only at hSw); go_simp; try with_reducible rfl
  try simp only [Act.put, List.getElem_toArray, List.getElem_cons_succ, List.getElem_cons_zero, List.setIfInBounds_toArray, List.set_cons_zero, List.set_cons_succ]
  refine wpAnyH_take (i := 8) (v := ?_) rfl (by kernel_rfl) (by kernel_rfl) (by kernel_rfl) (fun _ _ _ h => h) (Or.inl ⟨by rfl, ?_⟩) (by assumption) ?_
  rotate_left 1
  · intro w hSw; (try dsimp only at hSw); go_simp; try with_reducible rfl
  try simp only [Act.put, List.getElem_toArray, List.getElem_cons_succ, List.getElem_cons_zero, List.setIfInBounds_toArray, List.set_cons_zero, List.set_cons_succ]
  refine wpAnyH_take (i := 9) (v := ?_) rfl (by kernel_rfl) (by kernel_rfl) (by kernel_rfl) (fun _ _ _ h => h) (Or.inl ⟨by rfl, ?_⟩) (by assumption) ?_
  rotate_left 1
  · intro w hSw; (try dsimp only at hSw); go_simp; try with_reducible rfl
  try simp only [Act.put, List.getElem_toArray, List.getElem_cons_succ, List.getElem_cons_zero, List.setIfInBounds_toArray, List.set_cons_zero, List.set_cons_succ]
  refine wpAnyH_ready (rs := [4]) (by kernel_rfl) (by simp) (AllReadyH.cons rfl (fun K hK => ?_) AllReadyH.nil)
  go_simp
  go_at_call 70
  refine (cI _).mono ?_
  rintro e w4 ⟨rfl, b4⟩
  have K5 := Has.call K4 b4
  try simp only []
  refine hK.out _ _ (fact _ K5) (fun hHeld => ?_)
  clear hK K
  try simp only [Act.put, List.getElem_toArray, List.getElem_cons_succ, List.getElem_cons_zero, List.setIfInBounds_toArray, List.set_cons_zero, List.set_cons_succ]
  refine wpAnyH_ready (rs := [7]) (by kernel_rfl) (by simp) (AllReadyH.cons rfl (fun K hK => ?_) AllReadyH.nil)
  go_simp
  go_at_call 70
  refine (cS _).mono ?_
  rintro e w5 ⟨rfl, b5⟩
  have K6 := Has.call K5 b5
  try simp only []
  refine hK.out _ _ (fact _ K6) (fun hHeld => ?_)
  clear hK K
  try simp only [Act.put, List.getElem_toArray, List.getElem_cons_succ, List.getElem_cons_zero, List.setIfInBounds_toArray, List.set_cons_zero, List.set_cons_succ]
  refine wpAnyH_take (i := 10) (v := ?_) rfl (by kernel_rfl) (by kernel_rfl) (by kernel_rfl) (fun _ _ _ h => h) (Or.inl ⟨by rfl, ?_⟩) (by assumption) ?_
  rotate_left 1
  · intro w hSw; (try dsimp only at hSw); go_simp; try with_reducible rfl
  try simp only [Act.put, List.getElem_toArray, List.getElem_cons_succ, List.getElem_cons_zero, List.setIfInBounds_toArray, List.set_cons_zero, List.set_cons_succ]
  obtain ⟨⟨x0, x1, x2, x3, x4⟩, -, -⟩ := (K6.box 0).five0
  have g0 := (K6.box 0).free 0
  have g1 := (K6.box 0).free 1
  have g2 := (K6.box 0).free 2
  have g3 := (K6.box 0).free 3
  have g4 := (K6.box 0).free 4
  have hin4 := (K6.box 0).inside
  refine wpAnyH_ready (rs := [11]) (by kernel_rfl) (by simp) (AllReadyH.cons rfl (fun K hK => ?_) AllReadyH.nil)
  go_simp
  have E := told5 K6 (Nat.le_succ _) hl2 (.bool p) (.string i) (.string s) (.int .u64 h) (.int .u64 l)
  generalize World.setCell (World.setCell (World.setCell (World.setCell (World.setCell w5 _ _) _ _) _ _) _ _) _ _ = W9 at *
  have FX := fact2 _ E
  obtain ⟨⟨r0, r1, r2, r3, r4⟩, -, -⟩ := (E.box 0).five0
  refine hK.out _ _ (FX) (fun hHeld => ?_)
  clear hK K
  try simp only [Act.put, List.getElem_toArray, List.getElem_cons_succ, List.getElem_cons_zero, List.setIfInBounds_toArray, List.set_cons_zero, List.set_cons_succ]
  refine wpAnyH_done (by kernel_rfl) ?_ _
  clear x0 x1 x2 x3 x4 g0 g1 g2 g3 g4 hin4 fact fact2
  go_wp2
  exact bodyPost_ret (v := Lf.val ⟨p, i, s, h, l⟩) (by simp [results, Tryd.results41, go_sem, Lf.val, r0, r1, r2, r3, r4]) rfl ⟨rfl, E.below⟩
end Go.Proofs.YtkecekfapiegjaaDoor
/-
  Package tree: the node above a place, if that one stood there.
-/
namespace Go.Proofs.YtkecekfapiegjaaDoor
set_option linter.unusedVariables false
set_option linter.unusedSimpArgs false
set_option maxRecDepth 10000
open Go.RowKit

theorem xor_one (q : Nat) : q ^^^ 1 = sib q := by
  unfold sib
  apply Nat.eq_of_testBit_eq
  intro i
  rw [Nat.testBit_xor]
  cases i with
  | zero =>
    simp only [Nat.testBit_zero]
    split <;> rename_i h
    · have : (q - 1) % 2 = 0 := by omega
      simp [h, this]
    · have h2 : q % 2 = 0 := by omega
      have : (q + 1) % 2 = 1 := by omega
      simp [h2, this]
  | succ i =>
    rw [Nat.testBit_succ, Nat.testBit_succ, Nat.testBit_succ]
    have : 1 / 2 = 0 := rfl
    rw [this, Nat.zero_testBit, Bool.xor_false]
    congr 1
    split <;> omega
theorem bits_xor1 (q : Nat) (hq : q < 18446744073709551616) : bits .xor .u64 (q : Int) 1 = (sib q : Int) := by
  rw [← xor_one]
  exact bits_xor_u64_nat q 1 hq (by decide)
theorem sib_bound {q : Nat} (hq : q < 18446744073709551616) : sib q < 18446744073709551616 := by unfold sib; split <;> omega
set_option maxRecDepth 100000 in
set_option maxHeartbeats 4000000 in
theorem over15_any (n : Int) (A : Option Addr) (c : Nat) (l : List Nd) (hl : l.length ≤ 1000000) (hmw : mayW n = true) (hx : ∀ x ∈ l, x.of n = true ∧ x.halved) (p : Nat) (hp : p < 18446744073709551616) (hs : sib p < l.length) (nd : Nd) (hn : nd.of n = true) (hh : nd.halved)
    (w : World) (hR : ndS.Row w w.heap.size A l) (hT : Tab w) :
    Calls Tryd.prog 69 #[.agg #[.slice A l.length c, .int .i64 n], .int .u64 p, nd.val] w (fun e w' => e = .returned (.tuple #[(climbS n nd p [sibN l p]).1.val, .int .i64 (climbS n nd p [sibN l p]).2]) ∧ Below w.heap.size w w') := by
  have cA := fun u hu => atNd_any A c l (by omega) (sib p) (sib_bound hp) u hu
  have eS : ndAt l (sib p) = sibN l p := rfl
  rw [eS, decide_eq_true hs] at cA
  obtain ⟨s, hs0⟩ : ∃ s, l[sib p]? = some s := ⟨_, List.getElem?_eq_getElem hs⟩
  have eN : sibN l p = s := by rw [sibN, List.getD_eq_getElem?_getD, hs0]; rfl
  obtain ⟨so, sh⟩ := hx s (List.mem_of_getElem? hs0)
  rw [eN] at cA ⊢
  have hxs : ∀ x ∈ [s], x.halved := fun x hx => by rw [List.mem_singleton.1 hx]; exact sh
  have cC := fun g u hu hv => climb14_any n nd p hp (some ⟨g, 0, none⟩) 1 [s] (by simp) hh hxs u hu hv
  have eC : climbN n nd p [s] = climbS n nd p [s] := by
    rw [climbN, if_pos (by rw [hn, Bool.true_and, allW, hmw, Bool.true_and]; simp [so]), if_pos (by simp)]
  rw [eC] at cC
  obtain ⟨⟨⟨rs, rh', rl'⟩, re⟩, hC⟩ : ∃ V, climbS n nd p [s] = V := ⟨_, rfl⟩
  rw [hC] at cC ⊢
  have hxor := bits_xor1 p hp
  obtain ⟨N, hN⟩ : ∃ N, l.length = N := ⟨_, rfl⟩
  rw [hN] at cA hl ⊢
  obtain ⟨sp, hsp⟩ : ∃ sp, sib p = sp := ⟨_, rfl⟩
  rw [hsp] at cA hxor
  obtain ⟨ns, nh, nl⟩ := nd
  obtain ⟨ss, sh1, sl1⟩ := s
  simp only [Nd.val, List.length_cons, List.length_nil, Nat.zero_add] at cA cC
  show Calls _ _ #[.agg #[.slice A N c, .int .i64 n], .int .u64 p, .agg (ndB ns nh nl)] _ _
  have H0 := (((Has.start w).add 89 #[.slice A N c, .int .i64 n]).addAt 49 (ndB ns nh nl) (g := w.heap.size + 1) (by simp)).addAt 49 (ndB ⟨#[]⟩ 0 0) (g := w.heap.size + 1 + 1) (by simp)
  clear hxs hC eC eN eS hs0 hs hx hh hn sh so hN hsp
  go_enter Tryd.func69, Tryd.ntmps69
  go_upto_region 1 with fail
  change Code.wp _ _ _ _ (((w.alloc (.cells #[.slice A N c, .int .i64 n] 89)).alloc (.cells (ndB ns nh nl) 49)).alloc (.cells (ndB ⟨#[]⟩ 0 0) 49))
  generalize ((w.alloc (.cells #[.slice A N c, .int .i64 n] 89)).alloc (.cells (ndB ns nh nl) 49)).alloc (.cells (ndB ⟨#[]⟩ 0 0) 49) = W0 at *
  simp only [Nat.add_assoc, Nat.reduceAdd] at H0 ⊢
  obtain ⟨l0, l1, -, -, lin⟩ := (H0.box 2).two
  go_upto_region 2 with (first
    | (go_at_call 71; refine (cA _ (hR.on H0.below)).mono ?_; rintro e w1 ⟨rfl, b1⟩; have K1 := (H0.call b1).add 49 (ndB ss sh1 sl1))
    | fail)
  obtain ⟨h1, hh1⟩ : ∃ g, w1.heap.size = g := ⟨_, rfl⟩
  rw [hh1] at K1 ⊢
  change Code.wp _ _ _ _ (w1.alloc (.cells (ndB ss sh1 sl1) 49))
  generalize w1.alloc (.cells (ndB ss sh1 sl1) 49) = W1 at *
  have hlo := (K1.box 1).inside
  obtain ⟨x0, x1, x2, -, -, -, xin⟩ := (K1.box 0).three
  obtain ⟨y0, y1, y2, -, -, -, yin⟩ := (K1.box 2).three
  obtain ⟨z0, z1, -, -, zin⟩ := (K1.box 3).two
  have K2 := K1.add 49 (ndB ss sh1 sl1)
  have R2 := Sh.row_box (S := ndS) (d := [⟨ss, sh1, sl1⟩]) (K2.box 0)
  have cC2 := cC _ _ R2 (hT.call K2.below)
  have hne1 : w.heap.size + 2 ≠ h1 := by have := b1.size; have := (H0.box 0).inside; omega
  have hne2 : w.heap.size + 2 ≠ W1.heap.size := Nat.ne_of_lt hlo
  clear cA cC H0 b1 hh1 l0 l1 lin hR hT hxor
  go_wp2_with (first
    | (go_at_call 82; refine cC2.mono ?_; rintro e w3 ⟨rfl, b3⟩; have K3 := K2.call b3; obtain ⟨u0, u1, u2, u3, u4, u5, u6⟩ := (K3.box 2).three)
    | fail)
  have K4 : Has w [(w.heap.size + 2, 49, ndB ⟨#[]⟩ 0 0)] w3 := ⟨fun x hx => by obtain rfl := List.mem_singleton.1 hx; exact K3.box 2, K3.below⟩
  have E := told3 K4 (by omega) (fun x hx => by simp at hx) (.string rs) (.int .u64 rh') (.int .u64 rl')
  generalize World.setCell (World.setCell (World.setCell w3 _ _) _ _) _ _ = W9 at *
  obtain ⟨v0, v1, v2, -, -, -, -⟩ := (E.box 0).three
  exact bodyPost_ret (v := .tuple #[Nd.val ⟨rs, rh', rl'⟩, .int .i64 re]) (by simp [results, Tryd.results69, go_sem, Nd.val, v0, v1, v2]) rfl ⟨rfl, E.below⟩
end Go.Proofs.YtkecekfapiegjaaDoor
/-
  Package tree: a row of the same, each made one's own.
-/
namespace Go.Proofs.YtkecekfapiegjaaDoor
set_option linter.unusedVariables false
set_option linter.unusedSimpArgs false
set_option maxRecDepth 10000
open Go.RowKit

/-- A row made new, of nothing but zero ones. -/
theorem Sh.made {α : Type} (S : Sh α) (z : α) (cs : Array Value) (hz : cs.toList = S.cells z) (n : Nat) : (madeCells cs (n * S.k)).toList = S.flat (List.replicate n z) ++ [] := by
  rw [List.append_nil]
  have hk := S.pos
  have hsz : cs.size = S.k := by rw [← Array.length_toList, hz, S.len]
  apply List.ext_getElem?
  intro i
  by_cases hi : i < n * S.k
  · have hq : i / S.k < n := (Nat.div_lt_iff_lt_mul hk).2 hi
    have hr := Nat.mod_lt i hk
    have e : i = i / S.k * S.k + i % S.k := by rw [Nat.mul_comm]; exact (Nat.div_add_mod i S.k).symm
    rw [Array.getElem?_toList]
    unfold madeCells
    rw [Array.getElem?_map, Array.getElem?_range, if_pos hi]
    have e2 : (S.flat (List.replicate n z))[i]? = (S.cells z)[i % S.k]? := by
      have := S.flat_at (List.replicate n z) (i / S.k) z (by rw [List.getElem?_replicate, if_pos hq]) (i % S.k) hr
      rw [← e] at this
      exact this
    rw [e2, ← hz, hsz, Array.getElem?_toList]
    have h3 : i % S.k < cs.size := by omega
    rw [Array.getElem?_eq_getElem h3]
    simp [h3]
  · rw [List.getElem?_eq_none (by simp [madeCells]; omega), List.getElem?_eq_none (by rw [S.flat_len, List.length_replicate]; omega)]
theorem infoT_lf : (Tryd.prog.info? 34).map (fun i => (i.zero, i.size, i.bytes)) = some (some (.agg #[.bool false, .string ⟨#[]⟩, .string ⟨#[]⟩, .int .u64 0, .int .u64 0]), 5, 56) := by kernel_rfl
theorem infoT_nd : (Tryd.prog.info? 49).map (fun i => (i.zero, i.size, i.bytes)) = some (some (.agg #[.string ⟨#[]⟩, .int .u64 0, .int .u64 0]), 3, 32) := by kernel_rfl
theorem makeR_lf (n : Nat) (hn : n ≤ 1000000000) (u : World) : ∃ cs, (Instr.makeSlice 94 (.int .i64 (n : Int)) (.int .i64 (n : Int))).run Tryd.prog u = .ok (.slice (some ⟨u.heap.size, 0, none⟩) n n) (u.alloc (.cells cs 34)) ∧
    lfS.Blk (u.alloc (.cells cs 34)) 34 u.heap.size (List.replicate n Lf.zero) := by
  obtain ⟨i0, hi, hz0, hz1, hz2⟩ := info_parts infoT_lf
  have h := run_make (P := Tryd.prog) u 94 34 i0 _ Tryd.underlying94 hi hz0 .i64 .i64 (n : Int) (n : Int) (by omega) (by omega) (by rw [hz2]; omega) (by omega)
  rw [hz1, Int.toNat_natCast] at h
  exact ⟨_, h, _, [], Box.made _ _ _, lfS.made Lf.zero _ rfl n⟩
theorem makeR_nd (n : Nat) (hn : n ≤ 1000000000) (u : World) : ∃ cs, (Instr.makeSlice 87 (.int .i64 (n : Int)) (.int .i64 (n : Int))).run Tryd.prog u = .ok (.slice (some ⟨u.heap.size, 0, none⟩) n n) (u.alloc (.cells cs 49)) ∧
    ndS.Blk (u.alloc (.cells cs 49)) 49 u.heap.size (List.replicate n Nd.zero) := by
  obtain ⟨i0, hi, hz0, hz1, hz2⟩ := info_parts infoT_nd
  have h := run_make (P := Tryd.prog) u 87 49 i0 _ Tryd.underlying87 hi hz0 .i64 .i64 (n : Int) (n : Int) (by omega) (by omega) (by rw [hz2]; omega) (by omega)
  rw [hz1, Int.toNat_natCast] at h
  exact ⟨_, h, _, [], Box.made _ _ _, ndS.made Nd.zero _ rfl n⟩
/-- The first ones, and zero ones behind them. -/
def twL {α : Type} (z : α) (l : List α) (k : Nat) : List α := l.take k ++ List.replicate (l.length - k) z
theorem twL_len {α : Type} (z : α) (l : List α) {k : Nat} (hk : k ≤ l.length) : (twL z l k).length = l.length := by simp [twL]; omega
theorem twL_zero {α : Type} (z : α) (l : List α) : twL z l 0 = List.replicate l.length z := by simp [twL]
theorem twL_all {α : Type} (z : α) (l : List α) : twL z l l.length = l := by simp [twL]
theorem twL_set {α : Type} (z : α) {l : List α} {k : Nat} {x : α} (h : l[k]? = some x) : (twL z l k).set k x = twL z l (k + 1) := by
  obtain ⟨hk, e⟩ := List.getElem?_eq_some_iff.1 h
  unfold twL
  rw [List.take_add_one, h, List.set_append_right _ _ (by simp; omega), List.length_take, Nat.min_eq_left (by omega), Nat.sub_self,
    show l.length - k = (l.length - (k + 1)) + 1 by omega, List.replicate_succ, List.set_cons_zero]
  simp
set_option maxRecDepth 100000 in
set_option maxHeartbeats 4000000 in
theorem twinLf_any (A : Option Addr) (c : Nat) (l : List Lf) (hl : l.length ≤ 1000000) (hs : ∀ x ∈ l, x.id.size ≤ 1000000 ∧ x.salt.size ≤ 1000000) (w : World) (hR : lfS.Row w w.heap.size A l) :
    Calls Tryd.prog 40 #[.slice A l.length c, .func (.func 41) #[] #[]] w (fun e w' => Below w.heap.size w w' ∧ ∃ g, e = .returned (.slice (some ⟨g, 0, none⟩) l.length l.length) ∧ w.heap.size ≤ g ∧ lfS.Blk w' 34 g l) := by
  obtain ⟨cs, hmk, B0⟩ := makeR_lf l.length (by omega) w
  rw [← twL_zero Lf.zero l] at B0
  obtain ⟨N, hN⟩ : ∃ N, l.length = N := ⟨_, rfl⟩
  have h0 := twL_all Lf.zero l
  rw [hN] at hl hmk h0 ⊢
  have HN := hideIt hN
  clear hN
  obtain ⟨g, hg⟩ : ∃ g, w.heap.size = g := ⟨_, rfl⟩
  have L0 : Below g w (w.alloc (.cells cs 34)) := by rw [← hg]; exact chainA (Below.refl _ _) _
  rw [hg] at hmk B0 hR ⊢
  have HGW := hideIt hg
  clear hg
  go_enter Tryd.func40, Tryd.ntmps40
  go_wp2
  generalize w.alloc (.cells cs 34) = W0 at *
  go_loopg [13] N (fun gk i wr => ∃ k : Nat, k ≤ N ∧ N - k ≤ gk ∧ i = .int .i64 k ∧ lfS.Blk wr 34 g (twL Lf.zero l k) ∧ Below g w wr)
  case atStart => exact ⟨0, Nat.zero_le _, by omega, rfl, B0, L0⟩
  case round =>
    obtain ⟨k, hk, hgk, rfl, hB, hb⟩ := hrel
    have HG := hideIt hgk
    clear hgk B0 L0 hmk
    by_cases hlt : k < N
    · obtain ⟨x, hx⟩ : ∃ x, l[k]? = some x := ⟨_, List.getElem?_eq_getElem (by rw [HN.out]; exact hlt)⟩
      have hst := twL_set Lf.zero hx
      have hlen := twL_len Lf.zero l (k := k) (by rw [HN.out]; exact hk)
      rw [HN.out] at hlen
      obtain ⟨hs1, hs2⟩ := hs x (List.mem_of_getElem? hx)
      have cO := fun u => ownLf15_any x hs1 hs2 u
      have hgin := hB.inside
      obtain ⟨ad, rfl, g1, p0, p1, p2, p3, p4⟩ := lf_get ((hR.call hb).more (Nat.le_of_lt hgin)) hx
      obtain ⟨xp, xi, xs, xh, xl⟩ := x
      simp only [Lf.val] at cO p0 p1 p2 p3 p4
      have HST := hideIt hst
      have hlti : (k : Int) < (N : Int) := by omega
      clear hx hst hs1 hs2
      go_upto_region 5 with fail
      have B1 := hB.call (chainA (Below.refl wr.heap.size wr) (.cells (lfB xp xi xs xh xl) 34))
      have X1 := Box.made wr 34 (lfB xp xi xs xh xl)
      have L1 : Below g w (wr.alloc (.cells (lfB xp xi xs xh xl) 34)) := hb.alloc (Nat.le_of_lt hgin) _
      change Code.wp _ _ _ _ (wr.alloc (.cells (lfB xp xi xs xh xl) 34))
      obtain ⟨h, hh⟩ : ∃ h, wr.heap.size = h := ⟨_, rfl⟩
      rw [hh] at X1 hgin ⊢
      generalize wr.alloc (.cells (lfB xp xi xs xh xl) 34) = W1 at *
      obtain ⟨⟨x0, x1, x2, x3, x4⟩, -, xin⟩ := X1.five0
      clear p0 p1 p2 p3 p4 g1 hh X1 hB hb
      go_wp2_with (first
        | (go_at_call 41; refine (cO _).mono ?_; rintro e w5 ⟨rfl, b5⟩; have B5 := B1.call b5; have L5 := L1.trans (b5.mono (Nat.le_trans (Nat.le_of_lt hgin) (Nat.le_of_lt xin)))
           obtain ⟨y, hy, e0, e1, e2, e3, e4⟩ := lf_there B5 k (by rw [hlen]; exact hlt)
           have f0 := B5.free (k * 5)
           have f1 := B5.free (k * 5 + 1)
           have f2 := B5.free (k * 5 + 2)
           have f3 := B5.free (k * 5 + 3)
           have f4 := B5.free (k * 5 + 4)
           have hin5 := B5.inside)
        | fail)
      go_roundg (N - (k + 1))
      case measure => have := HG.out; omega
      case rel =>
        have P := lf_put B5 k ⟨xp, xi, xs, xh, xl⟩ (by rw [hlen]; exact hlt)
        rw [HST.out] at P
        exact ⟨k + 1, by omega, Nat.le_refl _, by go_num, P, L5.trans ((putLf_off w5 g k ⟨xp, xi, xs, xh, xl⟩).below (fun i hi => by have : i = g := hi; omega) (Nat.le_of_lt hin5))⟩
    · have e : k = N := by omega
      subst e
      rw [h0] at hB
      clear HG
      go_wp2
      exact bodyPost_ret (results_tmp rfl _ _ _) rfl ⟨hb, g, rfl, Nat.le_refl _, hB⟩
end Go.Proofs.YtkecekfapiegjaaDoor
/-
  Package tree: what is wrong with a width and leaves.
-/
namespace Go.Proofs.YtkecekfapiegjaaDoor
set_option linter.unusedVariables false
set_option linter.unusedSimpArgs false
set_option maxRecDepth 10000
open Go.RowKit

/-- What is wrong with a width and leaves. -/
def wrongT (w : Int) (l : List Lf) : Int := if mayW w = true then (if mayN l.length = true then (if l.all Lf.may = true then 0 else 130) else 120) else 70
set_option maxRecDepth 100000 in
set_option maxHeartbeats 4000000 in
theorem wrong15_any (n : Int) (A : Option Addr) (c : Nat) (l : List Lf) (hl : l.length ≤ 9223372036854775807) (hs : ∀ x ∈ l, x.id.size ≤ 9223372036854775807 ∧ x.salt.size ≤ 9223372036854775807) (w : World) (hR : lfS.Row w w.heap.size A l) (hU : TabU w) :
    Calls Tryd.prog 37 #[.int .i64 n, .slice A l.length c] w (Tells (.int .i64 (wrongT n l)) w.heap.size w) := by
  have cW := fun u => mayWidth_any n u
  have cM := fun u => mayMany_any l.length hl u
  have eV : wrongT n l = if mayW n = true then (if mayN l.length = true then (if l.all Lf.may = true then 0 else 130) else 120) else 70 := rfl
  obtain ⟨V, hV⟩ : ∃ V, wrongT n l = V := ⟨_, rfl⟩
  rw [hV] at eV ⊢
  obtain ⟨N, hN⟩ : ∃ N, l.length = N := ⟨_, rfl⟩
  rw [hN] at cM eV hl ⊢
  have HN := hideIt hN
  generalize mayW n = bw at *
  generalize mayN N = bn at *
  clear hV hN
  cases bw with
  | false =>
    rw [if_neg (by decide)] at eV
    subst eV
    go_enter Tryd.func37, Tryd.ntmps37
    go_wp2
    go_step3
    go_wp2
    go_step3
    go_wp2_with (first
      | (go_at_call 51; refine (cW _).mono ?_; rintro e w1 ⟨rfl, rfl⟩)
      | fail)
    rw [Exit.noGoto_ret]
    go_ret
    exact ⟨rfl, Below.refl _ _⟩
  | true =>
    rw [if_pos rfl] at eV
    cases bn with
    | false =>
      rw [if_neg (by decide)] at eV
      subst eV
      go_enter Tryd.func37, Tryd.ntmps37
      go_wp2
      go_step3
      go_wp2
      go_step3
      go_wp2_with (first
        | (go_at_call 51; refine (cW _).mono ?_; rintro e w1 ⟨rfl, rfl⟩)
        | (go_at_call 68; refine (cM _).mono ?_; rintro e w1 ⟨rfl, rfl⟩)
        | fail)
      rw [Exit.noGoto_ret]
      go_ret
      exact ⟨rfl, Below.refl _ _⟩
    | true =>
      rw [if_pos rfl] at eV
      have HV := hideIt eV
      clear eV
      go_enter Tryd.func37, Tryd.ntmps37
      go_wp2
      go_step3
      go_wp2
      go_step3
      go_wp2_with (first
        | (go_at_call 51; refine (cW _).mono ?_; rintro e w1 ⟨rfl, rfl⟩)
        | (go_at_call 68; refine (cM _).mono ?_; rintro e w1 ⟨rfl, rfl⟩)
        | fail)
      go_loopg [5, 10] N (fun gk s i wr => ∃ k : Nat, k ≤ N ∧ N - k ≤ gk ∧ s = .int .i64 0 ∧ i = .int .i64 k ∧ (∀ j x, j < k → l[j]? = some x → x.may = true) ∧ Below w.heap.size w wr)
      case atStart => exact ⟨0, Nat.zero_le _, by omega, rfl, rfl, fun j x hj => absurd hj (Nat.not_lt_zero _), Below.refl _ _⟩
      case round =>
        obtain ⟨k, hk, hgk, rfl, rfl, hall, hb3⟩ := hrel
        have HG := hideIt hgk
        have HA := hideIt hall
        clear hgk hall cW cM
        by_cases hlt : k < N
        · obtain ⟨x, hx⟩ : ∃ x, l[k]? = some x := ⟨_, List.getElem?_eq_getElem (by rw [HN.out]; exact hlt)⟩
          have hlti : (k : Int) < (N : Int) := by omega
          obtain ⟨hs1, hs2⟩ := hs x (List.mem_of_getElem? hx)
          obtain ⟨t, ht⟩ : ∃ t, x.may = t := ⟨_, rfl⟩
          have cM := fun u hu => mayLeaf_any x hs1 hs2 u hu
          rw [ht] at cM
          obtain ⟨ad, rfl, g1, p0, p1, p2, p3, p4⟩ := lf_get (hR.on hb3) hx
          have HX := hideIt hx
          have HT := hideIt ht
          obtain ⟨xp, xi, xs, xh, xl⟩ := x
          simp only [Lf.val] at cM p0 p1 p2 p3 p4
          have L1 := chainA hb3 (.cells (lfB xp xi xs xh xl) 34)
          have U1 := hU.call L1
          clear hx ht hs1 hs2
          cases t with
          | true =>
            go_wp2_with (first | (go_at_call 67; refine (cM _ U1).mono ?_; rintro e w2 ⟨rfl, b2⟩) | fail)
            go_roundg (N - (k + 1))
            case measure => have := HG.out; omega
            case rel => exact ⟨k + 1, by omega, Nat.le_refl _, rfl, by go_num, fun j x hj hx => by
                by_cases e : j = k
                · subst e
                  rw [HX.out] at hx
                  injection hx with hx
                  rw [← hx]
                  exact HT.out
                · exact HA.out j x (by omega) hx, chain L1 b2⟩
          | false =>
            have hno : V = 130 := by
              rw [HV.out, if_neg]
              intro h
              have := List.all_eq_true.1 h _ (List.mem_of_getElem? HX.out)
              rw [HT.out] at this
              cases this
            subst hno
            go_wp2_with (first | (go_at_call 67; refine (cM _ U1).mono ?_; rintro e w2 ⟨rfl, b2⟩) | fail)
            rw [Exit.noGoto_ret]
            go_ret
            exact ⟨rfl, chain L1 b2⟩
        · have e : k = N := by omega
          subst e
          have hyes : V = 0 := by
            rw [HV.out, if_pos]
            exact List.all_eq_true.2 fun x hx => by
              obtain ⟨j, hj⟩ := List.getElem?_of_mem hx
              exact HA.out j x (by have := (List.getElem?_eq_some_iff.1 hj).1; rw [HN.out] at this; exact this) hj
          subst hyes
          go_wp2
          rw [Exit.noGoto_ret]
          go_ret
          exact ⟨rfl, hb3⟩
end Go.Proofs.YtkecekfapiegjaaDoor
/-
  Package tree: the level of the leaves' nodes.
-/
namespace Go.Proofs.YtkecekfapiegjaaDoor
set_option linter.unusedVariables false
set_option linter.unusedSimpArgs false
set_option maxRecDepth 10000
open Go.RowKit
attribute [local go_sem] Oper.semAt_some

def ndR : El ndS := ⟨87, 49, .agg #[.string ⟨#[]⟩, .int .u64 0, .int .u64 0], 32, Tryd.underlying87, by kernel_rfl, rfl, by decide⟩
theorem ndR_app1 (w : World) (base : Nat) (v : Value) (n : Nat) (ys : List Nd) (hown : w.ownsRow base 49 3 v n (ndS.flat ys)) (x : Nd) (hm : n ≤ 100000000) (hb : base ≤ w.heap.size) :
    ∃ v' w', (∀ ty, (Builtin.append_ #[87, 87] ty #[v, .slice (some ⟨w.heap.size, 0, none⟩) 1 1]).run Tryd.prog (w.alloc (.cells (ndB x.hash x.h x.l) 49)) = .ok v' w') ∧
      w'.ownsRow base 49 3 v' (n + 1) (ndS.flat (ys ++ [x])) ∧ (w.alloc (.cells (ndB x.hash x.h x.l) 49)).grownBy w' v.ownBlock ∧ Below base w w' := ndR.app1 w base v n ys hown x _ rfl hm hb
theorem own_other {W : World} {b k n g : Nat} {T : TypeId} {v : Value} {xs : List Value} (h : W.ownsRow b T k v n xs) (hg : W.heap.size ≤ g ∨ g < b) : some g ≠ v.ownBlock := fun e => by
  have := h.lt g e.symm
  omega
theorem own_slice {W : World} {b k n : Nat} {T : TypeId} {v : Value} {xs : List Value} (h : W.ownsRow b T k v n xs) : ∃ A c, v = .slice A n c := by
  rcases h.2 with ⟨h1, h2⟩ | ⟨g, cap, cur, hv, -⟩
  · exact ⟨none, 0, by rw [h1, h2]⟩
  · exact ⟨_, _, hv⟩
set_option maxRecDepth 100000 in
set_option maxHeartbeats 8000000 in
theorem ground15_any (n : Int) (A : Option Addr) (c : Nat) (l : List Lf) (hm : l.length ≤ 1000000) (hx : ∀ x ∈ l, (x.id.size ≤ 1000000 ∧ x.salt.size ≤ 1000000) ∧ Word x.h ∧ Word x.l) (w : World) (hR : lfS.Row w w.heap.size A l) (hK : Tab w) (hU : TabU w) :
    Calls Tryd.prog 38 #[.int .i64 n, .slice A l.length c] w (fun e w' => ∃ v, e = .returned (.agg #[v, .int .i64 n]) ∧ w'.ownsRow (w.heap.size + 2) 49 3 v l.length (ndS.flat (l.map (nodeOf n))) ∧ Below w.heap.size w w') := by
  obtain ⟨N, hN⟩ : ∃ N, l.length = N := ⟨_, rfl⟩
  rw [hN] at hm ⊢
  have HN := hideIt hN
  clear hN
  have hK0 := hK
  have hU0 := hU
  clear hK
  obtain ⟨h, hh⟩ : ∃ h, w.heap.size = h := ⟨_, rfl⟩
  have H0 := ((Has.start w).addAt 89 #[.slice none 0 0, .int .i64 0] hh).addAt 89 #[.slice none 0 0, .int .i64 n] (g := h + 1) (by simp [hh])
  have hs0 : ((w.alloc (.cells #[.slice none 0 0, .int .i64 0] 89)).alloc (.cells #[.slice none 0 0, .int .i64 n] 89)).heap.size = h + 2 := by simp [hh]
  go_enter Tryd.func38, Tryd.ntmps38
  go_upto_region 2 with fail
  change Code.wp _ _ _ _ ((w.alloc (.cells #[.slice none 0 0, .int .i64 0] 89)).alloc (.cells #[.slice none 0 0, .int .i64 n] 89))
  generalize (w.alloc (.cells #[.slice none 0 0, .int .i64 0] 89)).alloc (.cells #[.slice none 0 0, .int .i64 n] 89) = W0 at *
  have HS0 := hideIt hs0
  have HH := hideIt hh
  clear hs0 hh
  go_wp2
  go_loopg [12] N (fun gk i wr => ∃ (k : Nat) (v : Value), k ≤ N ∧ N - k ≤ gk ∧ i = .int .i64 k ∧ Has w [(h + 1, 89, #[v, .int .i64 n]), (h, 89, #[.slice none 0 0, .int .i64 0])] wr ∧ wr.ownsRow (h + 2) 49 3 v k (ndS.flat ((l.map (nodeOf n)).take k)))
  case atStart => exact ⟨0, _, Nat.zero_le _, by omega, rfl, H0, by rw [List.take_zero]; exact World.ownsRow_nil _ _ _ _⟩
  case round =>
    obtain ⟨k, v, hk, hgk, rfl, H, hown⟩ := hrel
    have HG := hideIt hgk
    clear hgk H0
    by_cases hlt : k < N
    · obtain ⟨x, hx0⟩ : ∃ r, l[k]? = some r := ⟨_, List.getElem?_eq_getElem (by rw [HN.out]; omega)⟩
      have htk : (l.map (nodeOf n)).take (k + 1) = (l.map (nodeOf n)).take k ++ [nodeOf n x] := by rw [List.take_add_one, List.getElem?_map, hx0]; rfl
      obtain ⟨⟨h1, h2⟩, h3, h4⟩ := hx x (List.mem_of_getElem? hx0)
      have cN := fun u hu hv => leafNode_any n x h1 h2 h3 h4 u hu hv
      obtain ⟨⟨js, jh, jl⟩, hJ⟩ : ∃ V, nodeOf n x = V := ⟨_, rfl⟩
      rw [hJ] at cN htk
      obtain ⟨ad, rfl, g1, p0, p1, p2, p3, p4⟩ := lf_get (hR.on H.below) hx0
      obtain ⟨xp, xi, xs, xh, xl⟩ := x
      simp only [Nd.val, Lf.val] at cN p0 p1 p2 p3 p4
      have HTK := hideIt htk
      have hlti : (k : Int) < (N : Int) := by omega
      clear hx0 htk hJ h1 h2 h3 h4
      go_upto_region 5 with fail
      have O1 := hown.alloc (.cells (lfB xp xi xs xh xl) 34)
      have X1 := Box.made wr 34 (lfB xp xi xs xh xl)
      have H1 := H.past (.cells (lfB xp xi xs xh xl) 34)
      have hsz : h + 2 ≤ wr.heap.size := by have := (H.box 0).inside; omega
      change Code.wp _ _ _ _ (wr.alloc (.cells (lfB xp xi xs xh xl) 34))
      obtain ⟨g, hg⟩ : ∃ g, wr.heap.size = g := ⟨_, rfl⟩
      have hgg : (wr.alloc (.cells (lfB xp xi xs xh xl) 34)).heap.size = g + 1 := by simp [hg]
      rw [hg] at X1 hsz ⊢
      have hob : ∀ r, v.ownBlock = some r → r < g := fun r hr => by have := hown.lt r hr; omega
      generalize wr.alloc (.cells (lfB xp xi xs xh xl) 34) = W1 at *
      have hsz1 : h + 2 ≤ W1.heap.size := by omega
      have hK1 := hK0.call H1.below
      have hU1 := hU0.call H1.below
      have F1 := H1.box 0
      have HGG := hideIt hgg
      clear p0 p1 p2 p3 p4 g1 hg hown hgg
      have hS : ∀ u, Below W1.heap.size W1 u → (u.cell? ⟨g, 0, none⟩ = some (.bool xp) ∧ u.cell? ⟨g, 1, none⟩ = some (.string xi) ∧ u.cell? ⟨g, 2, none⟩ = some (.string xs) ∧ u.cell? ⟨g, 3, none⟩ = some (.int .u64 xh) ∧ u.cell? ⟨g, 4, none⟩ = some (.int .u64 xl)) ∧ g < u.heap.size := fun u hu =>
        ⟨(X1.call hu).five0.1, (X1.call hu).inside⟩
      have b0 := (Below.refl W1.heap.size W1).drew
      refine wp_region_held_drew (S := fun u => (u.cell? ⟨g, 0, none⟩ = some (.bool xp) ∧ u.cell? ⟨g, 1, none⟩ = some (.string xi) ∧ u.cell? ⟨g, 2, none⟩ = some (.string xs) ∧ u.cell? ⟨g, 3, none⟩ = some (.int .u64 xh) ∧ u.cell? ⟨g, 4, none⟩ = some (.int .u64 xl)) ∧ g < u.heap.size) (by kernel_rfl) (hS _ b0) (fun hHeld => ?_)
      obtain ⟨y0, y1, yf0, yf1, yin⟩ := (F1.call b0).two
      refine wpAnyH_take (i := 0) (v := ?_) rfl (by kernel_rfl) (by kernel_rfl) (by kernel_rfl) (fun _ _ _ h => h) (Or.inl ⟨by rfl, ?_⟩) (by assumption) ?_
      rotate_left 1
      · intro w hSw; (try dsimp only at hSw); go_simp; try with_reducible rfl
      try simp only [Act.put, List.getElem_toArray, List.getElem_cons_succ, List.getElem_cons_zero, List.setIfInBounds_toArray, List.set_cons_zero, List.set_cons_succ]
      refine wpAnyH_take (i := 2) (v := ?_) rfl (by kernel_rfl) (by kernel_rfl) (by kernel_rfl) (fun _ _ _ h => h) (Or.inl ⟨by rfl, ?_⟩) (by assumption) ?_
      rotate_left 1
      · intro w hSw; (try dsimp only at hSw); go_simp; try with_reducible rfl
      try simp only [Act.put, List.getElem_toArray, List.getElem_cons_succ, List.getElem_cons_zero, List.setIfInBounds_toArray, List.set_cons_zero, List.set_cons_succ]
      refine wpAnyH_take (i := 3) (v := ?_) rfl (by kernel_rfl) (by kernel_rfl) (by kernel_rfl) (fun _ _ _ h => h) (Or.inl ⟨by rfl, ?_⟩) (by assumption) ?_
      rotate_left 1
      · intro w hSw; (try dsimp only at hSw); go_simp; try with_reducible rfl
      try simp only [Act.put, List.getElem_toArray, List.getElem_cons_succ, List.getElem_cons_zero, List.setIfInBounds_toArray, List.set_cons_zero, List.set_cons_succ]
      refine wpAnyH_ready (rs := [1, 4]) (by kernel_rfl) (by simp) (AllReadyH.cons rfl (fun K hK => ?_) (AllReadyH.cons rfl (fun K hK => ?_) AllReadyH.nil))
      · go_simp
        refine hK.out _ _ (hS _ b0) (fun hHeld => ?_)
        clear hK K
        try simp only [Act.put, List.getElem_toArray, List.getElem_cons_succ, List.getElem_cons_zero, List.setIfInBounds_toArray, List.set_cons_zero, List.set_cons_succ]
        refine wpAnyH_ready (rs := [4]) (by kernel_rfl) (by simp) (AllReadyH.cons rfl (fun K hK => ?_) AllReadyH.nil)
        go_simp
        clear y0 y1 yf0 yf1 yin
        go_at_call 36
        refine (cN _ (hK1.call b0) (hU1.call b0)).mono ?_
        rintro e w3 ⟨rfl, b3⟩
        have b4 := chain b0 b3
        have b5 := chainA b4 (.cells (ndB js jh jl) 49)
        obtain ⟨y0, y1, yf0, yf1, yin⟩ := (F1.call b4).two
        obtain ⟨z0, z1, zf0, zf1, zin⟩ := (F1.call b5).two
        try simp only []
        refine hK.out _ _ (hS _ b4) (fun hHeld => ?_)
        clear hK K
        try simp only [Act.put, List.getElem_toArray, List.getElem_cons_succ, List.getElem_cons_zero, List.setIfInBounds_toArray, List.set_cons_zero, List.set_cons_succ]
        refine wpAnyH_ready (rs := [5]) (by kernel_rfl) (by simp) (AllReadyH.cons rfl (fun K hK => ?_) AllReadyH.nil)
        go_simp
        refine hK.out _ _ (hS _ b5) (fun hHeld => ?_)
        clear hK K
        try simp only [Act.put, List.getElem_toArray, List.getElem_cons_succ, List.getElem_cons_zero, List.setIfInBounds_toArray, List.set_cons_zero, List.set_cons_succ]
        have O3 := own_below O1 b4
        obtain ⟨v', w6, hrun, o6, gr6, b6⟩ := ndR_app1 w3 (h + 2) v k ((l.map (nodeOf n)).take k) O3 ⟨js, jh, jl⟩ (by omega) (Nat.le_trans hsz1 b4.size)
        obtain ⟨A6, c6, rfl⟩ := own_slice o6
        have X6 : Box w6 g 34 (lfB xp xi xs xh xl) := (X1.call b5).grown gr6 (fun e => by have := hob g e.symm; omega)
        have F6 : Has w [(h + 1, 89, #[v, .int .i64 n]), (h, 89, #[.slice none 0 0, .int .i64 0])] w6 := ⟨fun x hx => by
          have hb := (H1.call b4).1 x hx
          simp only [List.mem_cons, List.not_mem_nil, or_false] at hx
          rcases hx with rfl | rfl
          · exact hb.below b6 (by show h + 1 < h + 2; omega)
          · exact hb.below b6 (by show h < h + 2; omega), (H1.call b4).below.trans (b6.mono (by rw [HH.out]; omega))⟩
        refine wpAnyH_ready (rs := [6]) (by kernel_rfl) (by simp) (AllReadyH.cons rfl (fun K hK => ?_) AllReadyH.nil)
        refine gen_step rfl _ _ _ rfl _ _ rfl rfl _ w6 hrun ?_
        refine hK.out _ _ (⟨X6.five0.1, X6.inside⟩) (fun hHeld => ?_)
        clear hK K
        try simp only [Act.put, List.getElem_toArray, List.getElem_cons_succ, List.getElem_cons_zero, List.setIfInBounds_toArray, List.set_cons_zero, List.set_cons_succ]
        refine wpAnyH_take (i := 7) (v := ?_) rfl (by kernel_rfl) (by kernel_rfl) (by kernel_rfl) (fun _ _ _ h => h) (Or.inl ⟨by rfl, ?_⟩) (by assumption) ?_
        rotate_left 1
        · intro w hSw; (try dsimp only at hSw); go_simp; try with_reducible rfl
        try simp only [Act.put, List.getElem_toArray, List.getElem_cons_succ, List.getElem_cons_zero, List.setIfInBounds_toArray, List.set_cons_zero, List.set_cons_succ]
        clear y0 y1 yf0 yf1 yin z0 z1 zf0 zf1 zin
        obtain ⟨y0, y1, yf0, yf1, yin⟩ := (F6.box 0).two
        refine wpAnyH_ready (rs := [8]) (by kernel_rfl) (by simp) (AllReadyH.cons rfl (fun K hK => ?_) AllReadyH.nil)
        go_simp
        have E := F6.wrote (by rw [HH.out]; omega) (fun x hx => by
          simp only [List.mem_cons, List.not_mem_nil, or_false] at hx
          rcases hx with rfl
          show h ≠ h + 1
          omega) 0 (.slice A6 (k + 1) c6)
        have o7 := own_apart o6 (p := ⟨h + 1, 0, none⟩) (fun e => by have := o6.lt _ e; simp only at this; omega) (.slice A6 (k + 1) c6)
        have X7 := X6.apart (p := ⟨h + 1, 0, none⟩) (by show g ≠ h + 1; omega) (.slice A6 (k + 1) c6)
        generalize World.setCell w6 _ _ = W9 at *
        refine hK.out _ _ (⟨X7.five0.1, X7.inside⟩) (fun hHeld => ?_)
        clear hK K
        try simp only [Act.put, List.getElem_toArray, List.getElem_cons_succ, List.getElem_cons_zero, List.setIfInBounds_toArray, List.set_cons_zero, List.set_cons_succ]
        refine wpAnyH_done (by kernel_rfl) ?_ _
        clear y0 y1 yf0 yf1 yin
        go_wp2
        go_roundg (N - (k + 1))
        case measure => have := HG.out; omega
        case rel => exact ⟨k + 1, _, by omega, Nat.le_refl _, by go_num, E, by rw [HTK.out]; exact o7⟩
      · go_simp
        clear y0 y1 yf0 yf1 yin
        go_at_call 36
        refine (cN _ (hK1.call b0) (hU1.call b0)).mono ?_
        rintro e w3 ⟨rfl, b3⟩
        have b4 := chain b0 b3
        have b5 := chainA b4 (.cells (ndB js jh jl) 49)
        obtain ⟨y0, y1, yf0, yf1, yin⟩ := (F1.call b4).two
        obtain ⟨z0, z1, zf0, zf1, zin⟩ := (F1.call b5).two
        try simp only []
        refine hK.out _ _ (hS _ b4) (fun hHeld => ?_)
        clear hK K
        try simp only [Act.put, List.getElem_toArray, List.getElem_cons_succ, List.getElem_cons_zero, List.setIfInBounds_toArray, List.set_cons_zero, List.set_cons_succ]
        refine wpAnyH_ready (rs := [1, 5]) (by kernel_rfl) (by simp) (AllReadyH.cons rfl (fun K hK => ?_) (AllReadyH.cons rfl (fun K hK => ?_) AllReadyH.nil))
        · go_simp
          refine hK.out _ _ (hS _ b4) (fun hHeld => ?_)
          clear hK K
          try simp only [Act.put, List.getElem_toArray, List.getElem_cons_succ, List.getElem_cons_zero, List.setIfInBounds_toArray, List.set_cons_zero, List.set_cons_succ]
          refine wpAnyH_ready (rs := [5]) (by kernel_rfl) (by simp) (AllReadyH.cons rfl (fun K hK => ?_) AllReadyH.nil)
          go_simp
          refine hK.out _ _ (hS _ b5) (fun hHeld => ?_)
          clear hK K
          try simp only [Act.put, List.getElem_toArray, List.getElem_cons_succ, List.getElem_cons_zero, List.setIfInBounds_toArray, List.set_cons_zero, List.set_cons_succ]
          have O3 := own_below O1 b4
          obtain ⟨v', w6, hrun, o6, gr6, b6⟩ := ndR_app1 w3 (h + 2) v k ((l.map (nodeOf n)).take k) O3 ⟨js, jh, jl⟩ (by omega) (Nat.le_trans hsz1 b4.size)
          obtain ⟨A6, c6, rfl⟩ := own_slice o6
          have X6 : Box w6 g 34 (lfB xp xi xs xh xl) := (X1.call b5).grown gr6 (fun e => by have := hob g e.symm; omega)
          have F6 : Has w [(h + 1, 89, #[v, .int .i64 n]), (h, 89, #[.slice none 0 0, .int .i64 0])] w6 := ⟨fun x hx => by
            have hb := (H1.call b4).1 x hx
            simp only [List.mem_cons, List.not_mem_nil, or_false] at hx
            rcases hx with rfl | rfl
            · exact hb.below b6 (by show h + 1 < h + 2; omega)
            · exact hb.below b6 (by show h < h + 2; omega), (H1.call b4).below.trans (b6.mono (by rw [HH.out]; omega))⟩
          refine wpAnyH_ready (rs := [6]) (by kernel_rfl) (by simp) (AllReadyH.cons rfl (fun K hK => ?_) AllReadyH.nil)
          refine gen_step rfl _ _ _ rfl _ _ rfl rfl _ w6 hrun ?_
          refine hK.out _ _ (⟨X6.five0.1, X6.inside⟩) (fun hHeld => ?_)
          clear hK K
          try simp only [Act.put, List.getElem_toArray, List.getElem_cons_succ, List.getElem_cons_zero, List.setIfInBounds_toArray, List.set_cons_zero, List.set_cons_succ]
          refine wpAnyH_take (i := 7) (v := ?_) rfl (by kernel_rfl) (by kernel_rfl) (by kernel_rfl) (fun _ _ _ h => h) (Or.inl ⟨by rfl, ?_⟩) (by assumption) ?_
          rotate_left 1
          · intro w hSw; (try dsimp only at hSw); go_simp; try with_reducible rfl
          try simp only [Act.put, List.getElem_toArray, List.getElem_cons_succ, List.getElem_cons_zero, List.setIfInBounds_toArray, List.set_cons_zero, List.set_cons_succ]
          clear y0 y1 yf0 yf1 yin z0 z1 zf0 zf1 zin
          obtain ⟨y0, y1, yf0, yf1, yin⟩ := (F6.box 0).two
          refine wpAnyH_ready (rs := [8]) (by kernel_rfl) (by simp) (AllReadyH.cons rfl (fun K hK => ?_) AllReadyH.nil)
          go_simp
          have E := F6.wrote (by rw [HH.out]; omega) (fun x hx => by
            simp only [List.mem_cons, List.not_mem_nil, or_false] at hx
            rcases hx with rfl
            show h ≠ h + 1
            omega) 0 (.slice A6 (k + 1) c6)
          have o7 := own_apart o6 (p := ⟨h + 1, 0, none⟩) (fun e => by have := o6.lt _ e; simp only at this; omega) (.slice A6 (k + 1) c6)
          have X7 := X6.apart (p := ⟨h + 1, 0, none⟩) (by show g ≠ h + 1; omega) (.slice A6 (k + 1) c6)
          generalize World.setCell w6 _ _ = W9 at *
          refine hK.out _ _ (⟨X7.five0.1, X7.inside⟩) (fun hHeld => ?_)
          clear hK K
          try simp only [Act.put, List.getElem_toArray, List.getElem_cons_succ, List.getElem_cons_zero, List.setIfInBounds_toArray, List.set_cons_zero, List.set_cons_succ]
          refine wpAnyH_done (by kernel_rfl) ?_ _
          clear y0 y1 yf0 yf1 yin
          go_wp2
          go_roundg (N - (k + 1))
          case measure => have := HG.out; omega
          case rel => exact ⟨k + 1, _, by omega, Nat.le_refl _, by go_num, E, by rw [HTK.out]; exact o7⟩
        · go_simp
          refine hK.out _ _ (hS _ b5) (fun hHeld => ?_)
          clear hK K
          try simp only [Act.put, List.getElem_toArray, List.getElem_cons_succ, List.getElem_cons_zero, List.setIfInBounds_toArray, List.set_cons_zero, List.set_cons_succ]
          refine wpAnyH_ready (rs := [1]) (by kernel_rfl) (by simp) (AllReadyH.cons rfl (fun K hK => ?_) AllReadyH.nil)
          go_simp
          refine hK.out _ _ (hS _ b5) (fun hHeld => ?_)
          clear hK K
          try simp only [Act.put, List.getElem_toArray, List.getElem_cons_succ, List.getElem_cons_zero, List.setIfInBounds_toArray, List.set_cons_zero, List.set_cons_succ]
          have O3 := own_below O1 b4
          obtain ⟨v', w6, hrun, o6, gr6, b6⟩ := ndR_app1 w3 (h + 2) v k ((l.map (nodeOf n)).take k) O3 ⟨js, jh, jl⟩ (by omega) (Nat.le_trans hsz1 b4.size)
          obtain ⟨A6, c6, rfl⟩ := own_slice o6
          have X6 : Box w6 g 34 (lfB xp xi xs xh xl) := (X1.call b5).grown gr6 (fun e => by have := hob g e.symm; omega)
          have F6 : Has w [(h + 1, 89, #[v, .int .i64 n]), (h, 89, #[.slice none 0 0, .int .i64 0])] w6 := ⟨fun x hx => by
            have hb := (H1.call b4).1 x hx
            simp only [List.mem_cons, List.not_mem_nil, or_false] at hx
            rcases hx with rfl | rfl
            · exact hb.below b6 (by show h + 1 < h + 2; omega)
            · exact hb.below b6 (by show h < h + 2; omega), (H1.call b4).below.trans (b6.mono (by rw [HH.out]; omega))⟩
          refine wpAnyH_ready (rs := [6]) (by kernel_rfl) (by simp) (AllReadyH.cons rfl (fun K hK => ?_) AllReadyH.nil)
          refine gen_step rfl _ _ _ rfl _ _ rfl rfl _ w6 hrun ?_
          refine hK.out _ _ (⟨X6.five0.1, X6.inside⟩) (fun hHeld => ?_)
          clear hK K
          try simp only [Act.put, List.getElem_toArray, List.getElem_cons_succ, List.getElem_cons_zero, List.setIfInBounds_toArray, List.set_cons_zero, List.set_cons_succ]
          refine wpAnyH_take (i := 7) (v := ?_) rfl (by kernel_rfl) (by kernel_rfl) (by kernel_rfl) (fun _ _ _ h => h) (Or.inl ⟨by rfl, ?_⟩) (by assumption) ?_
          rotate_left 1
          · intro w hSw; (try dsimp only at hSw); go_simp; try with_reducible rfl
          try simp only [Act.put, List.getElem_toArray, List.getElem_cons_succ, List.getElem_cons_zero, List.setIfInBounds_toArray, List.set_cons_zero, List.set_cons_succ]
          clear y0 y1 yf0 yf1 yin z0 z1 zf0 zf1 zin
          obtain ⟨y0, y1, yf0, yf1, yin⟩ := (F6.box 0).two
          refine wpAnyH_ready (rs := [8]) (by kernel_rfl) (by simp) (AllReadyH.cons rfl (fun K hK => ?_) AllReadyH.nil)
          go_simp
          have E := F6.wrote (by rw [HH.out]; omega) (fun x hx => by
            simp only [List.mem_cons, List.not_mem_nil, or_false] at hx
            rcases hx with rfl
            show h ≠ h + 1
            omega) 0 (.slice A6 (k + 1) c6)
          have o7 := own_apart o6 (p := ⟨h + 1, 0, none⟩) (fun e => by have := o6.lt _ e; simp only at this; omega) (.slice A6 (k + 1) c6)
          have X7 := X6.apart (p := ⟨h + 1, 0, none⟩) (by show g ≠ h + 1; omega) (.slice A6 (k + 1) c6)
          generalize World.setCell w6 _ _ = W9 at *
          refine hK.out _ _ (⟨X7.five0.1, X7.inside⟩) (fun hHeld => ?_)
          clear hK K
          try simp only [Act.put, List.getElem_toArray, List.getElem_cons_succ, List.getElem_cons_zero, List.setIfInBounds_toArray, List.set_cons_zero, List.set_cons_succ]
          refine wpAnyH_done (by kernel_rfl) ?_ _
          clear y0 y1 yf0 yf1 yin
          go_wp2
          go_roundg (N - (k + 1))
          case measure => have := HG.out; omega
          case rel => exact ⟨k + 1, _, by omega, Nat.le_refl _, by go_num, E, by rw [HTK.out]; exact o7⟩
    · have e : k = N := by omega
      subst e
      have hlti : ¬ ((k : Int) < (k : Int)) := by omega
      rw [List.take_of_length_le (by rw [List.length_map, HN.out]; exact Nat.le_refl _)] at hown
      obtain ⟨Av, cv, rfl⟩ := own_slice hown
      obtain ⟨y0, y1, yf0, yf1, yin⟩ := (H.box 0).two
      obtain ⟨z0, z1, zf0, zf1, zin⟩ := (H.box 1).two
      go_wp2
      have hw1 : w.heap.size ≤ h := Nat.le_of_eq HH.out
      have hne : ∀ x ∈ ([(h + 1, 89, #[.slice Av k cv, .int .i64 n])] : List Blk), x.1 ≠ h := fun x hx => by
        obtain rfl := List.mem_singleton.1 hx
        show h + 1 ≠ h
        omega
      have E := (H.swap.wrote hw1 hne 0 (.slice Av k cv)).wrote hw1 hne 1 (.int .i64 n)
      have o7 := own_apart (own_apart hown (p := ⟨h, 0, none⟩) (fun e => by have := hown.lt _ e; simp only at this; omega) (.slice Av k cv)) (p := ⟨h, 1, none⟩) (fun e => by have := hown.lt _ e; simp only at this; omega) (.int .i64 n)
      generalize World.setCell (World.setCell wr _ _) _ _ = W9 at *
      obtain ⟨r0, r1, -, -, -⟩ := Box.two (show Box W9 h 89 #[.slice Av k cv, .int .i64 n] from E.box 0)
      exact bodyPost_ret (v := .agg #[.slice Av k cv, .int .i64 n]) (by simp [results, Tryd.results38, go_sem, r0, r1]) rfl ⟨_, rfl, by rw [HH.out]; exact o7, E.below⟩
end Go.Proofs.YtkecekfapiegjaaDoor
/-
  Package tree: the level above one.
-/
namespace Go.Proofs.YtkecekfapiegjaaDoor
set_option linter.unusedVariables false
set_option linter.unusedSimpArgs false
set_option maxRecDepth 10000
open Go.RowKit

theorem okP_iff (n : Int) {m : Nat} {l : List Nd} (hm : l.length = m + m) : okP n (pairsK l) = true ↔ ∀ (j : Nat) x y, l[j + j]? = some x → l[j + j + 1]? = some y → (joinS n x y).2 = 0 := by
  rw [okP, List.all_eq_true]
  constructor
  · intro h j x y hx hy
    exact of_decide_eq_true (h _ (List.mem_of_getElem? (pairsK_at j l x y hx hy)))
  · intro h p hp
    obtain ⟨j, hj⟩ := List.getElem?_of_mem hp
    have hjm : j < m := by have := (List.getElem?_eq_some_iff.1 hj).1; rw [pairsK_len m l hm] at this; exact this
    obtain ⟨x, hx⟩ : ∃ x, l[j + j]? = some x := ⟨_, List.getElem?_eq_getElem (show j + j < l.length by omega)⟩
    obtain ⟨y, hy⟩ : ∃ y, l[j + j + 1]? = some y := ⟨_, List.getElem?_eq_getElem (show j + j + 1 < l.length by omega)⟩
    have := pairsK_at j l x y hx hy
    rw [hj] at this
    injection this with this
    subst this
    exact decide_eq_true (h j x y hx hy)
theorem sib_even (k : Nat) : sib (k + k) = k + k + 1 := by unfold sib; rw [if_neg (by omega)]
theorem climb_even (n : Int) (a b : Nd) (k : Nat) : climbS n a (k + k) [b] = if (joinS n a b).2 = 0 then ((joinS n a b).1, 0) else (Nd.zero, 10) := by
  have h : ¬ (k + k) % 2 = 1 := by omega
  rw [climb_one, if_neg h, if_neg h]
set_option maxRecDepth 100000 in
set_option maxHeartbeats 8000000 in
theorem above15_any (n : Int) (hmw : mayW n = true) (A : Option Addr) (c m : Nat) (l : List Nd) (hm : l.length = m + m) (hmx : m ≤ 100000) (hx : ∀ x ∈ l, x.of n = true ∧ x.halved) (w : World) (hR : ndS.Row w w.heap.size A l) (hT : Tab w) :
    Calls Tryd.prog 39 #[.agg #[.slice A l.length c, .int .i64 n]] w (fun e w' => Below w.heap.size w w' ∧
      ((okP n (pairsK l) = true ∧ ∃ v, e = .returned (.tuple #[.agg #[v, .int .i64 n], .int .i64 0]) ∧ w'.ownsRow (w.heap.size + 3) 49 3 v m (ndS.flat (pairL n l))) ∨
       (okP n (pairsK l) = false ∧ e = .returned (.tuple #[.agg #[.slice none 0 0, .int .i64 0], .int .i64 10])))) := by
  have hok := okP_iff n hm
  have hpl := pairL_len n m l hm
  have hlen : l.length ≤ 1000000 := by omega
  obtain ⟨V, hV⟩ : ∃ V, okP n (pairsK l) = V := ⟨_, rfl⟩
  rw [hV] at hok ⊢
  have HOK := hideIt hok
  clear hok hV
  obtain ⟨N, hN⟩ : ∃ N, l.length = N := ⟨_, rfl⟩
  have cOv := fun p hp hs nd hn hh u hu ht => over15_any n A c l hlen hmw hx p hp hs nd hn hh u hu ht
  rw [hN] at hm cOv hlen ⊢
  have HN := hideIt hN
  have HM := hideIt hm
  clear hN hm
  obtain ⟨h, hh⟩ : ∃ h, w.heap.size = h := ⟨_, rfl⟩
  have H0 := (((Has.start w).addAt 89 #[.slice A N c, .int .i64 n] hh).addAt 89 #[.slice none 0 0, .int .i64 0] (g := h + 1) (by simp [hh])).addAt 89 #[.slice none 0 0, .int .i64 n] (g := h + 2) (by simp [hh])
  have H00 := ((Has.start w).addAt 89 #[.slice A N c, .int .i64 n] hh).addAt 89 #[.slice none 0 0, .int .i64 0] (g := h + 1) (by simp [hh])
  go_enter Tryd.func39, Tryd.ntmps39
  go_upto_region 1 with fail
  obtain ⟨a0, a1, -, -, ain⟩ := (H00.box 1).two
  change Code.wp _ _ _ _ ((w.alloc (.cells #[.slice A N c, .int .i64 n] 89)).alloc (.cells #[.slice none 0 0, .int .i64 0] 89))
  clear H00
  go_upto_region 2 with fail
  clear a0 a1 ain
  have hs0 : (((w.alloc (.cells #[.slice A N c, .int .i64 n] 89)).alloc (.cells #[.slice none 0 0, .int .i64 0] 89)).alloc (.cells #[.slice none 0 0, .int .i64 n] 89)).heap.size = h + 3 := by simp [hh]
  change Code.wp _ _ _ _ (((w.alloc (.cells #[.slice A N c, .int .i64 n] 89)).alloc (.cells #[.slice none 0 0, .int .i64 0] 89)).alloc (.cells #[.slice none 0 0, .int .i64 n] 89))
  generalize ((w.alloc (.cells #[.slice A N c, .int .i64 n] 89)).alloc (.cells #[.slice none 0 0, .int .i64 0] 89)).alloc (.cells #[.slice none 0 0, .int .i64 n] 89) = W0 at *
  have HS0 := hideIt hs0
  have HH := hideIt hh
  clear hs0 hh
  go_wp2
  go_loopg [5] m (fun gk i wr => ∃ (k j : Nat) (v : Value), k ≤ m ∧ m - k ≤ gk ∧ i = .int .i64 j ∧ j = k + k ∧ (∀ (j : Nat) x y, j < k → l[j + j]? = some x → l[j + j + 1]? = some y → (joinS n x y).2 = 0) ∧
      Has w [(h + 2, 89, #[v, .int .i64 n]), (h + 1, 89, #[.slice none 0 0, .int .i64 0]), (h, 89, #[.slice A N c, .int .i64 n])] wr ∧ wr.ownsRow (h + 3) 49 3 v k (ndS.flat ((pairL n l).take k)))
  case atStart => exact ⟨0, 0, _, Nat.zero_le _, by omega, rfl, rfl, fun j x y hj => absurd hj (Nat.not_lt_zero _), H0, by rw [List.take_zero]; exact World.ownsRow_nil _ _ _ _⟩
  case round =>
    obtain ⟨k, j, v, hk, hgk, rfl, hj, hall, H, hown⟩ := hrel
    have HG := hideIt hgk
    have HA := hideIt hall
    have HJ := hideIt hj
    clear hgk H0 hall hj
    obtain ⟨a0, a1, af0, af1, ain⟩ := (H.box 2).two
    by_cases hlt : k < m
    · obtain ⟨a, ha⟩ : ∃ r, l[k + k]? = some r := ⟨_, List.getElem?_eq_getElem (by rw [HN.out, HM.out]; omega)⟩
      obtain ⟨b, hb⟩ : ∃ r, l[k + k + 1]? = some r := ⟨_, List.getElem?_eq_getElem (by rw [HN.out, HM.out]; omega)⟩
      have hp := pairL_at n k l a b ha hb
      have htk : (pairL n l).take (k + 1) = (pairL n l).take k ++ [(joinS n a b).1] := by rw [List.take_add_one, hp]; rfl
      obtain ⟨hao, hah⟩ := hx a (List.mem_of_getElem? ha)
      have cO := fun u hu ht => cOv (k + k) (by omega) (by rw [sib_even, HM.out]; omega) a hao hah u hu ht
      have eS : sibN l (k + k) = b := by rw [sibN, sib_even, List.getD_eq_getElem?_getD, hb]; rfl
      rw [eS, climb_even] at cO
      rw [← HJ.out] at cO
      obtain ⟨ad, rfl, g1, p0, p1, p2⟩ := nd_get (hR.on H.below) (i := j) (by rw [HJ.out]; exact ha)
      obtain ⟨⟨⟨js, jh, jl⟩, je⟩, hJ⟩ : ∃ V, joinS n a b = V := ⟨_, rfl⟩
      have HAB := hideIt (show ∀ x y, l[k + k]? = some x → l[k + k + 1]? = some y → joinS n x y = (⟨js, jh, jl⟩, je) from fun x y hx hy => by
        rw [ha] at hx
        rw [hb] at hy
        injection hx with hx
        injection hy with hy
        rw [← hx, ← hy, hJ])
      rw [hJ] at cO htk
      obtain ⟨as_, ah, al⟩ := a
      simp only [Nd.val] at cO p0 p1 p2
      have HTK := hideIt htk
      have HAX := hideIt ha
      have HBX := hideIt hb
      have hji : (j : Int) < (N : Int) := by have := HM.out; have := HJ.out; omega
      have hjn : j < N := by have := HM.out; have := HJ.out; omega
      have hjw : IntKind.u64.wrap (j : Int) = (j : Int) := by rw [IntKind.wrap_u64]; have := HJ.out; omega
      have hR4 := fun u (hb : Below wr.heap.size wr u) => hR.on (chain H.below hb)
      have hT4 := fun u (hb : Below wr.heap.size wr u) => hT.call (chain H.below hb)
      clear ha hb hp htk hJ eS hao hah
      have hgin := (H.box 0).inside
      by_cases hz : je = 0
      · subst hz
        rw [if_pos rfl] at cO
        simp only at cO
        go_upto_region 5 with fail
        go_cut [6, 7] (fun s6 s7 wx => ∃ g, s6 = .pointer (some ⟨g, 0, none⟩) ∧ s7 = .int .i64 0 ∧ Box wx g 49 (ndB js jh jl) ∧ Below wr.heap.size wr wx)
        case first =>
          go_region_held3 (fun w' => Below wr.heap.size wr w' ∧ (w'.cell? (ad.add (j * 3)) = some (.string as_) ∧ w'.cell? ⟨(ad.add (j * 3)).block, (ad.add (j * 3)).off + 1, none⟩ = some (.int .u64 ah) ∧ w'.cell? ⟨(ad.add (j * 3)).block, (ad.add (j * 3)).off + 2, none⟩ = some (.int .u64 al)) ∧
              (w'.cell? ⟨h, 0, none⟩ = some (.slice (some ad) N c) ∧ w'.cell? ⟨h, 1, none⟩ = some (.int .i64 n)))
            (exact (fun (hb : Below wr.heap.size wr _) => ⟨hb, ⟨(hb.cell (p := ad.add (j * 3)) g1).trans p0, (hb.cell (p := ⟨(ad.add (j * 3)).block, (ad.add (j * 3)).off + 1, none⟩) g1).trans p1, (hb.cell (p := ⟨(ad.add (j * 3)).block, (ad.add (j * 3)).off + 2, none⟩) g1).trans p2⟩,
                (hb.cell (p := ⟨h, 0, none⟩) ain).trans a0, (hb.cell (p := ⟨h, 1, none⟩) ain).trans a1⟩)
              (by repeat (first
                | exact Below.refl _ _
                | exact chain (by repeat (first | exact Below.refl _ _ | apply Below.drew | refine Below.alloc ?_ (by simp) _)) hb3
                | apply Below.drew
                | refine Below.alloc ?_ (by first | exact Nat.le_refl _ | (have := hb3.size; simp at this ⊢; omega)) _
                | refine Below.setCell ?_ (by first | exact Nat.le_refl _ | (have := hb3.size; simp at this ⊢; omega)) _)))
            (first
              | (go_at_call 69; ((with_reducible refine (cO _ (hR4 _ (by repeat (first | exact Below.refl _ _ | apply Below.drew | refine Below.alloc ?_ (by simp) _))) (hT4 _ (by repeat (first | exact Below.refl _ _ | apply Below.drew | refine Below.alloc ?_ (by simp) _)))).mono ?_); rintro e w3 ⟨rfl, hb3⟩)
                 first
                   | (have G3 := ((Box.made wr 49 (ndB ⟨#[]⟩ 0 0)).draw).call hb3
                      obtain ⟨k1, k2, k3, k4, k5, k6, k7⟩ := G3.three)
                   | (have G3 := (Box.made wr.drew 49 (ndB ⟨#[]⟩ 0 0)).call hb3
                      obtain ⟨k1, k2, k3, k4, k5, k6, k7⟩ := G3.three)
                   | skip))
          all_goals go_wp2_with fail
          all_goals go_meet
          · exact ⟨_, rfl, rfl, Box.made _ _ _, by
              repeat (first
                | exact Below.refl _ _
                | exact chain (by repeat (first | exact Below.refl _ _ | apply Below.drew | refine Below.alloc ?_ (by simp) _)) hb3
                | apply Below.drew
                | refine Below.alloc ?_ (by first | exact Nat.le_refl _ | (have := hb3.size; simp at this ⊢; omega)) _)⟩
          · exact ⟨_, rfl, rfl, ((G3.wrote 0 _).wrote 1 _).wrote 2 _, by
              repeat (first
                | exact Below.refl _ _
                | exact chain (by repeat (first | exact Below.refl _ _ | apply Below.drew | refine Below.alloc ?_ (by simp) _)) hb3
                | apply Below.drew
                | refine Below.setCell ?_ (by first | exact Nat.le_refl _ | (have := hb3.size; simp at this ⊢; omega)) _)⟩
        case rest =>
          obtain ⟨g, rfl, rfl, hbx, hbl⟩ := hcut
          rename World => W5
          obtain ⟨Av, cv, rfl⟩ := own_slice hown
          have H2 := H.call hbl
          have own2 := own_below hown hbl
          obtain ⟨x0, x1, x2, -, -, -, xi⟩ := hbx.three
          obtain ⟨y0, y1, yf0, yf1, yin⟩ := (H2.box 0).two
          obtain ⟨v', w6, hrun, o6, gr6, b6⟩ := ndR_app1 W5 (h + 3) _ k ((pairL n l).take k) own2 ⟨js, jh, jl⟩ (by omega) (by have := (H2.box 0).inside; omega)
          obtain ⟨A6, c6, rfl⟩ := own_slice o6
          have H6 : Has w [(h + 2, 89, #[.slice Av k cv, .int .i64 n]), (h + 1, 89, #[.slice none 0 0, .int .i64 0]), (h, 89, #[.slice (some ad) N c, .int .i64 n])] w6 := ⟨fun x hx => by
            have hb := H2.1 x hx
            simp only [List.mem_cons, List.not_mem_nil, or_false] at hx
            rcases hx with rfl | rfl | rfl
            · exact hb.below b6 (by show h + 2 < h + 3; omega)
            · exact hb.below b6 (by show h + 1 < h + 3; omega)
            · exact hb.below b6 (by show h < h + 3; omega), H2.below.trans (b6.mono (by rw [HH.out]; omega))⟩
          obtain ⟨z0, z1, zf0, zf1, zin⟩ := (H6.box 0).two
          have e2 : IntKind.i64.wrap ((j : Int) + 2) = ((j + 2 : Nat) : Int) := by rw [IntKind.wrap_i64]; have := HJ.out; omega
          obtain ⟨j2, hj2⟩ : ∃ j2, j + 2 = j2 := ⟨_, rfl⟩
          rw [hj2] at e2
          have HJ2 := hideIt hj2
          clear p0 p1 p2 cO cOv hR4 hT4 hj2 a0 a1
          go_wp2_with (first
            | (at_builtin; refine gen_run rfl _ _ _ rfl _ _ rfl rfl _ w6 hrun ?_)
            | fail)
          have E := H6.wrote (by rw [HH.out]; omega) (fun x hx => by
            simp only [List.mem_cons, List.not_mem_nil, or_false] at hx
            rcases hx with rfl | rfl <;> simp only <;> omega) 0 (.slice A6 (k + 1) c6)
          have o7 := own_apart o6 (p := ⟨h + 2, 0, none⟩) (fun e => by have := o6.lt _ e; simp only at this; omega) (.slice A6 (k + 1) c6)
          go_roundg (m - (k + 1))
          case measure => have := HG.out; omega
          case rel => exact ⟨k + 1, j2, _, by omega, Nat.le_refl _, rfl, by have := HJ.out; have := HJ2.out; omega, fun i x y hi hx hy => by
              by_cases e : i = k
              · subst e
                rw [HAB.out x y hx hy]
              · exact HA.out i x y (by omega) hx hy, E, by rw [HTK.out]; exact o7⟩
      · rw [if_neg hz] at cO
        simp only [Nd.zero] at cO
        go_upto_region 5 with fail
        go_cut [6, 7] (fun s6 s7 wx => ∃ g, s6 = .pointer (some ⟨g, 0, none⟩) ∧ s7 = .int .i64 10 ∧ Box wx g 49 (ndB ⟨#[]⟩ 0 0) ∧ Below wr.heap.size wr wx)
        case first =>
          go_region_held3 (fun w' => Below wr.heap.size wr w' ∧ (w'.cell? (ad.add (j * 3)) = some (.string as_) ∧ w'.cell? ⟨(ad.add (j * 3)).block, (ad.add (j * 3)).off + 1, none⟩ = some (.int .u64 ah) ∧ w'.cell? ⟨(ad.add (j * 3)).block, (ad.add (j * 3)).off + 2, none⟩ = some (.int .u64 al)) ∧
              (w'.cell? ⟨h, 0, none⟩ = some (.slice (some ad) N c) ∧ w'.cell? ⟨h, 1, none⟩ = some (.int .i64 n)))
            (exact (fun (hb : Below wr.heap.size wr _) => ⟨hb, ⟨(hb.cell (p := ad.add (j * 3)) g1).trans p0, (hb.cell (p := ⟨(ad.add (j * 3)).block, (ad.add (j * 3)).off + 1, none⟩) g1).trans p1, (hb.cell (p := ⟨(ad.add (j * 3)).block, (ad.add (j * 3)).off + 2, none⟩) g1).trans p2⟩,
                (hb.cell (p := ⟨h, 0, none⟩) ain).trans a0, (hb.cell (p := ⟨h, 1, none⟩) ain).trans a1⟩)
              (by repeat (first
                | exact Below.refl _ _
                | exact chain (by repeat (first | exact Below.refl _ _ | apply Below.drew | refine Below.alloc ?_ (by simp) _)) hb3
                | apply Below.drew
                | refine Below.alloc ?_ (by first | exact Nat.le_refl _ | (have := hb3.size; simp at this ⊢; omega)) _
                | refine Below.setCell ?_ (by first | exact Nat.le_refl _ | (have := hb3.size; simp at this ⊢; omega)) _)))
            (first
              | (go_at_call 69; ((with_reducible refine (cO _ (hR4 _ (by repeat (first | exact Below.refl _ _ | apply Below.drew | refine Below.alloc ?_ (by simp) _))) (hT4 _ (by repeat (first | exact Below.refl _ _ | apply Below.drew | refine Below.alloc ?_ (by simp) _)))).mono ?_); rintro e w3 ⟨rfl, hb3⟩)
                 first
                   | (have G3 := ((Box.made wr 49 (ndB ⟨#[]⟩ 0 0)).draw).call hb3
                      obtain ⟨k1, k2, k3, k4, k5, k6, k7⟩ := G3.three)
                   | (have G3 := (Box.made wr.drew 49 (ndB ⟨#[]⟩ 0 0)).call hb3
                      obtain ⟨k1, k2, k3, k4, k5, k6, k7⟩ := G3.three)
                   | skip))
          all_goals go_wp2_with fail
          all_goals go_meet
          · exact ⟨_, rfl, rfl, Box.made _ _ _, by
              repeat (first
                | exact Below.refl _ _
                | exact chain (by repeat (first | exact Below.refl _ _ | apply Below.drew | refine Below.alloc ?_ (by simp) _)) hb3
                | apply Below.drew
                | refine Below.alloc ?_ (by first | exact Nat.le_refl _ | (have := hb3.size; simp at this ⊢; omega)) _)⟩
          · exact ⟨_, rfl, rfl, ((G3.wrote 0 _).wrote 1 _).wrote 2 _, by
              repeat (first
                | exact Below.refl _ _
                | exact chain (by repeat (first | exact Below.refl _ _ | apply Below.drew | refine Below.alloc ?_ (by simp) _)) hb3
                | apply Below.drew
                | refine Below.setCell ?_ (by first | exact Nat.le_refl _ | (have := hb3.size; simp at this ⊢; omega)) _)⟩
        case rest =>
          obtain ⟨g, rfl, rfl, hbx, hbl⟩ := hcut
          rename World => W5
          have hno : V = false := by
            cases V with
            | false => rfl
            | true =>
              have := (HOK.out.1 rfl) k _ b HAX.out HBX.out
              rw [HAB.out _ b HAX.out HBX.out] at this
              exact absurd this hz
          subst hno
          have H2 := H.call hbl
          obtain ⟨y0, y1, yf0, yf1, yin⟩ := (H2.box 1).two
          clear p0 p1 p2 cO cOv hR4 hT4 a0 a1
          go_wp2
          have hw1 : w.heap.size ≤ h + 1 := by rw [HH.out]; omega
          have K2 : Has w [(h + 1, 89, #[.slice none 0 0, .int .i64 0])] W5 := ⟨fun x hx => by obtain rfl := List.mem_singleton.1 hx; exact H2.box 1, H2.below⟩
          have E := (K2.wrote hw1 (fun x hx => by simp at hx) 0 (.slice none 0 0)).wrote hw1 (fun x hx => by simp at hx) 1 (.int .i64 0)
          generalize World.setCell (World.setCell W5 _ _) _ _ = W9 at *
          obtain ⟨r0, r1, -, -, -⟩ := Box.two (show Box W9 (h + 1) 89 #[.slice none 0 0, .int .i64 0] from E.box 0)
          exact bodyPost_ret (v := .tuple #[.agg #[.slice none 0 0, .int .i64 0], .int .i64 10]) (by simp [results, Tryd.results39, go_sem, r0, r1]) rfl ⟨E.below, rfl⟩
    · have e : k = m := by omega
      subst e
      have hyes : V = true := HOK.out.2 fun i x y hx hy => HA.out i x y (by have := (List.getElem?_eq_some_iff.1 hx).1; rw [HN.out, HM.out] at this; omega) hx hy
      subst hyes
      rw [List.take_of_length_le (by omega)] at hown
      obtain ⟨Av, cv, rfl⟩ := own_slice hown
      obtain ⟨y0, y1, yf0, yf1, yin⟩ := (H.box 0).two
      obtain ⟨z0, z1, zf0, zf1, zin⟩ := (H.box 1).two
      have hji : ¬ (j : Int) < (N : Int) := by have := HM.out; have := HJ.out; omega
      have hjn : ¬ j < N := by have := HM.out; have := HJ.out; omega
      go_wp2
      have hw1 : w.heap.size ≤ h + 1 := by rw [HH.out]; omega
      have K2 : Has w [(h + 1, 89, #[.slice none 0 0, .int .i64 0])] wr := ⟨fun x hx => by obtain rfl := List.mem_singleton.1 hx; exact H.box 1, H.below⟩
      have E := (K2.wrote hw1 (fun x hx => by simp at hx) 0 (.slice Av k cv)).wrote hw1 (fun x hx => by simp at hx) 1 (.int .i64 n)
      have o7 := own_apart (own_apart hown (p := ⟨h + 1, 0, none⟩) (fun e => by have := hown.lt _ e; simp only at this; omega) (.slice Av k cv)) (p := ⟨h + 1, 1, none⟩) (fun e => by have := hown.lt _ e; simp only at this; omega) (.int .i64 n)
      generalize World.setCell (World.setCell wr _ _) _ _ = W9 at *
      obtain ⟨r0, r1, -, -, -⟩ := Box.two (show Box W9 (h + 1) 89 #[.slice Av k cv, .int .i64 n] from E.box 0)
      exact bodyPost_ret (v := .tuple #[.agg #[.slice Av k cv, .int .i64 n], .int .i64 0]) (by simp [results, Tryd.results39, go_sem, r0, r1]) rfl ⟨E.below, _, rfl, by rw [HH.out]; exact o7⟩
end Go.Proofs.YtkecekfapiegjaaDoor
/-
  Package tree: a tree of leaves is built, level by level.
-/
namespace Go.Proofs.YtkecekfapiegjaaDoor
set_option linter.unusedVariables false
set_option linter.unusedSimpArgs false
set_option maxRecDepth 10000
open Go.RowKit

def lvE : El lvS := ⟨91, 89, .agg #[.slice none 0 0, .int .i64 0], 32, Tryd.underlying91, by kernel_rfl, rfl, by decide⟩
abbrev lvB (b n c : Nat) (w : Int) : Array Value := #[.slice (some ⟨b, 0, none⟩) n c, .int .i64 w]
theorem lv_app1 (w : World) (base : Nat) (v : Value) (n : Nat) (ys : List LvP) (hown : w.ownsRow base 89 2 v n (lvS.flat ys)) (b m c : Nat) (x : Int) (hm : n ≤ 100000000) (hb : base ≤ w.heap.size) :
    ∃ v' w', (∀ ty, (Builtin.append_ #[91, 91] ty #[v, .slice (some ⟨w.heap.size, 0, none⟩) 1 1]).run Tryd.prog (w.alloc (.cells (lvB b m c x) 89)) = .ok v' w') ∧
      w'.ownsRow base 89 2 v' (n + 1) (lvS.flat (ys ++ [⟨b, m, c, x⟩])) ∧ (w.alloc (.cells (lvB b m c x) 89)).grownBy w' v.ownBlock ∧ Below base w w' := lvE.app1 w base v n ys hown ⟨b, m, c, x⟩ _ rfl hm hb
theorem own_type {W : World} {b k n g : Nat} {T T' : TypeId} {v : Value} {xs : List Value} {cur : Array Value} (h : W.ownsRow b T k v n xs) (hb : Box W g T' cur) (ht : T ≠ T') : some g ≠ v.ownBlock := fun e => by
  rcases h.2 with ⟨h1, h2⟩ | ⟨g', cap, cur', hv, hg, hh, -⟩
  · rw [h1] at e; cases e
  · rw [hv] at e
    injection e with e
    simp only at e
    subst e
    unfold Box at hb
    rw [hh] at hb
    injection hb with hb
    injection hb with e1 e2 e3
    exact ht e2
theorem Sh.Blk.grown {α : Type} {S : Sh α} {W W' : World} {b k n g : Nat} {T T' : TypeId} {v : Value} {xs : List Value} {l : List α} (h : S.Blk W T' g l) (ho : W.ownsRow b T k v n xs) (ht : T ≠ T') (hg : W.grownBy W' v.ownBlock) : S.Blk W' T' g l := by
  obtain ⟨cur, rest, hb, he⟩ := h
  exact ⟨cur, rest, hb.grown hg (own_type ho hb ht), he⟩
/-- The levels so far, each in a block of its own. -/
def LvAll (W : World) (lo : Nat) (w : Int) (ns : List Nd) (k : Nat) (ls : List LvP) : Prop :=
  (∀ (i : Nat) v, ls[i]? = some v → v.w = w ∧ v.n = 2 ^ (k - i) ∧ v.n ≤ v.c ∧ ndS.Blk W 49 v.b (upN w i ns) ∧ lo ≤ v.b) ∧ (∀ (i j : Nat) u v, ls[i]? = some u → ls[j]? = some v → u.b = v.b → i = j)
section
variable {W W' : World} {lo k : Nat} {w : Int} {ns : List Nd} {ls : List LvP}
theorem LvAll.keep (h : LvAll W lo w ns k ls) (e : ∀ (i : Nat) v, ls[i]? = some v → W'.heap[v.b]? = W.heap[v.b]?) : LvAll W' lo w ns k ls :=
  ⟨fun i v hv => by obtain ⟨h1, h2, h3, h4, h5⟩ := h.1 i v hv; exact ⟨h1, h2, h3, h4.keep (e i v hv), h5⟩, h.2⟩
theorem LvAll.call (h : LvAll W lo w ns k ls) (hb : Below W.heap.size W W') : LvAll W' lo w ns k ls := h.keep fun i v hv => hb.block _ (h.1 i v hv).2.2.2.1.inside
theorem LvAll.grown {b m n : Nat} {T : TypeId} {v : Value} {xs : List Value} (h : LvAll W lo w ns k ls) (ho : W.ownsRow b T m v n xs) (ht : T ≠ 49) (hg : W.grownBy W' v.ownBlock) : LvAll W' lo w ns k ls :=
  ⟨fun i u hu => by obtain ⟨h1, h2, h3, h4, h5⟩ := h.1 i u hu; exact ⟨h1, h2, h3, h4.grown ho ht hg, h5⟩, h.2⟩
theorem LvAll.set_ {g : Nat} {T : TypeId} {cs : Array Value} (h : LvAll W lo w ns k ls) (hb : Box W g T cs) (ht : 49 ≠ T) (i : Nat) (u : Value) : LvAll (W.setCell ⟨g, i, none⟩ u) lo w ns k ls :=
  h.keep fun j v hv => Below.heap_setCell W _ u v.b (by
    obtain ⟨cur, rest, hx, -⟩ := (h.1 j v hv).2.2.2.1
    exact hx.type_ne hb ht)
theorem LvAll.one {b n c : Nat} (hb : ndS.Blk W 49 b ns) (hlo : lo ≤ b) (hn : n = 2 ^ k) (hc : n ≤ c) : LvAll W lo w ns k [⟨b, n, c, w⟩] := by
  refine ⟨fun i v hv => ?_, fun i j u v hu hv _ => ?_⟩
  · match i, hv with
    | 0, hv =>
      obtain rfl : LvP.mk b n c w = v := by simpa using hv
      exact ⟨rfl, hn, hc, hb, hlo⟩
  · have h1 := (List.getElem?_eq_some_iff.1 hu).1
    have h2 := (List.getElem?_eq_some_iff.1 hv).1
    simp only [List.length_cons, List.length_nil] at h1 h2
    omega
theorem LvAll.snoc {b n c : Nat} (h : LvAll W lo w ns k ls) (hb : ndS.Blk W 49 b (upN w ls.length ns)) (hlo : lo ≤ b) (hn : n = 2 ^ (k - ls.length)) (hc : n ≤ c) (hnew : ∀ (i : Nat) v, ls[i]? = some v → v.b ≠ b) : LvAll W lo w ns k (ls ++ [⟨b, n, c, w⟩]) := by
  have get : ∀ (i : Nat) v, (ls ++ [LvP.mk b n c w])[i]? = some v → ls[i]? = some v ∨ (i = ls.length ∧ v = ⟨b, n, c, w⟩) := fun i v hv => by
    by_cases hi : i < ls.length
    · rw [List.getElem?_append_left hi] at hv; exact Or.inl hv
    · rw [List.getElem?_append_right (by omega)] at hv
      have h1 := (List.getElem?_eq_some_iff.1 hv).1
      simp only [List.length_cons, List.length_nil] at h1
      have e : i = ls.length := by omega
      subst e
      rw [Nat.sub_self] at hv
      exact Or.inr ⟨rfl, by simpa using hv.symm⟩
  refine ⟨fun i v hv => ?_, fun i j u v hu hv e => ?_⟩
  · rcases get i v hv with hv | ⟨rfl, rfl⟩
    · exact h.1 i v hv
    · exact ⟨rfl, hn, hc, hb, hlo⟩
  · rcases get i u hu with hu | ⟨rfl, rfl⟩ <;> rcases get j v hv with hv | ⟨rfl, rfl⟩
    · exact h.2 i j u v hu hv e
    · exact absurd e (hnew i u hu)
    · exact absurd e.symm (hnew j v hv)
    · rfl
end
set_option maxRecDepth 100000 in
set_option maxHeartbeats 4000000 in
theorem new15_bad (n : Int) (A : Option Addr) (c : Nat) (l : List Lf) (hl : l.length ≤ 9223372036854775807) (hs : ∀ x ∈ l, x.id.size ≤ 9223372036854775807 ∧ x.salt.size ≤ 9223372036854775807) (E : Int) (hE : wrongT n l = E) (h0 : E ≠ 0)
    (w : World) (hR : lfS.Row w w.heap.size A l) (hU : TabU w) :
    Calls Tryd.prog 20 #[.int .i64 n, .slice A l.length c] w (Tells (.tuple #[.pointer none, .int .i64 E]) w.heap.size w) := by
  have cW := fun u hu hv => wrong15_any n A c l hl hs u hu hv
  rw [hE] at cW
  have q0 : (E != 0) = true := bne_iff_ne.2 h0
  clear hE
  go_enter Tryd.func20, Tryd.ntmps20
  go_wp2_with (first | (go_at_call 37; refine (cW _ hR hU).mono ?_; rintro e w1 ⟨rfl, j1⟩) | fail)
  refine bodyPost_ret (results_tmp2 rfl _ _ _) rfl ?_
  exact ⟨rfl, j1⟩
theorem mayN_pow : ∀ k : Nat, k < 11 → mayN (2 ^ k) = true := by decide +kernel
theorem room_one {l : List Nd} (h : l.length = 1) (hh : ∀ x ∈ l, x.halved) : room (sumN l) = true := by
  obtain ⟨x, rfl⟩ := List.length_eq_one_iff.1 h
  have := Nd.sum_fine (hh x (by simp))
  simp only [sumN]
  exact room_iff.2 (by omega)
/-- What holds behind so many levels. -/
def NewI (w : World) (n : Int) (ns : List Nd) (k b7 : Nat) (j : Nat) (v8 : Value) (wr : World) : Prop :=
  ∃ (b c : Nat) (ls : List LvP), Has w [(b7, 89, lvB b (2 ^ (k - j)) c n)] wr ∧ wr.ownsRow (b7 + 1) 89 2 v8 (j + 1) (lvS.flat ls) ∧ ls.length = j + 1 ∧ ls[j]? = some ⟨b, 2 ^ (k - j), c, n⟩ ∧ LvAll wr w.heap.size n ns k ls ∧
    (∀ x ∈ upN n j ns, x.of n = true ∧ x.halved) ∧ sumN (upN n j ns) = sumN ns
set_option maxRecDepth 100000 in
set_option maxHeartbeats 8000000 in
theorem new15_any (n : Int) (A : Option Addr) (c : Nat) (l : List Lf) (k : Nat) (hmw : mayW n = true) (hlen : l.length = 2 ^ k) (hk : k ≤ 10) (hall : ∀ x ∈ l, x.may = true ∧ Word x.h ∧ Word x.l)
    (w : World) (hR : lfS.Row w w.heap.size A l) (hK : Tab w) (hU : TabU w) :
    Calls Tryd.prog 20 #[.int .i64 n, .slice A l.length c] w (fun e w' => Below w.heap.size w w' ∧
      ((room (sumN (l.map (nodeOf n))) = true ∧ ∃ q : TrG, e = .returned (.tuple #[.pointer (some ⟨q.g, 0, none⟩), .int .i64 0]) ∧ TrAt w' q n l k ∧ q.within w.heap.size w'.heap.size) ∨
       (room (sumN (l.map (nodeOf n))) = false ∧ e = .returned (.tuple #[.pointer none, .int .i64 10])))) := by
  have hpk : 2 ^ k ≤ 1024 := Nat.pow_le_pow_right (by decide) hk
  have hsz : ∀ x ∈ l, x.id.size ≤ 96 ∧ x.salt.size ≤ 32 := fun x hx => mayT_sizes (hall x hx).1
  have cW := fun u hu hv => wrong15_any n A c l (by omega) (fun x hx => ⟨by have := hsz x hx; omega, by have := hsz x hx; omega⟩) u hu hv
  have hW0 : wrongT n l = 0 := by
    rw [wrongT, if_pos hmw, hlen, mayN_pow k (by omega), if_pos rfl, if_pos (List.all_eq_true.2 fun x hx => (hall x hx).1)]
  rw [hW0] at cW
  have cG := fun u hu hv hw => ground15_any n A c l (by omega) (fun x hx => ⟨⟨by have := hsz x hx; omega, by have := hsz x hx; omega⟩, (hall x hx).2⟩) u hu hv hw
  have cT := fun u hu => twinLf_any A c l (by omega) (fun x hx => ⟨by have := hsz x hx; omega, by have := hsz x hx; omega⟩) u hu
  obtain ⟨hh, ho⟩ := nodes_fine hmw hall
  have hnl : (l.map (nodeOf n)).length = l.length := List.length_map _
  have HNS : ∃ ns, l.map (nodeOf n) = ns := ⟨_, rfl⟩
  obtain ⟨ns, hns⟩ := HNS
  rw [hns] at cG hh ho hnl ⊢
  have HNS := hideIt hns
  obtain ⟨N, hN⟩ : ∃ N, l.length = N := ⟨_, rfl⟩
  rw [hN] at cW cG cT hnl hlen ⊢
  have HN := hideIt hN
  have HL := hideIt hlen
  have HNL := hideIt hnl
  obtain ⟨R, hRm⟩ : ∃ R, room (sumN ns) = R := ⟨_, rfl⟩
  rw [hRm]
  have HRM := hideIt hRm
  clear hns hN hlen hnl hW0 hRm
  have hne0 : ns ≠ [] := fun e => by
    have h := HNL.out
    rw [e, HL.out, List.length_nil] at h
    have := Nat.two_pow_pos k
    omega
  go_enter Tryd.func20, Tryd.ntmps20
  go_upto_region 5 with (first
    | (go_at_call 37; refine (cW _ hR hU).mono ?_; rintro e w1 ⟨rfl, b1⟩)
    | (go_at_call 38; refine (cG _ (hR.on b1) (hK.call b1) (hU.call b1)).mono ?_; rintro e w2 ⟨v2, rfl, o2, b2⟩; obtain ⟨Av2, cv2, rfl⟩ := own_slice o2)
    | fail)
  rw [← HNL.out] at o2
  obtain ⟨g2, c2, hv2, hg2, hc2, B2⟩ := Sh.Blk.of_own (S := ndS) o2 hne0
  rw [HNL.out] at hv2 hc2
  injection hv2 with hv2 _ hv3
  subst hv2 hv3
  have b12 := chain b1 b2
  obtain ⟨b7, hb7⟩ : ∃ g, w2.heap.size = g := ⟨_, rfl⟩
  have hw7 : w.heap.size ≤ b7 := by rw [← hb7]; exact b12.size
  have K3 := ((Has.start w).call b12).addAt 89 (lvB g2 N cv2 n) hb7
  have B3 := B2.call (chainA (Below.refl w2.heap.size w2) (.cells (lvB g2 N cv2 n) 89))
  have hs3 : (w2.alloc (.cells (lvB g2 N cv2 n) 89)).heap.size = b7 + 1 := by simp [hb7]
  rw [hb7]
  change Code.wp _ _ _ _ (w2.alloc (.cells (lvB g2 N cv2 n) 89))
  generalize w2.alloc (.cells (lvB g2 N cv2 n) 89) = W3 at *
  have hgw2 : w.heap.size ≤ g2 := by have := b1.size; omega
  clear b12 b2 b1 o2 hb7 cW cG B2 hg2
  obtain ⟨x0, x1, -, -, xin⟩ := (K3.box 0).two
  have K4 := K3.past (.cells (lvB g2 N cv2 n) 89)
  have B4 := B3.call (chainA (Below.refl W3.heap.size W3) (.cells (lvB g2 N cv2 n) 89))
  have o4 := World.ownsRow_lit (base := b7 + 1) (e := 89) (size := 2) W3 (lvB g2 N cv2 n) 1 (Nat.le_of_eq hs3.symm) (by unfold maxLen; omega) rfl
  rw [hs3] at o4
  go_upto_region 6 with fail
  change Code.wp _ _ _ _ (W3.alloc (.cells (lvB g2 N cv2 n) 89))
  generalize W3.alloc (.cells (lvB g2 N cv2 n) 89) = W4 at *
  clear x0 x1 xin K3 B3 hs3
  have I4 : NewI w n ns k b7 0 (.slice (some ⟨b7 + 1, 0, none⟩) 1 1) W4 :=
    ⟨g2, cv2, [⟨g2, N, cv2, n⟩], by rw [Nat.sub_zero, ← HL.out]; exact K4, o4, rfl, by rw [Nat.sub_zero, ← HL.out]; rfl, LvAll.one B4 hgw2 HL.out hc2, fun x hx => ⟨ho x hx, hh x hx⟩, rfl⟩
  clear K4 B4 o4 hc2 hgw2
  go_loopg [8] k (fun gk v8 wr => ∃ j : Nat, j ≤ k ∧ k - j ≤ gk ∧ NewI w n ns k b7 j v8 wr)
  case atStart => exact ⟨0, Nat.zero_le _, by omega, I4⟩
  case round =>
    obtain ⟨j, hj, hgk, b, cb, ls, H, own8, hll, hlast, hLv, hgood, hsum⟩ := hrel
    have HG := hideIt hgk
    have HLL := hideIt hll
    have HLA := hideIt hlast
    have HSM := hideIt hsum
    clear hgk I4 hll hlast hsum
    obtain ⟨y0, y1, yf0, yf1, yin⟩ := (H.box 0).two
    obtain ⟨-, -, hcb, hBj, -⟩ := hLv.1 j _ HLA.out
    simp only at hcb hBj
    have hul := upN_len n (k := k) (by rw [HNL.out, HL.out]) j hj
    by_cases hlt : j < k
    · obtain ⟨m, hm⟩ : ∃ m, 2 ^ (k - (j + 1)) = m := ⟨_, rfl⟩
      have hm1 : 1 ≤ m := by rw [← hm]; exact Nat.two_pow_pos _
      have hmle : m ≤ 1024 := by rw [← hm]; exact Nat.le_trans (Nat.pow_le_pow_right (by decide) (by omega)) (Nat.pow_le_pow_right (by decide) hk)
      have hM : 2 ^ (k - j) = m + m := by rw [← hm, show k - j = k - (j + 1) + 1 by omega, pow_two]
      have hM2 := hul.trans hM
      have cA := fun u hu hv => above15_any n hmw (some ⟨b, 0, none⟩) cb m (upN n j ns) hM2 (by omega) hgood u hu hv
      have hfine := pairs_fine hmw m (upN n j ns) hM2 (fun x hx => (hgood x hx).2)
      have hnone := pairs_none (w := n) m (upN n j ns) hM2 (fun x hx => (hgood x hx).2)
      rw [HSM.out] at hfine hnone
      rw [hul] at cA
      obtain ⟨M, hMM⟩ : ∃ M, 2 ^ (k - j) = M := ⟨_, rfl⟩
      rw [hMM] at cA H y0 hcb hM
      have HMM := hideIt hMM
      have HM := hideIt hM
      have HMS := hideIt hm
      have h1M : (1 : Int) < (M : Int) := by omega
      have h1N : 1 < M := by omega
      have hRj := hBj.row
      have hTj := hK.call H.below
      clear hul hM hMM hm
      cases hok : okP n (pairsK (upN n j ns)) with
      | false =>
        rw [hok] at cA
        have hno := hnone hok
        rw [HRM.out] at hno
        subst hno
        clear hfine hnone hok
        go_wp2_with (first
          | (go_at_call 39; refine (cA _ hRj hTj).mono ?_; rintro e w5 ⟨b5, ⟨h0, -⟩ | ⟨-, rfl⟩⟩; exact absurd h0 (by decide))
          | fail)
        refine bodyPost_ret (results_tmp2 rfl _ _ _) rfl ?_
        exact ⟨chainA (chain H.below b5) _, rfl⟩
      | true =>
        rw [hok] at cA
        obtain ⟨f1, f2, f3⟩ := hfine hok
        have F3 := hideIt f3
        clear hfine hnone hok f3
        go_upto_region 8 with (first
          | (go_at_call 39; refine (cA _ hRj hTj).mono ?_; rintro e w5 ⟨b5, ⟨-, v5, rfl, o5⟩ | ⟨h0, -⟩⟩; rotate_left 1; exact absurd h0 (by decide); obtain ⟨Av5, cv5, rfl⟩ := own_slice o5)
          | fail)
        have hl1 := (upN_len n (k := k) (by rw [HNL.out, HL.out]) (j + 1) (by omega)).trans HMS.out
        have o6 : w5.ownsRow (wr.heap.size + 3) 49 3 (.slice Av5 m cv5) (upN n (j + 1) ns).length (ndS.flat (upN n (j + 1) ns)) := by rw [hl1]; exact o5
        obtain ⟨g5, c5, hv5, hg5, hc5, B5⟩ := Sh.Blk.of_own (S := ndS) o6 (fun e => by rw [e, List.length_nil] at hl1; omega)
        rw [hl1] at hv5 hc5
        injection hv5 with hv5 _ hv6
        subst hv5 hv6
        have K5 := (H.call b5)
        have own5 := own_below own8 b5
        have L5 := hLv.call b5
        have hvb : ∀ (i : Nat) v, ls[i]? = some v → v.b < wr.heap.size := fun i v hv => (hLv.1 i v hv).2.2.2.1.inside
        have hob : ∀ r, u8.ownBlock = some r → r < wr.heap.size := fun r hr => (own8.lt r hr).2
        clear o5 o6 cA hRj hTj hBj hLv own8 y0 y1 yf0 yf1 yin
        obtain ⟨b9, hb9⟩ : ∃ g, w5.heap.size = g := ⟨_, rfl⟩
        have h79 : b7 < b9 := by rw [← hb9]; exact (K5.box 0).inside
        have K6 := K5.addAt 89 (lvB g5 m cv5 n) hb9
        have own6 := own5.alloc (.cells (lvB g5 m cv5 n) 89)
        have L6 := L5.call (chainA (Below.refl w5.heap.size w5) (.cells (lvB g5 m cv5 n) 89))
        have B6 := B5.call (chainA (Below.refl w5.heap.size w5) (.cells (lvB g5 m cv5 n) 89))
        have hwr := H.size
        have hr9 : wr.heap.size ≤ b9 := by rw [← hb9]; exact b5.size
        rw [hb9]
        change Code.wp _ _ _ _ (w5.alloc (.cells (lvB g5 m cv5 n) 89))
        have hs6 : (w5.alloc (.cells (lvB g5 m cv5 n) 89)).heap.size = b9 + 1 := by simp [hb9]
        generalize w5.alloc (.cells (lvB g5 m cv5 n) 89) = W6 at *
        have hb76 : b7 + 1 ≤ W6.heap.size := by omega
        obtain ⟨v8, w8, hrun, o8, gr8, b8⟩ := lv_app1 W6 (b7 + 1) u8 (j + 1) ls own6 g5 m cv5 n (by omega) hb76
        obtain ⟨A8, c8, rfl⟩ := own_slice o8
        have own7 := own6.alloc (.cells (lvB g5 m cv5 n) 89)
        have L8 := (L6.call (chainA (Below.refl W6.heap.size W6) (.cells (lvB g5 m cv5 n) 89))).grown own7 (by decide) gr8
        have B8 := (B6.call (chainA (Below.refl W6.heap.size W6) (.cells (lvB g5 m cv5 n) 89))).grown own7 (by decide) gr8
        have X9 := ((K6.box 0).past (.cells (lvB g5 m cv5 n) 89)).grown gr8 (fun e => by have := hob b9 e.symm; omega)
        have X7 := (K6.box 1).below b8 (by omega)
        have hBw : Below w.heap.size w w8 := K6.below.trans (b8.mono (by omega))
        obtain ⟨x0, x1, xf0, xf1, xin⟩ := (K6.box 0).two
        obtain ⟨y0, y1, yf0, yf1, yin⟩ := X9.two
        obtain ⟨z0, z1, zf0, zf1, zin⟩ := X7.two
        clear K5 own5 L5 B5 L6 B6 own6 own7 hs6 hb9
        go_wp2_with (first
          | (at_builtin; refine gen_run rfl _ _ _ rfl _ _ rfl rfl _ w8 hrun ?_)
          | fail)
        have E : Has w [(b7, 89, lvB g5 m cv5 n)] _ := ((show Has w [(b7, 89, lvB b M cb n)] w8 from ⟨fun x hx => by obtain rfl := List.mem_singleton.1 hx; exact X7, hBw⟩).wrote hw7 (fun x hx => by simp at hx) 0 (.slice (some ⟨g5, 0, none⟩) m cv5)).wrote hw7 (fun x hx => by simp at hx) 1 (.int .i64 n)
        have o9 := own_apart (own_apart o8 (p := ⟨b7, 0, none⟩) (fun e => by have := o8.lt _ e; simp only at this; omega) (.slice (some ⟨g5, 0, none⟩) m cv5)) (p := ⟨b7, 1, none⟩) (fun e => by have := o8.lt _ e; simp only at this; omega) (.int .i64 n)
        have X71 := X7.wrote 0 (.slice (some ⟨g5, 0, none⟩) m cv5)
        have L9 := (L8.set_ X7 (by decide) 0 (.slice (some ⟨g5, 0, none⟩) m cv5)).set_ X71 (by decide) 1 (.int .i64 n)
        have B9 : ndS.Blk ((w8.setCell ⟨b7, 0, none⟩ (.slice (some ⟨g5, 0, none⟩) m cv5)).setCell ⟨b7, 1, none⟩ (.int .i64 n)) 49 g5 (upN n (j + 1) ns) := by
          obtain ⟨cur, rest, hx, he⟩ := B8
          have hne := hx.type_ne X7 (by decide)
          exact ⟨cur, rest, (hx.apart (p := ⟨b7, 0, none⟩) hne _).apart (p := ⟨b7, 1, none⟩) hne _, he⟩
        generalize World.setCell (World.setCell w8 _ _) _ _ = W9 at *
        go_roundg (k - (j + 1))
        case measure => have := HG.out; omega
        case rel => exact ⟨j + 1, by omega, Nat.le_refl _, g5, cv5, ls ++ [⟨g5, m, cv5, n⟩], by rw [HMS.out]; exact E, o9, by rw [List.length_append, HLL.out]; rfl,
            by rw [HMS.out, List.getElem?_append_right (by rw [HLL.out]; exact Nat.le_refl _), HLL.out, Nat.sub_self]; rfl,
            L9.snoc (by rw [HLL.out]; exact B9) (by omega) (by rw [HLL.out, HMS.out]) hc5 (fun i v hv e => by have := hvb i v hv; omega), fun x hx => ⟨f2 x hx, f1 x hx⟩, F3.out⟩
    · have e : j = k := by omega
      subst e
      rw [Nat.sub_self, Nat.pow_zero] at y0 hul
      have hyes : R = true := by rw [← HRM.out, ← HSM.out]; exact room_one hul (fun x hx => (hgood x hx).2)
      subst hyes
      rw [← HLL.out] at own8
      obtain ⟨gv, cv, rfl, hgv, hcv, Bv⟩ := Sh.Blk.of_own (S := lvS) own8 (fun e => by have := HLL.out; rw [e, List.length_nil] at this; omega)
      have hRw := hR.on H.below
      rw [HLL.out]
      go_wp2_with (first
        | (go_at_call 40; refine (cT _ hRw).mono ?_; rintro e w5 ⟨b5, g5, rfl, hg5, B5⟩)
        | fail)
      refine bodyPost_ret (results_tmp2 rfl _ _ _) rfl ?_
      have hb6 := chainA (Below.refl w5.heap.size w5) (.cells #[.slice (some ⟨g5, 0, none⟩) N N, .slice (some ⟨gv, 0, none⟩) (j + 1) cv] 98)
      have L5 := (hLv.call b5).call hb6
      have hwr := H.size
      have hw5 := b5.size
      have hT : TrAt (w5.alloc (.cells #[.slice (some ⟨g5, 0, none⟩) N N, .slice (some ⟨gv, 0, none⟩) (j + 1) cv] 98)) ⟨w5.heap.size, g5, N, gv, cv, ls⟩ n l j :=
        ⟨by rw [HN.out]; exact Box.made _ _ _, B5.call hb6, (Bv.call b5).call hb6, HLL.out, by rw [HLL.out] at hcv; exact hcv, fun i v hv => by rw [HNS.out]; exact ⟨(L5.1 i v hv).1, (L5.1 i v hv).2.1, (L5.1 i v hv).2.2.1, (L5.1 i v hv).2.2.2.1⟩, L5.2⟩
      have hin := hT.inside
      exact ⟨chainA (chain H.below b5) _, ⟨w5.heap.size, g5, N, gv, cv, ls⟩, rfl, hT, ⟨by show w.heap.size ≤ w5.heap.size; omega, hin.1.2⟩, ⟨by show w.heap.size ≤ g5; omega, hin.2.1.2⟩, ⟨by show w.heap.size ≤ gv; omega, hin.2.2.1.2⟩, fun i v hv => ⟨(L5.1 i v hv).2.2.2.2, (hin.2.2.2 i v hv).2⟩⟩
end Go.Proofs.YtkecekfapiegjaaDoor
/-
  Package tree: a node, a leaf, the leaves, the root.
-/
namespace Go.Proofs.YtkecekfapiegjaaDoor
set_option linter.unusedVariables false
set_option linter.unusedSimpArgs false
set_option maxRecDepth 10000
open Go.RowKit

theorem ndAt_fine {l : List Nd} {w : Int} (h : ∀ x ∈ l, x.of w = true) (p : Nat) : (ndAt l p).hash.size ≤ 32 := by
  by_cases hp : p < l.length
  · have e : ndAt l p = l[p] := by rw [ndAt, List.getD_eq_getElem?_getD, List.getElem?_eq_getElem hp]; rfl
    rw [e]
    exact of_size (h _ (List.getElem_mem hp))
  · have e : ndAt l p = Nd.zero := by rw [ndAt, List.getD_eq_getElem?_getD, List.getElem?_eq_none (by omega)]; rfl
    rw [e]; decide
theorem lfAt_fine {l : List Lf} (h : ∀ x ∈ l, x.may = true) (p : Nat) : (lfAt l p).id.size ≤ 96 ∧ (lfAt l p).salt.size ≤ 32 := by
  by_cases hp : p < l.length
  · have e : lfAt l p = l[p] := by rw [lfAt, List.getD_eq_getElem?_getD, List.getElem?_eq_getElem hp]; rfl
    rw [e]
    exact mayT_sizes (h _ (List.getElem_mem hp))
  · have e : lfAt l p = Lf.zero := by rw [lfAt, List.getD_eq_getElem?_getD, List.getElem?_eq_none (by omega)]; rfl
    rw [e]; decide
set_option maxRecDepth 100000 in
set_option maxHeartbeats 4000000 in
theorem node15_no (v : Value) (lv : Int) (p : Int) (W : World) (h : NoTree W v) : Calls Tryd.prog 42 #[v, .int .i64 lv, .int .u64 p] W (Tells (.tuple #[Nd.zero.val, .bool false]) W.heap.size W) := by
  have cN := nobodys_yes v _ (h.call (chainA (Below.refl W.heap.size W) (.cells (ndB ⟨#[]⟩ 0 0) 49)))
  clear h
  have E := (Has.start W).addAt 49 (ndB ⟨#[]⟩ 0 0) (g := W.heap.size) rfl
  obtain ⟨x0, x1, x2, xf0, xf1, xf2, xin⟩ := (E.box 0).three
  go_enter Tryd.func42, Tryd.ntmps42
  go_wp2_with (first | (go_at_call 47; refine cN.mono ?_; rintro e w1 ⟨rfl, rfl⟩) | fail)
  clear x0 x1 x2 xf0 xf1 xf2 xin
  change bodyPost _ _ _ _ _ (W.alloc (.cells (ndB ⟨#[]⟩ 0 0) 49))
  generalize W.alloc (.cells (ndB ⟨#[]⟩ 0 0) 49) = W9 at *
  obtain ⟨v0, v1, v2, -, -, -, -⟩ := (E.box 0).three
  exact bodyPost_ret (v := .tuple #[Nd.zero.val, .bool false]) (by simp [results, Tryd.results42, go_sem, Nd.val, Nd.zero, v0, v1, v2]) rfl ⟨rfl, E.below⟩
section
variable {W : World} {q : TrG} {w : Int} {l : List Lf} {k : Nat}
set_option maxRecDepth 100000 in
set_option maxHeartbeats 4000000 in
theorem node15_out (h : TrAt W q w l k) (hk : k ≤ 1000) (lv : Int) (p : Int) (hlv : ¬ (0 ≤ lv ∧ lv ≤ (k : Int))) :
    Calls Tryd.prog 42 #[.pointer (some ⟨q.g, 0, none⟩), .int .i64 lv, .int .u64 p] W (Tells (.tuple #[Nd.zero.val, .bool false]) W.heap.size W) := by
  have h1 := h.past (.cells (ndB ⟨#[]⟩ 0 0) 49)
  have cN := nobodys_no h1
  have cH := height15_any h1 hk
  clear h h1
  have E := (Has.start W).addAt 49 (ndB ⟨#[]⟩ 0 0) (g := W.heap.size) rfl
  obtain ⟨x0, x1, x2, xf0, xf1, xf2, xin⟩ := (E.box 0).three
  by_cases h0 : lv < 0
  · clear hlv
    go_enter Tryd.func42, Tryd.ntmps42
    go_wp2_with (first | (go_at_call 47; refine cN.mono ?_; rintro e w1 ⟨rfl, rfl⟩) | fail)
    clear x0 x1 x2 xf0 xf1 xf2 xin
    change bodyPost _ _ _ _ _ (W.alloc (.cells (ndB ⟨#[]⟩ 0 0) 49))
    generalize W.alloc (.cells (ndB ⟨#[]⟩ 0 0) 49) = W9 at *
    obtain ⟨v0, v1, v2, -, -, -, -⟩ := (E.box 0).three
    exact bodyPost_ret (v := .tuple #[Nd.zero.val, .bool false]) (by simp [results, Tryd.results42, go_sem, Nd.val, Nd.zero, v0, v1, v2]) rfl ⟨rfl, E.below⟩
  · have hgt : (k : Int) < lv := by omega
    clear hlv
    go_enter Tryd.func42, Tryd.ntmps42
    go_wp2_with (first
      | (go_at_call 47; refine cN.mono ?_; rintro e w1 ⟨rfl, rfl⟩)
      | (go_at_call 24; refine cH.mono ?_; rintro e w1 ⟨rfl, rfl⟩)
      | fail)
    clear x0 x1 x2 xf0 xf1 xf2 xin
    change bodyPost _ _ _ _ _ (W.alloc (.cells (ndB ⟨#[]⟩ 0 0) 49))
    generalize W.alloc (.cells (ndB ⟨#[]⟩ 0 0) 49) = W9 at *
    obtain ⟨v0, v1, v2, -, -, -, -⟩ := (E.box 0).three
    exact bodyPost_ret (v := .tuple #[Nd.zero.val, .bool false]) (by simp [results, Tryd.results42, go_sem, Nd.val, Nd.zero, v0, v1, v2]) rfl ⟨rfl, E.below⟩
set_option maxRecDepth 100000 in
set_option maxHeartbeats 4000000 in
theorem node15_in (h : TrAt W q w l k) (hF : FairT w l k) {j : Nat} (hj : j ≤ k) (p : Nat) (hp : p < 18446744073709551616) :
    Calls Tryd.prog 42 #[.pointer (some ⟨q.g, 0, none⟩), .int .i64 j, .int .u64 p] W (Tells (.tuple #[(ndAt (upN w j (l.map (nodeOf w))) p).val, .bool (decide (p < 2 ^ (k - j)))]) W.heap.size W) := by
  have hk := hF.few
  have h1 := h.past (.cells (ndB ⟨#[]⟩ 0 0) 49)
  have cN := nobodys_no h1
  have cH := height15_any h1 (by omega)
  have hul := hF.ulen hj
  have hz := ndAt_fine (hF.up hj).2.1 p
  obtain ⟨b, c, c0, c1, hc, hB, -⟩ := h1.level hj
  have hBx := hB.row
  have cA := fun u hu => atNd_any (some ⟨b, 0, none⟩) c (upN w j (l.map (nodeOf w))) (by rw [hul]; exact Nat.le_trans (Nat.pow_le_pow_right (n := 2) (by decide) (by omega : k - j ≤ 10)) (by decide)) p hp u hu
  have cO := fun u => own15_any (ndAt (upN w j (l.map (nodeOf w))) p) (by omega) u
  rw [hul] at cA
  obtain ⟨b0, b1, hin⟩ := h1.topcells
  obtain ⟨is, his⟩ : ∃ is, decide (p < 2 ^ (k - j)) = is := ⟨_, rfl⟩
  rw [his] at cA ⊢
  obtain ⟨M, hM⟩ : ∃ M, 2 ^ (k - j) = M := ⟨_, rfl⟩
  rw [hM] at c0 cA
  generalize ndAt (upN w j (l.map (nodeOf w))) p = X at *
  obtain ⟨xs, xh, xl⟩ := X
  simp only [Nd.val] at cA cO
  obtain ⟨K, hK⟩ : ∃ K, k + 1 = K := ⟨_, rfl⟩
  rw [hK] at b1
  have hjK : (j : Int) < (K : Int) := by omega
  have hjn : j < K := by omega
  have hj0 : ¬ (j : Int) < 0 := by omega
  have hjk : ¬ (k : Int) < (j : Int) := by omega
  have hjkn : ¬ k < j := by omega
  have hvin := h1.row.inside
  have E := (Has.start W).addAt 49 (ndB ⟨#[]⟩ 0 0) (g := W.heap.size) rfl
  clear h h1 hF hul hz hB hc hM hK his
  go_enter Tryd.func42, Tryd.ntmps42
  go_upto_region 1 with fail
  change Code.wp _ _ _ _ (W.alloc (.cells (ndB ⟨#[]⟩ 0 0) 49))
  obtain ⟨g, hg⟩ : ∃ g, W.heap.size = g := ⟨_, rfl⟩
  generalize W.alloc (.cells (ndB ⟨#[]⟩ 0 0) 49) = W1 at *
  rw [hg] at E ⊢
  go_upto_region 4 with (first
    | (go_at_call 47; refine cN.mono ?_; rintro e w1 ⟨rfl, rfl⟩)
    | (go_at_call 24; refine cH.mono ?_; rintro e w1 ⟨rfl, rfl⟩)
    | (go_at_call 71; refine (cA _ hBx).mono ?_; rintro e w1 ⟨rfl, k1⟩)
    | fail)
  have K2 := (E.call k1).add 49 (ndB xs xh xl)
  change Code.wp _ _ _ _ (w1.alloc (.cells (ndB xs xh xl) 49))
  obtain ⟨g2, hg2⟩ : ∃ g, w1.heap.size = g := ⟨_, rfl⟩
  have hgg : g < g2 := by rw [← hg2]; exact (E.call k1).box 0 |>.inside
  rw [hg2] at K2 ⊢
  generalize w1.alloc (.cells (ndB xs xh xl) 49) = W2 at *
  clear k1 hg2 cA cN cH hBx b0 b1 c0 c1
  obtain ⟨x0, x1, x2, -, -, -, xin⟩ := (K2.box 0).three
  go_wp2_with (first
    | (go_at_call 72; refine (cO _).mono ?_; rintro e w3 ⟨rfl, k3⟩; have K3 := K2.call k3; obtain ⟨y0, y1, y2, yf0, yf1, yf2, yin⟩ := (K3.box 1).three)
    | fail)
  have K4 : Has W [(g, 49, ndB ⟨#[]⟩ 0 0)] w3 := ⟨fun x hx => by obtain rfl := List.mem_singleton.1 hx; exact K3.box 1, K3.below⟩
  have E2 := told3 K4 (Nat.le_of_eq hg) (fun x hx => by simp at hx) (.string xs) (.int .u64 xh) (.int .u64 xl)
  generalize World.setCell (World.setCell (World.setCell w3 _ _) _ _) _ _ = W9 at *
  obtain ⟨v0, v1, v2, -, -, -, -⟩ := (E2.box 0).three
  exact bodyPost_ret (v := .tuple #[Nd.val ⟨xs, xh, xl⟩, .bool is]) (by simp [results, Tryd.results42, go_sem, Nd.val, v0, v1, v2]) rfl ⟨rfl, by first | exact E2.below | (rw [hg]; exact E2.below) | (rw [← hg]; exact E2.below)⟩
set_option maxRecDepth 100000 in
set_option maxHeartbeats 4000000 in
theorem leaf15_any (h : TrAt W q w l k) (hF : FairT w l k) (p : Nat) (hp : p < 18446744073709551616) :
    Calls Tryd.prog 46 #[.pointer (some ⟨q.g, 0, none⟩), .int .u64 p] W (Tells (.tuple #[(lfAt l p).val, .bool (decide (p < l.length))]) W.heap.size W) := by
  have hm := hF.most
  have h1 := h.past (.cells (lfB false ⟨#[]⟩ ⟨#[]⟩ 0 0) 34)
  have cN := nobodys_no h1
  have hz := lfAt_fine (fun x hx => (hF.all x hx).1) p
  have hBx := h1.lvs.row
  have cA := fun u hu => atLf_any (some ⟨q.gl, 0, none⟩) q.cl l (by omega) p hp u hu
  have cO := fun u => ownLf15_any (lfAt l p) (by omega) (by omega) u
  obtain ⟨b0, b1, hin⟩ := h1.topcells
  obtain ⟨is, his⟩ : ∃ is, decide (p < l.length) = is := ⟨_, rfl⟩
  rw [his] at cA ⊢
  obtain ⟨M, hM⟩ : ∃ M, l.length = M := ⟨_, rfl⟩
  rw [hM] at b0 cA
  generalize lfAt l p = X at *
  obtain ⟨xp, xi, xs, xh, xl⟩ := X
  simp only [Lf.val] at cA cO
  have E := (Has.start W).addAt 34 (lfB false ⟨#[]⟩ ⟨#[]⟩ 0 0) (g := W.heap.size) rfl
  clear h h1 hF hz hM his b1
  go_enter Tryd.func46, Tryd.ntmps46
  go_upto_region 1 with fail
  change Code.wp _ _ _ _ (W.alloc (.cells (lfB false ⟨#[]⟩ ⟨#[]⟩ 0 0) 34))
  obtain ⟨g, hg⟩ : ∃ g, W.heap.size = g := ⟨_, rfl⟩
  generalize W.alloc (.cells (lfB false ⟨#[]⟩ ⟨#[]⟩ 0 0) 34) = W1 at *
  rw [hg] at E ⊢
  go_upto_region 4 with (first
    | (go_at_call 47; refine cN.mono ?_; rintro e w1 ⟨rfl, rfl⟩)
    | (go_at_call 75; refine (cA _ hBx).mono ?_; rintro e w1 ⟨rfl, k1⟩)
    | fail)
  have K2 := (E.call k1).add 34 (lfB xp xi xs xh xl)
  change Code.wp _ _ _ _ (w1.alloc (.cells (lfB xp xi xs xh xl) 34))
  obtain ⟨g2, hg2⟩ : ∃ g, w1.heap.size = g := ⟨_, rfl⟩
  have hgg : g < g2 := by rw [← hg2]; exact (E.call k1).box 0 |>.inside
  rw [hg2] at K2 ⊢
  generalize w1.alloc (.cells (lfB xp xi xs xh xl) 34) = W2 at *
  clear k1 hg2 cA cN hBx b0
  obtain ⟨⟨x0, x1, x2, x3, x4⟩, -, xin⟩ := (K2.box 0).five0
  go_wp2_with (first
    | (go_at_call 41; refine (cO _).mono ?_; rintro e w3 ⟨rfl, k3⟩; have K3 := K2.call k3; obtain ⟨⟨y0, y1, y2, y3, y4⟩, ⟨yf0, yf1, yf2, yf3, yf4⟩, yin⟩ := (K3.box 1).five0)
    | fail)
  have K4 : Has W [(g, 34, lfB false ⟨#[]⟩ ⟨#[]⟩ 0 0)] w3 := ⟨fun x hx => by obtain rfl := List.mem_singleton.1 hx; exact K3.box 1, K3.below⟩
  have E2 := told5 K4 (Nat.le_of_eq hg) (fun x hx => by simp at hx) (.bool xp) (.string xi) (.string xs) (.int .u64 xh) (.int .u64 xl)
  generalize World.setCell (World.setCell (World.setCell (World.setCell (World.setCell w3 _ _) _ _) _ _) _ _) _ _ = W9 at *
  obtain ⟨⟨v0, v1, v2, v3, v4⟩, -, -⟩ := (E2.box 0).five0
  exact bodyPost_ret (v := .tuple #[Lf.val ⟨xp, xi, xs, xh, xl⟩, .bool is]) (by simp [results, Tryd.results46, go_sem, Lf.val, v0, v1, v2, v3, v4]) rfl ⟨rfl, by first | exact E2.below | (rw [hg]; exact E2.below) | (rw [← hg]; exact E2.below)⟩
end
set_option maxRecDepth 100000 in
set_option maxHeartbeats 4000000 in
theorem leaf15_no (v : Value) (p : Int) (W : World) (h : NoTree W v) : Calls Tryd.prog 46 #[v, .int .u64 p] W (Tells (.tuple #[Lf.zero.val, .bool false]) W.heap.size W) := by
  have cN := nobodys_yes v _ (h.call (chainA (Below.refl W.heap.size W) (.cells (lfB false ⟨#[]⟩ ⟨#[]⟩ 0 0) 34)))
  clear h
  have E := (Has.start W).addAt 34 (lfB false ⟨#[]⟩ ⟨#[]⟩ 0 0) (g := W.heap.size) rfl
  go_enter Tryd.func46, Tryd.ntmps46
  go_wp2_with (first | (go_at_call 47; refine cN.mono ?_; rintro e w1 ⟨rfl, rfl⟩) | fail)
  change bodyPost _ _ _ _ _ (W.alloc (.cells (lfB false ⟨#[]⟩ ⟨#[]⟩ 0 0) 34))
  generalize W.alloc (.cells (lfB false ⟨#[]⟩ ⟨#[]⟩ 0 0) 34) = W9 at *
  obtain ⟨⟨v0, v1, v2, v3, v4⟩, -, -⟩ := (E.box 0).five0
  exact bodyPost_ret (v := .tuple #[Lf.zero.val, .bool false]) (by simp [results, Tryd.results46, go_sem, Lf.val, Lf.zero, v0, v1, v2, v3, v4]) rfl ⟨rfl, E.below⟩
end Go.Proofs.YtkecekfapiegjaaDoor
/-
  Package tree: the root.
-/
namespace Go.Proofs.YtkecekfapiegjaaDoor
set_option linter.unusedVariables false
set_option linter.unusedSimpArgs false
set_option maxRecDepth 10000
open Go.RowKit

theorem told_four {w W : World} {g : Nat} {T : TypeId} {a0 b0 c0 d0 : Value} (K : Has w [(g, T, #[a0, b0, c0, d0])] W) (hg : w.heap.size ≤ g) (x y z u : Value) :
    Has w [(g, T, #[x, y, z, u])] ((((W.setCell ⟨g, 0, none⟩ x).setCell ⟨g, 1, none⟩ y).setCell ⟨g, 2, none⟩ z).setCell ⟨g, 3, none⟩ u) := by
  have hn : ∀ x ∈ ([] : List Blk), x.1 ≠ g := fun x hx => by simp at hx
  exact (((K.wrote hg hn 0 x).wrote hg hn 1 y).wrote hg hn 2 z).wrote hg hn 3 u
theorem Box.four4 {w : World} {g : Nat} {t : TypeId} {a b c d : Value} (h : Box w g t #[a, b, c, d]) :
    (w.cell? ⟨g, 0, none⟩ = some a ∧ w.cell? ⟨g, 1, none⟩ = some b ∧ w.cell? ⟨g, 2, none⟩ = some c ∧ w.cell? ⟨g, 3, none⟩ = some d) ∧
    (w.frozen? ⟨g, 0, none⟩ = false ∧ w.frozen? ⟨g, 1, none⟩ = false ∧ w.frozen? ⟨g, 2, none⟩ = false ∧ w.frozen? ⟨g, 3, none⟩ = false) ∧ g < w.heap.size :=
  ⟨⟨h.read 0, h.read 1, h.read 2, h.read 3⟩, ⟨h.free 0, h.free 1, h.free 2, h.free 3⟩, h.inside⟩
/-- The root of a tree: its node, its height. -/
def rootV (x : Nd) (k : Nat) : Value := .agg #[.string x.hash, .int .u64 x.h, .int .u64 x.l, .int .i64 k]
section
variable {W : World} {q : TrG} {w : Int} {l : List Lf} {k : Nat}
set_option maxRecDepth 100000 in
set_option maxHeartbeats 4000000 in
theorem root15_any (h : TrAt W q w l k) (hF : FairT w l k) :
    Calls Tryd.prog 21 #[.pointer (some ⟨q.g, 0, none⟩)] W (Tells (rootV (topN w l k) k) W.heap.size W) := by
  have hk := hF.few
  have hT1 := h.past (.cells #[.string ⟨#[]⟩, .int .u64 0, .int .u64 0, .int .i64 0] 26)
  have cH := height15_any hT1 (by omega)
  have cH2 := fun u (hu : TrAt u q w l k) => height15_any hu (by omega)
  have cN := node15_in hT1 hF (Nat.le_refl k) 0 (by decide)
  have eT : ndAt (upN w k (l.map (nodeOf w))) 0 = topN w l k := rfl
  rw [eT, Nat.sub_self, Nat.pow_zero, decide_eq_true (by decide : 0 < 1)] at cN
  generalize topN w l k = X at *
  obtain ⟨xs, xh, xl⟩ := X
  simp only [Nd.val] at cN
  have E := (Has.start W).addAt 26 #[.string ⟨#[]⟩, .int .u64 0, .int .u64 0, .int .i64 0] (g := W.heap.size) rfl
  clear h hF eT
  go_enter Tryd.func21, Tryd.ntmps21
  go_upto_region 1 with fail
  change Code.wp _ _ _ _ (W.alloc (.cells #[.string ⟨#[]⟩, .int .u64 0, .int .u64 0, .int .i64 0] 26))
  obtain ⟨g, hg⟩ : ∃ g, W.heap.size = g := ⟨_, rfl⟩
  generalize W.alloc (.cells #[.string ⟨#[]⟩, .int .u64 0, .int .u64 0, .int .i64 0] 26) = W1 at *
  rw [hg] at E ⊢
  go_upto_region 2 with (first
    | (go_at_call 24; refine cH.mono ?_; rintro e w1 ⟨rfl, rfl⟩)
    | (go_at_call 42; refine cN.mono ?_; rintro e w1 ⟨rfl, k1⟩)
    | fail)
  have K2 := (E.call k1).add 49 (ndB xs xh xl)
  change Code.wp _ _ _ _ (w1.alloc (.cells (ndB xs xh xl) 49))
  have HT2 := (hT1.call k1).past (.cells (ndB xs xh xl) 49)
  obtain ⟨g2, hg2⟩ : ∃ g, w1.heap.size = g := ⟨_, rfl⟩
  have hgg : g < g2 := by rw [← hg2]; exact (E.call k1).box 0 |>.inside
  rw [hg2] at K2 ⊢
  generalize w1.alloc (.cells (ndB xs xh xl) 49) = W2 at *
  clear k1 hg2 cN cH
  have hS : ∀ u, Below W2.heap.size W2 u → u.cell? ⟨g2, 0, none⟩ = some (.string xs) ∧ u.cell? ⟨g2, 1, none⟩ = some (.int .u64 xh) ∧ u.cell? ⟨g2, 2, none⟩ = some (.int .u64 xl) ∧ g2 < u.heap.size := fun u hu =>
    ⟨((K2.call hu).box 0).read 0, ((K2.call hu).box 0).read 1, ((K2.call hu).box 0).read 2, ((K2.call hu).box 0).inside⟩
  have b0 := (Below.refl W2.heap.size W2).drew
  refine wp_region_held_drew (S := fun u => u.cell? ⟨g2, 0, none⟩ = some (.string xs) ∧ u.cell? ⟨g2, 1, none⟩ = some (.int .u64 xh) ∧ u.cell? ⟨g2, 2, none⟩ = some (.int .u64 xl) ∧ g2 < u.heap.size) (by kernel_rfl) (hS _ b0) (fun hHeld => ?_)
  have hSd := hS _ b0
  have K3 := K2.call b0
  have HT3 := HT2.call b0
  generalize W2.drew = Wd at *
  refine wpAnyH_take (i := 0) (v := ?_) rfl (by kernel_rfl) (by kernel_rfl) (by kernel_rfl) (fun _ _ _ h => h) (Or.inl ⟨by rfl, ?_⟩) (by assumption) ?_
  rotate_left 1
  · intro w hSw; (try dsimp only at hSw); go_simp; try with_reducible rfl
  try simp only [Act.put, List.getElem_toArray, List.getElem_cons_succ, List.getElem_cons_zero, List.setIfInBounds_toArray, List.set_cons_zero, List.set_cons_succ]
  refine wpAnyH_take (i := 1) (v := ?_) rfl (by kernel_rfl) (by kernel_rfl) (by kernel_rfl) (fun _ _ _ h => h) (Or.inl ⟨by rfl, ?_⟩) (by assumption) ?_
  rotate_left 1
  · intro w hSw; (try dsimp only at hSw); go_simp; try with_reducible rfl
  try simp only [Act.put, List.getElem_toArray, List.getElem_cons_succ, List.getElem_cons_zero, List.setIfInBounds_toArray, List.set_cons_zero, List.set_cons_succ]
  refine wpAnyH_take (i := 2) (v := ?_) rfl (by kernel_rfl) (by kernel_rfl) (by kernel_rfl) (fun _ _ _ h => h) (Or.inl ⟨by rfl, ?_⟩) (by assumption) ?_
  rotate_left 1
  · intro w hSw; (try dsimp only at hSw); go_simp; try with_reducible rfl
  try simp only [Act.put, List.getElem_toArray, List.getElem_cons_succ, List.getElem_cons_zero, List.setIfInBounds_toArray, List.set_cons_zero, List.set_cons_succ]
  refine wpAnyH_take (i := 3) (v := ?_) rfl (by kernel_rfl) (by kernel_rfl) (by kernel_rfl) (fun _ _ _ h => h) (Or.inl ⟨by rfl, ?_⟩) (by assumption) ?_
  rotate_left 1
  · intro w hSw; (try dsimp only at hSw); go_simp; try with_reducible rfl
  try simp only [Act.put, List.getElem_toArray, List.getElem_cons_succ, List.getElem_cons_zero, List.setIfInBounds_toArray, List.set_cons_zero, List.set_cons_succ]
  refine wpAnyH_take (i := 4) (v := ?_) rfl (by kernel_rfl) (by kernel_rfl) (by kernel_rfl) (fun _ _ _ h => h) (Or.inl ⟨by rfl, ?_⟩) (by assumption) ?_
  rotate_left 1
  · intro w hSw; (try dsimp only at hSw); go_simp; try with_reducible rfl
  try simp only [Act.put, List.getElem_toArray, List.getElem_cons_succ, List.getElem_cons_zero, List.setIfInBounds_toArray, List.set_cons_zero, List.set_cons_succ]
  refine wpAnyH_ready (rs := [5]) (by kernel_rfl) (by simp) (AllReadyH.cons rfl (fun K hK => ?_) AllReadyH.nil)
  go_simp
  go_at_call 24
  refine (cH2 _ HT3).mono ?_
  rintro e w4 ⟨rfl, rfl⟩
  try simp only []
  refine hK.out _ _ (hSd) (fun hHeld => ?_)
  clear hK K
  try simp only [Act.put, List.getElem_toArray, List.getElem_cons_succ, List.getElem_cons_zero, List.setIfInBounds_toArray, List.set_cons_zero, List.set_cons_succ]
  refine wpAnyH_take (i := 6) (v := ?_) rfl (by kernel_rfl) (by kernel_rfl) (by kernel_rfl) (fun _ _ _ h => h) (Or.inl ⟨by rfl, ?_⟩) (by assumption) ?_
  rotate_left 1
  · intro w hSw; (try dsimp only at hSw); go_simp; try with_reducible rfl
  try simp only [Act.put, List.getElem_toArray, List.getElem_cons_succ, List.getElem_cons_zero, List.setIfInBounds_toArray, List.set_cons_zero, List.set_cons_succ]
  obtain ⟨⟨y0, y1, y2, y3⟩, ⟨yf0, yf1, yf2, yf3⟩, yin⟩ := (K3.box 1).four4
  refine wpAnyH_ready (rs := [7]) (by kernel_rfl) (by simp) (AllReadyH.cons rfl (fun K hK => ?_) AllReadyH.nil)
  go_simp
  have K4 : Has W [(g, 26, #[.string ⟨#[]⟩, .int .u64 0, .int .u64 0, .int .i64 0])] Wd := ⟨fun x hx => by obtain rfl := List.mem_singleton.1 hx; exact K3.box 1, K3.below⟩
  have E2 := told_four K4 (Nat.le_of_eq hg) (.string xs) (.int .u64 xh) (.int .u64 xl) (.int .i64 k)
  have X2 := ((((K3.box 0).apart (p := ⟨g, 0, none⟩) (by show g2 ≠ g; omega) (.string xs)).apart (p := ⟨g, 1, none⟩) (by show g2 ≠ g; omega) (.int .u64 xh)).apart (p := ⟨g, 2, none⟩) (by show g2 ≠ g; omega) (.int .u64 xl)).apart (p := ⟨g, 3, none⟩) (by show g2 ≠ g; omega) (.int .i64 k)
  generalize World.setCell (World.setCell (World.setCell (World.setCell Wd _ _) _ _) _ _) _ _ = W9 at *
  refine hK.out _ _ (⟨X2.read 0, X2.read 1, X2.read 2, X2.inside⟩) (fun hHeld => ?_)
  clear hK K
  try simp only [Act.put, List.getElem_toArray, List.getElem_cons_succ, List.getElem_cons_zero, List.setIfInBounds_toArray, List.set_cons_zero, List.set_cons_succ]
  refine wpAnyH_done (by kernel_rfl) ?_ _
  clear y0 y1 y2 y3 yf0 yf1 yf2 yf3 yin
  go_wp2
  obtain ⟨⟨v0, v1, v2, v3⟩, -, -⟩ := (E2.box 0).four4
  exact bodyPost_ret (v := rootV ⟨xs, xh, xl⟩ k) (by simp [results, Tryd.results21, go_sem, rootV, v0, v1, v2, v3]) rfl ⟨rfl, by first | exact E2.below | (rw [hg]; exact E2.below) | (rw [← hg]; exact E2.below)⟩
end
theorem NoTree.past {W : World} {v : Value} (h : NoTree W v) (o : Obj) : NoTree (W.alloc o) v := h.call (chainA (Below.refl _ _) _)
set_option maxRecDepth 100000 in
set_option maxHeartbeats 4000000 in
theorem root15_no (v : Value) (W : World) (h : NoTree W v) :
    Calls Tryd.prog 21 #[v] W (Tells (rootV Nd.zero 0) W.heap.size W) := by
  have hT1 := h.past (.cells #[.string ⟨#[]⟩, .int .u64 0, .int .u64 0, .int .i64 0] 26)
  have cH := height15_no v _ hT1
  have cH2 := fun u (hu : NoTree u v) => height15_no v _ hu
  have cN := node15_no v 0 0 _ hT1
  obtain ⟨X, hX⟩ : ∃ X, Nd.zero = X := ⟨_, rfl⟩
  rw [hX] at cN ⊢
  obtain ⟨xs, xh, xl⟩ := X
  simp only [Nd.val] at cN
  have E := (Has.start W).addAt 26 #[.string ⟨#[]⟩, .int .u64 0, .int .u64 0, .int .i64 0] (g := W.heap.size) rfl
  clear h hX
  go_enter Tryd.func21, Tryd.ntmps21
  go_upto_region 1 with fail
  change Code.wp _ _ _ _ (W.alloc (.cells #[.string ⟨#[]⟩, .int .u64 0, .int .u64 0, .int .i64 0] 26))
  obtain ⟨g, hg⟩ : ∃ g, W.heap.size = g := ⟨_, rfl⟩
  generalize W.alloc (.cells #[.string ⟨#[]⟩, .int .u64 0, .int .u64 0, .int .i64 0] 26) = W1 at *
  rw [hg] at E ⊢
  go_upto_region 2 with (first
    | (go_at_call 24; refine cH.mono ?_; rintro e w1 ⟨rfl, rfl⟩)
    | (go_at_call 42; refine cN.mono ?_; rintro e w1 ⟨rfl, k1⟩)
    | fail)
  have K2 := (E.call k1).add 49 (ndB xs xh xl)
  change Code.wp _ _ _ _ (w1.alloc (.cells (ndB xs xh xl) 49))
  have HT2 := (hT1.call k1).past (.cells (ndB xs xh xl) 49)
  obtain ⟨g2, hg2⟩ : ∃ g, w1.heap.size = g := ⟨_, rfl⟩
  have hgg : g < g2 := by rw [← hg2]; exact (E.call k1).box 0 |>.inside
  rw [hg2] at K2 ⊢
  generalize w1.alloc (.cells (ndB xs xh xl) 49) = W2 at *
  clear k1 hg2 cN cH
  have hS : ∀ u, Below W2.heap.size W2 u → u.cell? ⟨g2, 0, none⟩ = some (.string xs) ∧ u.cell? ⟨g2, 1, none⟩ = some (.int .u64 xh) ∧ u.cell? ⟨g2, 2, none⟩ = some (.int .u64 xl) ∧ g2 < u.heap.size := fun u hu =>
    ⟨((K2.call hu).box 0).read 0, ((K2.call hu).box 0).read 1, ((K2.call hu).box 0).read 2, ((K2.call hu).box 0).inside⟩
  have b0 := (Below.refl W2.heap.size W2).drew
  refine wp_region_held_drew (S := fun u => u.cell? ⟨g2, 0, none⟩ = some (.string xs) ∧ u.cell? ⟨g2, 1, none⟩ = some (.int .u64 xh) ∧ u.cell? ⟨g2, 2, none⟩ = some (.int .u64 xl) ∧ g2 < u.heap.size) (by kernel_rfl) (hS _ b0) (fun hHeld => ?_)
  have hSd := hS _ b0
  have K3 := K2.call b0
  have HT3 := HT2.call b0
  generalize W2.drew = Wd at *
  refine wpAnyH_take (i := 0) (v := ?_) rfl (by kernel_rfl) (by kernel_rfl) (by kernel_rfl) (fun _ _ _ h => h) (Or.inl ⟨by rfl, ?_⟩) (by assumption) ?_
  rotate_left 1
  · intro w hSw; (try dsimp only at hSw); go_simp; try with_reducible rfl
  try simp only [Act.put, List.getElem_toArray, List.getElem_cons_succ, List.getElem_cons_zero, List.setIfInBounds_toArray, List.set_cons_zero, List.set_cons_succ]
  refine wpAnyH_take (i := 1) (v := ?_) rfl (by kernel_rfl) (by kernel_rfl) (by kernel_rfl) (fun _ _ _ h => h) (Or.inl ⟨by rfl, ?_⟩) (by assumption) ?_
  rotate_left 1
  · intro w hSw; (try dsimp only at hSw); go_simp; try with_reducible rfl
  try simp only [Act.put, List.getElem_toArray, List.getElem_cons_succ, List.getElem_cons_zero, List.setIfInBounds_toArray, List.set_cons_zero, List.set_cons_succ]
  refine wpAnyH_take (i := 2) (v := ?_) rfl (by kernel_rfl) (by kernel_rfl) (by kernel_rfl) (fun _ _ _ h => h) (Or.inl ⟨by rfl, ?_⟩) (by assumption) ?_
  rotate_left 1
  · intro w hSw; (try dsimp only at hSw); go_simp; try with_reducible rfl
  try simp only [Act.put, List.getElem_toArray, List.getElem_cons_succ, List.getElem_cons_zero, List.setIfInBounds_toArray, List.set_cons_zero, List.set_cons_succ]
  refine wpAnyH_take (i := 3) (v := ?_) rfl (by kernel_rfl) (by kernel_rfl) (by kernel_rfl) (fun _ _ _ h => h) (Or.inl ⟨by rfl, ?_⟩) (by assumption) ?_
  rotate_left 1
  · intro w hSw; (try dsimp only at hSw); go_simp; try with_reducible rfl
  try simp only [Act.put, List.getElem_toArray, List.getElem_cons_succ, List.getElem_cons_zero, List.setIfInBounds_toArray, List.set_cons_zero, List.set_cons_succ]
  refine wpAnyH_take (i := 4) (v := ?_) rfl (by kernel_rfl) (by kernel_rfl) (by kernel_rfl) (fun _ _ _ h => h) (Or.inl ⟨by rfl, ?_⟩) (by assumption) ?_
  rotate_left 1
  · intro w hSw; (try dsimp only at hSw); go_simp; try with_reducible rfl
  try simp only [Act.put, List.getElem_toArray, List.getElem_cons_succ, List.getElem_cons_zero, List.setIfInBounds_toArray, List.set_cons_zero, List.set_cons_succ]
  refine wpAnyH_ready (rs := [5]) (by kernel_rfl) (by simp) (AllReadyH.cons rfl (fun K hK => ?_) AllReadyH.nil)
  go_simp
  go_at_call 24
  refine (cH2 _ HT3).mono ?_
  rintro e w4 ⟨rfl, rfl⟩
  try simp only []
  refine hK.out _ _ (hSd) (fun hHeld => ?_)
  clear hK K
  try simp only [Act.put, List.getElem_toArray, List.getElem_cons_succ, List.getElem_cons_zero, List.setIfInBounds_toArray, List.set_cons_zero, List.set_cons_succ]
  refine wpAnyH_take (i := 6) (v := ?_) rfl (by kernel_rfl) (by kernel_rfl) (by kernel_rfl) (fun _ _ _ h => h) (Or.inl ⟨by rfl, ?_⟩) (by assumption) ?_
  rotate_left 1
  · intro w hSw; (try dsimp only at hSw); go_simp; try with_reducible rfl
  try simp only [Act.put, List.getElem_toArray, List.getElem_cons_succ, List.getElem_cons_zero, List.setIfInBounds_toArray, List.set_cons_zero, List.set_cons_succ]
  obtain ⟨⟨y0, y1, y2, y3⟩, ⟨yf0, yf1, yf2, yf3⟩, yin⟩ := (K3.box 1).four4
  refine wpAnyH_ready (rs := [7]) (by kernel_rfl) (by simp) (AllReadyH.cons rfl (fun K hK => ?_) AllReadyH.nil)
  go_simp
  have K4 : Has W [(g, 26, #[.string ⟨#[]⟩, .int .u64 0, .int .u64 0, .int .i64 0])] Wd := ⟨fun x hx => by obtain rfl := List.mem_singleton.1 hx; exact K3.box 1, K3.below⟩
  have E2 := told_four K4 (Nat.le_of_eq hg) (.string xs) (.int .u64 xh) (.int .u64 xl) (.int .i64 0)
  have X2 := ((((K3.box 0).apart (p := ⟨g, 0, none⟩) (by show g2 ≠ g; omega) (.string xs)).apart (p := ⟨g, 1, none⟩) (by show g2 ≠ g; omega) (.int .u64 xh)).apart (p := ⟨g, 2, none⟩) (by show g2 ≠ g; omega) (.int .u64 xl)).apart (p := ⟨g, 3, none⟩) (by show g2 ≠ g; omega) (.int .i64 0)
  generalize World.setCell (World.setCell (World.setCell (World.setCell Wd _ _) _ _) _ _) _ _ = W9 at *
  refine hK.out _ _ (⟨X2.read 0, X2.read 1, X2.read 2, X2.inside⟩) (fun hHeld => ?_)
  clear hK K
  try simp only [Act.put, List.getElem_toArray, List.getElem_cons_succ, List.getElem_cons_zero, List.setIfInBounds_toArray, List.set_cons_zero, List.set_cons_succ]
  refine wpAnyH_done (by kernel_rfl) ?_ _
  clear y0 y1 y2 y3 yf0 yf1 yf2 yf3 yin
  go_wp2
  obtain ⟨⟨v0, v1, v2, v3⟩, -, -⟩ := (E2.box 0).four4
  exact bodyPost_ret (v := rootV ⟨xs, xh, xl⟩ 0) (by simp [results, Tryd.results21, go_sem, rootV, v0, v1, v2, v3]) rfl ⟨rfl, by first | exact E2.below | (rw [hg]; exact E2.below) | (rw [← hg]; exact E2.below)⟩
end Go.Proofs.YtkecekfapiegjaaDoor
