/- Several of my texts, laid as one. -/
import Derived.Test.YtjndabnegmecmaaT15Leaf
import Derived.Test.YtjndabnegmecmaaU5Clone
import Derived.Test.YtjndabnegmecmaaW14Told
import Derived.Test.YtjndabnegmecmaaT15Tree
/-
  Package tree: what is told in memory of its own.
-/
namespace Go.Proofs.Ytjndabnegmecmaa
set_option linter.unusedVariables false
set_option linter.unusedSimpArgs false
set_option maxRecDepth 10000
open Go.RowKit

set_option maxRecDepth 100000 in
set_option maxHeartbeats 2000000 in
theorem own15_any (x : Nd) (hx : x.hash.size ≤ 1000000) (w : World) : Calls Try.prog 37 #[x.val] w (Tells x.val w.heap.size w) := by
  have cC := fun u => clone_any x.hash (by omega) u
  obtain ⟨s, h, l⟩ := x
  simp only at cC
  show Calls _ _ #[.agg (ndB s h l)] _ _
  have hl2 : ∀ x ∈ ([(w.heap.size, 52, ndB s h l)] : List Blk), x.1 < w.heap.size + 1 := fun x hx => by
    simp only [List.mem_cons, List.not_mem_nil, or_false] at hx
    rcases hx with rfl
    exact Nat.lt_succ_self _
  have H0 := ((Has.start w).add 52 (ndB s h l)).addAt 52 (ndB ⟨#[]⟩ 0 0) (g := w.heap.size + 1) (by simp)
  go_enter Try.func37, Try.ntmps37
  go_upto_region 1 with fail
  change Code.wp _ _ _ _ ((w.alloc (.cells (ndB s h l) 52)).alloc (.cells (ndB ⟨#[]⟩ 0 0) 52))
  generalize (w.alloc (.cells (ndB s h l) 52)).alloc (.cells (ndB ⟨#[]⟩ 0 0) 52) = W0 at *
  have fact : ∀ u, Has w [(w.heap.size + 1, 52, ndB ⟨#[]⟩ 0 0), (w.heap.size, 52, ndB s h l)] u → Below w.heap.size w u ∧ (u.cell? ⟨w.heap.size, 0, none⟩ = some (.string s) ∧ u.cell? ⟨w.heap.size, 1, none⟩ = some (.int .u64 h) ∧ u.cell? ⟨w.heap.size, 2, none⟩ = some (.int .u64 l)) := fun u H =>
    ⟨H.below, (H.box 1).read 0, (H.box 1).read 1, (H.box 1).read 2⟩
  have fact2 : ∀ u, Has w [(w.heap.size + 1, 52, ndB s h l), (w.heap.size, 52, ndB s h l)] u → Below w.heap.size w u ∧ (u.cell? ⟨w.heap.size, 0, none⟩ = some (.string s) ∧ u.cell? ⟨w.heap.size, 1, none⟩ = some (.int .u64 h) ∧ u.cell? ⟨w.heap.size, 2, none⟩ = some (.int .u64 l)) := fun u H =>
    ⟨H.below, (H.box 1).read 0, (H.box 1).read 1, (H.box 1).read 2⟩
  have K4 := H0.drew
  have f0 := fact _ K4
  refine wp_region_held_drew (S := fun u => Below w.heap.size w u ∧ (u.cell? ⟨w.heap.size, 0, none⟩ = some (.string s) ∧ u.cell? ⟨w.heap.size, 1, none⟩ = some (.int .u64 h) ∧ u.cell? ⟨w.heap.size, 2, none⟩ = some (.int .u64 l))) (by kernel_rfl) f0 (fun hHeld => ?_)
  refine wpAnyH_take (i := 0) (v := ?_) rfl (by kernel_rfl) (by kernel_rfl) (by kernel_rfl) (fun _ _ _ h => h) (Or.inl ⟨by rfl, ?_⟩) (by assumption) ?_
  rotate_left 1
  · intro w hSw; (try dsimp only at hSw); go_simp; try with_reducible rfl
  try simp only [Act.put, List.getElem_toArray, List.getElem_cons_succ, List.getElem_cons_zero, List.setIfInBounds_toArray, List.set_cons_zero, List.set_cons_succ]
  refine wpAnyH_take (i := 1) (v := ?_) rfl (by kernel_rfl) (by kernel_rfl) (by kernel_rfl) (fun _ _ _ h => h) (Or.inl ⟨by rfl, ?_⟩) (by assumption) ?_
  rotate_left 1
  · intro w hSw; (try dsimp only at hSw); go_simp; try with_reducible rfl
  try simp only [Act.put, List.getElem_toArray, List.getElem_cons_succ, List.getElem_cons_zero, List.setIfInBounds_toArray, List.set_cons_zero, List.set_cons_succ]
  refine wpAnyH_take (i := 3) (v := ?_) rfl (by kernel_rfl) (by kernel_rfl) (by kernel_rfl) (fun _ _ _ h => h) (Or.inl ⟨by rfl, ?_⟩) (by assumption) ?_
  rotate_left 1
  · intro w hSw; (try dsimp only at hSw); go_simp; try with_reducible rfl
  try simp only [Act.put, List.getElem_toArray, List.getElem_cons_succ, List.getElem_cons_zero, List.setIfInBounds_toArray, List.set_cons_zero, List.set_cons_succ]
  refine wpAnyH_take (i := 4) (v := ?_) rfl (by kernel_rfl) (by kernel_rfl) (by kernel_rfl) (fun _ _ _ h => h) (Or.inl ⟨by rfl, ?_⟩) (by assumption) ?_
  rotate_left 1
  · intro w hSw; (try dsimp only at hSw); go_simp; try with_reducible rfl
  try simp only [Act.put, List.getElem_toArray, List.getElem_cons_succ, List.getElem_cons_zero, List.setIfInBounds_toArray, List.set_cons_zero, List.set_cons_succ]
  refine wpAnyH_ready (rs := [2]) (by kernel_rfl) (by simp) (AllReadyH.cons rfl (fun K hK => ?_) AllReadyH.nil)
  go_simp
  go_at_call 32
  refine (cC _).mono ?_
  rintro e w4 ⟨rfl, b4⟩
  have K5 := K4.call b4
  have F5 := fact _ K5
  try simp only []
  refine hK.out _ _ (F5) (fun hHeld => ?_)
  clear hK K
  try simp only [Act.put, List.getElem_toArray, List.getElem_cons_succ, List.getElem_cons_zero, List.setIfInBounds_toArray, List.set_cons_zero, List.set_cons_succ]
  refine wpAnyH_take (i := 5) (v := ?_) rfl (by kernel_rfl) (by kernel_rfl) (by kernel_rfl) (fun _ _ _ h => h) (Or.inl ⟨by rfl, ?_⟩) (by assumption) ?_
  rotate_left 1
  · intro w hSw; (try dsimp only at hSw); go_simp; try with_reducible rfl
  try simp only [Act.put, List.getElem_toArray, List.getElem_cons_succ, List.getElem_cons_zero, List.setIfInBounds_toArray, List.set_cons_zero, List.set_cons_succ]
  obtain ⟨x0, x1, x2, g0, g1, g2, hin4⟩ := (K5.box 0).three
  refine wpAnyH_ready (rs := [6]) (by kernel_rfl) (by simp) (AllReadyH.cons rfl (fun K hK => ?_) AllReadyH.nil)
  go_simp
  have E := told3 K5 (Nat.le_succ _) hl2 (.string s) (.int .u64 h) (.int .u64 l)
  generalize World.setCell (World.setCell (World.setCell w4 _ _) _ _) _ _ = W9 at *
  have FX := fact2 _ E
  obtain ⟨r0, r1, r2, -, -, -, hin9⟩ := (E.box 0).three
  refine hK.out _ _ (FX) (fun hHeld => ?_)
  clear hK K
  try simp only [Act.put, List.getElem_toArray, List.getElem_cons_succ, List.getElem_cons_zero, List.setIfInBounds_toArray, List.set_cons_zero, List.set_cons_succ]
  refine wpAnyH_done (by kernel_rfl) ?_ _
  clear x0 x1 x2 g0 g1 g2 hin4 F5 fact fact2
  go_wp2
  exact bodyPost_ret (v := Nd.val ⟨s, h, l⟩) (by simp [results, Try.results37, go_sem, Nd.val, r0, r1, r2]) rfl ⟨rfl, E.below⟩
end Go.Proofs.Ytjndabnegmecmaa
/-
  Package tree: whether a tree is nobody's; its width, its height; what stands at a place of a row; how many leaves there may be.
-/
namespace Go.Proofs.Ytjndabnegmecmaa
set_option linter.unusedVariables false
set_option linter.unusedSimpArgs false
set_option maxRecDepth 10000
open Go.RowKit

/-- A tree that nobody made: nil, or of no levels. -/
def NoTree (W : World) (v : Value) : Prop := v = .pointer none ∨ ∃ g, v = .pointer (some ⟨g, 0, none⟩) ∧ Box W g 44 #[.slice none 0 0, .slice none 0 0]
theorem NoTree.call {W W' : World} {v : Value} (h : NoTree W v) (hb : Below W.heap.size W W') : NoTree W' v := by
  rcases h with h | ⟨g, h, hx⟩
  · exact Or.inl h
  · exact Or.inr ⟨g, h, hx.call hb⟩
set_option maxHeartbeats 2000000 in
theorem nobodys_yes (v : Value) (W : World) (h : NoTree W v) : Calls Try.prog 27 #[v] W (Plain (.bool true) W) := by
  rcases h with rfl | ⟨g, rfl, hb⟩
  · go_enter Try.func27, Try.ntmps27
    go_wp2
    go_ret
    exact ⟨rfl, rfl⟩
  · obtain ⟨b0, b1, -, -, hin⟩ := hb.two
    clear hb
    go_enter Try.func27, Try.ntmps27
    go_wp2
    go_ret
    exact ⟨rfl, rfl⟩
section
variable {W : World} {q : TrG} {w : Int} {l : List Lf} {k : Nat}
set_option maxHeartbeats 2000000 in
theorem nobodys_no (h : TrAt W q w l k) : Calls Try.prog 27 #[.pointer (some ⟨q.g, 0, none⟩)] W (Plain (.bool false) W) := by
  obtain ⟨b0, b1, hin⟩ := h.topcells
  obtain ⟨K, hK⟩ : ∃ K, k + 1 = K := ⟨_, rfl⟩
  have hne : ¬ (K : Int) = 0 := by omega
  rw [hK] at b1
  have hne3 : ¬ K = 0 := by omega
  have hne2 : ((K : Int) == 0) = false := by simp [hne3]
  clear h hK
  go_enter Try.func27, Try.ntmps27
  go_wp2
  go_ret
  exact ⟨rfl, rfl⟩
set_option maxHeartbeats 2000000 in
theorem width15_any (h : TrAt W q w l k) : Calls Try.prog 19 #[.pointer (some ⟨q.g, 0, none⟩)] W (Plain (.int .i64 w) W) := by
  have cN := nobodys_no h
  obtain ⟨b0, b1, hin⟩ := h.topcells
  obtain ⟨b, c, c0, c1, -⟩ := h.level (Nat.zero_le k)
  have hvin := h.row.inside
  rw [Nat.zero_mul] at c0 c1
  obtain ⟨K, hK⟩ : ∃ K, k + 1 = K := ⟨_, rfl⟩
  have hne : (0 : Int) < (K : Int) := by omega
  have hne2 : 0 < K := by omega
  rw [hK] at b1
  clear h hK
  go_enter Try.func19, Try.ntmps19
  go_wp2_with (first | (go_at_call 27; refine cN.mono ?_; rintro e w1 ⟨rfl, rfl⟩) | fail)
  go_ret
  exact ⟨rfl, rfl⟩
set_option maxHeartbeats 2000000 in
theorem height15_any (h : TrAt W q w l k) (hk : k ≤ 1000) : Calls Try.prog 33 #[.pointer (some ⟨q.g, 0, none⟩)] W (Plain (.int .i64 k) W) := by
  have cN := nobodys_no h
  obtain ⟨b0, b1, hin⟩ := h.topcells
  obtain ⟨K, hK⟩ : ∃ K, k + 1 = K := ⟨_, rfl⟩
  have e1 : IntKind.i64.wrap ((K : Int) - 1) = (k : Int) := by rw [IntKind.wrap_i64]; omega
  rw [hK] at b1
  clear h hK
  go_enter Try.func33, Try.ntmps33
  go_wp2_with (first | (go_at_call 27; refine cN.mono ?_; rintro e w1 ⟨rfl, rfl⟩) | fail)
  go_ret
  exact ⟨rfl, rfl⟩
end
set_option maxHeartbeats 2000000 in
theorem width15_no (v : Value) (W : World) (h : NoTree W v) : Calls Try.prog 19 #[v] W (Plain (.int .i64 0) W) := by
  have cN := nobodys_yes v W h
  clear h
  go_enter Try.func19, Try.ntmps19
  go_wp2_with (first | (go_at_call 27; refine cN.mono ?_; rintro e w1 ⟨rfl, rfl⟩) | fail)
  go_ret
  exact ⟨rfl, rfl⟩
set_option maxHeartbeats 2000000 in
theorem height15_no (v : Value) (W : World) (h : NoTree W v) : Calls Try.prog 33 #[v] W (Plain (.int .i64 0) W) := by
  have cN := nobodys_yes v W h
  clear h
  go_enter Try.func33, Try.ntmps33
  go_wp2_with (first | (go_at_call 27; refine cN.mono ?_; rintro e w1 ⟨rfl, rfl⟩) | fail)
  go_ret
  exact ⟨rfl, rfl⟩
set_option maxHeartbeats 2000000 in
theorem atNd_any (A : Option Addr) (c : Nat) (l : List Nd) (hl : l.length ≤ 1000000000) (p : Nat) (hp : p < 18446744073709551616) (w : World) (hR : ndS.Row w w.heap.size A l) :
    Calls Try.prog 36 #[.slice A l.length c, .int .u64 p] w (Tells (.tuple #[(ndAt l p).val, .bool (decide (p < l.length))]) w.heap.size w) := by
  by_cases hlt : p < l.length
  · obtain ⟨x, hx⟩ : ∃ x, l[p]? = some x := ⟨_, List.getElem?_eq_getElem hlt⟩
    have e : ndAt l p = x := by rw [ndAt, List.getD_eq_getElem?_getD, hx]; rfl
    rw [e, decide_eq_true hlt]
    obtain ⟨ad, rfl, g1, p0, p1, p2⟩ := nd_get hR hx
    obtain ⟨N, hN⟩ : ∃ N, l.length = N := ⟨_, rfl⟩
    rw [hN] at hl hlt ⊢
    obtain ⟨xs, xh, xl⟩ := x
    simp only at p0 p1 p2
    have hw1 : IntKind.u64.wrap (N : Int) = (N : Int) := by rw [IntKind.wrap_u64]; omega
    have hlti : ¬ ((N : Int) ≤ (p : Int)) := by omega
    have hltj : (p : Int) < (N : Int) := by omega
    clear hR hx e hN
    go_enter Try.func36, Try.ntmps36
    go_wp2
    have E := (Has.start w).addAt 52 (ndB xs xh xl) (g := w.heap.size) rfl
    change bodyPost _ _ _ _ _ (w.alloc (.cells (ndB xs xh xl) 52))
    generalize w.alloc (.cells (ndB xs xh xl) 52) = W9 at *
    obtain ⟨v0, v1, v2, -, -, -, -⟩ := (E.box 0).three
    exact bodyPost_ret (v := .tuple #[Nd.val ⟨xs, xh, xl⟩, .bool true]) (by simp [results, Try.results36, go_sem, Nd.val, v0, v1, v2]) rfl ⟨rfl, E.below⟩
  · have e : ndAt l p = Nd.zero := by rw [ndAt, List.getD_eq_getElem?_getD, List.getElem?_eq_none (by omega)]; rfl
    rw [e, decide_eq_false hlt]
    obtain ⟨N, hN⟩ : ∃ N, l.length = N := ⟨_, rfl⟩
    rw [hN] at hl hlt ⊢
    have hw1 : IntKind.u64.wrap (N : Int) = (N : Int) := by rw [IntKind.wrap_u64]; omega
    have hlti : (N : Int) ≤ (p : Int) := by omega
    clear hR e hN
    go_enter Try.func36, Try.ntmps36
    go_wp2
    have E := ((Has.start w).addAt 52 (ndB ⟨#[]⟩ 0 0) (g := w.heap.size) rfl).addAt 52 (ndB ⟨#[]⟩ 0 0) (g := w.heap.size + 1) (by simp)
    change bodyPost _ _ _ _ _ ((w.alloc (.cells (ndB ⟨#[]⟩ 0 0) 52)).alloc (.cells (ndB ⟨#[]⟩ 0 0) 52))
    generalize (w.alloc (.cells (ndB ⟨#[]⟩ 0 0) 52)).alloc (.cells (ndB ⟨#[]⟩ 0 0) 52) = W9 at *
    obtain ⟨v0, v1, v2, -, -, -, -⟩ := (E.box 1).three
    exact bodyPost_ret (v := .tuple #[Nd.zero.val, .bool false]) (by simp [results, Try.results36, go_sem, Nd.val, Nd.zero, v0, v1, v2]) rfl ⟨rfl, E.below⟩
theorem lf_five {w : World} {g : Nat} {t : TypeId} {a b c d e : Value} (h : Box w g t #[a, b, c, d, e]) :
    w.cell? ⟨g, 0, none⟩ = some a ∧ w.cell? ⟨g, 1, none⟩ = some b ∧ w.cell? ⟨g, 2, none⟩ = some c ∧ w.cell? ⟨g, 3, none⟩ = some d ∧ w.cell? ⟨g, 4, none⟩ = some e := ⟨h.read 0, h.read 1, h.read 2, h.read 3, h.read 4⟩
set_option maxHeartbeats 2000000 in
theorem atLf_any (A : Option Addr) (c : Nat) (l : List Lf) (hl : l.length ≤ 1000000000) (p : Nat) (hp : p < 18446744073709551616) (w : World) (hR : lfS.Row w w.heap.size A l) :
    Calls Try.prog 28 #[.slice A l.length c, .int .u64 p] w (Tells (.tuple #[(lfAt l p).val, .bool (decide (p < l.length))]) w.heap.size w) := by
  by_cases hlt : p < l.length
  · obtain ⟨x, hx⟩ : ∃ x, l[p]? = some x := ⟨_, List.getElem?_eq_getElem hlt⟩
    have e : lfAt l p = x := by rw [lfAt, List.getD_eq_getElem?_getD, hx]; rfl
    rw [e, decide_eq_true hlt]
    obtain ⟨ad, rfl, g1, p0, p1, p2, p3, p4⟩ := lf_get hR hx
    obtain ⟨N, hN⟩ : ∃ N, l.length = N := ⟨_, rfl⟩
    rw [hN] at hl hlt ⊢
    obtain ⟨xp, xi, xs, xh, xl⟩ := x
    simp only at p0 p1 p2 p3 p4
    have hw1 : IntKind.u64.wrap (N : Int) = (N : Int) := by rw [IntKind.wrap_u64]; omega
    have hlti : ¬ ((N : Int) ≤ (p : Int)) := by omega
    have hltj : (p : Int) < (N : Int) := by omega
    clear hR hx e hN
    go_enter Try.func28, Try.ntmps28
    go_wp2
    have E := (Has.start w).addAt 26 (lfB xp xi xs xh xl) (g := w.heap.size) rfl
    change bodyPost _ _ _ _ _ (w.alloc (.cells (lfB xp xi xs xh xl) 26))
    generalize w.alloc (.cells (lfB xp xi xs xh xl) 26) = W9 at *
    obtain ⟨v0, v1, v2, v3, v4⟩ := lf_five (E.box 0)
    exact bodyPost_ret (v := .tuple #[Lf.val ⟨xp, xi, xs, xh, xl⟩, .bool true]) (by simp [results, Try.results28, go_sem, Lf.val, v0, v1, v2, v3, v4]) rfl ⟨rfl, E.below⟩
  · have e : lfAt l p = Lf.zero := by rw [lfAt, List.getD_eq_getElem?_getD, List.getElem?_eq_none (by omega)]; rfl
    rw [e, decide_eq_false hlt]
    obtain ⟨N, hN⟩ : ∃ N, l.length = N := ⟨_, rfl⟩
    rw [hN] at hl hlt ⊢
    have hw1 : IntKind.u64.wrap (N : Int) = (N : Int) := by rw [IntKind.wrap_u64]; omega
    have hlti : (N : Int) ≤ (p : Int) := by omega
    clear hR e hN
    go_enter Try.func28, Try.ntmps28
    go_wp2
    have E := ((Has.start w).addAt 26 (lfB false ⟨#[]⟩ ⟨#[]⟩ 0 0) (g := w.heap.size) rfl).addAt 26 (lfB false ⟨#[]⟩ ⟨#[]⟩ 0 0) (g := w.heap.size + 1) (by simp)
    change bodyPost _ _ _ _ _ ((w.alloc (.cells (lfB false ⟨#[]⟩ ⟨#[]⟩ 0 0) 26)).alloc (.cells (lfB false ⟨#[]⟩ ⟨#[]⟩ 0 0) 26))
    generalize (w.alloc (.cells (lfB false ⟨#[]⟩ ⟨#[]⟩ 0 0) 26)).alloc (.cells (lfB false ⟨#[]⟩ ⟨#[]⟩ 0 0) 26) = W9 at *
    obtain ⟨v0, v1, v2, v3, v4⟩ := lf_five (E.box 1)
    exact bodyPost_ret (v := .tuple #[Lf.zero.val, .bool false]) (by simp [results, Try.results28, go_sem, Lf.val, Lf.zero, v0, v1, v2, v3, v4]) rfl ⟨rfl, E.below⟩
end Go.Proofs.Ytjndabnegmecmaa
/-
  Package tree: a leaf in memory of its own; a leaf, a node, put at a place of a row.
-/
namespace Go.Proofs.Ytjndabnegmecmaa
set_option linter.unusedVariables false
set_option linter.unusedSimpArgs false
set_option maxRecDepth 10000
open Go.RowKit

set_option maxRecDepth 100000 in
set_option maxHeartbeats 4000000 in
theorem ownLf15_any (x : Lf) (h1 : x.id.size ≤ 1000000) (h2 : x.salt.size ≤ 1000000) (w : World) : Calls Try.prog 29 #[x.val] w (Tells x.val w.heap.size w) := by
  have cI := fun u => clone_any x.id (by omega) u
  have cS := fun u => clone_any x.salt (by omega) u
  obtain ⟨p, i, s, h, l⟩ := x
  simp only at cI cS
  show Calls _ _ #[.agg (lfB p i s h l)] _ _
  have hl2 : ∀ x ∈ ([(w.heap.size, 26, lfB p i s h l)] : List Blk), x.1 < w.heap.size + 1 := fun x hx => by
    simp only [List.mem_cons, List.not_mem_nil, or_false] at hx
    rcases hx with rfl
    exact Nat.lt_succ_self _
  have H0 := ((Has.start w).add 26 (lfB p i s h l)).addAt 26 (lfB false ⟨#[]⟩ ⟨#[]⟩ 0 0) (g := w.heap.size + 1) (by simp)
  go_enter Try.func29, Try.ntmps29
  go_upto_region 1 with fail
  change Code.wp _ _ _ _ ((w.alloc (.cells (lfB p i s h l) 26)).alloc (.cells (lfB false ⟨#[]⟩ ⟨#[]⟩ 0 0) 26))
  generalize (w.alloc (.cells (lfB p i s h l) 26)).alloc (.cells (lfB false ⟨#[]⟩ ⟨#[]⟩ 0 0) 26) = W0 at *
  have fact : ∀ u, Has w [(w.heap.size + 1, 26, lfB false ⟨#[]⟩ ⟨#[]⟩ 0 0), (w.heap.size, 26, lfB p i s h l)] u → Below w.heap.size w u ∧ (u.cell? ⟨w.heap.size, 0, none⟩ = some (.bool p) ∧ u.cell? ⟨w.heap.size, 1, none⟩ = some (.string i) ∧ u.cell? ⟨w.heap.size, 2, none⟩ = some (.string s) ∧ u.cell? ⟨w.heap.size, 3, none⟩ = some (.int .u64 h) ∧ u.cell? ⟨w.heap.size, 4, none⟩ = some (.int .u64 l)) := fun u H =>
    ⟨H.below, (H.box 1).five0.1⟩
  have fact2 : ∀ u, Has w [(w.heap.size + 1, 26, lfB p i s h l), (w.heap.size, 26, lfB p i s h l)] u → Below w.heap.size w u ∧ (u.cell? ⟨w.heap.size, 0, none⟩ = some (.bool p) ∧ u.cell? ⟨w.heap.size, 1, none⟩ = some (.string i) ∧ u.cell? ⟨w.heap.size, 2, none⟩ = some (.string s) ∧ u.cell? ⟨w.heap.size, 3, none⟩ = some (.int .u64 h) ∧ u.cell? ⟨w.heap.size, 4, none⟩ = some (.int .u64 l)) := fun u H =>
    ⟨H.below, (H.box 1).five0.1⟩
  have K4 := H0.drew
  have f0 := fact _ K4
  refine wp_region_held_drew (S := fun u => Below w.heap.size w u ∧ (u.cell? ⟨w.heap.size, 0, none⟩ = some (.bool p) ∧ u.cell? ⟨w.heap.size, 1, none⟩ = some (.string i) ∧ u.cell? ⟨w.heap.size, 2, none⟩ = some (.string s) ∧ u.cell? ⟨w.heap.size, 3, none⟩ = some (.int .u64 h) ∧ u.cell? ⟨w.heap.size, 4, none⟩ = some (.int .u64 l))) (by kernel_rfl) f0 (fun hHeld => ?_)
  refine wpAnyH_take (i := 0) (v := ?_) rfl (by kernel_rfl) (by kernel_rfl) (by kernel_rfl) (fun _ _ _ h => h) (Or.inl ⟨by rfl, ?_⟩) (by assumption) ?_
  rotate_left 1
  · intro w hSw; (try dsimp only at hSw); go_simp; try with_reducible rfl
  try simp only [Act.put, List.getElem_toArray, List.getElem_cons_succ, List.getElem_cons_zero, List.setIfInBounds_toArray, List.set_cons_zero, List.set_cons_succ]
  refine wpAnyH_take (i := 1) (v := ?_) rfl (by kernel_rfl) (by kernel_rfl) (by kernel_rfl) (fun _ _ _ h => h) (Or.inl ⟨by rfl, ?_⟩) (by assumption) ?_
  rotate_left 1
  · intro w hSw; (try dsimp only at hSw); go_simp; try with_reducible rfl
  try simp only [Act.put, List.getElem_toArray, List.getElem_cons_succ, List.getElem_cons_zero, List.setIfInBounds_toArray, List.set_cons_zero, List.set_cons_succ]
  refine wpAnyH_take (i := 2) (v := ?_) rfl (by kernel_rfl) (by kernel_rfl) (by kernel_rfl) (fun _ _ _ h => h) (Or.inl ⟨by rfl, ?_⟩) (by assumption) ?_
  rotate_left 1
  · intro w hSw; (try dsimp only at hSw); go_simp; try with_reducible rfl
  try simp only [Act.put, List.getElem_toArray, List.getElem_cons_succ, List.getElem_cons_zero, List.setIfInBounds_toArray, List.set_cons_zero, List.set_cons_succ]
  refine wpAnyH_take (i := 3) (v := ?_) rfl (by kernel_rfl) (by kernel_rfl) (by kernel_rfl) (fun _ _ _ h => h) (Or.inl ⟨by rfl, ?_⟩) (by assumption) ?_
  rotate_left 1
  · intro w hSw; (try dsimp only at hSw); go_simp; try with_reducible rfl
  try simp only [Act.put, List.getElem_toArray, List.getElem_cons_succ, List.getElem_cons_zero, List.setIfInBounds_toArray, List.set_cons_zero, List.set_cons_succ]
  refine wpAnyH_take (i := 5) (v := ?_) rfl (by kernel_rfl) (by kernel_rfl) (by kernel_rfl) (fun _ _ _ h => h) (Or.inl ⟨by rfl, ?_⟩) (by assumption) ?_
  rotate_left 1
  · intro w hSw; (try dsimp only at hSw); go_simp; try with_reducible rfl
  try simp only [Act.put, List.getElem_toArray, List.getElem_cons_succ, List.getElem_cons_zero, List.setIfInBounds_toArray, List.set_cons_zero, List.set_cons_succ]
  refine wpAnyH_take (i := 6) (v := ?_) rfl (by kernel_rfl) (by kernel_rfl) (by kernel_rfl) (fun _ _ _ h => h) (Or.inl ⟨by rfl, ?_⟩) (by assumption) ?_
  rotate_left 1
  · intro w hSw; (try dsimp only at hSw); go_simp; try with_reducible rfl
  try simp only [Act.put, List.getElem_toArray, List.getElem_cons_succ, List.getElem_cons_zero, List.setIfInBounds_toArray, List.set_cons_zero, List.set_cons_succ]
  refine wpAnyH_take (i := 8) (v := ?_) rfl (by kernel_rfl) (by kernel_rfl) (by kernel_rfl) (fun _ _ _ h => h) (Or.inl ⟨by rfl, ?_⟩) (by assumption) ?_
  rotate_left 1
  · intro w hSw; (try dsimp only at hSw); go_simp; try with_reducible rfl
  try simp only [Act.put, List.getElem_toArray, List.getElem_cons_succ, List.getElem_cons_zero, List.setIfInBounds_toArray, List.set_cons_zero, List.set_cons_succ]
  refine wpAnyH_take (i := 9) (v := ?_) rfl (by kernel_rfl) (by kernel_rfl) (by kernel_rfl) (fun _ _ _ h => h) (Or.inl ⟨by rfl, ?_⟩) (by assumption) ?_
  rotate_left 1
  · intro w hSw; (try dsimp only at hSw); go_simp; try with_reducible rfl
  try simp only [Act.put, List.getElem_toArray, List.getElem_cons_succ, List.getElem_cons_zero, List.setIfInBounds_toArray, List.set_cons_zero, List.set_cons_succ]
  refine wpAnyH_ready (rs := [4]) (by kernel_rfl) (by simp) (AllReadyH.cons rfl (fun K hK => ?_) AllReadyH.nil)
  go_simp
  go_at_call 32
  refine (cI _).mono ?_
  rintro e w4 ⟨rfl, b4⟩
  have K5 := Has.call K4 b4
  try simp only []
  refine hK.out _ _ (fact _ K5) (fun hHeld => ?_)
  clear hK K
  try simp only [Act.put, List.getElem_toArray, List.getElem_cons_succ, List.getElem_cons_zero, List.setIfInBounds_toArray, List.set_cons_zero, List.set_cons_succ]
  refine wpAnyH_ready (rs := [7]) (by kernel_rfl) (by simp) (AllReadyH.cons rfl (fun K hK => ?_) AllReadyH.nil)
  go_simp
  go_at_call 32
  refine (cS _).mono ?_
  rintro e w5 ⟨rfl, b5⟩
  have K6 := Has.call K5 b5
  try simp only []
  refine hK.out _ _ (fact _ K6) (fun hHeld => ?_)
  clear hK K
  try simp only [Act.put, List.getElem_toArray, List.getElem_cons_succ, List.getElem_cons_zero, List.setIfInBounds_toArray, List.set_cons_zero, List.set_cons_succ]
  refine wpAnyH_take (i := 10) (v := ?_) rfl (by kernel_rfl) (by kernel_rfl) (by kernel_rfl) (fun _ _ _ h => h) (Or.inl ⟨by rfl, ?_⟩) (by assumption) ?_
  rotate_left 1
  · intro w hSw; (try dsimp only at hSw); go_simp; try with_reducible rfl
  try simp only [Act.put, List.getElem_toArray, List.getElem_cons_succ, List.getElem_cons_zero, List.setIfInBounds_toArray, List.set_cons_zero, List.set_cons_succ]
  obtain ⟨⟨x0, x1, x2, x3, x4⟩, -, -⟩ := (K6.box 0).five0
  have g0 := (K6.box 0).free 0
  have g1 := (K6.box 0).free 1
  have g2 := (K6.box 0).free 2
  have g3 := (K6.box 0).free 3
  have g4 := (K6.box 0).free 4
  have hin4 := (K6.box 0).inside
  refine wpAnyH_ready (rs := [11]) (by kernel_rfl) (by simp) (AllReadyH.cons rfl (fun K hK => ?_) AllReadyH.nil)
  go_simp
  have E := told5 K6 (Nat.le_succ _) hl2 (.bool p) (.string i) (.string s) (.int .u64 h) (.int .u64 l)
  generalize World.setCell (World.setCell (World.setCell (World.setCell (World.setCell w5 _ _) _ _) _ _) _ _) _ _ = W9 at *
  have FX := fact2 _ E
  obtain ⟨⟨r0, r1, r2, r3, r4⟩, -, -⟩ := (E.box 0).five0
  refine hK.out _ _ (FX) (fun hHeld => ?_)
  clear hK K
  try simp only [Act.put, List.getElem_toArray, List.getElem_cons_succ, List.getElem_cons_zero, List.setIfInBounds_toArray, List.set_cons_zero, List.set_cons_succ]
  refine wpAnyH_done (by kernel_rfl) ?_ _
  clear x0 x1 x2 x3 x4 g0 g1 g2 g3 g4 hin4 fact fact2
  go_wp2
  exact bodyPost_ret (v := Lf.val ⟨p, i, s, h, l⟩) (by simp [results, Try.results29, go_sem, Lf.val, r0, r1, r2, r3, r4]) rfl ⟨rfl, E.below⟩
end Go.Proofs.Ytjndabnegmecmaa
