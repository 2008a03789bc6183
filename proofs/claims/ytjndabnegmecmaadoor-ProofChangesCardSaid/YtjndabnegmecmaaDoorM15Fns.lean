/- Several of my texts, laid as one. -/
import Derived.Test.YtjndabnegmecmaaDoorT15Leaf
import Derived.Test.YtjndabnegmecmaaDoorU5Clone
import Derived.Test.YtjndabnegmecmaaDoorW14Told
import Derived.Test.YtjndabnegmecmaaDoorM14Fo
import Derived.Test.YtjndabnegmecmaaDoorU14Of
import Derived.Test.YtjndabnegmecmaaDoorU7Node
import Derived.Test.YtjndabnegmecmaaDoorT15Tree
import Derived.Test.YtjndabnegmecmaaDoorM14Cl
import Derived.Laws.Bits64
/-
  Package tree: what is told in memory of its own.
-/
namespace Go.Proofs.YtjndabnegmecmaaDoor
set_option linter.unusedVariables false
set_option linter.unusedSimpArgs false
set_option maxRecDepth 10000
open Go.RowKit

set_option maxRecDepth 100000 in
set_option maxHeartbeats 2000000 in
theorem own15_any (x : Nd) (hx : x.hash.size ≤ 1000000) (w : World) : Calls Tryd.prog 45 #[x.val] w (Tells x.val w.heap.size w) := by
  have cC := fun u => clone_any x.hash (by omega) u
  obtain ⟨s, h, l⟩ := x
  simp only at cC
  show Calls _ _ #[.agg (ndB s h l)] _ _
  have hl2 : ∀ x ∈ ([(w.heap.size, 46, ndB s h l)] : List Blk), x.1 < w.heap.size + 1 := fun x hx => by
    simp only [List.mem_cons, List.not_mem_nil, or_false] at hx
    rcases hx with rfl
    exact Nat.lt_succ_self _
  have H0 := ((Has.start w).add 46 (ndB s h l)).addAt 46 (ndB ⟨#[]⟩ 0 0) (g := w.heap.size + 1) (by simp)
  go_enter Tryd.func45, Tryd.ntmps45
  go_upto_region 1 with fail
  change Code.wp _ _ _ _ ((w.alloc (.cells (ndB s h l) 46)).alloc (.cells (ndB ⟨#[]⟩ 0 0) 46))
  generalize (w.alloc (.cells (ndB s h l) 46)).alloc (.cells (ndB ⟨#[]⟩ 0 0) 46) = W0 at *
  have fact : ∀ u, Has w [(w.heap.size + 1, 46, ndB ⟨#[]⟩ 0 0), (w.heap.size, 46, ndB s h l)] u → Below w.heap.size w u ∧ (u.cell? ⟨w.heap.size, 0, none⟩ = some (.string s) ∧ u.cell? ⟨w.heap.size, 1, none⟩ = some (.int .u64 h) ∧ u.cell? ⟨w.heap.size, 2, none⟩ = some (.int .u64 l)) := fun u H =>
    ⟨H.below, (H.box 1).read 0, (H.box 1).read 1, (H.box 1).read 2⟩
  have fact2 : ∀ u, Has w [(w.heap.size + 1, 46, ndB s h l), (w.heap.size, 46, ndB s h l)] u → Below w.heap.size w u ∧ (u.cell? ⟨w.heap.size, 0, none⟩ = some (.string s) ∧ u.cell? ⟨w.heap.size, 1, none⟩ = some (.int .u64 h) ∧ u.cell? ⟨w.heap.size, 2, none⟩ = some (.int .u64 l)) := fun u H =>
    ⟨H.below, (H.box 1).read 0, (H.box 1).read 1, (H.box 1).read 2⟩
  have K4 := H0.drew
  have f0 := fact _ K4
  refine wp_region_held_drew (S := fun u => Below w.heap.size w u ∧ (u.cell? ⟨w.heap.size, 0, none⟩ = some (.string s) ∧ u.cell? ⟨w.heap.size, 1, none⟩ = some (.int .u64 h) ∧ u.cell? ⟨w.heap.size, 2, none⟩ = some (.int .u64 l))) (by kernel_rfl) f0 (fun hHeld => ?_)
  refine wpAnyH_take (i := 0) (v := ?_) rfl (by kernel_rfl) (by kernel_rfl) (by kernel_rfl) (fun _ _ _ h => h) (Or.inl ⟨by rfl, ?_⟩) (by assumption) ?_
  rotate_left 1
  · intro w hSw; (try dsimp only at hSw); go_simp; try with_reducible rfl
  try simp only [Act.put, List.getElem_toArray, List.getElem_cons_succ, List.getElem_cons_zero, List.setIfInBounds_toArray, List.set_cons_zero, List.set_cons_succ]
  refine wpAnyH_take (i := 1) (v := ?_) rfl (by kernel_rfl) (by kernel_rfl) (by kernel_rfl) (fun _ _ _ h => h) (Or.inl ⟨by rfl, ?_⟩) (by assumption) ?_
  rotate_left 1
  · intro w hSw; (try dsimp only at hSw); go_simp; try with_reducible rfl
  try simp only [Act.put, List.getElem_toArray, List.getElem_cons_succ, List.getElem_cons_zero, List.setIfInBounds_toArray, List.set_cons_zero, List.set_cons_succ]
  refine wpAnyH_take (i := 3) (v := ?_) rfl (by kernel_rfl) (by kernel_rfl) (by kernel_rfl) (fun _ _ _ h => h) (Or.inl ⟨by rfl, ?_⟩) (by assumption) ?_
  rotate_left 1
  · intro w hSw; (try dsimp only at hSw); go_simp; try with_reducible rfl
  try simp only [Act.put, List.getElem_toArray, List.getElem_cons_succ, List.getElem_cons_zero, List.setIfInBounds_toArray, List.set_cons_zero, List.set_cons_succ]
  refine wpAnyH_take (i := 4) (v := ?_) rfl (by kernel_rfl) (by kernel_rfl) (by kernel_rfl) (fun _ _ _ h => h) (Or.inl ⟨by rfl, ?_⟩) (by assumption) ?_
  rotate_left 1
  · intro w hSw; (try dsimp only at hSw); go_simp; try with_reducible rfl
  try simp only [Act.put, List.getElem_toArray, List.getElem_cons_succ, List.getElem_cons_zero, List.setIfInBounds_toArray, List.set_cons_zero, List.set_cons_succ]
  refine wpAnyH_ready (rs := [2]) (by kernel_rfl) (by simp) (AllReadyH.cons rfl (fun K hK => ?_) AllReadyH.nil)
  go_simp
  go_at_call 48
  refine (cC _).mono ?_
  rintro e w4 ⟨rfl, b4⟩
  have K5 := K4.call b4
  have F5 := fact _ K5
  try simp only []
  refine hK.out _ _ (F5) (fun hHeld => ?_)
  clear hK K
  try simp only [Act.put, List.getElem_toArray, List.getElem_cons_succ, List.getElem_cons_zero, List.setIfInBounds_toArray, List.set_cons_zero, List.set_cons_succ]
  refine wpAnyH_take (i := 5) (v := ?_) rfl (by kernel_rfl) (by kernel_rfl) (by kernel_rfl) (fun _ _ _ h => h) (Or.inl ⟨by rfl, ?_⟩) (by assumption) ?_
  rotate_left 1
  · intro w hSw; (try dsimp only at hSw); go_simp; try with_reducible rfl
  try simp only [Act.put, List.getElem_toArray, List.getElem_cons_succ, List.getElem_cons_zero, List.setIfInBounds_toArray, List.set_cons_zero, List.set_cons_succ]
  obtain ⟨x0, x1, x2, g0, g1, g2, hin4⟩ := (K5.box 0).three
  refine wpAnyH_ready (rs := [6]) (by kernel_rfl) (by simp) (AllReadyH.cons rfl (fun K hK => ?_) AllReadyH.nil)
  go_simp
  have E := told3 K5 (Nat.le_succ _) hl2 (.string s) (.int .u64 h) (.int .u64 l)
  generalize World.setCell (World.setCell (World.setCell w4 _ _) _ _) _ _ = W9 at *
  have FX := fact2 _ E
  obtain ⟨r0, r1, r2, -, -, -, hin9⟩ := (E.box 0).three
  refine hK.out _ _ (FX) (fun hHeld => ?_)
  clear hK K
  try simp only [Act.put, List.getElem_toArray, List.getElem_cons_succ, List.getElem_cons_zero, List.setIfInBounds_toArray, List.set_cons_zero, List.set_cons_succ]
  refine wpAnyH_done (by kernel_rfl) ?_ _
  clear x0 x1 x2 g0 g1 g2 hin4 F5 fact fact2
  go_wp2
  exact bodyPost_ret (v := Nd.val ⟨s, h, l⟩) (by simp [results, Tryd.results45, go_sem, Nd.val, r0, r1, r2]) rfl ⟨rfl, E.below⟩
end Go.Proofs.YtjndabnegmecmaaDoor
/-
  Package tree: whether a tree is nobody's; its width, its height; what stands at a place of a row; how many leaves there may be.
-/
namespace Go.Proofs.YtjndabnegmecmaaDoor
set_option linter.unusedVariables false
set_option linter.unusedSimpArgs false
set_option maxRecDepth 10000
open Go.RowKit

/-- A tree that nobody made: nil, or of no levels. -/
def NoTree (W : World) (v : Value) : Prop := v = .pointer none ∨ ∃ g, v = .pointer (some ⟨g, 0, none⟩) ∧ Box W g 75 #[.slice none 0 0, .slice none 0 0]
theorem NoTree.call {W W' : World} {v : Value} (h : NoTree W v) (hb : Below W.heap.size W W') : NoTree W' v := by
  rcases h with h | ⟨g, h, hx⟩
  · exact Or.inl h
  · exact Or.inr ⟨g, h, hx.call hb⟩
set_option maxHeartbeats 2000000 in
theorem nobodys_yes (v : Value) (W : World) (h : NoTree W v) : Calls Tryd.prog 38 #[v] W (Plain (.bool true) W) := by
  rcases h with rfl | ⟨g, rfl, hb⟩
  · go_enter Tryd.func38, Tryd.ntmps38
    go_wp2
    go_ret
    exact ⟨rfl, rfl⟩
  · obtain ⟨b0, b1, -, -, hin⟩ := hb.two
    clear hb
    go_enter Tryd.func38, Tryd.ntmps38
    go_wp2
    go_ret
    exact ⟨rfl, rfl⟩
section
variable {W : World} {q : TrG} {w : Int} {l : List Lf} {k : Nat}
set_option maxHeartbeats 2000000 in
theorem nobodys_no (h : TrAt W q w l k) : Calls Tryd.prog 38 #[.pointer (some ⟨q.g, 0, none⟩)] W (Plain (.bool false) W) := by
  obtain ⟨b0, b1, hin⟩ := h.topcells
  obtain ⟨K, hK⟩ : ∃ K, k + 1 = K := ⟨_, rfl⟩
  have hne : ¬ (K : Int) = 0 := by omega
  rw [hK] at b1
  have hne3 : ¬ K = 0 := by omega
  have hne2 : ((K : Int) == 0) = false := by simp [hne3]
  clear h hK
  go_enter Tryd.func38, Tryd.ntmps38
  go_wp2
  go_ret
  exact ⟨rfl, rfl⟩
set_option maxHeartbeats 2000000 in
theorem width15_any (h : TrAt W q w l k) : Calls Tryd.prog 24 #[.pointer (some ⟨q.g, 0, none⟩)] W (Plain (.int .i64 w) W) := by
  have cN := nobodys_no h
  obtain ⟨b0, b1, hin⟩ := h.topcells
  obtain ⟨b, c, c0, c1, -⟩ := h.level (Nat.zero_le k)
  have hvin := h.row.inside
  rw [Nat.zero_mul] at c0 c1
  obtain ⟨K, hK⟩ : ∃ K, k + 1 = K := ⟨_, rfl⟩
  have hne : (0 : Int) < (K : Int) := by omega
  have hne2 : 0 < K := by omega
  rw [hK] at b1
  clear h hK
  go_enter Tryd.func24, Tryd.ntmps24
  go_wp2_with (first | (go_at_call 38; refine cN.mono ?_; rintro e w1 ⟨rfl, rfl⟩) | fail)
  go_ret
  exact ⟨rfl, rfl⟩
set_option maxHeartbeats 2000000 in
theorem height15_any (h : TrAt W q w l k) (hk : k ≤ 1000) : Calls Tryd.prog 14 #[.pointer (some ⟨q.g, 0, none⟩)] W (Plain (.int .i64 k) W) := by
  have cN := nobodys_no h
  obtain ⟨b0, b1, hin⟩ := h.topcells
  obtain ⟨K, hK⟩ : ∃ K, k + 1 = K := ⟨_, rfl⟩
  have e1 : IntKind.i64.wrap ((K : Int) - 1) = (k : Int) := by rw [IntKind.wrap_i64]; omega
  rw [hK] at b1
  clear h hK
  go_enter Tryd.func14, Tryd.ntmps14
  go_wp2_with (first | (go_at_call 38; refine cN.mono ?_; rintro e w1 ⟨rfl, rfl⟩) | fail)
  go_ret
  exact ⟨rfl, rfl⟩
end
set_option maxHeartbeats 2000000 in
theorem width15_no (v : Value) (W : World) (h : NoTree W v) : Calls Tryd.prog 24 #[v] W (Plain (.int .i64 0) W) := by
  have cN := nobodys_yes v W h
  clear h
  go_enter Tryd.func24, Tryd.ntmps24
  go_wp2_with (first | (go_at_call 38; refine cN.mono ?_; rintro e w1 ⟨rfl, rfl⟩) | fail)
  go_ret
  exact ⟨rfl, rfl⟩
set_option maxHeartbeats 2000000 in
theorem height15_no (v : Value) (W : World) (h : NoTree W v) : Calls Tryd.prog 14 #[v] W (Plain (.int .i64 0) W) := by
  have cN := nobodys_yes v W h
  clear h
  go_enter Tryd.func14, Tryd.ntmps14
  go_wp2_with (first | (go_at_call 38; refine cN.mono ?_; rintro e w1 ⟨rfl, rfl⟩) | fail)
  go_ret
  exact ⟨rfl, rfl⟩
set_option maxHeartbeats 2000000 in
theorem atNd_any (A : Option Addr) (c : Nat) (l : List Nd) (hl : l.length ≤ 1000000000) (p : Nat) (hp : p < 18446744073709551616) (w : World) (hR : ndS.Row w w.heap.size A l) :
    Calls Tryd.prog 44 #[.slice A l.length c, .int .u64 p] w (Tells (.tuple #[(ndAt l p).val, .bool (decide (p < l.length))]) w.heap.size w) := by
  by_cases hlt : p < l.length
  · obtain ⟨x, hx⟩ : ∃ x, l[p]? = some x := ⟨_, List.getElem?_eq_getElem hlt⟩
    have e : ndAt l p = x := by rw [ndAt, List.getD_eq_getElem?_getD, hx]; rfl
    rw [e, decide_eq_true hlt]
    obtain ⟨ad, rfl, g1, p0, p1, p2⟩ := nd_get hR hx
    obtain ⟨N, hN⟩ : ∃ N, l.length = N := ⟨_, rfl⟩
    rw [hN] at hl hlt ⊢
    obtain ⟨xs, xh, xl⟩ := x
    simp only at p0 p1 p2
    have hw1 : IntKind.u64.wrap (N : Int) = (N : Int) := by rw [IntKind.wrap_u64]; omega
    have hlti : ¬ ((N : Int) ≤ (p : Int)) := by omega
    have hltj : (p : Int) < (N : Int) := by omega
    clear hR hx e hN
    go_enter Tryd.func44, Tryd.ntmps44
    go_wp2
    have E := (Has.start w).addAt 46 (ndB xs xh xl) (g := w.heap.size) rfl
    change bodyPost _ _ _ _ _ (w.alloc (.cells (ndB xs xh xl) 46))
    generalize w.alloc (.cells (ndB xs xh xl) 46) = W9 at *
    obtain ⟨v0, v1, v2, -, -, -, -⟩ := (E.box 0).three
    exact bodyPost_ret (v := .tuple #[Nd.val ⟨xs, xh, xl⟩, .bool true]) (by simp [results, Tryd.results44, go_sem, Nd.val, v0, v1, v2]) rfl ⟨rfl, E.below⟩
  · have e : ndAt l p = Nd.zero := by rw [ndAt, List.getD_eq_getElem?_getD, List.getElem?_eq_none (by omega)]; rfl
    rw [e, decide_eq_false hlt]
    obtain ⟨N, hN⟩ : ∃ N, l.length = N := ⟨_, rfl⟩
    rw [hN] at hl hlt ⊢
    have hw1 : IntKind.u64.wrap (N : Int) = (N : Int) := by rw [IntKind.wrap_u64]; omega
    have hlti : (N : Int) ≤ (p : Int) := by omega
    clear hR e hN
    go_enter Tryd.func44, Tryd.ntmps44
    go_wp2
    have E := ((Has.start w).addAt 46 (ndB ⟨#[]⟩ 0 0) (g := w.heap.size) rfl).addAt 46 (ndB ⟨#[]⟩ 0 0) (g := w.heap.size + 1) (by simp)
    change bodyPost _ _ _ _ _ ((w.alloc (.cells (ndB ⟨#[]⟩ 0 0) 46)).alloc (.cells (ndB ⟨#[]⟩ 0 0) 46))
    generalize (w.alloc (.cells (ndB ⟨#[]⟩ 0 0) 46)).alloc (.cells (ndB ⟨#[]⟩ 0 0) 46) = W9 at *
    obtain ⟨v0, v1, v2, -, -, -, -⟩ := (E.box 1).three
    exact bodyPost_ret (v := .tuple #[Nd.zero.val, .bool false]) (by simp [results, Tryd.results44, go_sem, Nd.val, Nd.zero, v0, v1, v2]) rfl ⟨rfl, E.below⟩
theorem lf_five {w : World} {g : Nat} {t : TypeId} {a b c d e : Value} (h : Box w g t #[a, b, c, d, e]) :
    w.cell? ⟨g, 0, none⟩ = some a ∧ w.cell? ⟨g, 1, none⟩ = some b ∧ w.cell? ⟨g, 2, none⟩ = some c ∧ w.cell? ⟨g, 3, none⟩ = some d ∧ w.cell? ⟨g, 4, none⟩ = some e := ⟨h.read 0, h.read 1, h.read 2, h.read 3, h.read 4⟩
set_option maxHeartbeats 2000000 in
theorem atLf_any (A : Option Addr) (c : Nat) (l : List Lf) (hl : l.length ≤ 1000000000) (p : Nat) (hp : p < 18446744073709551616) (w : World) (hR : lfS.Row w w.heap.size A l) :
    Calls Tryd.prog 40 #[.slice A l.length c, .int .u64 p] w (Tells (.tuple #[(lfAt l p).val, .bool (decide (p < l.length))]) w.heap.size w) := by
  by_cases hlt : p < l.length
  · obtain ⟨x, hx⟩ : ∃ x, l[p]? = some x := ⟨_, List.getElem?_eq_getElem hlt⟩
    have e : lfAt l p = x := by rw [lfAt, List.getD_eq_getElem?_getD, hx]; rfl
    rw [e, decide_eq_true hlt]
    obtain ⟨ad, rfl, g1, p0, p1, p2, p3, p4⟩ := lf_get hR hx
    obtain ⟨N, hN⟩ : ∃ N, l.length = N := ⟨_, rfl⟩
    rw [hN] at hl hlt ⊢
    obtain ⟨xp, xi, xs, xh, xl⟩ := x
    simp only at p0 p1 p2 p3 p4
    have hw1 : IntKind.u64.wrap (N : Int) = (N : Int) := by rw [IntKind.wrap_u64]; omega
    have hlti : ¬ ((N : Int) ≤ (p : Int)) := by omega
    have hltj : (p : Int) < (N : Int) := by omega
    clear hR hx e hN
    go_enter Tryd.func40, Tryd.ntmps40
    go_wp2
    have E := (Has.start w).addAt 36 (lfB xp xi xs xh xl) (g := w.heap.size) rfl
    change bodyPost _ _ _ _ _ (w.alloc (.cells (lfB xp xi xs xh xl) 36))
    generalize w.alloc (.cells (lfB xp xi xs xh xl) 36) = W9 at *
    obtain ⟨v0, v1, v2, v3, v4⟩ := lf_five (E.box 0)
    exact bodyPost_ret (v := .tuple #[Lf.val ⟨xp, xi, xs, xh, xl⟩, .bool true]) (by simp [results, Tryd.results40, go_sem, Lf.val, v0, v1, v2, v3, v4]) rfl ⟨rfl, E.below⟩
  · have e : lfAt l p = Lf.zero := by rw [lfAt, List.getD_eq_getElem?_getD, List.getElem?_eq_none (by omega)]; rfl
    rw [e, decide_eq_false hlt]
    obtain ⟨N, hN⟩ : ∃ N, l.length = N := ⟨_, rfl⟩
    rw [hN] at hl hlt ⊢
    have hw1 : IntKind.u64.wrap (N : Int) = (N : Int) := by rw [IntKind.wrap_u64]; omega
    have hlti : (N : Int) ≤ (p : Int) := by omega
    clear hR e hN
    go_enter Tryd.func40, Tryd.ntmps40
    go_wp2
    have E := ((Has.start w).addAt 36 (lfB false ⟨#[]⟩ ⟨#[]⟩ 0 0) (g := w.heap.size) rfl).addAt 36 (lfB false ⟨#[]⟩ ⟨#[]⟩ 0 0) (g := w.heap.size + 1) (by simp)
    change bodyPost _ _ _ _ _ ((w.alloc (.cells (lfB false ⟨#[]⟩ ⟨#[]⟩ 0 0) 36)).alloc (.cells (lfB false ⟨#[]⟩ ⟨#[]⟩ 0 0) 36))
    generalize (w.alloc (.cells (lfB false ⟨#[]⟩ ⟨#[]⟩ 0 0) 36)).alloc (.cells (lfB false ⟨#[]⟩ ⟨#[]⟩ 0 0) 36) = W9 at *
    obtain ⟨v0, v1, v2, v3, v4⟩ := lf_five (E.box 1)
    exact bodyPost_ret (v := .tuple #[Lf.zero.val, .bool false]) (by simp [results, Tryd.results40, go_sem, Lf.val, Lf.zero, v0, v1, v2, v3, v4]) rfl ⟨rfl, E.below⟩
/-- How many leaves there may be. -/
theorem ones_pow11 : ∀ n : Nat, n < 1025 → (onesN n == 1) = decide (n ≠ 0 ∧ n = 2 ^ Nat.log2 n) := by decide +kernel
def mayN (n : Nat) : Bool := decide (n ≠ 0 ∧ n = 2 ^ Nat.log2 n ∧ n ≤ 1024)
theorem mayN_ones (n : Nat) : mayN n = ((onesN n == 1) && decide (n ≤ 1024)) := by
  by_cases h : n ≤ 1024
  · rw [ones_pow11 n (by omega), decide_eq_true h, Bool.and_true, mayN]
    exact decide_eq_decide.2 ⟨fun x => ⟨x.1, x.2.1⟩, fun x => ⟨x.1, x.2, h⟩⟩
  · rw [decide_eq_false h, Bool.and_false, mayN]
    exact decide_eq_false fun x => h x.2.2
set_option maxHeartbeats 2000000 in
theorem mayMany_any (n : Nat) (hn : n ≤ 9223372036854775807) (w : World) : Calls Tryd.prog 46 #[.int .i64 n] w (Plain (.bool (mayN n)) w) := by
  have c := fun u => ones_any n u
  have e := mayN_ones n
  obtain ⟨o, ho⟩ : ∃ o, onesN n = o := ⟨_, rfl⟩
  rw [ho] at c e
  obtain ⟨V, hV⟩ : ∃ V, mayN n = V := ⟨_, rfl⟩
  rw [hV] at e ⊢
  have hw1 : IntKind.u64.wrap (n : Int) = (n : Int) := by rw [IntKind.wrap_u64]; omega
  clear ho hV
  by_cases h1 : o = 1
  · subst h1
    have e2 : V = decide (n ≤ 1024) := by rw [e]; rfl
    clear e
    by_cases h2 : n ≤ 1024
    · rw [decide_eq_true h2] at e2
      subst e2
      have h2i : (n : Int) ≤ 1024 := by omega
      go_enter Tryd.func46, Tryd.ntmps46
      go_wp2_with (first | (go_at_call 60; refine (c _).mono ?_; rintro e w1 ⟨rfl, rfl⟩) | fail)
      go_ret
      exact ⟨rfl, rfl⟩
    · rw [decide_eq_false h2] at e2
      subst e2
      have h2i : decide ((n : Int) ≤ 1024) = false := decide_eq_false (by omega)
      go_enter Tryd.func46, Tryd.ntmps46
      go_wp2_with (first | (go_at_call 60; refine (c _).mono ?_; rintro e w1 ⟨rfl, rfl⟩) | fail)
      go_ret
      exact ⟨rfl, rfl⟩
  · have h1b : (o == 1) = false := by simp [h1]
    rw [h1b, Bool.false_and] at e
    subst e
    go_enter Tryd.func46, Tryd.ntmps46
    go_wp2_with (first | (go_at_call 60; refine (c _).mono ?_; rintro e w1 ⟨rfl, rfl⟩) | fail)
    go_ret
    exact ⟨rfl, rfl⟩
end Go.Proofs.YtjndabnegmecmaaDoor
/-
  Package tree: a leaf in memory of its own; a leaf, a node, put at a place of a row.
-/
namespace Go.Proofs.YtjndabnegmecmaaDoor
set_option linter.unusedVariables false
set_option linter.unusedSimpArgs false
set_option maxRecDepth 10000
open Go.RowKit

set_option maxRecDepth 100000 in
set_option maxHeartbeats 4000000 in
theorem ownLf15_any (x : Lf) (h1 : x.id.size ≤ 1000000) (h2 : x.salt.size ≤ 1000000) (w : World) : Calls Tryd.prog 23 #[x.val] w (Tells x.val w.heap.size w) := by
  have cI := fun u => clone_any x.id (by omega) u
  have cS := fun u => clone_any x.salt (by omega) u
  obtain ⟨p, i, s, h, l⟩ := x
  simp only at cI cS
  show Calls _ _ #[.agg (lfB p i s h l)] _ _
  have hl2 : ∀ x ∈ ([(w.heap.size, 36, lfB p i s h l)] : List Blk), x.1 < w.heap.size + 1 := fun x hx => by
    simp only [List.mem_cons, List.not_mem_nil, or_false] at hx
    rcases hx with rfl
    exact Nat.lt_succ_self _
  have H0 := ((Has.start w).add 36 (lfB p i s h l)).addAt 36 (lfB false ⟨#[]⟩ ⟨#[]⟩ 0 0) (g := w.heap.size + 1) (by simp)
  go_enter Tryd.func23, Tryd.ntmps23
  go_upto_region 1 with fail
  change Code.wp _ _ _ _ ((w.alloc (.cells (lfB p i s h l) 36)).alloc (.cells (lfB false ⟨#[]⟩ ⟨#[]⟩ 0 0) 36))
  generalize (w.alloc (.cells (lfB p i s h l) 36)).alloc (.cells (lfB false ⟨#[]⟩ ⟨#[]⟩ 0 0) 36) = W0 at *
  have fact : ∀ u, Has w [(w.heap.size + 1, 36, lfB false ⟨#[]⟩ ⟨#[]⟩ 0 0), (w.heap.size, 36, lfB p i s h l)] u → Below w.heap.size w u ∧ (u.cell? ⟨w.heap.size, 0, none⟩ = some (.bool p) ∧ u.cell? ⟨w.heap.size, 1, none⟩ = some (.string i) ∧ u.cell? ⟨w.heap.size, 2, none⟩ = some (.string s) ∧ u.cell? ⟨w.heap.size, 3, none⟩ = some (.int .u64 h) ∧ u.cell? ⟨w.heap.size, 4, none⟩ = some (.int .u64 l)) := fun u H =>
    ⟨H.below, (H.box 1).five0.1⟩
  have fact2 : ∀ u, Has w [(w.heap.size + 1, 36, lfB p i s h l), (w.heap.size, 36, lfB p i s h l)] u → Below w.heap.size w u ∧ (u.cell? ⟨w.heap.size, 0, none⟩ = some (.bool p) ∧ u.cell? ⟨w.heap.size, 1, none⟩ = some (.string i) ∧ u.cell? ⟨w.heap.size, 2, none⟩ = some (.string s) ∧ u.cell? ⟨w.heap.size, 3, none⟩ = some (.int .u64 h) ∧ u.cell? ⟨w.heap.size, 4, none⟩ = some (.int .u64 l)) := fun u H =>
    ⟨H.below, (H.box 1).five0.1⟩
  have K4 := H0.drew
  have f0 := fact _ K4
  refine wp_region_held_drew (S := fun u => Below w.heap.size w u ∧ (u.cell? ⟨w.heap.size, 0, none⟩ = some (.bool p) ∧ u.cell? ⟨w.heap.size, 1, none⟩ = some (.string i) ∧ u.cell? ⟨w.heap.size, 2, none⟩ = some (.string s) ∧ u.cell? ⟨w.heap.size, 3, none⟩ = some (.int .u64 h) ∧ u.cell? ⟨w.heap.size, 4, none⟩ = some (.int .u64 l))) (by kernel_rfl) f0 (fun hHeld => ?_)
  refine wpAnyH_take (i := 0) (v := ?_) rfl (by kernel_rfl) (by kernel_rfl) (by kernel_rfl) (fun _ _ _ h => h) (Or.inl ⟨by rfl, ?_⟩) (by assumption) ?_
  rotate_left 1
  · intro w hSw; (try dsimp only at hSw); go_simp; try with_reducible rfl
  try simp only [Act.put, List.getElem_toArray, List.getElem_cons_succ, List.getElem_cons_zero, List.setIfInBounds_toArray, List.set_cons_zero, List.set_cons_succ]
  refine wpAnyH_take (i := 1) (v := ?_) rfl (by kernel_rfl) (by kernel_rfl) (by kernel_rfl) (fun _ _ _ h => h) (Or.inl ⟨by rfl, ?_⟩) (by assumption) ?_
  rotate_left 1
  · intro w hSw; (try dsimp only at hSw); go_simp; try with_reducible rfl
  try simp only [Act.put, List.getElem_toArray, List.getElem_cons_succ, List.getElem_cons_zero, List.setIfInBounds_toArray, List.set_cons_zero, List.set_cons_succ]
  refine wpAnyH_take (i := 2) (v := ?_) rfl (by kernel_rfl) (by kernel_rfl) (by kernel_rfl) (fun _ _ _ h => h) (Or.inl ⟨by rfl, ?_⟩) (by assumption) ?_
  rotate_left 1
  · intro w hSw; (try dsimp only at hSw); go_simp; try with_reducible rfl
  try simp only [Act.put, List.getElem_toArray, List.getElem_cons_succ, List.getElem_cons_zero, List.setIfInBounds_toArray, List.set_cons_zero, List.set_cons_succ]
  refine wpAnyH_take (i := 3) (v := ?_) rfl (by kernel_rfl) (by kernel_rfl) (by kernel_rfl) (fun _ _ _ h => h) (Or.inl ⟨by rfl, ?_⟩) (by assumption) ?_
  rotate_left 1
  · intro w hSw; (try dsimp only at hSw); go_simp; try with_reducible rfl
  try simp only [Act.put, List.getElem_toArray, List.getElem_cons_succ, List.getElem_cons_zero, List.setIfInBounds_toArray, List.set_cons_zero, List.set_cons_succ]
  refine wpAnyH_take (i := 5) (v := ?_) rfl (by kernel_rfl) (by kernel_rfl) (by kernel_rfl) (fun _ _ _ h => h) (Or.inl ⟨by rfl, ?_⟩) (by assumption) ?_
  rotate_left 1
  · intro w hSw; (try dsimp only at hSw); go_simp; try with_reducible rfl
  try simp only [Act.put, List.getElem_toArray, List.getElem_cons_succ, List.getElem_cons_zero, List.setIfInBounds_toArray, List.set_cons_zero, List.set_cons_succ]
  refine wpAnyH_take (i := 6) (v := ?_) rfl (by kernel_rfl) (by kernel_rfl) (by kernel_rfl) (fun _ _ _ h => h) (Or.inl ⟨by rfl, ?_⟩) (by assumption) ?_
  rotate_left 1
  · intro w hSw; (try dsimp only at hSw); go_simp; try with_reducible rfl
  try simp only [Act.put, List.getElem_toArray, List.getElem_cons_succ, List.getElem_cons_zero, List.setIfInBounds_toArray, List.set_cons_zero, List.set_cons_succ]
  refine wpAnyH_take (i := 8) (v := ?_) rfl (by kernel_rfl) (by kernel_rfl) (by kernel_rfl) (fun _ _ _ h => h) (Or.inl ⟨by rfl, ?_⟩) (by assumption) ?_
  rotate_left 1
  · intro w hSw; (try dsimp only at hSw); go_simp; try with_reducible rfl
  try simp only [Act.put, List.getElem_toArray, List.getElem_cons_succ, List.getElem_cons_zero, List.setIfInBounds_toArray, List.set_cons_zero, List.set_cons_succ]
  refine wpAnyH_take (i := 9) (v := ?_) rfl (by kernel_rfl) (by kernel_rfl) (by kernel_rfl) (fun _ _ _ h => h) (Or.inl ⟨by rfl, ?_⟩) (by assumption) ?_
  rotate_left 1
  · intro w hSw; (try dsimp only at hSw); go_simp; try with_reducible rfl
  try simp only [Act.put, List.getElem_toArray, List.getElem_cons_succ, List.getElem_cons_zero, List.setIfInBounds_toArray, List.set_cons_zero, List.set_cons_succ]
  refine wpAnyH_ready (rs := [4]) (by kernel_rfl) (by simp) (AllReadyH.cons rfl (fun K hK => ?_) AllReadyH.nil)
  go_simp
  go_at_call 48
  refine (cI _).mono ?_
  rintro e w4 ⟨rfl, b4⟩
  have K5 := Has.call K4 b4
  try simp only []
  refine hK.out _ _ (fact _ K5) (fun hHeld => ?_)
  clear hK K
  try simp only [Act.put, List.getElem_toArray, List.getElem_cons_succ, List.getElem_cons_zero, List.setIfInBounds_toArray, List.set_cons_zero, List.set_cons_succ]
  refine wpAnyH_ready (rs := [7]) (by kernel_rfl) (by simp) (AllReadyH.cons rfl (fun K hK => ?_) AllReadyH.nil)
  go_simp
  go_at_call 48
  refine (cS _).mono ?_
  rintro e w5 ⟨rfl, b5⟩
  have K6 := Has.call K5 b5
  try simp only []
  refine hK.out _ _ (fact _ K6) (fun hHeld => ?_)
  clear hK K
  try simp only [Act.put, List.getElem_toArray, List.getElem_cons_succ, List.getElem_cons_zero, List.setIfInBounds_toArray, List.set_cons_zero, List.set_cons_succ]
  refine wpAnyH_take (i := 10) (v := ?_) rfl (by kernel_rfl) (by kernel_rfl) (by kernel_rfl) (fun _ _ _ h => h) (Or.inl ⟨by rfl, ?_⟩) (by assumption) ?_
  rotate_left 1
  · intro w hSw; (try dsimp only at hSw); go_simp; try with_reducible rfl
  try simp only [Act.put, List.getElem_toArray, List.getElem_cons_succ, List.getElem_cons_zero, List.setIfInBounds_toArray, List.set_cons_zero, List.set_cons_succ]
  obtain ⟨⟨x0, x1, x2, x3, x4⟩, -, -⟩ := (K6.box 0).five0
  have g0 := (K6.box 0).free 0
  have g1 := (K6.box 0).free 1
  have g2 := (K6.box 0).free 2
  have g3 := (K6.box 0).free 3
  have g4 := (K6.box 0).free 4
  have hin4 := (K6.box 0).inside
  refine wpAnyH_ready (rs := [11]) (by kernel_rfl) (by simp) (AllReadyH.cons rfl (fun K hK => ?_) AllReadyH.nil)
  go_simp
  have E := told5 K6 (Nat.le_succ _) hl2 (.bool p) (.string i) (.string s) (.int .u64 h) (.int .u64 l)
  generalize World.setCell (World.setCell (World.setCell (World.setCell (World.setCell w5 _ _) _ _) _ _) _ _) _ _ = W9 at *
  have FX := fact2 _ E
  obtain ⟨⟨r0, r1, r2, r3, r4⟩, -, -⟩ := (E.box 0).five0
  refine hK.out _ _ (FX) (fun hHeld => ?_)
  clear hK K
  try simp only [Act.put, List.getElem_toArray, List.getElem_cons_succ, List.getElem_cons_zero, List.setIfInBounds_toArray, List.set_cons_zero, List.set_cons_succ]
  refine wpAnyH_done (by kernel_rfl) ?_ _
  clear x0 x1 x2 x3 x4 g0 g1 g2 g3 g4 hin4 fact fact2
  go_wp2
  exact bodyPost_ret (v := Lf.val ⟨p, i, s, h, l⟩) (by simp [results, Tryd.results23, go_sem, Lf.val, r0, r1, r2, r3, r4]) rfl ⟨rfl, E.below⟩
set_option maxRecDepth 100000 in
set_option maxHeartbeats 2000000 in
theorem putLf_any (g c : Nat) (l : List Lf) (hl : l.length ≤ 1000000000) (p : Nat) (hp : p < l.length) (x : Lf) (w : World) (hB : lfS.Blk w 36 g l) :
    Calls Tryd.prog 42 #[.slice (some ⟨g, 0, none⟩) l.length c, .int .u64 p, x.val] w (fun e w' => e = .returned (.tuple #[]) ∧ lfS.Blk w' 36 g (l.set p x) ∧ Off (One g) w w') := by
  obtain ⟨xp, xi, xs, xh, xl⟩ := x
  show Calls _ _ #[_, _, .agg (lfB xp xi xs xh xl)] _ _
  have B1 := hB.call (chainA (Below.refl w.heap.size w) (.cells (lfB xp xi xs xh xl) 36))
  have X1 := Box.made w 36 (lfB xp xi xs xh xl)
  have O1 := (Off.refl (One g) w).past (.cells (lfB xp xi xs xh xl) 36)
  have hgw := hB.inside
  go_enter Tryd.func42, Tryd.ntmps42
  go_upto_region 1 with fail
  change Code.wp _ _ _ _ (w.alloc (.cells (lfB xp xi xs xh xl) 36))
  obtain ⟨h, hh⟩ : ∃ h, w.heap.size = h := ⟨_, rfl⟩
  rw [hh] at X1 hgw ⊢
  generalize w.alloc (.cells (lfB xp xi xs xh xl) 36) = W1 at *
  obtain ⟨⟨x0, x1, x2, x3, x4⟩, -, -⟩ := X1.five0
  obtain ⟨y, hy, e0, e1, e2, e3, e4⟩ := lf_there B1 p hp
  have f0 := B1.free (p * 5)
  have f1 := B1.free (p * 5 + 1)
  have f2 := B1.free (p * 5 + 2)
  have f3 := B1.free (p * 5 + 3)
  have f4 := B1.free (p * 5 + 4)
  have hin := B1.inside
  have hpi : (p : Int) < (l.length : Int) := by omega
  obtain ⟨N, hN⟩ : ∃ N, l.length = N := ⟨_, rfl⟩
  rw [hN] at hpi hl ⊢
  have HN := hideIt hN
  clear hN hy hh X1
  have P1 := lf_put B1 p ⟨xp, xi, xs, xh, xl⟩ hp
  have O2 := O1.trans (putLf_off W1 g p ⟨xp, xi, xs, xh, xl⟩)
  clear O1 B1 hB
  rw [HN.out] at hp
  go_wp2
  go_end0
  exact ⟨rfl, P1, O2⟩
set_option maxRecDepth 100000 in
set_option maxHeartbeats 2000000 in
theorem putNd_any (g c : Nat) (l : List Nd) (hl : l.length ≤ 1000000000) (p : Nat) (hp : p < l.length) (x : Nd) (w : World) (hB : ndS.Blk w 46 g l) :
    Calls Tryd.prog 43 #[.slice (some ⟨g, 0, none⟩) l.length c, .int .u64 p, x.val] w (fun e w' => e = .returned (.tuple #[]) ∧ ndS.Blk w' 46 g (l.set p x) ∧ Off (One g) w w') := by
  obtain ⟨xs, xh, xl⟩ := x
  show Calls _ _ #[_, _, .agg (ndB xs xh xl)] _ _
  have B1 := hB.call (chainA (Below.refl w.heap.size w) (.cells (ndB xs xh xl) 46))
  have X1 := Box.made w 46 (ndB xs xh xl)
  have O1 := (Off.refl (One g) w).past (.cells (ndB xs xh xl) 46)
  have hgw := hB.inside
  go_enter Tryd.func43, Tryd.ntmps43
  go_upto_region 1 with fail
  change Code.wp _ _ _ _ (w.alloc (.cells (ndB xs xh xl) 46))
  obtain ⟨h, hh⟩ : ∃ h, w.heap.size = h := ⟨_, rfl⟩
  rw [hh] at X1 hgw ⊢
  generalize w.alloc (.cells (ndB xs xh xl) 46) = W1 at *
  obtain ⟨x0, x1, x2, -, -, -, -⟩ := X1.three
  obtain ⟨y, hy, e0, e1, e2⟩ := nd_there B1 p hp
  have f0 := B1.free (p * 3)
  have f1 := B1.free (p * 3 + 1)
  have f2 := B1.free (p * 3 + 2)
  have hin := B1.inside
  have hpi : (p : Int) < (l.length : Int) := by omega
  obtain ⟨N, hN⟩ : ∃ N, l.length = N := ⟨_, rfl⟩
  rw [hN] at hpi hl ⊢
  have HN := hideIt hN
  clear hN hy hh X1
  have P1 := nd_put B1 p ⟨xs, xh, xl⟩ hp
  have O2 := O1.trans (putN_off W1 g p ⟨xs, xh, xl⟩)
  clear O1 B1 hB
  rw [HN.out] at hp
  go_wp2
  go_end0
  exact ⟨rfl, P1, O2⟩
end Go.Proofs.YtjndabnegmecmaaDoor
/-
  Package tree: the node above a place, if that one stood there.
-/
namespace Go.Proofs.YtjndabnegmecmaaDoor
set_option linter.unusedVariables false
set_option linter.unusedSimpArgs false
set_option maxRecDepth 10000
open Go.RowKit

theorem xor_one (q : Nat) : q ^^^ 1 = sib q := by
  unfold sib
  apply Nat.eq_of_testBit_eq
  intro i
  rw [Nat.testBit_xor]
  cases i with
  | zero =>
    simp only [Nat.testBit_zero]
    split <;> rename_i h
    · have : (q - 1) % 2 = 0 := by omega
      simp [h, this]
    · have h2 : q % 2 = 0 := by omega
      have : (q + 1) % 2 = 1 := by omega
      simp [h2, this]
  | succ i =>
    rw [Nat.testBit_succ, Nat.testBit_succ, Nat.testBit_succ]
    have : 1 / 2 = 0 := rfl
    rw [this, Nat.zero_testBit, Bool.xor_false]
    congr 1
    split <;> omega
theorem bits_xor1 (q : Nat) (hq : q < 18446744073709551616) : bits .xor .u64 (q : Int) 1 = (sib q : Int) := by
  rw [← xor_one]
  exact bits_xor_u64_nat q 1 hq (by decide)
theorem sib_bound {q : Nat} (hq : q < 18446744073709551616) : sib q < 18446744073709551616 := by unfold sib; split <;> omega
set_option maxRecDepth 100000 in
set_option maxHeartbeats 4000000 in
theorem over15_any (n : Int) (A : Option Addr) (c : Nat) (l : List Nd) (hl : l.length ≤ 1000000) (hmw : mayW n = true) (hx : ∀ x ∈ l, x.of n = true ∧ x.halved) (p : Nat) (hp : p < 18446744073709551616) (hs : sib p < l.length) (nd : Nd) (hn : nd.of n = true) (hh : nd.halved)
    (w : World) (hR : ndS.Row w w.heap.size A l) (hT : Tab w) :
    Calls Tryd.prog 47 #[.agg #[.slice A l.length c, .int .i64 n], .int .u64 p, nd.val] w (fun e w' => e = .returned (.tuple #[(climbS n nd p [sibN l p]).1.val, .int .i64 (climbS n nd p [sibN l p]).2]) ∧ Below w.heap.size w w') := by
  have cA := fun u hu => atNd_any A c l (by omega) (sib p) (sib_bound hp) u hu
  have eS : ndAt l (sib p) = sibN l p := rfl
  rw [eS, decide_eq_true hs] at cA
  obtain ⟨s, hs0⟩ : ∃ s, l[sib p]? = some s := ⟨_, List.getElem?_eq_getElem hs⟩
  have eN : sibN l p = s := by rw [sibN, List.getD_eq_getElem?_getD, hs0]; rfl
  obtain ⟨so, sh⟩ := hx s (List.mem_of_getElem? hs0)
  rw [eN] at cA ⊢
  have hxs : ∀ x ∈ [s], x.halved := fun x hx => by rw [List.mem_singleton.1 hx]; exact sh
  have cC := fun g u hu hv => climb14_any n nd p hp (some ⟨g, 0, none⟩) 1 [s] (by simp) hh hxs u hu hv
  have eC : climbN n nd p [s] = climbS n nd p [s] := by
    rw [climbN, if_pos (by rw [hn, Bool.true_and, allW, hmw, Bool.true_and]; simp [so]), if_pos (by simp)]
  rw [eC] at cC
  obtain ⟨⟨⟨rs, rh', rl'⟩, re⟩, hC⟩ : ∃ V, climbS n nd p [s] = V := ⟨_, rfl⟩
  rw [hC] at cC ⊢
  have hxor := bits_xor1 p hp
  obtain ⟨N, hN⟩ : ∃ N, l.length = N := ⟨_, rfl⟩
  rw [hN] at cA hl ⊢
  obtain ⟨sp, hsp⟩ : ∃ sp, sib p = sp := ⟨_, rfl⟩
  rw [hsp] at cA hxor
  obtain ⟨ns, nh, nl⟩ := nd
  obtain ⟨ss, sh1, sl1⟩ := s
  simp only [Nd.val, List.length_cons, List.length_nil, Nat.zero_add] at cA cC
  show Calls _ _ #[.agg #[.slice A N c, .int .i64 n], .int .u64 p, .agg (ndB ns nh nl)] _ _
  have H0 := (((Has.start w).add 66 #[.slice A N c, .int .i64 n]).addAt 46 (ndB ns nh nl) (g := w.heap.size + 1) (by simp)).addAt 46 (ndB ⟨#[]⟩ 0 0) (g := w.heap.size + 1 + 1) (by simp)
  clear hxs hC eC eN eS hs0 hs hx hh hn sh so hN hsp
  go_enter Tryd.func47, Tryd.ntmps47
  go_upto_region 1 with fail
  change Code.wp _ _ _ _ (((w.alloc (.cells #[.slice A N c, .int .i64 n] 66)).alloc (.cells (ndB ns nh nl) 46)).alloc (.cells (ndB ⟨#[]⟩ 0 0) 46))
  generalize ((w.alloc (.cells #[.slice A N c, .int .i64 n] 66)).alloc (.cells (ndB ns nh nl) 46)).alloc (.cells (ndB ⟨#[]⟩ 0 0) 46) = W0 at *
  simp only [Nat.add_assoc, Nat.reduceAdd] at H0 ⊢
  obtain ⟨l0, l1, -, -, lin⟩ := (H0.box 2).two
  go_upto_region 2 with (first
    | (go_at_call 44; refine (cA _ (hR.on H0.below)).mono ?_; rintro e w1 ⟨rfl, b1⟩; have K1 := (H0.call b1).add 46 (ndB ss sh1 sl1))
    | fail)
  obtain ⟨h1, hh1⟩ : ∃ g, w1.heap.size = g := ⟨_, rfl⟩
  rw [hh1] at K1 ⊢
  change Code.wp _ _ _ _ (w1.alloc (.cells (ndB ss sh1 sl1) 46))
  generalize w1.alloc (.cells (ndB ss sh1 sl1) 46) = W1 at *
  have hlo := (K1.box 1).inside
  obtain ⟨x0, x1, x2, -, -, -, xin⟩ := (K1.box 0).three
  obtain ⟨y0, y1, y2, -, -, -, yin⟩ := (K1.box 2).three
  obtain ⟨z0, z1, -, -, zin⟩ := (K1.box 3).two
  have K2 := K1.add 46 (ndB ss sh1 sl1)
  have R2 := Sh.row_box (S := ndS) (d := [⟨ss, sh1, sl1⟩]) (K2.box 0)
  have cC2 := cC _ _ R2 (hT.call K2.below)
  have hne1 : w.heap.size + 2 ≠ h1 := by have := b1.size; have := (H0.box 0).inside; omega
  have hne2 : w.heap.size + 2 ≠ W1.heap.size := Nat.ne_of_lt hlo
  clear cA cC H0 b1 hh1 l0 l1 lin hR hT hxor
  go_wp2_with (first
    | (go_at_call 12; refine cC2.mono ?_; rintro e w3 ⟨rfl, b3⟩; have K3 := K2.call b3; obtain ⟨u0, u1, u2, u3, u4, u5, u6⟩ := (K3.box 2).three)
    | fail)
  have K4 : Has w [(w.heap.size + 2, 46, ndB ⟨#[]⟩ 0 0)] w3 := ⟨fun x hx => by obtain rfl := List.mem_singleton.1 hx; exact K3.box 2, K3.below⟩
  have E := told3 K4 (by omega) (fun x hx => by simp at hx) (.string rs) (.int .u64 rh') (.int .u64 rl')
  generalize World.setCell (World.setCell (World.setCell w3 _ _) _ _) _ _ = W9 at *
  obtain ⟨v0, v1, v2, -, -, -, -⟩ := (E.box 0).three
  exact bodyPost_ret (v := .tuple #[Nd.val ⟨rs, rh', rl'⟩, .int .i64 re]) (by simp [results, Tryd.results47, go_sem, Nd.val, v0, v1, v2]) rfl ⟨rfl, E.below⟩
end Go.Proofs.YtjndabnegmecmaaDoor
/-
  Package tree: a row of the same, each made one's own.
-/
namespace Go.Proofs.YtjndabnegmecmaaDoor
set_option linter.unusedVariables false
set_option linter.unusedSimpArgs false
set_option maxRecDepth 10000
open Go.RowKit

/-- A row made new, of nothing but zero ones. -/
theorem Sh.made {α : Type} (S : Sh α) (z : α) (cs : Array Value) (hz : cs.toList = S.cells z) (n : Nat) : (madeCells cs (n * S.k)).toList = S.flat (List.replicate n z) ++ [] := by
  rw [List.append_nil]
  have hk := S.pos
  have hsz : cs.size = S.k := by rw [← Array.length_toList, hz, S.len]
  apply List.ext_getElem?
  intro i
  by_cases hi : i < n * S.k
  · have hq : i / S.k < n := (Nat.div_lt_iff_lt_mul hk).2 hi
    have hr := Nat.mod_lt i hk
    have e : i = i / S.k * S.k + i % S.k := by rw [Nat.mul_comm]; exact (Nat.div_add_mod i S.k).symm
    rw [Array.getElem?_toList]
    unfold madeCells
    rw [Array.getElem?_map, Array.getElem?_range, if_pos hi]
    have e2 : (S.flat (List.replicate n z))[i]? = (S.cells z)[i % S.k]? := by
      have := S.flat_at (List.replicate n z) (i / S.k) z (by rw [List.getElem?_replicate, if_pos hq]) (i % S.k) hr
      rw [← e] at this
      exact this
    rw [e2, ← hz, hsz, Array.getElem?_toList]
    have h3 : i % S.k < cs.size := by omega
    rw [Array.getElem?_eq_getElem h3]
    simp [h3]
  · rw [List.getElem?_eq_none (by simp [madeCells]; omega), List.getElem?_eq_none (by rw [S.flat_len, List.length_replicate]; omega)]
theorem infoT_lf : (Tryd.prog.info? 36).map (fun i => (i.zero, i.size, i.bytes)) = some (some (.agg #[.bool false, .string ⟨#[]⟩, .string ⟨#[]⟩, .int .u64 0, .int .u64 0]), 5, 56) := by kernel_rfl
theorem infoT_nd : (Tryd.prog.info? 46).map (fun i => (i.zero, i.size, i.bytes)) = some (some (.agg #[.string ⟨#[]⟩, .int .u64 0, .int .u64 0]), 3, 32) := by kernel_rfl
theorem makeR_lf (n : Nat) (hn : n ≤ 1000000000) (u : World) : ∃ cs, (Instr.makeSlice 71 (.int .i64 (n : Int)) (.int .i64 (n : Int))).run Tryd.prog u = .ok (.slice (some ⟨u.heap.size, 0, none⟩) n n) (u.alloc (.cells cs 36)) ∧
    lfS.Blk (u.alloc (.cells cs 36)) 36 u.heap.size (List.replicate n Lf.zero) := by
  obtain ⟨i0, hi, hz0, hz1, hz2⟩ := info_parts infoT_lf
  have h := run_make (P := Tryd.prog) u 71 36 i0 _ Tryd.underlying71 hi hz0 .i64 .i64 (n : Int) (n : Int) (by omega) (by omega) (by rw [hz2]; omega) (by omega)
  rw [hz1, Int.toNat_natCast] at h
  exact ⟨_, h, _, [], Box.made _ _ _, lfS.made Lf.zero _ rfl n⟩
theorem makeR_nd (n : Nat) (hn : n ≤ 1000000000) (u : World) : ∃ cs, (Instr.makeSlice 64 (.int .i64 (n : Int)) (.int .i64 (n : Int))).run Tryd.prog u = .ok (.slice (some ⟨u.heap.size, 0, none⟩) n n) (u.alloc (.cells cs 46)) ∧
    ndS.Blk (u.alloc (.cells cs 46)) 46 u.heap.size (List.replicate n Nd.zero) := by
  obtain ⟨i0, hi, hz0, hz1, hz2⟩ := info_parts infoT_nd
  have h := run_make (P := Tryd.prog) u 64 46 i0 _ Tryd.underlying64 hi hz0 .i64 .i64 (n : Int) (n : Int) (by omega) (by omega) (by rw [hz2]; omega) (by omega)
  rw [hz1, Int.toNat_natCast] at h
  exact ⟨_, h, _, [], Box.made _ _ _, ndS.made Nd.zero _ rfl n⟩
/-- The first ones, and zero ones behind them. -/
def twL {α : Type} (z : α) (l : List α) (k : Nat) : List α := l.take k ++ List.replicate (l.length - k) z
theorem twL_len {α : Type} (z : α) (l : List α) {k : Nat} (hk : k ≤ l.length) : (twL z l k).length = l.length := by simp [twL]; omega
theorem twL_zero {α : Type} (z : α) (l : List α) : twL z l 0 = List.replicate l.length z := by simp [twL]
theorem twL_all {α : Type} (z : α) (l : List α) : twL z l l.length = l := by simp [twL]
theorem twL_set {α : Type} (z : α) {l : List α} {k : Nat} {x : α} (h : l[k]? = some x) : (twL z l k).set k x = twL z l (k + 1) := by
  obtain ⟨hk, e⟩ := List.getElem?_eq_some_iff.1 h
  unfold twL
  rw [List.take_add_one, h, List.set_append_right _ _ (by simp; omega), List.length_take, Nat.min_eq_left (by omega), Nat.sub_self,
    show l.length - k = (l.length - (k + 1)) + 1 by omega, List.replicate_succ, List.set_cons_zero]
  simp
set_option maxRecDepth 100000 in
set_option maxHeartbeats 4000000 in
theorem twinLf_any (A : Option Addr) (c : Nat) (l : List Lf) (hl : l.length ≤ 1000000) (hs : ∀ x ∈ l, x.id.size ≤ 1000000 ∧ x.salt.size ≤ 1000000) (w : World) (hR : lfS.Row w w.heap.size A l) :
    Calls Tryd.prog 22 #[.slice A l.length c, .func (.func 23) #[] #[]] w (fun e w' => Below w.heap.size w w' ∧ ∃ g, e = .returned (.slice (some ⟨g, 0, none⟩) l.length l.length) ∧ w.heap.size ≤ g ∧ lfS.Blk w' 36 g l) := by
  obtain ⟨cs, hmk, B0⟩ := makeR_lf l.length (by omega) w
  rw [← twL_zero Lf.zero l] at B0
  obtain ⟨N, hN⟩ : ∃ N, l.length = N := ⟨_, rfl⟩
  have h0 := twL_all Lf.zero l
  rw [hN] at hl hmk h0 ⊢
  have HN := hideIt hN
  clear hN
  obtain ⟨g, hg⟩ : ∃ g, w.heap.size = g := ⟨_, rfl⟩
  have L0 : Below g w (w.alloc (.cells cs 36)) := by rw [← hg]; exact chainA (Below.refl _ _) _
  rw [hg] at hmk B0 hR ⊢
  have HGW := hideIt hg
  clear hg
  go_enter Tryd.func22, Tryd.ntmps22
  go_wp2
  generalize w.alloc (.cells cs 36) = W0 at *
  go_loopg [13] N (fun gk i wr => ∃ k : Nat, k ≤ N ∧ N - k ≤ gk ∧ i = .int .i64 k ∧ lfS.Blk wr 36 g (twL Lf.zero l k) ∧ Below g w wr)
  case atStart => exact ⟨0, Nat.zero_le _, by omega, rfl, B0, L0⟩
  case round =>
    obtain ⟨k, hk, hgk, rfl, hB, hb⟩ := hrel
    have HG := hideIt hgk
    clear hgk B0 L0 hmk
    by_cases hlt : k < N
    · obtain ⟨x, hx⟩ : ∃ x, l[k]? = some x := ⟨_, List.getElem?_eq_getElem (by rw [HN.out]; exact hlt)⟩
      have hst := twL_set Lf.zero hx
      have hlen := twL_len Lf.zero l (k := k) (by rw [HN.out]; exact hk)
      rw [HN.out] at hlen
      obtain ⟨hs1, hs2⟩ := hs x (List.mem_of_getElem? hx)
      have cO := fun u => ownLf15_any x hs1 hs2 u
      have hgin := hB.inside
      obtain ⟨ad, rfl, g1, p0, p1, p2, p3, p4⟩ := lf_get ((hR.call hb).more (Nat.le_of_lt hgin)) hx
      obtain ⟨xp, xi, xs, xh, xl⟩ := x
      simp only [Lf.val] at cO p0 p1 p2 p3 p4
      have HST := hideIt hst
      have hlti : (k : Int) < (N : Int) := by omega
      clear hx hst hs1 hs2
      go_upto_region 5 with fail
      have B1 := hB.call (chainA (Below.refl wr.heap.size wr) (.cells (lfB xp xi xs xh xl) 36))
      have X1 := Box.made wr 36 (lfB xp xi xs xh xl)
      have L1 : Below g w (wr.alloc (.cells (lfB xp xi xs xh xl) 36)) := hb.alloc (Nat.le_of_lt hgin) _
      change Code.wp _ _ _ _ (wr.alloc (.cells (lfB xp xi xs xh xl) 36))
      obtain ⟨h, hh⟩ : ∃ h, wr.heap.size = h := ⟨_, rfl⟩
      rw [hh] at X1 hgin ⊢
      generalize wr.alloc (.cells (lfB xp xi xs xh xl) 36) = W1 at *
      obtain ⟨⟨x0, x1, x2, x3, x4⟩, -, xin⟩ := X1.five0
      clear p0 p1 p2 p3 p4 g1 hh X1 hB hb
      go_wp2_with (first
        | (go_at_call 23; refine (cO _).mono ?_; rintro e w5 ⟨rfl, b5⟩; have B5 := B1.call b5; have L5 := L1.trans (b5.mono (Nat.le_trans (Nat.le_of_lt hgin) (Nat.le_of_lt xin)))
           obtain ⟨y, hy, e0, e1, e2, e3, e4⟩ := lf_there B5 k (by rw [hlen]; exact hlt)
           have f0 := B5.free (k * 5)
           have f1 := B5.free (k * 5 + 1)
           have f2 := B5.free (k * 5 + 2)
           have f3 := B5.free (k * 5 + 3)
           have f4 := B5.free (k * 5 + 4)
           have hin5 := B5.inside)
        | fail)
      go_roundg (N - (k + 1))
      case measure => have := HG.out; omega
      case rel =>
        have P := lf_put B5 k ⟨xp, xi, xs, xh, xl⟩ (by rw [hlen]; exact hlt)
        rw [HST.out] at P
        exact ⟨k + 1, by omega, Nat.le_refl _, by go_num, P, L5.trans ((putLf_off w5 g k ⟨xp, xi, xs, xh, xl⟩).below (fun i hi => by have : i = g := hi; omega) (Nat.le_of_lt hin5))⟩
    · have e : k = N := by omega
      subst e
      rw [h0] at hB
      clear HG
      go_wp2
      exact bodyPost_ret (results_tmp rfl _ _ _) rfl ⟨hb, g, rfl, Nat.le_refl _, hB⟩
end Go.Proofs.YtjndabnegmecmaaDoor
/-
  Package tree: what is wrong with a width and leaves.
-/
namespace Go.Proofs.YtjndabnegmecmaaDoor
set_option linter.unusedVariables false
set_option linter.unusedSimpArgs false
set_option maxRecDepth 10000
open Go.RowKit

/-- What is wrong with a width and leaves. -/
def wrongT (w : Int) (l : List Lf) : Int := if mayW w = true then (if mayN l.length = true then (if l.all Lf.may = true then 0 else 130) else 120) else 70
set_option maxRecDepth 100000 in
set_option maxHeartbeats 4000000 in
theorem wrong15_any (n : Int) (A : Option Addr) (c : Nat) (l : List Lf) (hl : l.length ≤ 9223372036854775807) (hs : ∀ x ∈ l, x.id.size ≤ 9223372036854775807 ∧ x.salt.size ≤ 9223372036854775807) (w : World) (hR : lfS.Row w w.heap.size A l) (hU : TabU w) :
    Calls Tryd.prog 19 #[.int .i64 n, .slice A l.length c] w (Tells (.int .i64 (wrongT n l)) w.heap.size w) := by
  have cW := fun u => mayWidth_any n u
  have cM := fun u => mayMany_any l.length hl u
  have eV : wrongT n l = if mayW n = true then (if mayN l.length = true then (if l.all Lf.may = true then 0 else 130) else 120) else 70 := rfl
  obtain ⟨V, hV⟩ : ∃ V, wrongT n l = V := ⟨_, rfl⟩
  rw [hV] at eV ⊢
  obtain ⟨N, hN⟩ : ∃ N, l.length = N := ⟨_, rfl⟩
  rw [hN] at cM eV hl ⊢
  have HN := hideIt hN
  generalize mayW n = bw at *
  generalize mayN N = bn at *
  clear hV hN
  cases bw with
  | false =>
    rw [if_neg (by decide)] at eV
    subst eV
    go_enter Tryd.func19, Tryd.ntmps19
    go_wp2
    go_step3
    go_wp2
    go_step3
    go_wp2_with (first
      | (go_at_call 34; refine (cW _).mono ?_; rintro e w1 ⟨rfl, rfl⟩)
      | fail)
    rw [Exit.noGoto_ret]
    go_ret
    exact ⟨rfl, Below.refl _ _⟩
  | true =>
    rw [if_pos rfl] at eV
    cases bn with
    | false =>
      rw [if_neg (by decide)] at eV
      subst eV
      go_enter Tryd.func19, Tryd.ntmps19
      go_wp2
      go_step3
      go_wp2
      go_step3
      go_wp2_with (first
        | (go_at_call 34; refine (cW _).mono ?_; rintro e w1 ⟨rfl, rfl⟩)
        | (go_at_call 46; refine (cM _).mono ?_; rintro e w1 ⟨rfl, rfl⟩)
        | fail)
      rw [Exit.noGoto_ret]
      go_ret
      exact ⟨rfl, Below.refl _ _⟩
    | true =>
      rw [if_pos rfl] at eV
      have HV := hideIt eV
      clear eV
      go_enter Tryd.func19, Tryd.ntmps19
      go_wp2
      go_step3
      go_wp2
      go_step3
      go_wp2_with (first
        | (go_at_call 34; refine (cW _).mono ?_; rintro e w1 ⟨rfl, rfl⟩)
        | (go_at_call 46; refine (cM _).mono ?_; rintro e w1 ⟨rfl, rfl⟩)
        | fail)
      go_loopg [5, 10] N (fun gk s i wr => ∃ k : Nat, k ≤ N ∧ N - k ≤ gk ∧ s = .int .i64 0 ∧ i = .int .i64 k ∧ (∀ j x, j < k → l[j]? = some x → x.may = true) ∧ Below w.heap.size w wr)
      case atStart => exact ⟨0, Nat.zero_le _, by omega, rfl, rfl, fun j x hj => absurd hj (Nat.not_lt_zero _), Below.refl _ _⟩
      case round =>
        obtain ⟨k, hk, hgk, rfl, rfl, hall, hb3⟩ := hrel
        have HG := hideIt hgk
        have HA := hideIt hall
        clear hgk hall cW cM
        by_cases hlt : k < N
        · obtain ⟨x, hx⟩ : ∃ x, l[k]? = some x := ⟨_, List.getElem?_eq_getElem (by rw [HN.out]; exact hlt)⟩
          have hlti : (k : Int) < (N : Int) := by omega
          obtain ⟨hs1, hs2⟩ := hs x (List.mem_of_getElem? hx)
          obtain ⟨t, ht⟩ : ∃ t, x.may = t := ⟨_, rfl⟩
          have cM := fun u hu => mayLeaf_any x hs1 hs2 u hu
          rw [ht] at cM
          obtain ⟨ad, rfl, g1, p0, p1, p2, p3, p4⟩ := lf_get (hR.on hb3) hx
          have HX := hideIt hx
          have HT := hideIt ht
          obtain ⟨xp, xi, xs, xh, xl⟩ := x
          simp only [Lf.val] at cM p0 p1 p2 p3 p4
          have L1 := chainA hb3 (.cells (lfB xp xi xs xh xl) 36)
          have U1 := hU.call L1
          clear hx ht hs1 hs2
          cases t with
          | true =>
            go_wp2_with (first | (go_at_call 35; refine (cM _ U1).mono ?_; rintro e w2 ⟨rfl, b2⟩) | fail)
            go_roundg (N - (k + 1))
            case measure => have := HG.out; omega
            case rel => exact ⟨k + 1, by omega, Nat.le_refl _, rfl, by go_num, fun j x hj hx => by
                by_cases e : j = k
                · subst e
                  rw [HX.out] at hx
                  injection hx with hx
                  rw [← hx]
                  exact HT.out
                · exact HA.out j x (by omega) hx, chain L1 b2⟩
          | false =>
            have hno : V = 130 := by
              rw [HV.out, if_neg]
              intro h
              have := List.all_eq_true.1 h _ (List.mem_of_getElem? HX.out)
              rw [HT.out] at this
              cases this
            subst hno
            go_wp2_with (first | (go_at_call 35; refine (cM _ U1).mono ?_; rintro e w2 ⟨rfl, b2⟩) | fail)
            rw [Exit.noGoto_ret]
            go_ret
            exact ⟨rfl, chain L1 b2⟩
        · have e : k = N := by omega
          subst e
          have hyes : V = 0 := by
            rw [HV.out, if_pos]
            exact List.all_eq_true.2 fun x hx => by
              obtain ⟨j, hj⟩ := List.getElem?_of_mem hx
              exact HA.out j x (by have := (List.getElem?_eq_some_iff.1 hj).1; rw [HN.out] at this; exact this) hj
          subst hyes
          go_wp2
          rw [Exit.noGoto_ret]
          go_ret
          exact ⟨rfl, hb3⟩
end Go.Proofs.YtjndabnegmecmaaDoor
