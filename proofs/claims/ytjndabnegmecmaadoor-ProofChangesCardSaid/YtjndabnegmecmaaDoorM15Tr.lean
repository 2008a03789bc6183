/- Several of my texts, laid as one. -/
import Derived.Test.YtjndabnegmecmaaDoorM15Fns
import Derived.Test.YtjndabnegmecmaaDoorM15Bld
/-
  Package tree: a node, a leaf, the leaves, the root.
-/
namespace Go.Proofs.YtjndabnegmecmaaDoor
set_option linter.unusedVariables false
set_option linter.unusedSimpArgs false
set_option maxRecDepth 10000
open Go.RowKit

theorem ndAt_fine {l : List Nd} {w : Int} (h : ∀ x ∈ l, x.of w = true) (p : Nat) : (ndAt l p).hash.size ≤ 32 := by
  by_cases hp : p < l.length
  · have e : ndAt l p = l[p] := by rw [ndAt, List.getD_eq_getElem?_getD, List.getElem?_eq_getElem hp]; rfl
    rw [e]
    exact of_size (h _ (List.getElem_mem hp))
  · have e : ndAt l p = Nd.zero := by rw [ndAt, List.getD_eq_getElem?_getD, List.getElem?_eq_none (by omega)]; rfl
    rw [e]; decide
theorem lfAt_fine {l : List Lf} (h : ∀ x ∈ l, x.may = true) (p : Nat) : (lfAt l p).id.size ≤ 96 ∧ (lfAt l p).salt.size ≤ 32 := by
  by_cases hp : p < l.length
  · have e : lfAt l p = l[p] := by rw [lfAt, List.getD_eq_getElem?_getD, List.getElem?_eq_getElem hp]; rfl
    rw [e]
    exact mayT_sizes (h _ (List.getElem_mem hp))
  · have e : lfAt l p = Lf.zero := by rw [lfAt, List.getD_eq_getElem?_getD, List.getElem?_eq_none (by omega)]; rfl
    rw [e]; decide
set_option maxRecDepth 100000 in
set_option maxHeartbeats 4000000 in
theorem node15_no (v : Value) (lv : Int) (p : Int) (W : World) (h : NoTree W v) : Calls Tryd.prog 18 #[v, .int .i64 lv, .int .u64 p] W (Tells (.tuple #[Nd.zero.val, .bool false]) W.heap.size W) := by
  have cN := nobodys_yes v _ (h.call (chainA (Below.refl W.heap.size W) (.cells (ndB ⟨#[]⟩ 0 0) 46)))
  clear h
  have E := (Has.start W).addAt 46 (ndB ⟨#[]⟩ 0 0) (g := W.heap.size) rfl
  obtain ⟨x0, x1, x2, xf0, xf1, xf2, xin⟩ := (E.box 0).three
  go_enter Tryd.func18, Tryd.ntmps18
  go_wp2_with (first | (go_at_call 38; refine cN.mono ?_; rintro e w1 ⟨rfl, rfl⟩) | fail)
  clear x0 x1 x2 xf0 xf1 xf2 xin
  change bodyPost _ _ _ _ _ (W.alloc (.cells (ndB ⟨#[]⟩ 0 0) 46))
  generalize W.alloc (.cells (ndB ⟨#[]⟩ 0 0) 46) = W9 at *
  obtain ⟨v0, v1, v2, -, -, -, -⟩ := (E.box 0).three
  exact bodyPost_ret (v := .tuple #[Nd.zero.val, .bool false]) (by simp [results, Tryd.results18, go_sem, Nd.val, Nd.zero, v0, v1, v2]) rfl ⟨rfl, E.below⟩
section
variable {W : World} {q : TrG} {w : Int} {l : List Lf} {k : Nat}
set_option maxRecDepth 100000 in
set_option maxHeartbeats 4000000 in
theorem node15_out (h : TrAt W q w l k) (hk : k ≤ 1000) (lv : Int) (p : Int) (hlv : ¬ (0 ≤ lv ∧ lv ≤ (k : Int))) :
    Calls Tryd.prog 18 #[.pointer (some ⟨q.g, 0, none⟩), .int .i64 lv, .int .u64 p] W (Tells (.tuple #[Nd.zero.val, .bool false]) W.heap.size W) := by
  have h1 := h.past (.cells (ndB ⟨#[]⟩ 0 0) 46)
  have cN := nobodys_no h1
  have cH := height15_any h1 hk
  clear h h1
  have E := (Has.start W).addAt 46 (ndB ⟨#[]⟩ 0 0) (g := W.heap.size) rfl
  obtain ⟨x0, x1, x2, xf0, xf1, xf2, xin⟩ := (E.box 0).three
  by_cases h0 : lv < 0
  · clear hlv
    go_enter Tryd.func18, Tryd.ntmps18
    go_wp2_with (first | (go_at_call 38; refine cN.mono ?_; rintro e w1 ⟨rfl, rfl⟩) | fail)
    clear x0 x1 x2 xf0 xf1 xf2 xin
    change bodyPost _ _ _ _ _ (W.alloc (.cells (ndB ⟨#[]⟩ 0 0) 46))
    generalize W.alloc (.cells (ndB ⟨#[]⟩ 0 0) 46) = W9 at *
    obtain ⟨v0, v1, v2, -, -, -, -⟩ := (E.box 0).three
    exact bodyPost_ret (v := .tuple #[Nd.zero.val, .bool false]) (by simp [results, Tryd.results18, go_sem, Nd.val, Nd.zero, v0, v1, v2]) rfl ⟨rfl, E.below⟩
  · have hgt : (k : Int) < lv := by omega
    clear hlv
    go_enter Tryd.func18, Tryd.ntmps18
    go_wp2_with (first
      | (go_at_call 38; refine cN.mono ?_; rintro e w1 ⟨rfl, rfl⟩)
      | (go_at_call 14; refine cH.mono ?_; rintro e w1 ⟨rfl, rfl⟩)
      | fail)
    clear x0 x1 x2 xf0 xf1 xf2 xin
    change bodyPost _ _ _ _ _ (W.alloc (.cells (ndB ⟨#[]⟩ 0 0) 46))
    generalize W.alloc (.cells (ndB ⟨#[]⟩ 0 0) 46) = W9 at *
    obtain ⟨v0, v1, v2, -, -, -, -⟩ := (E.box 0).three
    exact bodyPost_ret (v := .tuple #[Nd.zero.val, .bool false]) (by simp [results, Tryd.results18, go_sem, Nd.val, Nd.zero, v0, v1, v2]) rfl ⟨rfl, E.below⟩
set_option maxRecDepth 100000 in
set_option maxHeartbeats 4000000 in
theorem node15_in (h : TrAt W q w l k) (hF : FairT w l k) {j : Nat} (hj : j ≤ k) (p : Nat) (hp : p < 18446744073709551616) :
    Calls Tryd.prog 18 #[.pointer (some ⟨q.g, 0, none⟩), .int .i64 j, .int .u64 p] W (Tells (.tuple #[(ndAt (upN w j (l.map (nodeOf w))) p).val, .bool (decide (p < 2 ^ (k - j)))]) W.heap.size W) := by
  have hk := hF.few
  have h1 := h.past (.cells (ndB ⟨#[]⟩ 0 0) 46)
  have cN := nobodys_no h1
  have cH := height15_any h1 (by omega)
  have hul := hF.ulen hj
  have hz := ndAt_fine (hF.up hj).2.1 p
  obtain ⟨b, c, c0, c1, hc, hB, -⟩ := h1.level hj
  have hBx := hB.row
  have cA := fun u hu => atNd_any (some ⟨b, 0, none⟩) c (upN w j (l.map (nodeOf w))) (by rw [hul]; exact Nat.le_trans (Nat.pow_le_pow_right (n := 2) (by decide) (by omega : k - j ≤ 10)) (by decide)) p hp u hu
  have cO := fun u => own15_any (ndAt (upN w j (l.map (nodeOf w))) p) (by omega) u
  rw [hul] at cA
  obtain ⟨b0, b1, hin⟩ := h1.topcells
  obtain ⟨is, his⟩ : ∃ is, decide (p < 2 ^ (k - j)) = is := ⟨_, rfl⟩
  rw [his] at cA ⊢
  obtain ⟨M, hM⟩ : ∃ M, 2 ^ (k - j) = M := ⟨_, rfl⟩
  rw [hM] at c0 cA
  generalize ndAt (upN w j (l.map (nodeOf w))) p = X at *
  obtain ⟨xs, xh, xl⟩ := X
  simp only [Nd.val] at cA cO
  obtain ⟨K, hK⟩ : ∃ K, k + 1 = K := ⟨_, rfl⟩
  rw [hK] at b1
  have hjK : (j : Int) < (K : Int) := by omega
  have hjn : j < K := by omega
  have hj0 : ¬ (j : Int) < 0 := by omega
  have hjk : ¬ (k : Int) < (j : Int) := by omega
  have hjkn : ¬ k < j := by omega
  have hvin := h1.row.inside
  have E := (Has.start W).addAt 46 (ndB ⟨#[]⟩ 0 0) (g := W.heap.size) rfl
  clear h h1 hF hul hz hB hc hM hK his
  go_enter Tryd.func18, Tryd.ntmps18
  go_upto_region 1 with fail
  change Code.wp _ _ _ _ (W.alloc (.cells (ndB ⟨#[]⟩ 0 0) 46))
  obtain ⟨g, hg⟩ : ∃ g, W.heap.size = g := ⟨_, rfl⟩
  generalize W.alloc (.cells (ndB ⟨#[]⟩ 0 0) 46) = W1 at *
  rw [hg] at E ⊢
  go_upto_region 4 with (first
    | (go_at_call 38; refine cN.mono ?_; rintro e w1 ⟨rfl, rfl⟩)
    | (go_at_call 14; refine cH.mono ?_; rintro e w1 ⟨rfl, rfl⟩)
    | (go_at_call 44; refine (cA _ hBx).mono ?_; rintro e w1 ⟨rfl, k1⟩)
    | fail)
  have K2 := (E.call k1).add 46 (ndB xs xh xl)
  change Code.wp _ _ _ _ (w1.alloc (.cells (ndB xs xh xl) 46))
  obtain ⟨g2, hg2⟩ : ∃ g, w1.heap.size = g := ⟨_, rfl⟩
  have hgg : g < g2 := by rw [← hg2]; exact (E.call k1).box 0 |>.inside
  rw [hg2] at K2 ⊢
  generalize w1.alloc (.cells (ndB xs xh xl) 46) = W2 at *
  clear k1 hg2 cA cN cH hBx b0 b1 c0 c1
  obtain ⟨x0, x1, x2, -, -, -, xin⟩ := (K2.box 0).three
  go_wp2_with (first
    | (go_at_call 45; refine (cO _).mono ?_; rintro e w3 ⟨rfl, k3⟩; have K3 := K2.call k3; obtain ⟨y0, y1, y2, yf0, yf1, yf2, yin⟩ := (K3.box 1).three)
    | fail)
  have K4 : Has W [(g, 46, ndB ⟨#[]⟩ 0 0)] w3 := ⟨fun x hx => by obtain rfl := List.mem_singleton.1 hx; exact K3.box 1, K3.below⟩
  have E2 := told3 K4 (Nat.le_of_eq hg) (fun x hx => by simp at hx) (.string xs) (.int .u64 xh) (.int .u64 xl)
  generalize World.setCell (World.setCell (World.setCell w3 _ _) _ _) _ _ = W9 at *
  obtain ⟨v0, v1, v2, -, -, -, -⟩ := (E2.box 0).three
  exact bodyPost_ret (v := .tuple #[Nd.val ⟨xs, xh, xl⟩, .bool is]) (by simp [results, Tryd.results18, go_sem, Nd.val, v0, v1, v2]) rfl ⟨rfl, by first | exact E2.below | (rw [hg]; exact E2.below) | (rw [← hg]; exact E2.below)⟩
set_option maxRecDepth 100000 in
set_option maxHeartbeats 4000000 in
theorem leaf15_any (h : TrAt W q w l k) (hF : FairT w l k) (p : Nat) (hp : p < 18446744073709551616) :
    Calls Tryd.prog 25 #[.pointer (some ⟨q.g, 0, none⟩), .int .u64 p] W (Tells (.tuple #[(lfAt l p).val, .bool (decide (p < l.length))]) W.heap.size W) := by
  have hm := hF.most
  have h1 := h.past (.cells (lfB false ⟨#[]⟩ ⟨#[]⟩ 0 0) 36)
  have cN := nobodys_no h1
  have hz := lfAt_fine (fun x hx => (hF.all x hx).1) p
  have hBx := h1.lvs.row
  have cA := fun u hu => atLf_any (some ⟨q.gl, 0, none⟩) q.cl l (by omega) p hp u hu
  have cO := fun u => ownLf15_any (lfAt l p) (by omega) (by omega) u
  obtain ⟨b0, b1, hin⟩ := h1.topcells
  obtain ⟨is, his⟩ : ∃ is, decide (p < l.length) = is := ⟨_, rfl⟩
  rw [his] at cA ⊢
  obtain ⟨M, hM⟩ : ∃ M, l.length = M := ⟨_, rfl⟩
  rw [hM] at b0 cA
  generalize lfAt l p = X at *
  obtain ⟨xp, xi, xs, xh, xl⟩ := X
  simp only [Lf.val] at cA cO
  have E := (Has.start W).addAt 36 (lfB false ⟨#[]⟩ ⟨#[]⟩ 0 0) (g := W.heap.size) rfl
  clear h h1 hF hz hM his b1
  go_enter Tryd.func25, Tryd.ntmps25
  go_upto_region 1 with fail
  change Code.wp _ _ _ _ (W.alloc (.cells (lfB false ⟨#[]⟩ ⟨#[]⟩ 0 0) 36))
  obtain ⟨g, hg⟩ : ∃ g, W.heap.size = g := ⟨_, rfl⟩
  generalize W.alloc (.cells (lfB false ⟨#[]⟩ ⟨#[]⟩ 0 0) 36) = W1 at *
  rw [hg] at E ⊢
  go_upto_region 4 with (first
    | (go_at_call 38; refine cN.mono ?_; rintro e w1 ⟨rfl, rfl⟩)
    | (go_at_call 40; refine (cA _ hBx).mono ?_; rintro e w1 ⟨rfl, k1⟩)
    | fail)
  have K2 := (E.call k1).add 36 (lfB xp xi xs xh xl)
  change Code.wp _ _ _ _ (w1.alloc (.cells (lfB xp xi xs xh xl) 36))
  obtain ⟨g2, hg2⟩ : ∃ g, w1.heap.size = g := ⟨_, rfl⟩
  have hgg : g < g2 := by rw [← hg2]; exact (E.call k1).box 0 |>.inside
  rw [hg2] at K2 ⊢
  generalize w1.alloc (.cells (lfB xp xi xs xh xl) 36) = W2 at *
  clear k1 hg2 cA cN hBx b0
  obtain ⟨⟨x0, x1, x2, x3, x4⟩, -, xin⟩ := (K2.box 0).five0
  go_wp2_with (first
    | (go_at_call 23; refine (cO _).mono ?_; rintro e w3 ⟨rfl, k3⟩; have K3 := K2.call k3; obtain ⟨⟨y0, y1, y2, y3, y4⟩, ⟨yf0, yf1, yf2, yf3, yf4⟩, yin⟩ := (K3.box 1).five0)
    | fail)
  have K4 : Has W [(g, 36, lfB false ⟨#[]⟩ ⟨#[]⟩ 0 0)] w3 := ⟨fun x hx => by obtain rfl := List.mem_singleton.1 hx; exact K3.box 1, K3.below⟩
  have E2 := told5 K4 (Nat.le_of_eq hg) (fun x hx => by simp at hx) (.bool xp) (.string xi) (.string xs) (.int .u64 xh) (.int .u64 xl)
  generalize World.setCell (World.setCell (World.setCell (World.setCell (World.setCell w3 _ _) _ _) _ _) _ _) _ _ = W9 at *
  obtain ⟨⟨v0, v1, v2, v3, v4⟩, -, -⟩ := (E2.box 0).five0
  exact bodyPost_ret (v := .tuple #[Lf.val ⟨xp, xi, xs, xh, xl⟩, .bool is]) (by simp [results, Tryd.results25, go_sem, Lf.val, v0, v1, v2, v3, v4]) rfl ⟨rfl, by first | exact E2.below | (rw [hg]; exact E2.below) | (rw [← hg]; exact E2.below)⟩
end
set_option maxRecDepth 100000 in
set_option maxHeartbeats 4000000 in
theorem leaf15_no (v : Value) (p : Int) (W : World) (h : NoTree W v) : Calls Tryd.prog 25 #[v, .int .u64 p] W (Tells (.tuple #[Lf.zero.val, .bool false]) W.heap.size W) := by
  have cN := nobodys_yes v _ (h.call (chainA (Below.refl W.heap.size W) (.cells (lfB false ⟨#[]⟩ ⟨#[]⟩ 0 0) 36)))
  clear h
  have E := (Has.start W).addAt 36 (lfB false ⟨#[]⟩ ⟨#[]⟩ 0 0) (g := W.heap.size) rfl
  go_enter Tryd.func25, Tryd.ntmps25
  go_wp2_with (first | (go_at_call 38; refine cN.mono ?_; rintro e w1 ⟨rfl, rfl⟩) | fail)
  change bodyPost _ _ _ _ _ (W.alloc (.cells (lfB false ⟨#[]⟩ ⟨#[]⟩ 0 0) 36))
  generalize W.alloc (.cells (lfB false ⟨#[]⟩ ⟨#[]⟩ 0 0) 36) = W9 at *
  obtain ⟨⟨v0, v1, v2, v3, v4⟩, -, -⟩ := (E.box 0).five0
  exact bodyPost_ret (v := .tuple #[Lf.zero.val, .bool false]) (by simp [results, Tryd.results25, go_sem, Lf.val, Lf.zero, v0, v1, v2, v3, v4]) rfl ⟨rfl, E.below⟩
end Go.Proofs.YtjndabnegmecmaaDoor
/-
  Package tree: the root.
-/
namespace Go.Proofs.YtjndabnegmecmaaDoor
set_option linter.unusedVariables false
set_option linter.unusedSimpArgs false
set_option maxRecDepth 10000
open Go.RowKit

theorem told_four {w W : World} {g : Nat} {T : TypeId} {a0 b0 c0 d0 : Value} (K : Has w [(g, T, #[a0, b0, c0, d0])] W) (hg : w.heap.size ≤ g) (x y z u : Value) :
    Has w [(g, T, #[x, y, z, u])] ((((W.setCell ⟨g, 0, none⟩ x).setCell ⟨g, 1, none⟩ y).setCell ⟨g, 2, none⟩ z).setCell ⟨g, 3, none⟩ u) := by
  have hn : ∀ x ∈ ([] : List Blk), x.1 ≠ g := fun x hx => by simp at hx
  exact (((K.wrote hg hn 0 x).wrote hg hn 1 y).wrote hg hn 2 z).wrote hg hn 3 u
theorem Box.four4 {w : World} {g : Nat} {t : TypeId} {a b c d : Value} (h : Box w g t #[a, b, c, d]) :
    (w.cell? ⟨g, 0, none⟩ = some a ∧ w.cell? ⟨g, 1, none⟩ = some b ∧ w.cell? ⟨g, 2, none⟩ = some c ∧ w.cell? ⟨g, 3, none⟩ = some d) ∧
    (w.frozen? ⟨g, 0, none⟩ = false ∧ w.frozen? ⟨g, 1, none⟩ = false ∧ w.frozen? ⟨g, 2, none⟩ = false ∧ w.frozen? ⟨g, 3, none⟩ = false) ∧ g < w.heap.size :=
  ⟨⟨h.read 0, h.read 1, h.read 2, h.read 3⟩, ⟨h.free 0, h.free 1, h.free 2, h.free 3⟩, h.inside⟩
/-- The root of a tree: its node, its height. -/
def rootV (x : Nd) (k : Nat) : Value := .agg #[.string x.hash, .int .u64 x.h, .int .u64 x.l, .int .i64 k]
section
variable {W : World} {q : TrG} {w : Int} {l : List Lf} {k : Nat}
set_option maxRecDepth 100000 in
set_option maxHeartbeats 4000000 in
theorem root15_any (h : TrAt W q w l k) (hF : FairT w l k) :
    Calls Tryd.prog 9 #[.pointer (some ⟨q.g, 0, none⟩)] W (Tells (rootV (topN w l k) k) W.heap.size W) := by
  have hk := hF.few
  have hT1 := h.past (.cells #[.string ⟨#[]⟩, .int .u64 0, .int .u64 0, .int .i64 0] 33)
  have cH := height15_any hT1 (by omega)
  have cH2 := fun u (hu : TrAt u q w l k) => height15_any hu (by omega)
  have cN := node15_in hT1 hF (Nat.le_refl k) 0 (by decide)
  have eT : ndAt (upN w k (l.map (nodeOf w))) 0 = topN w l k := rfl
  rw [eT, Nat.sub_self, Nat.pow_zero, decide_eq_true (by decide : 0 < 1)] at cN
  generalize topN w l k = X at *
  obtain ⟨xs, xh, xl⟩ := X
  simp only [Nd.val] at cN
  have E := (Has.start W).addAt 33 #[.string ⟨#[]⟩, .int .u64 0, .int .u64 0, .int .i64 0] (g := W.heap.size) rfl
  clear h hF eT
  go_enter Tryd.func9, Tryd.ntmps9
  go_upto_region 1 with fail
  change Code.wp _ _ _ _ (W.alloc (.cells #[.string ⟨#[]⟩, .int .u64 0, .int .u64 0, .int .i64 0] 33))
  obtain ⟨g, hg⟩ : ∃ g, W.heap.size = g := ⟨_, rfl⟩
  generalize W.alloc (.cells #[.string ⟨#[]⟩, .int .u64 0, .int .u64 0, .int .i64 0] 33) = W1 at *
  rw [hg] at E ⊢
  go_upto_region 2 with (first
    | (go_at_call 14; refine cH.mono ?_; rintro e w1 ⟨rfl, rfl⟩)
    | (go_at_call 18; refine cN.mono ?_; rintro e w1 ⟨rfl, k1⟩)
    | fail)
  have K2 := (E.call k1).add 46 (ndB xs xh xl)
  change Code.wp _ _ _ _ (w1.alloc (.cells (ndB xs xh xl) 46))
  have HT2 := (hT1.call k1).past (.cells (ndB xs xh xl) 46)
  obtain ⟨g2, hg2⟩ : ∃ g, w1.heap.size = g := ⟨_, rfl⟩
  have hgg : g < g2 := by rw [← hg2]; exact (E.call k1).box 0 |>.inside
  rw [hg2] at K2 ⊢
  generalize w1.alloc (.cells (ndB xs xh xl) 46) = W2 at *
  clear k1 hg2 cN cH
  have hS : ∀ u, Below W2.heap.size W2 u → u.cell? ⟨g2, 0, none⟩ = some (.string xs) ∧ u.cell? ⟨g2, 1, none⟩ = some (.int .u64 xh) ∧ u.cell? ⟨g2, 2, none⟩ = some (.int .u64 xl) ∧ g2 < u.heap.size := fun u hu =>
    ⟨((K2.call hu).box 0).read 0, ((K2.call hu).box 0).read 1, ((K2.call hu).box 0).read 2, ((K2.call hu).box 0).inside⟩
  have b0 := (Below.refl W2.heap.size W2).drew
  refine wp_region_held_drew (S := fun u => u.cell? ⟨g2, 0, none⟩ = some (.string xs) ∧ u.cell? ⟨g2, 1, none⟩ = some (.int .u64 xh) ∧ u.cell? ⟨g2, 2, none⟩ = some (.int .u64 xl) ∧ g2 < u.heap.size) (by kernel_rfl) (hS _ b0) (fun hHeld => ?_)
  have hSd := hS _ b0
  have K3 := K2.call b0
  have HT3 := HT2.call b0
  generalize W2.drew = Wd at *
  refine wpAnyH_take (i := 0) (v := ?_) rfl (by kernel_rfl) (by kernel_rfl) (by kernel_rfl) (fun _ _ _ h => h) (Or.inl ⟨by rfl, ?_⟩) (by assumption) ?_
  rotate_left 1
  · intro w hSw; (try dsimp only at hSw); go_simp; try with_reducible rfl
  try simp only [Act.put, List.getElem_toArray, List.getElem_cons_succ, List.getElem_cons_zero, List.setIfInBounds_toArray, List.set_cons_zero, List.set_cons_succ]
  refine wpAnyH_take (i := 1) (v := ?_) rfl (by kernel_rfl) (by kernel_rfl) (by kernel_rfl) (fun _ _ _ h => h) (Or.inl ⟨by rfl, ?_⟩) (by assumption) ?_
  rotate_left 1
  · intro w hSw; (try dsimp only at hSw); go_simp; try with_reducible rfl
  try simp only [Act.put, List.getElem_toArray, List.getElem_cons_succ, List.getElem_cons_zero, List.setIfInBounds_toArray, List.set_cons_zero, List.set_cons_succ]
  refine wpAnyH_take (i := 2) (v := ?_) rfl (by kernel_rfl) (by kernel_rfl) (by kernel_rfl) (fun _ _ _ h => h) (Or.inl ⟨by rfl, ?_⟩) (by assumption) ?_
  rotate_left 1
  · intro w hSw; (try dsimp only at hSw); go_simp; try with_reducible rfl
  try simp only [Act.put, List.getElem_toArray, List.getElem_cons_succ, List.getElem_cons_zero, List.setIfInBounds_toArray, List.set_cons_zero, List.set_cons_succ]
  refine wpAnyH_take (i := 3) (v := ?_) rfl (by kernel_rfl) (by kernel_rfl) (by kernel_rfl) (fun _ _ _ h => h) (Or.inl ⟨by rfl, ?_⟩) (by assumption) ?_
  rotate_left 1
  · intro w hSw; (try dsimp only at hSw); go_simp; try with_reducible rfl
  try simp only [Act.put, List.getElem_toArray, List.getElem_cons_succ, List.getElem_cons_zero, List.setIfInBounds_toArray, List.set_cons_zero, List.set_cons_succ]
  refine wpAnyH_take (i := 4) (v := ?_) rfl (by kernel_rfl) (by kernel_rfl) (by kernel_rfl) (fun _ _ _ h => h) (Or.inl ⟨by rfl, ?_⟩) (by assumption) ?_
  rotate_left 1
  · intro w hSw; (try dsimp only at hSw); go_simp; try with_reducible rfl
  try simp only [Act.put, List.getElem_toArray, List.getElem_cons_succ, List.getElem_cons_zero, List.setIfInBounds_toArray, List.set_cons_zero, List.set_cons_succ]
  refine wpAnyH_ready (rs := [5]) (by kernel_rfl) (by simp) (AllReadyH.cons rfl (fun K hK => ?_) AllReadyH.nil)
  go_simp
  go_at_call 14
  refine (cH2 _ HT3).mono ?_
  rintro e w4 ⟨rfl, rfl⟩
  try simp only []
  refine hK.out _ _ (hSd) (fun hHeld => ?_)
  clear hK K
  try simp only [Act.put, List.getElem_toArray, List.getElem_cons_succ, List.getElem_cons_zero, List.setIfInBounds_toArray, List.set_cons_zero, List.set_cons_succ]
  refine wpAnyH_take (i := 6) (v := ?_) rfl (by kernel_rfl) (by kernel_rfl) (by kernel_rfl) (fun _ _ _ h => h) (Or.inl ⟨by rfl, ?_⟩) (by assumption) ?_
  rotate_left 1
  · intro w hSw; (try dsimp only at hSw); go_simp; try with_reducible rfl
  try simp only [Act.put, List.getElem_toArray, List.getElem_cons_succ, List.getElem_cons_zero, List.setIfInBounds_toArray, List.set_cons_zero, List.set_cons_succ]
  obtain ⟨⟨y0, y1, y2, y3⟩, ⟨yf0, yf1, yf2, yf3⟩, yin⟩ := (K3.box 1).four4
  refine wpAnyH_ready (rs := [7]) (by kernel_rfl) (by simp) (AllReadyH.cons rfl (fun K hK => ?_) AllReadyH.nil)
  go_simp
  have K4 : Has W [(g, 33, #[.string ⟨#[]⟩, .int .u64 0, .int .u64 0, .int .i64 0])] Wd := ⟨fun x hx => by obtain rfl := List.mem_singleton.1 hx; exact K3.box 1, K3.below⟩
  have E2 := told_four K4 (Nat.le_of_eq hg) (.string xs) (.int .u64 xh) (.int .u64 xl) (.int .i64 k)
  have X2 := ((((K3.box 0).apart (p := ⟨g, 0, none⟩) (by show g2 ≠ g; omega) (.string xs)).apart (p := ⟨g, 1, none⟩) (by show g2 ≠ g; omega) (.int .u64 xh)).apart (p := ⟨g, 2, none⟩) (by show g2 ≠ g; omega) (.int .u64 xl)).apart (p := ⟨g, 3, none⟩) (by show g2 ≠ g; omega) (.int .i64 k)
  generalize World.setCell (World.setCell (World.setCell (World.setCell Wd _ _) _ _) _ _) _ _ = W9 at *
  refine hK.out _ _ (⟨X2.read 0, X2.read 1, X2.read 2, X2.inside⟩) (fun hHeld => ?_)
  clear hK K
  try simp only [Act.put, List.getElem_toArray, List.getElem_cons_succ, List.getElem_cons_zero, List.setIfInBounds_toArray, List.set_cons_zero, List.set_cons_succ]
  refine wpAnyH_done (by kernel_rfl) ?_ _
  clear y0 y1 y2 y3 yf0 yf1 yf2 yf3 yin
  go_wp2
  obtain ⟨⟨v0, v1, v2, v3⟩, -, -⟩ := (E2.box 0).four4
  exact bodyPost_ret (v := rootV ⟨xs, xh, xl⟩ k) (by simp [results, Tryd.results9, go_sem, rootV, v0, v1, v2, v3]) rfl ⟨rfl, by first | exact E2.below | (rw [hg]; exact E2.below) | (rw [← hg]; exact E2.below)⟩
end
theorem NoTree.past {W : World} {v : Value} (h : NoTree W v) (o : Obj) : NoTree (W.alloc o) v := h.call (chainA (Below.refl _ _) _)
set_option maxRecDepth 100000 in
set_option maxHeartbeats 4000000 in
theorem root15_no (v : Value) (W : World) (h : NoTree W v) :
    Calls Tryd.prog 9 #[v] W (Tells (rootV Nd.zero 0) W.heap.size W) := by
  have hT1 := h.past (.cells #[.string ⟨#[]⟩, .int .u64 0, .int .u64 0, .int .i64 0] 33)
  have cH := height15_no v _ hT1
  have cH2 := fun u (hu : NoTree u v) => height15_no v _ hu
  have cN := node15_no v 0 0 _ hT1
  obtain ⟨X, hX⟩ : ∃ X, Nd.zero = X := ⟨_, rfl⟩
  rw [hX] at cN ⊢
  obtain ⟨xs, xh, xl⟩ := X
  simp only [Nd.val] at cN
  have E := (Has.start W).addAt 33 #[.string ⟨#[]⟩, .int .u64 0, .int .u64 0, .int .i64 0] (g := W.heap.size) rfl
  clear h hX
  go_enter Tryd.func9, Tryd.ntmps9
  go_upto_region 1 with fail
  change Code.wp _ _ _ _ (W.alloc (.cells #[.string ⟨#[]⟩, .int .u64 0, .int .u64 0, .int .i64 0] 33))
  obtain ⟨g, hg⟩ : ∃ g, W.heap.size = g := ⟨_, rfl⟩
  generalize W.alloc (.cells #[.string ⟨#[]⟩, .int .u64 0, .int .u64 0, .int .i64 0] 33) = W1 at *
  rw [hg] at E ⊢
  go_upto_region 2 with (first
    | (go_at_call 14; refine cH.mono ?_; rintro e w1 ⟨rfl, rfl⟩)
    | (go_at_call 18; refine cN.mono ?_; rintro e w1 ⟨rfl, k1⟩)
    | fail)
  have K2 := (E.call k1).add 46 (ndB xs xh xl)
  change Code.wp _ _ _ _ (w1.alloc (.cells (ndB xs xh xl) 46))
  have HT2 := (hT1.call k1).past (.cells (ndB xs xh xl) 46)
  obtain ⟨g2, hg2⟩ : ∃ g, w1.heap.size = g := ⟨_, rfl⟩
  have hgg : g < g2 := by rw [← hg2]; exact (E.call k1).box 0 |>.inside
  rw [hg2] at K2 ⊢
  generalize w1.alloc (.cells (ndB xs xh xl) 46) = W2 at *
  clear k1 hg2 cN cH
  have hS : ∀ u, Below W2.heap.size W2 u → u.cell? ⟨g2, 0, none⟩ = some (.string xs) ∧ u.cell? ⟨g2, 1, none⟩ = some (.int .u64 xh) ∧ u.cell? ⟨g2, 2, none⟩ = some (.int .u64 xl) ∧ g2 < u.heap.size := fun u hu =>
    ⟨((K2.call hu).box 0).read 0, ((K2.call hu).box 0).read 1, ((K2.call hu).box 0).read 2, ((K2.call hu).box 0).inside⟩
  have b0 := (Below.refl W2.heap.size W2).drew
  refine wp_region_held_drew (S := fun u => u.cell? ⟨g2, 0, none⟩ = some (.string xs) ∧ u.cell? ⟨g2, 1, none⟩ = some (.int .u64 xh) ∧ u.cell? ⟨g2, 2, none⟩ = some (.int .u64 xl) ∧ g2 < u.heap.size) (by kernel_rfl) (hS _ b0) (fun hHeld => ?_)
  have hSd := hS _ b0
  have K3 := K2.call b0
  have HT3 := HT2.call b0
  generalize W2.drew = Wd at *
  refine wpAnyH_take (i := 0) (v := ?_) rfl (by kernel_rfl) (by kernel_rfl) (by kernel_rfl) (fun _ _ _ h => h) (Or.inl ⟨by rfl, ?_⟩) (by assumption) ?_
  rotate_left 1
  · intro w hSw; (try dsimp only at hSw); go_simp; try with_reducible rfl
  try simp only [Act.put, List.getElem_toArray, List.getElem_cons_succ, List.getElem_cons_zero, List.setIfInBounds_toArray, List.set_cons_zero, List.set_cons_succ]
  refine wpAnyH_take (i := 1) (v := ?_) rfl (by kernel_rfl) (by kernel_rfl) (by kernel_rfl) (fun _ _ _ h => h) (Or.inl ⟨by rfl, ?_⟩) (by assumption) ?_
  rotate_left 1
  · intro w hSw; (try dsimp only at hSw); go_simp; try with_reducible rfl
  try simp only [Act.put, List.getElem_toArray, List.getElem_cons_succ, List.getElem_cons_zero, List.setIfInBounds_toArray, List.set_cons_zero, List.set_cons_succ]
  refine wpAnyH_take (i := 2) (v := ?_) rfl (by kernel_rfl) (by kernel_rfl) (by kernel_rfl) (fun _ _ _ h => h) (Or.inl ⟨by rfl, ?_⟩) (by assumption) ?_
  rotate_left 1
  · intro w hSw; (try dsimp only at hSw); go_simp; try with_reducible rfl
  try simp only [Act.put, List.getElem_toArray, List.getElem_cons_succ, List.getElem_cons_zero, List.setIfInBounds_toArray, List.set_cons_zero, List.set_cons_succ]
  refine wpAnyH_take (i := 3) (v := ?_) rfl (by kernel_rfl) (by kernel_rfl) (by kernel_rfl) (fun _ _ _ h => h) (Or.inl ⟨by rfl, ?_⟩) (by assumption) ?_
  rotate_left 1
  · intro w hSw; (try dsimp only at hSw); go_simp; try with_reducible rfl
  try simp only [Act.put, List.getElem_toArray, List.getElem_cons_succ, List.getElem_cons_zero, List.setIfInBounds_toArray, List.set_cons_zero, List.set_cons_succ]
  refine wpAnyH_take (i := 4) (v := ?_) rfl (by kernel_rfl) (by kernel_rfl) (by kernel_rfl) (fun _ _ _ h => h) (Or.inl ⟨by rfl, ?_⟩) (by assumption) ?_
  rotate_left 1
  · intro w hSw; (try dsimp only at hSw); go_simp; try with_reducible rfl
  try simp only [Act.put, List.getElem_toArray, List.getElem_cons_succ, List.getElem_cons_zero, List.setIfInBounds_toArray, List.set_cons_zero, List.set_cons_succ]
  refine wpAnyH_ready (rs := [5]) (by kernel_rfl) (by simp) (AllReadyH.cons rfl (fun K hK => ?_) AllReadyH.nil)
  go_simp
  go_at_call 14
  refine (cH2 _ HT3).mono ?_
  rintro e w4 ⟨rfl, rfl⟩
  try simp only []
  refine hK.out _ _ (hSd) (fun hHeld => ?_)
  clear hK K
  try simp only [Act.put, List.getElem_toArray, List.getElem_cons_succ, List.getElem_cons_zero, List.setIfInBounds_toArray, List.set_cons_zero, List.set_cons_succ]
  refine wpAnyH_take (i := 6) (v := ?_) rfl (by kernel_rfl) (by kernel_rfl) (by kernel_rfl) (fun _ _ _ h => h) (Or.inl ⟨by rfl, ?_⟩) (by assumption) ?_
  rotate_left 1
  · intro w hSw; (try dsimp only at hSw); go_simp; try with_reducible rfl
  try simp only [Act.put, List.getElem_toArray, List.getElem_cons_succ, List.getElem_cons_zero, List.setIfInBounds_toArray, List.set_cons_zero, List.set_cons_succ]
  obtain ⟨⟨y0, y1, y2, y3⟩, ⟨yf0, yf1, yf2, yf3⟩, yin⟩ := (K3.box 1).four4
  refine wpAnyH_ready (rs := [7]) (by kernel_rfl) (by simp) (AllReadyH.cons rfl (fun K hK => ?_) AllReadyH.nil)
  go_simp
  have K4 : Has W [(g, 33, #[.string ⟨#[]⟩, .int .u64 0, .int .u64 0, .int .i64 0])] Wd := ⟨fun x hx => by obtain rfl := List.mem_singleton.1 hx; exact K3.box 1, K3.below⟩
  have E2 := told_four K4 (Nat.le_of_eq hg) (.string xs) (.int .u64 xh) (.int .u64 xl) (.int .i64 0)
  have X2 := ((((K3.box 0).apart (p := ⟨g, 0, none⟩) (by show g2 ≠ g; omega) (.string xs)).apart (p := ⟨g, 1, none⟩) (by show g2 ≠ g; omega) (.int .u64 xh)).apart (p := ⟨g, 2, none⟩) (by show g2 ≠ g; omega) (.int .u64 xl)).apart (p := ⟨g, 3, none⟩) (by show g2 ≠ g; omega) (.int .i64 0)
  generalize World.setCell (World.setCell (World.setCell (World.setCell Wd _ _) _ _) _ _) _ _ = W9 at *
  refine hK.out _ _ (⟨X2.read 0, X2.read 1, X2.read 2, X2.inside⟩) (fun hHeld => ?_)
  clear hK K
  try simp only [Act.put, List.getElem_toArray, List.getElem_cons_succ, List.getElem_cons_zero, List.setIfInBounds_toArray, List.set_cons_zero, List.set_cons_succ]
  refine wpAnyH_done (by kernel_rfl) ?_ _
  clear y0 y1 y2 y3 yf0 yf1 yf2 yf3 yin
  go_wp2
  obtain ⟨⟨v0, v1, v2, v3⟩, -, -⟩ := (E2.box 0).four4
  exact bodyPost_ret (v := rootV ⟨xs, xh, xl⟩ 0) (by simp [results, Tryd.results9, go_sem, rootV, v0, v1, v2, v3]) rfl ⟨rfl, by first | exact E2.below | (rw [hg]; exact E2.below) | (rw [← hg]; exact E2.below)⟩
end Go.Proofs.YtjndabnegmecmaaDoor
/-
  Package tree: the nodes from a position up to the root, if another one stood there.
-/
namespace Go.Proofs.YtjndabnegmecmaaDoor
set_option linter.unusedVariables false
set_option linter.unusedSimpArgs false
set_option maxRecDepth 10000
open Go.RowKit

/-- What is climbed to, so many levels up. -/
def wayY (w : Int) (ns : List Nd) (p k : Nat) (x : Nd) (j : Nat) : Nd × Int := climbS w x p ((sibsN w ns p k).take j)
/-- The nodes of the way, so many. -/
def wayL (w : Int) (ns : List Nd) (p k : Nat) (x : Nd) (j : Nat) : List Nd := (List.range j).map fun i => (wayY w ns p k x i).1
theorem wayL_len (w : Int) (ns : List Nd) (p k : Nat) (x : Nd) (j : Nat) : (wayL w ns p k x j).length = j := by simp [wayL]
theorem wayL_snoc (w : Int) (ns : List Nd) (p k : Nat) (x : Nd) (j : Nat) : wayL w ns p k x (j + 1) = wayL w ns p k x j ++ [(wayY w ns p k x j).1] := by simp [wayL, List.range_succ]
theorem wayL_at (w : Int) (ns : List Nd) (p k : Nat) (x : Nd) {j m : Nat} (h : j < m) : (wayL w ns p k x m)[j]? = some (wayY w ns p k x j).1 := by
  rw [wayL, List.getElem?_map, List.getElem?_range h]; rfl
theorem wayY_zero (w : Int) (ns : List Nd) (p k : Nat) (x : Nd) : wayY w ns p k x 0 = (x, 0) := rfl
theorem wayY_all (w : Int) (ns : List Nd) (p k : Nat) (x : Nd) : wayY w ns p k x k = climbS w x p (sibsN w ns p k) := by
  rw [wayY, List.take_of_length_le (by rw [sibs_len]; exact Nat.le_refl _)]
theorem wayY_code (w : Int) (ns : List Nd) (p k : Nat) (x : Nd) {j : Nat} (hj : j < k) (h : (wayY w ns p k x j).2 = 0) : (wayY w ns p k x (j + 1)).2 = 0 ∨ (wayY w ns p k x (j + 1)).2 = 10 := by
  unfold wayY at h ⊢
  rw [way_step w hj h, climb_one]
  by_cases hz : (joinS w (if p / 2 ^ j % 2 = 1 then sibN (upN w j ns) (p / 2 ^ j) else (climbS w x p ((sibsN w ns p k).take j)).1) (if p / 2 ^ j % 2 = 1 then (climbS w x p ((sibsN w ns p k).take j)).1 else sibN (upN w j ns) (p / 2 ^ j))).2 = 0
  · rw [if_pos hz]; exact Or.inl rfl
  · rw [if_neg hz]; exact Or.inr rfl
theorem wayY_stop (w : Int) (ns : List Nd) (p k : Nat) (x : Nd) {j : Nat} (hj : j ≤ k) (h : (wayY w ns p k x j).2 ≠ 0) : (wayY w ns p k x k).2 ≠ 0 := by
  have := climb_stop w ((sibsN w ns p k).take j) x p ((sibsN w ns p k).drop j) h
  rw [List.take_append_drop] at this
  rw [wayY_all, this]
  decide
def ndE15 : El ndS := ⟨37, 46, .agg #[.string ⟨#[]⟩, .int .u64 0, .int .u64 0], 32, Tryd.underlying37, by kernel_rfl, rfl, by decide⟩
theorem ndE_app1 (w : World) (base : Nat) (v : Value) (n : Nat) (ys : List Nd) (hown : w.ownsRow base 46 3 v n (ndS.flat ys)) (x : Nd) (hm : n ≤ 100000000) (hb : base ≤ w.heap.size) :
    ∃ v' w', (∀ ty, (Builtin.append_ #[37, 37] ty #[v, .slice (some ⟨w.heap.size, 0, none⟩) 1 1]).run Tryd.prog (w.alloc (.cells (ndB x.hash x.h x.l) 46)) = .ok v' w') ∧
      w'.ownsRow base 46 3 v' (n + 1) (ndS.flat (ys ++ [x])) ∧ (w.alloc (.cells (ndB x.hash x.h x.l) 46)).grownBy w' v.ownBlock ∧ Below base w w' := ndE15.app1 w base v n ys hown x _ rfl hm hb
set_option maxRecDepth 100000 in
set_option maxHeartbeats 8000000 in
theorem way15_any {W : World} {q : TrG} {w : Int} {l : List Lf} {k : Nat} (h : TrAt W q w l k) (hF : FairT w l k) (p : Nat) (hp : p < 2 ^ k) (x : Nd) (hxo : x.of w = true) (hxh : x.halved) (hT : Tab W) :
    Calls Tryd.prog 41 #[.pointer (some ⟨q.g, 0, none⟩), .int .u64 p, x.val] W (fun e w' => Below W.heap.size W w' ∧
      (((climbS w x p (sibsN w (l.map (nodeOf w)) p k)).2 = 0 ∧ ∃ v, e = .returned (.tuple #[v, .int .i64 0]) ∧ w'.ownsRow (W.heap.size + 1) 46 3 v (k + 1) (ndS.flat (wayL w (l.map (nodeOf w)) p k x (k + 1)))) ∨
       ((climbS w x p (sibsN w (l.map (nodeOf w)) p k)).2 ≠ 0 ∧ e = .returned (.tuple #[.slice none 0 0, .int .i64 10])))) := by
  have hk := hF.few
  have hpk : 2 ^ k ≤ 1024 := Nat.pow_le_pow_right (by decide) hk
  have eV := wayY_all w (l.map (nodeOf w)) p k x
  rw [← eV]
  clear eV
  obtain ⟨b0, hb0⟩ : ∃ b, W.heap.size = b := ⟨_, rfl⟩
  obtain ⟨xs, xh, xl⟩ := x
  show Calls _ _ #[_, _, .agg (ndB xs xh xl)] _ _
  have H0 := (Has.start W).addAt 46 (ndB xs xh xl) hb0
  have hs0 : (W.alloc (.cells (ndB xs xh xl) 46)).heap.size = b0 + 1 := by simp [hb0]
  have HF := hideIt hF
  have HB0 := hideIt hb0
  clear hF
  go_enter Tryd.func41, Tryd.ntmps41
  go_upto_region 1 with fail
  change Code.wp _ _ _ _ (W.alloc (.cells (ndB xs xh xl) 46))
  generalize W.alloc (.cells (ndB xs xh xl) 46) = W0 at *
  have o1 := World.ownsRow_lit (base := b0 + 1) (e := 46) (size := 3) W0 (ndB xs xh xl) 1 (Nat.le_of_eq hs0.symm) (by unfold maxLen; omega) rfl
  rw [hs0] at o1
  have H1 := H0.past (.cells (ndB xs xh xl) 46)
  obtain ⟨x0, x1, x2, -, -, -, xin⟩ := (H0.box 0).three
  go_upto_region 2 with fail
  change Code.wp _ _ _ _ (W0.alloc (.cells (ndB xs xh xl) 46))
  generalize W0.alloc (.cells (ndB xs xh xl) 46) = W1 at *
  clear x0 x1 x2 xin H0 hs0
  have hT1 := h.call H1.below
  have hS : ∀ u, TrAt u q w l k → u.cell? ⟨q.g, 1, none⟩ = some (.slice (some ⟨q.gv, 0, none⟩) (k + 1) q.cv) ∧ q.g < u.heap.size := fun u hu => ⟨hu.topcells.2.1, hu.topcells.2.2⟩
  refine wp_region_held_drew (S := fun u => u.cell? ⟨q.g, 1, none⟩ = some (.slice (some ⟨q.gv, 0, none⟩) (k + 1) q.cv) ∧ q.g < u.heap.size) (by kernel_rfl) (hS _ hT1.drew) (fun hHeld => ?_)
  have hTd := hT1.drew
  have H2 := H1.drew
  have o2 : W1.drew.ownsRow (b0 + 1) 46 3 _ 1 (ndB xs xh xl).toList := own_draws o1 1
  clear H1 hT1 o1
  generalize W1.drew = Wd at *
  have hSd := hS _ hTd
  have cH := height15_any hTd (by omega)
  have hcv : (k : Int) ≤ (q.cv : Int) := by have := h.roomy; omega
  have hcvn : k ≤ q.cv := by have := h.roomy; omega
  have hk0 : ¬ (k : Int) < 0 := by omega
  refine wpAnyH_take (i := 0) (v := ?_) rfl (by kernel_rfl) (by kernel_rfl) (by kernel_rfl) (fun _ _ _ h => h) (Or.inl ⟨by rfl, ?_⟩) (by assumption) ?_
  rotate_left 1
  · intro w hSw; (try dsimp only at hSw); go_simp; try with_reducible rfl
  try simp only [Act.put, List.getElem_toArray, List.getElem_cons_succ, List.getElem_cons_zero, List.setIfInBounds_toArray, List.set_cons_zero, List.set_cons_succ]
  refine wpAnyH_take (i := 1) (v := ?_) rfl (by kernel_rfl) (by kernel_rfl) (by kernel_rfl) (fun _ _ _ h => h) (Or.inl ⟨by rfl, ?_⟩) (by assumption) ?_
  rotate_left 1
  · intro w hSw; (try dsimp only at hSw); go_simp; try with_reducible rfl
  try simp only [Act.put, List.getElem_toArray, List.getElem_cons_succ, List.getElem_cons_zero, List.setIfInBounds_toArray, List.set_cons_zero, List.set_cons_succ]
  refine wpAnyH_take (i := 2) (v := ?_) rfl (by kernel_rfl) (by kernel_rfl) (by kernel_rfl) (fun _ _ _ h => h) (Or.inl ⟨by rfl, ?_⟩) (by assumption) ?_
  rotate_left 1
  · intro w hSw; (try dsimp only at hSw); go_simp; try with_reducible rfl
  try simp only [Act.put, List.getElem_toArray, List.getElem_cons_succ, List.getElem_cons_zero, List.setIfInBounds_toArray, List.set_cons_zero, List.set_cons_succ]
  refine wpAnyH_take (i := 3) (v := ?_) rfl (by kernel_rfl) (by kernel_rfl) (by kernel_rfl) (fun _ _ _ h => h) (Or.inl ⟨by rfl, ?_⟩) (by assumption) ?_
  rotate_left 1
  · intro w hSw; (try dsimp only at hSw); go_simp; try with_reducible rfl
  try simp only [Act.put, List.getElem_toArray, List.getElem_cons_succ, List.getElem_cons_zero, List.setIfInBounds_toArray, List.set_cons_zero, List.set_cons_succ]
  refine wpAnyH_take (i := 4) (v := ?_) rfl (by kernel_rfl) (by kernel_rfl) (by kernel_rfl) (fun _ _ _ h => h) (Or.inl ⟨by rfl, ?_⟩) (by assumption) ?_
  rotate_left 1
  · intro w hSw; (try dsimp only at hSw); go_simp; try with_reducible rfl
  try simp only [Act.put, List.getElem_toArray, List.getElem_cons_succ, List.getElem_cons_zero, List.setIfInBounds_toArray, List.set_cons_zero, List.set_cons_succ]
  refine wpAnyH_take (i := 8) (v := ?_) rfl (by kernel_rfl) (by kernel_rfl) (by kernel_rfl) (fun _ _ _ h => h) (Or.inl ⟨by rfl, ?_⟩) (by assumption) ?_
  rotate_left 1
  · intro w hSw; (try dsimp only at hSw); go_simp; try with_reducible rfl
  try simp only [Act.put, List.getElem_toArray, List.getElem_cons_succ, List.getElem_cons_zero, List.setIfInBounds_toArray, List.set_cons_zero, List.set_cons_succ]
  refine wpAnyH_ready (rs := [5]) (by kernel_rfl) (by simp) (AllReadyH.cons rfl (fun K hK => ?_) AllReadyH.nil)
  go_simp
  go_at_call 14
  refine cH.mono ?_
  rintro e w4 ⟨rfl, rfl⟩
  try simp only []
  refine hK.out _ _ (hSd) (fun hHeld => ?_)
  clear hK K
  try simp only [Act.put, List.getElem_toArray, List.getElem_cons_succ, List.getElem_cons_zero, List.setIfInBounds_toArray, List.set_cons_zero, List.set_cons_succ]
  refine wpAnyH_take (i := 6) (v := ?_) rfl (by kernel_rfl) (by kernel_rfl) (by kernel_rfl) (fun _ _ _ h => h) (Or.inl ⟨by rfl, ?_⟩) (by assumption) ?_
  rotate_left 1
  · intro w hSw; (try dsimp only at hSw); go_simp; try with_reducible rfl
  try simp only [Act.put, List.getElem_toArray, List.getElem_cons_succ, List.getElem_cons_zero, List.setIfInBounds_toArray, List.set_cons_zero, List.set_cons_succ]
  refine wpAnyH_take (i := 7) (v := ?_) rfl (by kernel_rfl) (by kernel_rfl) (by kernel_rfl) (fun _ _ _ h => h) (Or.inl ⟨by rfl, ?_⟩) (by assumption) ?_
  rotate_left 1
  · intro w hSw; (try dsimp only at hSw); go_simp; try with_reducible rfl
  try simp only [Act.put, List.getElem_toArray, List.getElem_cons_succ, List.getElem_cons_zero, List.setIfInBounds_toArray, List.set_cons_zero, List.set_cons_succ]
  refine wpAnyH_done (by kernel_rfl) ?_ _
  clear cH hSd hS
  go_wp2
  go_loopg [8, 23] k (fun gk v i wr => ∃ j : Nat, j ≤ k ∧ k - j ≤ gk ∧ i = .int .i64 j ∧ (wayY w (l.map (nodeOf w)) p k ⟨xs, xh, xl⟩ j).2 = 0 ∧
      Has W [(b0, 46, ndB (wayY w (l.map (nodeOf w)) p k ⟨xs, xh, xl⟩ j).1.hash (wayY w (l.map (nodeOf w)) p k ⟨xs, xh, xl⟩ j).1.h (wayY w (l.map (nodeOf w)) p k ⟨xs, xh, xl⟩ j).1.l)] wr ∧
      wr.ownsRow (b0 + 1) 46 3 v (j + 1) (ndS.flat (wayL w (l.map (nodeOf w)) p k ⟨xs, xh, xl⟩ (j + 1))))
  case atStart => exact ⟨0, Nat.zero_le _, by omega, rfl, rfl, H2, o2⟩
  case round =>
    obtain ⟨j, hj, hgk, rfl, hY0, H, own8⟩ := hrel
    have HG := hideIt hgk
    have hTr := h.call H.below
    have hTK := hT.call H.below
    have hgo := way_good HF.out.may HF.out.nlen HF.out.halved HF.out.of HF.out.room hp hxh hxo j hY0
    change (wayY w (l.map (nodeOf w)) p k ⟨xs, xh, xl⟩ j).1.of w = true ∧ (wayY w (l.map (nodeOf w)) p k ⟨xs, xh, xl⟩ j).1.halved at hgo
    clear hgk o2 H2 hTd
    by_cases hlt : j < k
    · obtain ⟨b, c, c0, c1, hcc, hB, -⟩ := hTr.level (Nat.le_of_lt hlt)
      have hst := way_step w hlt (x := ⟨xs, xh, xl⟩) (p := p) (l := l.map (nodeOf w)) hY0
      change wayY w (l.map (nodeOf w)) p k ⟨xs, xh, xl⟩ (j + 1) = climbS w (wayY w (l.map (nodeOf w)) p k ⟨xs, xh, xl⟩ j).1 (p / 2 ^ j) [sibN (upN w j (l.map (nodeOf w))) (p / 2 ^ j)] at hst
      have hcode := wayY_code w (l.map (nodeOf w)) p k ⟨xs, xh, xl⟩ hlt hY0
      have hstop := wayY_stop w (l.map (nodeOf w)) p k ⟨xs, xh, xl⟩ (j := j + 1) (by omega)
      have hul := HF.out.ulen (Nat.le_of_lt hlt)
      have hpf := place_fit hp (Nat.le_of_lt hlt)
      have hsf := sib_fit hlt hpf
      obtain ⟨f1, f2, -⟩ := HF.out.up (Nat.le_of_lt hlt)
      have hMb : 2 ^ (k - j) ≤ 1024 := Nat.le_trans (Nat.pow_le_pow_right (n := 2) (by decide) (by omega : k - j ≤ 10)) (by decide)
      have cO := fun u hu ht => over15_any w (some ⟨b, 0, none⟩) c (upN w j (l.map (nodeOf w))) (by rw [hul]; omega) HF.out.may (fun x hx => ⟨f2 x hx, f1 x hx⟩) (p / 2 ^ j) (by omega) (by rw [hul]; exact hsf) _ hgo.1 hgo.2 u hu ht
      rw [← hst, hul] at cO
      have hRb := hB.row
      have hwl := wayL_snoc w (l.map (nodeOf w)) p k ⟨xs, xh, xl⟩ (j + 1)
      obtain ⟨Y, hY⟩ : ∃ Y, wayY w (l.map (nodeOf w)) p k ⟨xs, xh, xl⟩ j = Y := ⟨_, rfl⟩
      obtain ⟨Z, hZ⟩ : ∃ Z, wayY w (l.map (nodeOf w)) p k ⟨xs, xh, xl⟩ (j + 1) = Z := ⟨_, rfl⟩
      rw [hY] at cO H
      rw [hZ] at cO hwl hcode hstop
      obtain ⟨⟨ys, yh, yl⟩, ye⟩ := Y
      obtain ⟨⟨zs, zh, zl⟩, ze⟩ := Z
      simp only [Nd.val] at cO H hwl
      simp only at hcode hstop
      have HZ := hideIt hZ
      have HCO := hideIt hcode
      have HSTP := hideIt hstop
      clear hcode hstop
      have HWL := hideIt hwl
      have HY := hideIt hY
      obtain ⟨M, hM⟩ : ∃ M, 2 ^ (k - j) = M := ⟨_, rfl⟩
      rw [hM] at cO c0
      obtain ⟨pj, hpj⟩ : ∃ pj, p / 2 ^ j = pj := ⟨_, rfl⟩
      rw [hpj] at cO
      have HPJ := hideIt hpj
      have hji : (j : Int) < (k : Int) := by omega
      have hj0 : ¬ (j : Int) < 0 := by omega
      have hvin := hTr.row.inside
      have hj64 : (j : Int) ≤ 64 := by omega
      have hsh : (p : Int) / 2 ^ j = (pj : Int) := by rw [← hpj]; norm_cast
      have hxc := chainA (Below.refl wr.heap.size wr) (.cells (lvB b M c w) 66)
      have hRx := hRb.on hxc
      have hTx := hTK.call hxc
      have H5 := H.add 66 (lvB b M c w)
      have own5 := own8.alloc (.cells (lvB b M c w) 66)
      clear hZ hwl hY hM hpj hst hul hpf hsf f1 f2 hMb hcc hB hgo hY0 hxc hRb hTK
      go_upto_region 5 with fail
      change Code.wp _ _ _ _ (wr.alloc (.cells (lvB b M c w) 66))
      obtain ⟨gl, hgl⟩ : ∃ g, wr.heap.size = g := ⟨_, rfl⟩
      rw [hgl] at H5 ⊢
      generalize wr.alloc (.cells (lvB b M c w) 66) = W5 at *
      obtain ⟨a0, a1, -, -, ain⟩ := (H5.box 0).two
      obtain ⟨p0, p1, p2, pf0, pf1, pf2, pin⟩ := (H5.box 1).three
      have hR4 := fun u (hb : Below W5.heap.size W5 u) => hRx.on hb
      have hT4 := fun u (hb : Below W5.heap.size W5 u) => hTx.call hb
      clear c0 c1 hvin hTr H own8 hgl
      go_cut [11, 12] (fun s11 s12 wx => ∃ g, s11 = .pointer (some ⟨g, 0, none⟩) ∧ s12 = .int .i64 ze ∧ Box wx g 46 (ndB zs zh zl) ∧ Below W5.heap.size W5 wx ∧ W5.heap.size ≤ g)
      case first =>
        go_region_held3 (fun w' => Below W5.heap.size W5 w' ∧ (w'.cell? ⟨b0, 0, none⟩ = some (.string ys) ∧ w'.cell? ⟨b0, 1, none⟩ = some (.int .u64 yh) ∧ w'.cell? ⟨b0, 2, none⟩ = some (.int .u64 yl)) ∧
            (w'.cell? ⟨gl, 0, none⟩ = some (.slice (some ⟨b, 0, none⟩) M c) ∧ w'.cell? ⟨gl, 1, none⟩ = some (.int .i64 w)))
          (exact (fun (hb : Below W5.heap.size W5 _) => ⟨hb, ⟨(hb.cell (p := ⟨b0, 0, none⟩) pin).trans p0, (hb.cell (p := ⟨b0, 1, none⟩) pin).trans p1, (hb.cell (p := ⟨b0, 2, none⟩) pin).trans p2⟩,
              (hb.cell (p := ⟨gl, 0, none⟩) ain).trans a0, (hb.cell (p := ⟨gl, 1, none⟩) ain).trans a1⟩)
            (by repeat (first
              | exact Below.refl _ _
              | exact chain (by repeat (first | exact Below.refl _ _ | apply Below.drew | refine Below.alloc ?_ (by simp) _)) hb3
              | apply Below.drew
              | refine Below.alloc ?_ (by first | exact Nat.le_refl _ | (have := hb3.size; simp at this ⊢; omega)) _
              | refine Below.setCell ?_ (by first | exact Nat.le_refl _ | (have := hb3.size; simp at this ⊢; omega)) _)))
          (first
            | (go_at_call 47; ((with_reducible refine (cO _ (hR4 _ (by repeat (first | exact Below.refl _ _ | apply Below.drew | refine Below.alloc ?_ (by simp) _))) (hT4 _ (by repeat (first | exact Below.refl _ _ | apply Below.drew | refine Below.alloc ?_ (by simp) _)))).mono ?_); rintro e w3 ⟨rfl, hb3⟩)
               first
                 | (have G3 := ((Box.made W5 46 (ndB ⟨#[]⟩ 0 0)).draw).call hb3
                    obtain ⟨k1, k2, k3, k4, k5, k6, k7⟩ := G3.three)
                 | (have G3 := (Box.made W5.drew 46 (ndB ⟨#[]⟩ 0 0)).call hb3
                    obtain ⟨k1, k2, k3, k4, k5, k6, k7⟩ := G3.three)
                 | skip))
        all_goals go_wp2_with fail
        all_goals go_meet
        · exact ⟨_, rfl, rfl, Box.made _ _ _, by
            repeat (first
              | exact Below.refl _ _
              | exact chain (by repeat (first | exact Below.refl _ _ | apply Below.drew | refine Below.alloc ?_ (by simp) _)) hb3
              | apply Below.drew
              | refine Below.alloc ?_ (by first | exact Nat.le_refl _ | (have := hb3.size; simp at this ⊢; omega)) _), by first | exact Nat.le_refl _ | (have := hb3.size; simp at this ⊢; omega)⟩
        · exact ⟨_, rfl, rfl, ((G3.wrote 0 _).wrote 1 _).wrote 2 _, by
            repeat (first
              | exact Below.refl _ _
              | exact chain (by repeat (first | exact Below.refl _ _ | apply Below.drew | refine Below.alloc ?_ (by simp) _)) hb3
              | apply Below.drew
              | refine Below.setCell ?_ (by first | exact Nat.le_refl _ | (have := hb3.size; simp at this ⊢; omega)) _), by first | exact Nat.le_refl _ | (have := hb3.size; simp at this ⊢; omega)⟩
      case rest =>
        obtain ⟨g, rfl, rfl, hbx, hbl, hgW⟩ := hcut
        rename World => W6
        by_cases hz : ze = 0
        · subst hz
          obtain ⟨A8, c8, rfl⟩ := own_slice own5
          have H6 := (H5.call hbl).with hbx
          have own6 := own_below own5 hbl
          have hob : ∀ r, (Value.slice A8 (j + 1) c8).ownBlock = some r → r < W5.heap.size := fun r hr => (own5.lt r hr).2
          have hb0g : b0 < g := Nat.lt_of_lt_of_le pin hgW
          obtain ⟨v7, w7, hrun, o7, gr7, b7⟩ := ndE_app1 W6 (b0 + 1) _ (j + 1) (wayL w (l.map (nodeOf w)) p k ⟨xs, xh, xl⟩ (j + 1)) own6 ⟨zs, zh, zl⟩ (by omega) (by have := (H6.box 2).inside; omega)
          obtain ⟨A7, c7, rfl⟩ := own_slice o7
          have X7 := ((H6.box 0).past (.cells (ndB zs zh zl) 46)).grown gr7 (fun e => by have := hob g e.symm; omega)
          have X0 := (H6.box 2).below b7 (by omega)
          have hBw : Below W.heap.size W w7 := H6.below.trans (b7.mono (by rw [HB0.out]; omega))
          obtain ⟨x0, x1, x2, -, -, -, xin⟩ := (H6.box 0).three
          obtain ⟨y0, y1, y2, -, -, -, yin⟩ := X7.three
          obtain ⟨z0, z1, z2, zf0, zf1, zf2, zin⟩ := X0.three
          clear a0 a1 ain p0 p1 p2 pf0 pf1 pf2 pin cO hR4 hT4 hRx hTx H5 own5 own6
          go_wp2_with (first
            | (at_builtin; refine gen_run rfl _ _ _ rfl _ _ rfl rfl _ w7 hrun ?_)
            | fail)
          have K7 : Has W [(b0, 46, ndB ys yh yl)] w7 := ⟨fun x hx => by obtain rfl := List.mem_singleton.1 hx; exact X0, hBw⟩
          have E := told3 K7 (Nat.le_of_eq HB0.out) (fun x hx => by simp at hx) (.string zs) (.int .u64 zh) (.int .u64 zl)
          have o9 := own_apart (own_apart (own_apart o7 (p := ⟨b0, 0, none⟩) (fun e => by have := o7.lt _ e; simp only at this; omega) (.string zs)) (p := ⟨b0, 1, none⟩) (fun e => by have := o7.lt _ e; simp only at this; omega) (.int .u64 zh)) (p := ⟨b0, 2, none⟩) (fun e => by have := o7.lt _ e; simp only at this; omega) (.int .u64 zl)
          generalize World.setCell (World.setCell (World.setCell w7 _ _) _ _) _ _ = W9 at *
          go_roundg (k - (j + 1))
          case measure => have := HG.out; omega
          case rel => exact ⟨j + 1, by omega, Nat.le_refl _, by go_num, by rw [HZ.out], by rw [HZ.out]; exact E, by rw [HWL.out]; exact o9⟩
        · have hz10 : ze = 10 := by have := HCO.out; omega
          have hend := HSTP.out hz
          subst hz10
          clear a0 a1 ain p0 p1 p2 pf0 pf1 pf2 pin cO hR4 hT4 hRx hTx own5
          go_wp2
          refine bodyPost_ret (results_tmp2 rfl _ _ _) rfl ?_
          exact ⟨by have := (H5.call hbl).below; rw [HB0.out] at this; exact this, rfl⟩
    · have e : j = k := by omega
      subst e
      have hji : ¬ (j : Int) < (j : Int) := by omega
      obtain ⟨A8, c8, rfl⟩ := own_slice own8
      have HY0 := hideIt hY0
      clear hY0 hgo
      go_wp2
      refine bodyPost_ret (results_tmp2 rfl _ _ _) rfl ?_
      exact ⟨by have := H.below; rw [HB0.out] at this; exact this, Or.inl ⟨HY0.out, _, rfl, own8⟩⟩
end Go.Proofs.YtjndabnegmecmaaDoor
/-
  Package tree: a leaf is set.
-/
namespace Go.Proofs.YtjndabnegmecmaaDoor
set_option linter.unusedVariables false
set_option linter.unusedSimpArgs false
set_option maxRecDepth 10000
open Go.RowKit

/-- A tree whose levels are such. -/
structure TrGen (W : World) (q : TrG) (w : Int) (l : List Lf) (k : Nat) (lev : Nat → List Nd) : Prop where
  top : Box W q.g 75 #[.slice (some ⟨q.gl, 0, none⟩) l.length q.cl, .slice (some ⟨q.gv, 0, none⟩) (k + 1) q.cv]
  lvs : lfS.Blk W 36 q.gl l
  row : lvS.Blk W 66 q.gv q.ls
  many : q.ls.length = k + 1
  roomy : k + 1 ≤ q.cv
  each : ∀ (j : Nat) v, q.ls[j]? = some v → v.w = w ∧ v.n = 2 ^ (k - j) ∧ v.n ≤ v.c ∧ ndS.Blk W 46 v.b (lev j)
  apart : ∀ (i j : Nat) u v, q.ls[i]? = some u → q.ls[j]? = some v → u.b = v.b → i = j
section
variable {W W' : World} {q : TrG} {w : Int} {l l' : List Lf} {k : Nat} {lev lev' : Nat → List Nd}
theorem TrAt.gen (h : TrAt W q w l k) : TrGen W q w l k (fun i => upN w i (l.map (nodeOf w))) := ⟨h.top, h.lvs, h.row, h.many, h.roomy, h.each, h.apart⟩
theorem TrGen.done (h : TrGen W q w l k lev) (e : ∀ j, j ≤ k → lev j = upN w j (l.map (nodeOf w))) : TrAt W q w l k :=
  ⟨h.top, h.lvs, h.row, h.many, h.roomy, fun j v hv => by
    have hj : j ≤ k := by have := (List.getElem?_eq_some_iff.1 hv).1; rw [h.many] at this; omega
    obtain ⟨h1, h2, h3, h4⟩ := h.each j v hv
    exact ⟨h1, h2, h3, by rw [← e j hj]; exact h4⟩, h.apart⟩
theorem TrGen.call (h : TrGen W q w l k lev) (hb : Below W.heap.size W W') : TrGen W' q w l k lev :=
  ⟨h.top.call hb, h.lvs.call hb, h.row.call hb, h.many, h.roomy, fun j v hv => ⟨(h.each j v hv).1, (h.each j v hv).2.1, (h.each j v hv).2.2.1, (h.each j v hv).2.2.2.call hb⟩, h.apart⟩
theorem TrGen.putL (h : TrGen W q w l k lev) (ho : Off (One q.gl) W W') (hB : lfS.Blk W' 36 q.gl l') (hl : l'.length = l.length) : TrGen W' q w l' k lev := by
  obtain ⟨cl, rl, hbl, -⟩ := h.lvs
  refine ⟨by rw [hl]; exact ho.box h.top (h.top.type_ne hbl (by decide)), hB, ?_, h.many, h.roomy, fun j v hv => ?_, h.apart⟩
  · obtain ⟨cv, rv, hbv, -⟩ := h.row
    exact h.row.off ho (hbv.type_ne hbl (by decide))
  · obtain ⟨h1, h2, h3, h4⟩ := h.each j v hv
    obtain ⟨cb, rb, hbb, -⟩ := h4
    exact ⟨h1, h2, h3, (h.each j v hv).2.2.2.off ho (hbb.type_ne hbl (by decide))⟩
theorem TrGen.putN (h : TrGen W q w l k lev) {j : Nat} {v : LvP} (hv : q.ls[j]? = some v) (ho : Off (One v.b) W W') (hB : ndS.Blk W' 46 v.b (lev' j)) (hs : ∀ i, i ≠ j → lev' i = lev i) : TrGen W' q w l k lev' := by
  obtain ⟨-, -, -, cn, rn, hbn, -⟩ := h.each j v hv
  refine ⟨ho.box h.top (h.top.type_ne hbn (by decide)), ?_, ?_, h.many, h.roomy, fun i u hu => ?_, h.apart⟩
  · obtain ⟨cl, rl, hbl, -⟩ := h.lvs
    exact h.lvs.off ho (hbl.type_ne hbn (by decide))
  · obtain ⟨cv, rv, hbv, -⟩ := h.row
    exact h.row.off ho (hbv.type_ne hbn (by decide))
  · obtain ⟨h1, h2, h3, h4⟩ := h.each i u hu
    by_cases e : i = j
    · subst e
      rw [hv] at hu
      injection hu with hu
      subst hu
      exact ⟨h1, h2, h3, hB⟩
    · refine ⟨h1, h2, h3, ?_⟩
      rw [hs i e]
      exact h4.off ho (fun eb => e (h.apart i j u v hu hv eb))
theorem TrGen.topcells (h : TrGen W q w l k lev) : W.cell? ⟨q.g, 0, none⟩ = some (.slice (some ⟨q.gl, 0, none⟩) l.length q.cl) ∧ W.cell? ⟨q.g, 1, none⟩ = some (.slice (some ⟨q.gv, 0, none⟩) (k + 1) q.cv) ∧ q.g < W.heap.size :=
  ⟨h.top.read 0, h.top.read 1, h.top.inside⟩
theorem TrGen.level (h : TrGen W q w l k lev) {j : Nat} (hj : j ≤ k) : ∃ v, q.ls[j]? = some v ∧ W.cell? ⟨q.gv, j * 2, none⟩ = some (.slice (some ⟨v.b, 0, none⟩) (2 ^ (k - j)) v.c) ∧ W.cell? ⟨q.gv, j * 2 + 1, none⟩ = some (.int .i64 w) ∧ ndS.Blk W 46 v.b (lev j) := by
  obtain ⟨v, hv⟩ : ∃ v, q.ls[j]? = some v := ⟨_, List.getElem?_eq_getElem (by rw [h.many]; omega)⟩
  obtain ⟨h1, h2, h3, h4⟩ := h.each j v hv
  obtain ⟨c0, c1⟩ := lv_at h.row hv
  rw [h1] at c1
  rw [h2] at c0
  exact ⟨v, hv, c0, c1, h4⟩
end
theorem own_offF {W W' : World} {F : Nat → Prop} {b k n : Nat} {T : TypeId} {v : Value} {xs : List Value} (h : W.ownsRow b T k v n xs) (ho : Off F W W') (hF : ∀ i, F i → i < b) : W'.ownsRow b T k v n xs := by
  refine ⟨h.1, ?_⟩
  rcases h.2 with h2 | ⟨g, cap, cur, hv, hg, hh, r⟩
  · exact .inl h2
  · exact .inr ⟨g, cap, cur, hv, hg, (ho.block g (Array.getElem?_eq_some_iff.1 hh).1 (fun hf => by have := hF g hf; omega)).trans hh, r⟩
set_option maxRecDepth 100000 in
set_option maxHeartbeats 4000000 in
theorem set15_no (v : Value) (p : Int) (x : Lf) (W : World) (h : NoTree W v) : Calls Tryd.prog 17 #[v, .int .u64 p, x.val] W (Tells (.int .i64 1) W.heap.size W) := by
  obtain ⟨xp, xi, xs, xh, xl⟩ := x
  show Calls _ _ #[_, _, .agg (lfB xp xi xs xh xl)] _ _
  have cN := nobodys_yes v _ (h.past (.cells (lfB xp xi xs xh xl) 36))
  have L := chainA (Below.refl W.heap.size W) (.cells (lfB xp xi xs xh xl) 36)
  clear h
  go_enter Tryd.func17, Tryd.ntmps17
  go_wp2_with (first | (go_at_call 38; refine cN.mono ?_; rintro e w1 ⟨rfl, rfl⟩) | fail)
  go_ret
  exact ⟨rfl, L⟩
section
variable {W : World} {q : TrG} {w : Int} {l : List Lf} {k : Nat}
set_option maxRecDepth 100000 in
set_option maxHeartbeats 4000000 in
theorem set15_arg (h : TrAt W q w l k) (hF : FairT w l k) (p : Nat) (hp : p < 18446744073709551616) (hpl : ¬ p < l.length) (x : Lf) : Calls Tryd.prog 17 #[.pointer (some ⟨q.g, 0, none⟩), .int .u64 p, x.val] W (Tells (.int .i64 2) W.heap.size W) := by
  obtain ⟨xp, xi, xs, xh, xl⟩ := x
  show Calls _ _ #[_, _, .agg (lfB xp xi xs xh xl)] _ _
  have hm := hF.most
  have h1 := h.past (.cells (lfB xp xi xs xh xl) 36)
  have cN := nobodys_no h1
  have cA := fun u hu => atLf_any (some ⟨q.gl, 0, none⟩) q.cl l (by omega) p hp u hu
  rw [decide_eq_false hpl] at cA
  have hBx := h1.lvs.row
  obtain ⟨b0, b1, hin⟩ := h1.topcells
  have L := chainA (Below.refl W.heap.size W) (.cells (lfB xp xi xs xh xl) 36)
  obtain ⟨M, hM⟩ : ∃ M, l.length = M := ⟨_, rfl⟩
  rw [hM] at b0 cA
  generalize lfAt l p = X at *
  obtain ⟨yp, yi, ys, yh, yl⟩ := X
  simp only [Lf.val] at cA
  clear h h1 hF hM hm b1 hpl
  go_enter Tryd.func17, Tryd.ntmps17
  go_wp2_with (first
    | (go_at_call 38; refine cN.mono ?_; rintro e w1 ⟨rfl, rfl⟩)
    | (go_at_call 40; refine (cA _ hBx).mono ?_; rintro e w1 ⟨rfl, k1⟩)
    | fail)
  go_ret
  exact ⟨rfl, chainA (chain L k1) _⟩
set_option maxRecDepth 100000 in
set_option maxHeartbeats 4000000 in
theorem set15_leaf (h : TrAt W q w l k) (hF : FairT w l k) (p : Nat) (hpl : p < l.length) (x : Lf) (hx : x.may = false) (h1 : x.id.size ≤ 1000000) (h2 : x.salt.size ≤ 1000000) (hU : TabU W) : Calls Tryd.prog 17 #[.pointer (some ⟨q.g, 0, none⟩), .int .u64 p, x.val] W (Tells (.int .i64 130) W.heap.size W) := by
  have cM := fun u hu => mayLeaf_any x (by omega) (by omega) u hu
  rw [hx] at cM
  obtain ⟨xp, xi, xs, xh, xl⟩ := x
  simp only [Lf.val] at cM
  show Calls _ _ #[_, _, .agg (lfB xp xi xs xh xl)] _ _
  have hm := hF.most
  have h1 := h.past (.cells (lfB xp xi xs xh xl) 36)
  have cN := nobodys_no h1
  have cA := fun u hu => atLf_any (some ⟨q.gl, 0, none⟩) q.cl l (by omega) p (by omega) u hu
  rw [decide_eq_true hpl] at cA
  have hBx := h1.lvs.row
  obtain ⟨b0, b1, hin⟩ := h1.topcells
  have K := (Has.start W).add 36 (lfB xp xi xs xh xl)
  obtain ⟨M, hM⟩ : ∃ M, l.length = M := ⟨_, rfl⟩
  rw [hM] at b0 cA
  generalize lfAt l p = X at *
  obtain ⟨yp, yi, ys, yh, yl⟩ := X
  simp only [Lf.val] at cA
  clear h h1 hF hM hm b1 hpl hx
  go_enter Tryd.func17, Tryd.ntmps17
  go_upto_region 6 with (first
    | (go_at_call 38; refine cN.mono ?_; rintro e w1 ⟨rfl, rfl⟩)
    | (go_at_call 40; refine (cA _ hBx).mono ?_; rintro e w1 ⟨rfl, k1⟩)
    | fail)
  have K1 := (K.call k1).past (.cells (lfB yp yi ys yh yl) 36)
  obtain ⟨⟨x0, x1, x2, x3, x4⟩, -, xin⟩ := (K1.box 0).five0
  change Code.wp _ _ _ _ (w1.alloc (.cells (lfB yp yi ys yh yl) 36))
  generalize w1.alloc (.cells (lfB yp yi ys yh yl) 36) = W2 at *
  go_wp2_with (first
    | (go_at_call 35; refine (cM _ (hU.call K1.below)).mono ?_; rintro e w3 ⟨rfl, k3⟩)
    | fail)
  go_ret
  exact ⟨rfl, chain K1.below k3⟩
end
end Go.Proofs.YtjndabnegmecmaaDoor
/-
  Package tree: a leaf is set, all the way up.
-/
namespace Go.Proofs.YtjndabnegmecmaaDoor
set_option linter.unusedVariables false
set_option linter.unusedSimpArgs false
set_option maxRecDepth 10000
open Go.RowKit

/-- Levels, so many of which are made anew. -/
def mixN (w : Int) (ns ns' : List Nd) (j : Nat) (i : Nat) : List Nd := if i < j then upN w i ns' else upN w i ns
theorem map_set_node (w : Int) (l : List Lf) (p : Nat) (x : Lf) : (l.set p x).map (nodeOf w) = (l.map (nodeOf w)).set p (nodeOf w x) := List.map_set
set_option maxRecDepth 100000 in
set_option maxHeartbeats 8000000 in
theorem set15_any {W : World} {q : TrG} {w : Int} {l : List Lf} {k : Nat} (h : TrAt W q w l k) (hF : FairT w l k) (p : Nat) (hp : p < 2 ^ k) (x : Lf) (hx : x.may = true ∧ Word x.h ∧ Word x.l) (hT : Tab W) (hU : TabU W) :
    Calls Tryd.prog 17 #[.pointer (some ⟨q.g, 0, none⟩), .int .u64 p, x.val] W (fun e w' =>
      (room (sumN ((l.set p x).map (nodeOf w))) = true ∧ e = .returned (.int .i64 0) ∧ TrAt w' q w (l.set p x) k ∧ Off q.turns W w') ∨
      (room (sumN ((l.set p x).map (nodeOf w))) = false ∧ e = .returned (.int .i64 10) ∧ Below W.heap.size W w')) := by
  have hk := hF.few
  have hpk : 2 ^ k ≤ 1024 := Nat.pow_le_pow_right (by decide) hk
  obtain ⟨hs1, hs2⟩ := mayT_sizes hx.1
  have cM := fun u hu => mayLeaf_any x (by omega) (by omega) u hu
  rw [hx.1] at cM
  have cN' := fun u hu hv => leafNode_any w x (by omega) (by omega) hx.2.1 hx.2.2 u hu hv
  have cO := fun u => ownLf15_any x (by omega) (by omega) u
  obtain ⟨hno, hnh, -⟩ := nodeOf_fine hF.may hx.1 hx.2.1 hx.2.2
  have cWy := fun u (hu : TrAt u q w l k) ht => way15_any hu hF p hp (nodeOf w x) hno hnh ht
  have hrm := (way_room hF.may hF.nlen hF.halved hF.of hF.room hp hnh hno)
  have hsw := set_way w hF.nlen hp (nodeOf w x)
  rw [map_set_node]
  have hE := map_set_node w l p x
  have hlen := hF.len
  have hulen := fun (j : Nat) (hj : j ≤ k) => hF.ulen hj
  have hpf := fun (j : Nat) (hj : j ≤ k) => place_fit hp hj
  obtain ⟨ns, hns⟩ : ∃ ns, l.map (nodeOf w) = ns := ⟨_, rfl⟩
  rw [hns] at cWy hrm hsw hE hulen ⊢
  obtain ⟨R, hR⟩ : ∃ R, room (sumN (ns.set p (nodeOf w x))) = R := ⟨_, rfl⟩
  rw [hR] at hrm ⊢
  have hWE : R = decide ((climbS w (nodeOf w x) p (sibsN w ns p k)).2 = 0) := by
    by_cases hz : (climbS w (nodeOf w x) p (sibsN w ns p k)).2 = 0
    · rw [decide_eq_true hz]; exact hrm.2.2 hz
    · rw [decide_eq_false hz]
      cases R with
      | false => rfl
      | true =>
        have := (hrm.1 rfl k (Nat.le_refl _)).1
        rw [List.take_of_length_le (by rw [sibs_len]; exact Nat.le_refl _)] at this
        exact absurd this hz
  have hall0 : R = true → ∀ j, j ≤ k → upN w j (ns.set p (nodeOf w x)) = (upN w j ns).set (p / 2 ^ j) (wayY w ns p k (nodeOf w x) j).1 := fun e j hj => hsw j hj (hrm.1 e j hj).1
  have HW := hideIt hWE
  have HALL := hideIt hall0
  have HNS := hideIt hns
  have HE := hideIt hE
  have HL := hideIt hlen
  have hF' := hideIt hF
  have HUL := hideIt hulen
  have HPF := hideIt hpf
  clear hrm hsw hR hWE hall0 hns hE hlen hF hulen hpf
  have hpl : p < l.length := by rw [HL.out]; exact hp
  have h1 := h.past (.cells x.cells 36)
  have cA := fun u hu => atLf_any (some ⟨q.gl, 0, none⟩) q.cl l (by rw [HL.out]; omega) p (by omega) u hu
  rw [decide_eq_true hpl] at cA
  have cB := nobodys_no h1
  have hBx := h1.lvs.row
  obtain ⟨nx, hnx⟩ : ∃ nx, nodeOf w x = nx := ⟨_, rfl⟩
  rw [hnx] at cWy cN'
  have HNX := hideIt hnx
  clear hnx
  obtain ⟨b0, b1, hin⟩ := h1.topcells
  have K := (Has.start W).add 36 x.cells
  have hTK := hT
  obtain ⟨xp, xi, xs, xh, xl⟩ := x
  simp only [Lf.val] at cM cN' cO
  simp only [Lf.cells] at K h1 cB hBx b0 b1 hin
  obtain ⟨nxs, nxh, nxl⟩ := nx
  simp only [Nd.val] at cWy cN'
  show Calls _ _ #[_, _, .agg (lfB xp xi xs xh xl)] _ _
  obtain ⟨M, hM⟩ : ∃ M, l.length = M := ⟨_, rfl⟩
  rw [hM] at b0 cA
  generalize lfAt l p = X at *
  obtain ⟨yp, yi, ys, yh, yl⟩ := X
  simp only [Lf.val] at cA
  clear hM b1
  go_enter Tryd.func17, Tryd.ntmps17
  go_upto_region 6 with (first
    | (go_at_call 38; refine cB.mono ?_; rintro e w1 ⟨rfl, rfl⟩)
    | (go_at_call 40; refine (cA _ hBx).mono ?_; rintro e w1 ⟨rfl, k1⟩)
    | fail)
  have K1 := (K.call k1).past (.cells (lfB yp yi ys yh yl) 36)
  have h2 := (h1.call k1).past (.cells (lfB yp yi ys yh yl) 36)
  obtain ⟨g5, hg5⟩ : ∃ g, W.heap.size = g := ⟨_, rfl⟩
  rw [hg5] at K1 ⊢
  obtain ⟨⟨x0, x1, x2, x3, x4⟩, -, xin⟩ := (K1.box 0).five0
  change Code.wp _ _ _ _ (w1.alloc (.cells (lfB yp yi ys yh yl) 36))
  generalize w1.alloc (.cells (lfB yp yi ys yh yl) 36) = W2 at *
  clear K k1 h1 cB hBx b0 cA
  go_upto_region 8 with (first
    | (go_at_call 35; refine (cM _ (hU.call K1.below)).mono ?_; rintro e w3 ⟨rfl, k3⟩)
    | fail)
  have K3 := K1.call k3
  have h3 := h2.call k3
  clear K1 h2 k3 x0 x1 x2 x3 x4 xin
  go_cut [9, 10] (fun s9 s10 wx => ∃ v e, s9 = v ∧ s10 = .int .i64 e ∧ Has W [(g5, 36, lfB xp xi xs xh xl)] wx ∧ Below W.heap.size W wx ∧ ((R = true ∧ e = 0 ∧ wx.ownsRow W.heap.size 46 3 v (k + 1) (ndS.flat (wayL w ns p k ⟨nxs, nxh, nxl⟩ (k + 1)))) ∨ (R = false ∧ e = 10)))
  case first =>
    have hS : ∀ u, Below w3.heap.size w3 u → (u.cell? ⟨g5, 0, none⟩ = some (.bool xp) ∧ u.cell? ⟨g5, 1, none⟩ = some (.string xi) ∧ u.cell? ⟨g5, 2, none⟩ = some (.string xs) ∧ u.cell? ⟨g5, 3, none⟩ = some (.int .u64 xh) ∧ u.cell? ⟨g5, 4, none⟩ = some (.int .u64 xl)) ∧ g5 < u.heap.size := fun u hu =>
      ⟨((K3.call hu).box 0).five0.1, ((K3.call hu).box 0).inside⟩
    have b0 := (Below.refl w3.heap.size w3).drew
    refine wp_region_held_drew (S := fun u => (u.cell? ⟨g5, 0, none⟩ = some (.bool xp) ∧ u.cell? ⟨g5, 1, none⟩ = some (.string xi) ∧ u.cell? ⟨g5, 2, none⟩ = some (.string xs) ∧ u.cell? ⟨g5, 3, none⟩ = some (.int .u64 xh) ∧ u.cell? ⟨g5, 4, none⟩ = some (.int .u64 xl)) ∧ g5 < u.heap.size) (by kernel_rfl) (hS _ b0) (fun hHeld => ?_)
    have hSd := hS _ b0
    have hd := h3.call b0
    have cWd := width15_any hd
    generalize w3.drew = Wd at *
    refine wpAnyH_take (i := 0) (v := ?_) rfl (by kernel_rfl) (by kernel_rfl) (by kernel_rfl) (fun _ _ _ h => h) (Or.inl ⟨by rfl, ?_⟩) (by assumption) ?_
    rotate_left 1
    · intro w hSw; (try dsimp only at hSw); go_simp; try with_reducible rfl
    try simp only [Act.put, List.getElem_toArray, List.getElem_cons_succ, List.getElem_cons_zero, List.setIfInBounds_toArray, List.set_cons_zero, List.set_cons_succ]
    refine wpAnyH_take (i := 1) (v := ?_) rfl (by kernel_rfl) (by kernel_rfl) (by kernel_rfl) (fun _ _ _ h => h) (Or.inl ⟨by rfl, ?_⟩) (by assumption) ?_
    rotate_left 1
    · intro w hSw; (try dsimp only at hSw); go_simp; try with_reducible rfl
    try simp only [Act.put, List.getElem_toArray, List.getElem_cons_succ, List.getElem_cons_zero, List.setIfInBounds_toArray, List.set_cons_zero, List.set_cons_succ]
    refine wpAnyH_take (i := 2) (v := ?_) rfl (by kernel_rfl) (by kernel_rfl) (by kernel_rfl) (fun _ _ _ h => h) (Or.inl ⟨by rfl, ?_⟩) (by assumption) ?_
    rotate_left 1
    · intro w hSw; (try dsimp only at hSw); go_simp; try with_reducible rfl
    try simp only [Act.put, List.getElem_toArray, List.getElem_cons_succ, List.getElem_cons_zero, List.setIfInBounds_toArray, List.set_cons_zero, List.set_cons_succ]
    refine wpAnyH_take (i := 4) (v := ?_) rfl (by kernel_rfl) (by kernel_rfl) (by kernel_rfl) (fun _ _ _ h => h) (Or.inl ⟨by rfl, ?_⟩) (by assumption) ?_
    rotate_left 1
    · intro w hSw; (try dsimp only at hSw); go_simp; try with_reducible rfl
    try simp only [Act.put, List.getElem_toArray, List.getElem_cons_succ, List.getElem_cons_zero, List.setIfInBounds_toArray, List.set_cons_zero, List.set_cons_succ]
    refine wpAnyH_ready (rs := [3]) (by kernel_rfl) (by simp) (AllReadyH.cons rfl (fun K hK => ?_) AllReadyH.nil)
    go_simp
    go_at_call 24
    refine cWd.mono ?_
    rintro e w4 ⟨rfl, rfl⟩
    try simp only []
    refine hK.out _ _ (hSd) (fun hHeld => ?_)
    clear hK K
    try simp only [Act.put, List.getElem_toArray, List.getElem_cons_succ, List.getElem_cons_zero, List.setIfInBounds_toArray, List.set_cons_zero, List.set_cons_succ]
    refine wpAnyH_ready (rs := [5]) (by kernel_rfl) (by simp) (AllReadyH.cons rfl (fun K hK => ?_) AllReadyH.nil)
    go_simp
    go_at_call 13
    refine (cN' _ (hTK.call (chain K3.below b0)) (hU.call (chain K3.below b0))).mono ?_
    rintro e w5 ⟨rfl, k5⟩
    have b5 := chain b0 k5
    try simp only []
    refine hK.out _ _ (hS _ b5) (fun hHeld => ?_)
    clear hK K
    try simp only [Act.put, List.getElem_toArray, List.getElem_cons_succ, List.getElem_cons_zero, List.setIfInBounds_toArray, List.set_cons_zero, List.set_cons_succ]
    refine wpAnyH_ready (rs := [6]) (by kernel_rfl) (by simp) (AllReadyH.cons rfl (fun K hK => ?_) AllReadyH.nil)
    go_simp
    go_at_call 41
    refine (cWy _ (h3.call b5) (hTK.call (chain K3.below b5))).mono ?_
    rintro e w6 ⟨k6, ⟨hz, v, rfl, o6⟩ | ⟨hz, rfl⟩⟩
    · have b6 := chain b5 k6
      try simp only []
      refine hK.out _ _ (hS _ b6) (fun hHeld => ?_)
      clear hK K
      try simp only [Act.put, List.getElem_toArray, List.getElem_cons_succ, List.getElem_cons_zero, List.setIfInBounds_toArray, List.set_cons_zero, List.set_cons_succ]
      refine wpAnyH_take (i := 7) (v := ?_) rfl (by kernel_rfl) (by kernel_rfl) (by kernel_rfl) (fun _ _ _ h => h) (Or.inl ⟨by rfl, ?_⟩) (by assumption) ?_
      rotate_left 1
      · intro w hSw; (try dsimp only at hSw); go_simp; try with_reducible rfl
      try simp only [Act.put, List.getElem_toArray, List.getElem_cons_succ, List.getElem_cons_zero, List.setIfInBounds_toArray, List.set_cons_zero, List.set_cons_succ]
      refine wpAnyH_take (i := 8) (v := ?_) rfl (by kernel_rfl) (by kernel_rfl) (by kernel_rfl) (fun _ _ _ h => h) (Or.inl ⟨by rfl, ?_⟩) (by assumption) ?_
      rotate_left 1
      · intro w hSw; (try dsimp only at hSw); go_simp; try with_reducible rfl
      try simp only [Act.put, List.getElem_toArray, List.getElem_cons_succ, List.getElem_cons_zero, List.setIfInBounds_toArray, List.set_cons_zero, List.set_cons_succ]
      refine wpAnyH_take (i := 9) (v := ?_) rfl (by kernel_rfl) (by kernel_rfl) (by kernel_rfl) (fun _ _ _ h => h) (Or.inl ⟨by rfl, ?_⟩) (by assumption) ?_
      rotate_left 1
      · intro w hSw; (try dsimp only at hSw); go_simp; try with_reducible rfl
      try simp only [Act.put, List.getElem_toArray, List.getElem_cons_succ, List.getElem_cons_zero, List.setIfInBounds_toArray, List.set_cons_zero, List.set_cons_succ]
      refine wpAnyH_take (i := 10) (v := ?_) rfl (by kernel_rfl) (by kernel_rfl) (by kernel_rfl) (fun _ _ _ h => h) (Or.inl ⟨by rfl, ?_⟩) (by assumption) ?_
      rotate_left 1
      · intro w hSw; (try dsimp only at hSw); go_simp; try with_reducible rfl
      try simp only [Act.put, List.getElem_toArray, List.getElem_cons_succ, List.getElem_cons_zero, List.setIfInBounds_toArray, List.set_cons_zero, List.set_cons_succ]
      refine wpAnyH_take (i := 11) (v := ?_) rfl (by kernel_rfl) (by kernel_rfl) (by kernel_rfl) (fun _ _ _ h => h) (Or.inl ⟨by rfl, ?_⟩) (by assumption) ?_
      rotate_left 1
      · intro w hSw; (try dsimp only at hSw); go_simp; try with_reducible rfl
      try simp only [Act.put, List.getElem_toArray, List.getElem_cons_succ, List.getElem_cons_zero, List.setIfInBounds_toArray, List.set_cons_zero, List.set_cons_succ]
      refine wpAnyH_done (by kernel_rfl) ?_ _
      go_wp2
      go_meet
      exact ⟨_, _, rfl, rfl, K3.call b6, chain K3.below b6, Or.inl ⟨by rw [HW.out, HNX.out]; exact decide_eq_true hz, rfl, own_mono o6 (by have := K3.size; have := b5.size; omega)⟩⟩
    · have b6 := chain b5 k6
      try simp only []
      refine hK.out _ _ (hS _ b6) (fun hHeld => ?_)
      clear hK K
      try simp only [Act.put, List.getElem_toArray, List.getElem_cons_succ, List.getElem_cons_zero, List.setIfInBounds_toArray, List.set_cons_zero, List.set_cons_succ]
      refine wpAnyH_take (i := 7) (v := ?_) rfl (by kernel_rfl) (by kernel_rfl) (by kernel_rfl) (fun _ _ _ h => h) (Or.inl ⟨by rfl, ?_⟩) (by assumption) ?_
      rotate_left 1
      · intro w hSw; (try dsimp only at hSw); go_simp; try with_reducible rfl
      try simp only [Act.put, List.getElem_toArray, List.getElem_cons_succ, List.getElem_cons_zero, List.setIfInBounds_toArray, List.set_cons_zero, List.set_cons_succ]
      refine wpAnyH_take (i := 8) (v := ?_) rfl (by kernel_rfl) (by kernel_rfl) (by kernel_rfl) (fun _ _ _ h => h) (Or.inl ⟨by rfl, ?_⟩) (by assumption) ?_
      rotate_left 1
      · intro w hSw; (try dsimp only at hSw); go_simp; try with_reducible rfl
      try simp only [Act.put, List.getElem_toArray, List.getElem_cons_succ, List.getElem_cons_zero, List.setIfInBounds_toArray, List.set_cons_zero, List.set_cons_succ]
      refine wpAnyH_take (i := 9) (v := ?_) rfl (by kernel_rfl) (by kernel_rfl) (by kernel_rfl) (fun _ _ _ h => h) (Or.inl ⟨by rfl, ?_⟩) (by assumption) ?_
      rotate_left 1
      · intro w hSw; (try dsimp only at hSw); go_simp; try with_reducible rfl
      try simp only [Act.put, List.getElem_toArray, List.getElem_cons_succ, List.getElem_cons_zero, List.setIfInBounds_toArray, List.set_cons_zero, List.set_cons_succ]
      refine wpAnyH_take (i := 10) (v := ?_) rfl (by kernel_rfl) (by kernel_rfl) (by kernel_rfl) (fun _ _ _ h => h) (Or.inl ⟨by rfl, ?_⟩) (by assumption) ?_
      rotate_left 1
      · intro w hSw; (try dsimp only at hSw); go_simp; try with_reducible rfl
      try simp only [Act.put, List.getElem_toArray, List.getElem_cons_succ, List.getElem_cons_zero, List.setIfInBounds_toArray, List.set_cons_zero, List.set_cons_succ]
      refine wpAnyH_take (i := 11) (v := ?_) rfl (by kernel_rfl) (by kernel_rfl) (by kernel_rfl) (fun _ _ _ h => h) (Or.inl ⟨by rfl, ?_⟩) (by assumption) ?_
      rotate_left 1
      · intro w hSw; (try dsimp only at hSw); go_simp; try with_reducible rfl
      try simp only [Act.put, List.getElem_toArray, List.getElem_cons_succ, List.getElem_cons_zero, List.setIfInBounds_toArray, List.set_cons_zero, List.set_cons_succ]
      refine wpAnyH_done (by kernel_rfl) ?_ _
      go_wp2
      go_meet
      exact ⟨_, _, rfl, rfl, K3.call b6, chain K3.below b6, Or.inr ⟨by rw [HW.out, HNX.out]; exact decide_eq_false hz, rfl⟩⟩
  case rest =>
    clear h3 K3 cWy cN' cM
    obtain ⟨v, e, rfl, rfl, K6, hbW, ⟨hR1, rfl, o6⟩ | ⟨hR1, rfl⟩⟩ := hcut
    · rename World => W6
      subst hR1
      obtain ⟨gw, cw, rfl, hgw, hcw, Bw⟩ := Sh.Blk.of_own (S := ndS) (l := wayL w ns p k ⟨nxs, nxh, nxl⟩ (k + 1)) (by rw [wayL_len]; exact o6) (fun e => by have := wayL_len w ns p k ⟨nxs, nxh, nxl⟩ (k + 1); rw [e] at this; simp at this)
      rw [wayL_len] at hcw ⊢
      have h6 := h.call hbW
      have hglt : q.gl < g5 := by rw [← hg5]; exact h.inside.2.1.2
      go_upto_region 11 with fail
      go_cut [] (fun wx => TrGen wx q w (l.set p ⟨xp, xi, xs, xh, xl⟩) k (mixN w ns (ns.set p (nodeOf w ⟨xp, xi, xs, xh, xl⟩)) 0) ∧ ndS.Blk wx 46 gw (wayL w ns p k ⟨nxs, nxh, nxl⟩ (k + 1)) ∧ Off q.turns W wx)
      case first =>
        have hS : ∀ u, Below W6.heap.size W6 u → (u.cell? ⟨g5, 0, none⟩ = some (.bool xp) ∧ u.cell? ⟨g5, 1, none⟩ = some (.string xi) ∧ u.cell? ⟨g5, 2, none⟩ = some (.string xs) ∧ u.cell? ⟨g5, 3, none⟩ = some (.int .u64 xh) ∧ u.cell? ⟨g5, 4, none⟩ = some (.int .u64 xl)) ∧ g5 < u.heap.size ∧ u.cell? ⟨q.g, 0, none⟩ = some (.slice (some ⟨q.gl, 0, none⟩) l.length q.cl) ∧ q.g < u.heap.size := fun u hu =>
          ⟨((K6.call hu).box 0).five0.1, ((K6.call hu).box 0).inside, (h6.call hu).topcells.1, (h6.call hu).topcells.2.2⟩
        have b0 := (Below.refl W6.heap.size W6).drew
        refine wp_region_held_drew (S := fun u => (u.cell? ⟨g5, 0, none⟩ = some (.bool xp) ∧ u.cell? ⟨g5, 1, none⟩ = some (.string xi) ∧ u.cell? ⟨g5, 2, none⟩ = some (.string xs) ∧ u.cell? ⟨g5, 3, none⟩ = some (.int .u64 xh) ∧ u.cell? ⟨g5, 4, none⟩ = some (.int .u64 xl)) ∧ g5 < u.heap.size ∧ u.cell? ⟨q.g, 0, none⟩ = some (.slice (some ⟨q.gl, 0, none⟩) l.length q.cl) ∧ q.g < u.heap.size) (by kernel_rfl) (hS _ b0) (fun hHeld => ?_)
        refine wpAnyH_take (i := 0) (v := ?_) rfl (by kernel_rfl) (by kernel_rfl) (by kernel_rfl) (fun _ _ _ h => h) (Or.inl ⟨by rfl, ?_⟩) (by assumption) ?_
        rotate_left 1
        · intro w hSw; (try dsimp only at hSw); go_simp; try with_reducible rfl
        try simp only [Act.put, List.getElem_toArray, List.getElem_cons_succ, List.getElem_cons_zero, List.setIfInBounds_toArray, List.set_cons_zero, List.set_cons_succ]
        refine wpAnyH_take (i := 1) (v := ?_) rfl (by kernel_rfl) (by kernel_rfl) (by kernel_rfl) (fun _ _ _ h => h) (Or.inl ⟨by rfl, ?_⟩) (by assumption) ?_
        rotate_left 1
        · intro w hSw; (try dsimp only at hSw); go_simp; try with_reducible rfl
        try simp only [Act.put, List.getElem_toArray, List.getElem_cons_succ, List.getElem_cons_zero, List.setIfInBounds_toArray, List.set_cons_zero, List.set_cons_succ]
        refine wpAnyH_take (i := 2) (v := ?_) rfl (by kernel_rfl) (by kernel_rfl) (by kernel_rfl) (fun _ _ _ h => h) (Or.inl ⟨by rfl, ?_⟩) (by assumption) ?_
        rotate_left 1
        · intro w hSw; (try dsimp only at hSw); go_simp; try with_reducible rfl
        try simp only [Act.put, List.getElem_toArray, List.getElem_cons_succ, List.getElem_cons_zero, List.setIfInBounds_toArray, List.set_cons_zero, List.set_cons_succ]
        refine wpAnyH_take (i := 3) (v := ?_) rfl (by kernel_rfl) (by kernel_rfl) (by kernel_rfl) (fun _ _ _ h => h) (Or.inl ⟨by rfl, ?_⟩) (by assumption) ?_
        rotate_left 1
        · intro w hSw; (try dsimp only at hSw); go_simp; try with_reducible rfl
        try simp only [Act.put, List.getElem_toArray, List.getElem_cons_succ, List.getElem_cons_zero, List.setIfInBounds_toArray, List.set_cons_zero, List.set_cons_succ]
        refine wpAnyH_take (i := 4) (v := ?_) rfl (by kernel_rfl) (by kernel_rfl) (by kernel_rfl) (fun _ _ _ h => h) (Or.inl ⟨by rfl, ?_⟩) (by assumption) ?_
        rotate_left 1
        · intro w hSw; (try dsimp only at hSw); go_simp; try with_reducible rfl
        try simp only [Act.put, List.getElem_toArray, List.getElem_cons_succ, List.getElem_cons_zero, List.setIfInBounds_toArray, List.set_cons_zero, List.set_cons_succ]
        refine wpAnyH_take (i := 5) (v := ?_) rfl (by kernel_rfl) (by kernel_rfl) (by kernel_rfl) (fun _ _ _ h => h) (Or.inl ⟨by rfl, ?_⟩) (by assumption) ?_
        rotate_left 1
        · intro w hSw; (try dsimp only at hSw); go_simp; try with_reducible rfl
        try simp only [Act.put, List.getElem_toArray, List.getElem_cons_succ, List.getElem_cons_zero, List.setIfInBounds_toArray, List.set_cons_zero, List.set_cons_succ]
        refine wpAnyH_ready (rs := [6]) (by kernel_rfl) (by simp) (AllReadyH.cons rfl (fun K hK => ?_) AllReadyH.nil)
        go_simp
        go_at_call 23
        refine (cO _).mono ?_
        rintro e w7 ⟨rfl, k7⟩
        have b7 := chain b0 k7
        have h7 := h6.call b7
        have X7 := (K6.call b7).box 0
        have Bw7 := Bw.call b7
        have cP := putLf_any q.gl q.cl l (by rw [HL.out]; omega) p hpl ⟨xp, xi, xs, xh, xl⟩ w7 h7.lvs
        simp only [Lf.val] at cP
        try simp only []
        refine hK.out _ _ (hS _ b7) (fun hHeld => ?_)
        clear hK K
        try simp only [Act.put, List.getElem_toArray, List.getElem_cons_succ, List.getElem_cons_zero, List.setIfInBounds_toArray, List.set_cons_zero, List.set_cons_succ]
        refine wpAnyH_ready (rs := [7]) (by kernel_rfl) (by simp) (AllReadyH.cons rfl (fun K hK => ?_) AllReadyH.nil)
        go_simp
        go_at_call 42
        refine cP.mono ?_
        rintro e w8 ⟨rfl, B8, O8⟩
        have G8 := h7.gen.putL O8 B8 (List.length_set ..)
        have X8 := O8.box X7 (show ¬ g5 = q.gl by omega)
        have OW : Off q.turns W w8 := ((Off.of hbW).call b7).trans (O8.mono (fun i hi => Or.inl hi))
        have Bw8 := Bw7.off O8 (show ¬ gw = q.gl by omega)
        try simp only []
        refine hK.out _ _ (⟨X8.five0.1, X8.inside, by have := G8.topcells.1; rw [List.length_set] at this; exact this, G8.topcells.2.2⟩) (fun hHeld => ?_)
        clear hK K
        try simp only [Act.put, List.getElem_toArray, List.getElem_cons_succ, List.getElem_cons_zero, List.setIfInBounds_toArray, List.set_cons_zero, List.set_cons_succ]
        refine wpAnyH_done (by kernel_rfl) ?_ _
        go_wp2
        go_meet
        refine ⟨?_, Bw8, OW⟩
        rw [HNS.out] at G8
        exact G8
      case rest =>
        obtain ⟨G0, Bw0, O0⟩ := hcut
        rename World => W7
        have hkey := HALL.out rfl
        rw [HNX.out] at hkey
        have HKEY := hideIt hkey
        obtain ⟨ns', hns'⟩ : ∃ ns', ns.set p (nodeOf w ⟨xp, xi, xs, xh, xl⟩) = ns' := ⟨_, rfl⟩
        rw [hns'] at G0
        have HNS' := hideIt hns'
        obtain ⟨K1, hK1⟩ : ∃ K1, k + 1 = K1 := ⟨_, rfl⟩
        rw [hK1] at Bw0 hcw ⊢
        have HK1 := hideIt hK1
        clear hkey hns' h6 K6 hbW hglt o6 Bw cO hK1
        go_wp2
        go_loopg [52] K1 (fun gk i wr => ∃ j : Nat, j ≤ K1 ∧ K1 - j ≤ gk ∧ i = .int .i64 j ∧ TrGen wr q w (l.set p ⟨xp, xi, xs, xh, xl⟩) k (mixN w ns ns' j) ∧ ndS.Blk wr 46 gw (wayL w ns p k ⟨nxs, nxh, nxl⟩ K1) ∧ Off q.turns W wr)
        case atStart => exact ⟨0, Nat.zero_le _, by omega, rfl, G0, Bw0, O0⟩
        case round =>
          obtain ⟨j, hj, hgk, rfl, G, Bwr, Or⟩ := hrel
          have HG := hideIt hgk
          clear hgk G0 Bw0 O0
          by_cases hlt : j < K1
          · have hjk : j ≤ k := by have := HK1.out; omega
            obtain ⟨v, hv, c0, c1, hB⟩ := G.level hjk
            have hmx : mixN w ns ns' j j = upN w j ns := by rw [mixN, if_neg (by omega)]
            rw [hmx] at hB
            obtain ⟨y, hy, e0, e1, e2⟩ := nd_there Bwr j (by rw [wayL_len]; exact hlt)
            rw [wayL_at w ns p k ⟨nxs, nxh, nxl⟩ hlt] at hy
            injection hy with hy
            have hup := HKEY.out j hjk
            have hpf := HPF.out j hjk
            have hul := HUL.out j hjk
            have hMb : 2 ^ (k - j) ≤ 1024 := Nat.le_trans (Nat.pow_le_pow_right (n := 2) (by decide) (by omega : k - j ≤ 10)) (by decide)
            rw [hy] at hup
            obtain ⟨t0, t1, tin⟩ := G.topcells
            obtain ⟨zs, zh, zl⟩ := y
            simp only at e0 e1 e2 hup
            have hji : (j : Int) < (K1 : Int) := by omega
            have hj0 : ¬ (j : Int) < 0 := by omega
            have hj64 : (j : Int) ≤ 64 := by omega
            obtain ⟨pj, hpj⟩ : ∃ pj, p / 2 ^ j = pj := ⟨_, rfl⟩
            have hsh : (p : Int) / 2 ^ j = (pj : Int) := by rw [← hpj]; norm_cast
            rw [hpj] at hpf hup
            have HUP := hideIt hup
            have hvin := G.row.inside
            have hgwin := Bwr.inside
            have G1 := G.call (chainA (Below.refl wr.heap.size wr) (.cells (ndB zs zh zl) 46))
            have B1 := hB.call (chainA (Below.refl wr.heap.size wr) (.cells (ndB zs zh zl) 46))
            have Bw1 := Bwr.call (chainA (Below.refl wr.heap.size wr) (.cells (ndB zs zh zl) 46))
            have X1 := Box.made wr 46 (ndB zs zh zl)
            have O1 := Or.past (.cells (ndB zs zh zl) 46)
            have hvb : v.b < wr.heap.size := hB.inside
            have hvb5 : v.b < g5 := by rw [← hg5]; exact (h.inside.2.2.2 j v hv).2
            clear hy hup
            go_upto_region 15 with fail
            change Code.wp _ _ _ _ (wr.alloc (.cells (ndB zs zh zl) 46))
            obtain ⟨gt, hgt⟩ : ∃ g, wr.heap.size = g := ⟨_, rfl⟩
            rw [hgt] at X1 hvb hgwin ⊢
            generalize wr.alloc (.cells (ndB zs zh zl) 46) = W1 at *
            clear e0 e1 e2 t0 t1 tin c0 c1 hvin hgt Bwr hB G Or
            obtain ⟨t0, t1, tin⟩ := G1.topcells
            obtain ⟨v', hv', c0, c1, -⟩ := G1.level hjk
            rw [hv] at hv'
            injection hv' with hv'
            subst hv'
            obtain ⟨M, hM⟩ : ∃ M, 2 ^ (k - j) = M := ⟨_, rfl⟩
            rw [hM] at c0 hpf hul hMb
            have hvn := (G1.each j _ hv).2.1
            rw [hM] at hvn
            clear hM hpj
            obtain ⟨vb, vn, vc, vw⟩ := v
            simp only at hvn
            subst hvn
            simp only at c0 hvb B1 hvb5
            have cP := fun u hu => putNd_any vb vc (upN w j ns) (by rw [hul]; omega) pj (by rw [hul]; exact hpf) ⟨zs, zh, zl⟩ u hu
            rw [hul] at cP
            simp only [Nd.val] at cP
            have hSx : ∀ lev u, TrGen u q w (l.set p ⟨xp, xi, xs, xh, xl⟩) k lev → Box u gt 46 (ndB zs zh zl) → (u.cell? ⟨q.g, 1, none⟩ = some (.slice (some ⟨q.gv, 0, none⟩) (k + 1) q.cv) ∧ u.cell? ⟨q.gv, j * 2, none⟩ = some (.slice (some ⟨vb, 0, none⟩) vn vc)) ∧ (u.cell? ⟨gt, 0, none⟩ = some (.string zs) ∧ u.cell? ⟨gt, 1, none⟩ = some (.int .u64 zh) ∧ u.cell? ⟨gt, 2, none⟩ = some (.int .u64 zl)) ∧ q.g < u.heap.size ∧ q.gv < u.heap.size ∧ gt < u.heap.size := fun lev u G X =>
              ⟨⟨G.topcells.2.1, (lv_at G.row hv).1⟩, ⟨X.read 0, X.read 1, X.read 2⟩, G.topcells.2.2, G.row.inside, X.inside⟩
            have b0 := (Below.refl W1.heap.size W1).drew
            have hjk1 : (j : Int) < ((k + 1 : Nat) : Int) := by omega
            have hjk2 : (j : Int) < (k : Int) + 1 := by omega
            have hjk3 : j < k + 1 := by omega
            refine wp_region_held_drew (S := fun u => (u.cell? ⟨q.g, 1, none⟩ = some (.slice (some ⟨q.gv, 0, none⟩) (k + 1) q.cv) ∧ u.cell? ⟨q.gv, j * 2, none⟩ = some (.slice (some ⟨vb, 0, none⟩) vn vc)) ∧ (u.cell? ⟨gt, 0, none⟩ = some (.string zs) ∧ u.cell? ⟨gt, 1, none⟩ = some (.int .u64 zh) ∧ u.cell? ⟨gt, 2, none⟩ = some (.int .u64 zl)) ∧ q.g < u.heap.size ∧ q.gv < u.heap.size ∧ gt < u.heap.size) (by kernel_rfl) (hSx _ _ (G1.call b0) (X1.call b0)) (fun hHeld => ?_)
            have G2 := G1.call b0
            have X2 := X1.call b0
            have B2 := B1.call b0
            have Bw2 := Bw1.call b0
            have O2 := O1.call b0
            clear t0 t1 tin c0 c1 G1 X1 B1 Bw1 O1
            generalize W1.drew = Wd at *
            have cP2 := cP Wd B2
            refine wpAnyH_take (i := 0) (v := ?_) rfl (by kernel_rfl) (by kernel_rfl) (by kernel_rfl) (fun _ _ _ h => h) (Or.inl ⟨by rfl, ?_⟩) (by assumption) ?_
            rotate_left 1
            · intro w hSw; (try dsimp only at hSw); go_simp; try with_reducible rfl
            try simp only [Act.put, List.getElem_toArray, List.getElem_cons_succ, List.getElem_cons_zero, List.setIfInBounds_toArray, List.set_cons_zero, List.set_cons_succ]
            refine wpAnyH_take (i := 1) (v := ?_) rfl (by kernel_rfl) (by kernel_rfl) (by kernel_rfl) (fun _ _ _ h => h) (Or.inl ⟨by rfl, ?_⟩) (by assumption) ?_
            rotate_left 1
            · intro w hSw; (try dsimp only at hSw); go_simp; try with_reducible rfl
            try simp only [Act.put, List.getElem_toArray, List.getElem_cons_succ, List.getElem_cons_zero, List.setIfInBounds_toArray, List.set_cons_zero, List.set_cons_succ]
            refine wpAnyH_take (i := 2) (v := ?_) rfl (by kernel_rfl) (by kernel_rfl) (by kernel_rfl) (fun _ _ _ h => h) (Or.inl ⟨by rfl, ?_⟩) (by assumption) ?_
            rotate_left 1
            · intro w hSw; (try dsimp only at hSw); go_simp; try with_reducible rfl
            try simp only [Act.put, List.getElem_toArray, List.getElem_cons_succ, List.getElem_cons_zero, List.setIfInBounds_toArray, List.set_cons_zero, List.set_cons_succ]
            refine wpAnyH_take (i := 3) (v := ?_) rfl (by kernel_rfl) (by kernel_rfl) (by kernel_rfl) (fun _ _ _ h => h) (Or.inl ⟨by rfl, ?_⟩) (by assumption) ?_
            rotate_left 1
            · intro w hSw; (try dsimp only at hSw); go_simp; try with_reducible rfl
            try simp only [Act.put, List.getElem_toArray, List.getElem_cons_succ, List.getElem_cons_zero, List.setIfInBounds_toArray, List.set_cons_zero, List.set_cons_succ]
            refine wpAnyH_take (i := 4) (v := ?_) rfl (by kernel_rfl) (by kernel_rfl) (by kernel_rfl) (fun _ _ _ h => h) (Or.inl ⟨by rfl, ?_⟩) (by assumption) ?_
            rotate_left 1
            · intro w hSw; (try dsimp only at hSw); go_simp; try with_reducible rfl
            try simp only [Act.put, List.getElem_toArray, List.getElem_cons_succ, List.getElem_cons_zero, List.setIfInBounds_toArray, List.set_cons_zero, List.set_cons_succ]
            refine wpAnyH_take (i := 5) (v := ?_) rfl (by kernel_rfl) (by kernel_rfl) (by kernel_rfl) (fun _ _ _ h => h) (Or.inl ⟨by rfl, ?_⟩) (by assumption) ?_
            rotate_left 1
            · intro w hSw; (try dsimp only at hSw); go_simp; try with_reducible rfl
            try simp only [Act.put, List.getElem_toArray, List.getElem_cons_succ, List.getElem_cons_zero, List.setIfInBounds_toArray, List.set_cons_zero, List.set_cons_succ]
            refine wpAnyH_take (i := 6) (v := ?_) rfl (by kernel_rfl) (by kernel_rfl) (by kernel_rfl) (fun _ _ _ h => h) (Or.inl ⟨by rfl, ?_⟩) (by assumption) ?_
            rotate_left 1
            · intro w hSw; (try dsimp only at hSw); go_simp; try with_reducible rfl
            try simp only [Act.put, List.getElem_toArray, List.getElem_cons_succ, List.getElem_cons_zero, List.setIfInBounds_toArray, List.set_cons_zero, List.set_cons_succ]
            refine wpAnyH_take (i := 7) (v := ?_) rfl (by kernel_rfl) (by kernel_rfl) (by kernel_rfl) (fun _ _ _ h => h) (Or.inl ⟨by rfl, ?_⟩) (by assumption) ?_
            rotate_left 1
            · intro w hSw; (try dsimp only at hSw); go_simp; try with_reducible rfl
            try simp only [Act.put, List.getElem_toArray, List.getElem_cons_succ, List.getElem_cons_zero, List.setIfInBounds_toArray, List.set_cons_zero, List.set_cons_succ]
            refine wpAnyH_take (i := 8) (v := ?_) rfl (by kernel_rfl) (by kernel_rfl) (by kernel_rfl) (fun _ _ _ h => h) (Or.inl ⟨by rfl, ?_⟩) (by assumption) ?_
            rotate_left 1
            · intro w hSw; (try dsimp only at hSw); go_simp; try with_reducible rfl
            try simp only [Act.put, List.getElem_toArray, List.getElem_cons_succ, List.getElem_cons_zero, List.setIfInBounds_toArray, List.set_cons_zero, List.set_cons_succ]
            refine wpAnyH_take (i := 9) (v := ?_) rfl (by kernel_rfl) (by kernel_rfl) (by kernel_rfl) (fun _ _ _ h => h) (Or.inl ⟨by rfl, ?_⟩) (by assumption) ?_
            rotate_left 1
            · intro w hSw; (try dsimp only at hSw); go_simp; try with_reducible rfl
            try simp only [Act.put, List.getElem_toArray, List.getElem_cons_succ, List.getElem_cons_zero, List.setIfInBounds_toArray, List.set_cons_zero, List.set_cons_succ]
            refine wpAnyH_take (i := 10) (v := ?_) rfl (by kernel_rfl) (by kernel_rfl) (by kernel_rfl) (fun _ _ _ h => h) (Or.inl ⟨by rfl, ?_⟩) (by assumption) ?_
            rotate_left 1
            · intro w hSw; (try dsimp only at hSw); go_simp; try with_reducible rfl
            try simp only [Act.put, List.getElem_toArray, List.getElem_cons_succ, List.getElem_cons_zero, List.setIfInBounds_toArray, List.set_cons_zero, List.set_cons_succ]
            refine wpAnyH_take (i := 11) (v := ?_) rfl (by kernel_rfl) (by kernel_rfl) (by kernel_rfl) (fun _ _ _ h => h) (Or.inl ⟨by rfl, ?_⟩) (by assumption) ?_
            rotate_left 1
            · intro w hSw; (try dsimp only at hSw); go_simp; try with_reducible rfl
            try simp only [Act.put, List.getElem_toArray, List.getElem_cons_succ, List.getElem_cons_zero, List.setIfInBounds_toArray, List.set_cons_zero, List.set_cons_succ]
            refine wpAnyH_ready (rs := [12]) (by kernel_rfl) (by simp) (AllReadyH.cons rfl (fun K hK => ?_) AllReadyH.nil)
            go_simp
            go_at_call 43
            refine cP2.mono ?_
            rintro e w8 ⟨rfl, B8, O8⟩
            have hmj : mixN w ns ns' (j + 1) j = (upN w j ns).set pj ⟨zs, zh, zl⟩ := by
              rw [mixN, if_pos (Nat.lt_succ_self _), ← HUP.out, ← HNS'.out, HNX.out]
            have G8 := G2.putN (lev' := mixN w ns ns' (j + 1)) hv O8 (by rw [hmj]; exact B8) (fun i hi => by
              unfold mixN
              by_cases h1 : i < j
              · rw [if_pos h1, if_pos (by omega)]
              · rw [if_neg h1, if_neg (by omega)])
            have X8 := O8.box X2 (show ¬ gt = vb by omega)
            have Bw8 := Bw2.off O8 (show ¬ gw = vb by omega)
            have OW : Off q.turns W w8 := O2.trans (O8.mono (fun i hi => Or.inr ⟨j, _, hv, hi⟩))
            try simp only []
            refine hK.out _ _ (hSx _ _ G8 X8) (fun hHeld => ?_)
            clear hK K
            try simp only [Act.put, List.getElem_toArray, List.getElem_cons_succ, List.getElem_cons_zero, List.setIfInBounds_toArray, List.set_cons_zero, List.set_cons_succ]
            refine wpAnyH_done (by kernel_rfl) ?_ _
            clear cP cP2 hSx
            go_wp2
            go_roundg (K1 - (j + 1))
            case measure => have := HG.out; omega
            case rel => exact ⟨j + 1, by omega, Nat.le_refl _, by go_num, G8, Bw8, OW⟩
          · have e : j = K1 := by omega
            subst e
            have hji : ¬ (j : Int) < (j : Int) := by omega
            go_wp2
            go_ret
            refine ⟨rfl, G.done fun i hi => ?_, Or⟩
            rw [mixN, if_pos (by have := HK1.out; omega), ← HNS'.out, HE.out]
    · subst hR1
      go_wp2
      go_ret
      exact ⟨rfl, by rw [← hg5]; exact hbW⟩
end Go.Proofs.YtjndabnegmecmaaDoor
