/- Several of my texts, laid as one. -/
import Derived.Test.YtjndabnegmecmaaGreatDoorM15Fns
import Derived.Test.YtjndabnegmecmaaGreatDoorM15Bld
/-
  Package tree: a node, a leaf, the leaves, the root.
-/
namespace Go.Proofs.YtjndabnegmecmaaGreatDoor
set_option linter.unusedVariables false
set_option linter.unusedSimpArgs false
set_option maxRecDepth 10000
open Go.RowKit

theorem ndAt_fine {l : List Nd} {w : Int} (h : ∀ x ∈ l, x.of w = true) (p : Nat) : (ndAt l p).hash.size ≤ 32 := by
  by_cases hp : p < l.length
  · have e : ndAt l p = l[p] := by rw [ndAt, List.getD_eq_getElem?_getD, List.getElem?_eq_getElem hp]; rfl
    rw [e]
    exact of_size (h _ (List.getElem_mem hp))
  · have e : ndAt l p = Nd.zero := by rw [ndAt, List.getD_eq_getElem?_getD, List.getElem?_eq_none (by omega)]; rfl
    rw [e]; decide
theorem lfAt_fine {l : List Lf} (h : ∀ x ∈ l, x.may = true) (p : Nat) : (lfAt l p).id.size ≤ 96 ∧ (lfAt l p).salt.size ≤ 32 := by
  by_cases hp : p < l.length
  · have e : lfAt l p = l[p] := by rw [lfAt, List.getD_eq_getElem?_getD, List.getElem?_eq_getElem hp]; rfl
    rw [e]
    exact mayT_sizes (h _ (List.getElem_mem hp))
  · have e : lfAt l p = Lf.zero := by rw [lfAt, List.getD_eq_getElem?_getD, List.getElem?_eq_none (by omega)]; rfl
    rw [e]; decide
set_option maxRecDepth 100000 in
set_option maxHeartbeats 4000000 in
theorem node15_no (v : Value) (lv : Int) (p : Int) (W : World) (h : NoTree W v) : Calls Tryz.prog 57 #[v, .int .i64 lv, .int .u64 p] W (Tells (.tuple #[Nd.zero.val, .bool false]) W.heap.size W) := by
  have cN := nobodys_yes v _ (h.call (chainA (Below.refl W.heap.size W) (.cells (ndB ⟨#[]⟩ 0 0) 47)))
  clear h
  have E := (Has.start W).addAt 47 (ndB ⟨#[]⟩ 0 0) (g := W.heap.size) rfl
  obtain ⟨x0, x1, x2, xf0, xf1, xf2, xin⟩ := (E.box 0).three
  go_enter Tryz.func57, Tryz.ntmps57
  go_wp2_with (first | (go_at_call 36; refine cN.mono ?_; rintro e w1 ⟨rfl, rfl⟩) | fail)
  clear x0 x1 x2 xf0 xf1 xf2 xin
  change bodyPost _ _ _ _ _ (W.alloc (.cells (ndB ⟨#[]⟩ 0 0) 47))
  generalize W.alloc (.cells (ndB ⟨#[]⟩ 0 0) 47) = W9 at *
  obtain ⟨v0, v1, v2, -, -, -, -⟩ := (E.box 0).three
  exact bodyPost_ret (v := .tuple #[Nd.zero.val, .bool false]) (by simp [results, Tryz.results57, go_sem, Nd.val, Nd.zero, v0, v1, v2]) rfl ⟨rfl, E.below⟩
section
variable {W : World} {q : TrG} {w : Int} {l : List Lf} {k : Nat}
set_option maxRecDepth 100000 in
set_option maxHeartbeats 4000000 in
theorem node15_out (h : TrAt W q w l k) (hk : k ≤ 1000) (lv : Int) (p : Int) (hlv : ¬ (0 ≤ lv ∧ lv ≤ (k : Int))) :
    Calls Tryz.prog 57 #[.pointer (some ⟨q.g, 0, none⟩), .int .i64 lv, .int .u64 p] W (Tells (.tuple #[Nd.zero.val, .bool false]) W.heap.size W) := by
  have h1 := h.past (.cells (ndB ⟨#[]⟩ 0 0) 47)
  have cN := nobodys_no h1
  have cH := height15_any h1 hk
  clear h h1
  have E := (Has.start W).addAt 47 (ndB ⟨#[]⟩ 0 0) (g := W.heap.size) rfl
  obtain ⟨x0, x1, x2, xf0, xf1, xf2, xin⟩ := (E.box 0).three
  by_cases h0 : lv < 0
  · clear hlv
    go_enter Tryz.func57, Tryz.ntmps57
    go_wp2_with (first | (go_at_call 36; refine cN.mono ?_; rintro e w1 ⟨rfl, rfl⟩) | fail)
    clear x0 x1 x2 xf0 xf1 xf2 xin
    change bodyPost _ _ _ _ _ (W.alloc (.cells (ndB ⟨#[]⟩ 0 0) 47))
    generalize W.alloc (.cells (ndB ⟨#[]⟩ 0 0) 47) = W9 at *
    obtain ⟨v0, v1, v2, -, -, -, -⟩ := (E.box 0).three
    exact bodyPost_ret (v := .tuple #[Nd.zero.val, .bool false]) (by simp [results, Tryz.results57, go_sem, Nd.val, Nd.zero, v0, v1, v2]) rfl ⟨rfl, E.below⟩
  · have hgt : (k : Int) < lv := by omega
    clear hlv
    go_enter Tryz.func57, Tryz.ntmps57
    go_wp2_with (first
      | (go_at_call 36; refine cN.mono ?_; rintro e w1 ⟨rfl, rfl⟩)
      | (go_at_call 56; refine cH.mono ?_; rintro e w1 ⟨rfl, rfl⟩)
      | fail)
    clear x0 x1 x2 xf0 xf1 xf2 xin
    change bodyPost _ _ _ _ _ (W.alloc (.cells (ndB ⟨#[]⟩ 0 0) 47))
    generalize W.alloc (.cells (ndB ⟨#[]⟩ 0 0) 47) = W9 at *
    obtain ⟨v0, v1, v2, -, -, -, -⟩ := (E.box 0).three
    exact bodyPost_ret (v := .tuple #[Nd.zero.val, .bool false]) (by simp [results, Tryz.results57, go_sem, Nd.val, Nd.zero, v0, v1, v2]) rfl ⟨rfl, E.below⟩
set_option maxRecDepth 100000 in
set_option maxHeartbeats 4000000 in
theorem node15_in (h : TrAt W q w l k) (hF : FairT w l k) {j : Nat} (hj : j ≤ k) (p : Nat) (hp : p < 18446744073709551616) :
    Calls Tryz.prog 57 #[.pointer (some ⟨q.g, 0, none⟩), .int .i64 j, .int .u64 p] W (Tells (.tuple #[(ndAt (upN w j (l.map (nodeOf w))) p).val, .bool (decide (p < 2 ^ (k - j)))]) W.heap.size W) := by
  have hk := hF.few
  have h1 := h.past (.cells (ndB ⟨#[]⟩ 0 0) 47)
  have cN := nobodys_no h1
  have cH := height15_any h1 (by omega)
  have hul := hF.ulen hj
  have hz := ndAt_fine (hF.up hj).2.1 p
  obtain ⟨b, c, c0, c1, hc, hB, -⟩ := h1.level hj
  have hBx := hB.row
  have cA := fun u hu => atNd_any (some ⟨b, 0, none⟩) c (upN w j (l.map (nodeOf w))) (by rw [hul]; exact Nat.le_trans (Nat.pow_le_pow_right (n := 2) (by decide) (by omega : k - j ≤ 10)) (by decide)) p hp u hu
  have cO := fun u => own15_any (ndAt (upN w j (l.map (nodeOf w))) p) (by omega) u
  rw [hul] at cA
  obtain ⟨b0, b1, hin⟩ := h1.topcells
  obtain ⟨is, his⟩ : ∃ is, decide (p < 2 ^ (k - j)) = is := ⟨_, rfl⟩
  rw [his] at cA ⊢
  obtain ⟨M, hM⟩ : ∃ M, 2 ^ (k - j) = M := ⟨_, rfl⟩
  rw [hM] at c0 cA
  generalize ndAt (upN w j (l.map (nodeOf w))) p = X at *
  obtain ⟨xs, xh, xl⟩ := X
  simp only [Nd.val] at cA cO
  obtain ⟨K, hK⟩ : ∃ K, k + 1 = K := ⟨_, rfl⟩
  rw [hK] at b1
  have hjK : (j : Int) < (K : Int) := by omega
  have hjn : j < K := by omega
  have hj0 : ¬ (j : Int) < 0 := by omega
  have hjk : ¬ (k : Int) < (j : Int) := by omega
  have hjkn : ¬ k < j := by omega
  have hvin := h1.row.inside
  have E := (Has.start W).addAt 47 (ndB ⟨#[]⟩ 0 0) (g := W.heap.size) rfl
  clear h h1 hF hul hz hB hc hM hK his
  go_enter Tryz.func57, Tryz.ntmps57
  go_upto_region 1 with fail
  change Code.wp _ _ _ _ (W.alloc (.cells (ndB ⟨#[]⟩ 0 0) 47))
  obtain ⟨g, hg⟩ : ∃ g, W.heap.size = g := ⟨_, rfl⟩
  generalize W.alloc (.cells (ndB ⟨#[]⟩ 0 0) 47) = W1 at *
  rw [hg] at E ⊢
  go_upto_region 4 with (first
    | (go_at_call 36; refine cN.mono ?_; rintro e w1 ⟨rfl, rfl⟩)
    | (go_at_call 56; refine cH.mono ?_; rintro e w1 ⟨rfl, rfl⟩)
    | (go_at_call 45; refine (cA _ hBx).mono ?_; rintro e w1 ⟨rfl, k1⟩)
    | fail)
  have K2 := (E.call k1).add 47 (ndB xs xh xl)
  change Code.wp _ _ _ _ (w1.alloc (.cells (ndB xs xh xl) 47))
  obtain ⟨g2, hg2⟩ : ∃ g, w1.heap.size = g := ⟨_, rfl⟩
  have hgg : g < g2 := by rw [← hg2]; exact (E.call k1).box 0 |>.inside
  rw [hg2] at K2 ⊢
  generalize w1.alloc (.cells (ndB xs xh xl) 47) = W2 at *
  clear k1 hg2 cA cN cH hBx b0 b1 c0 c1
  obtain ⟨x0, x1, x2, -, -, -, xin⟩ := (K2.box 0).three
  go_wp2_with (first
    | (go_at_call 74; refine (cO _).mono ?_; rintro e w3 ⟨rfl, k3⟩; have K3 := K2.call k3; obtain ⟨y0, y1, y2, yf0, yf1, yf2, yin⟩ := (K3.box 1).three)
    | fail)
  have K4 : Has W [(g, 47, ndB ⟨#[]⟩ 0 0)] w3 := ⟨fun x hx => by obtain rfl := List.mem_singleton.1 hx; exact K3.box 1, K3.below⟩
  have E2 := told3 K4 (Nat.le_of_eq hg) (fun x hx => by simp at hx) (.string xs) (.int .u64 xh) (.int .u64 xl)
  generalize World.setCell (World.setCell (World.setCell w3 _ _) _ _) _ _ = W9 at *
  obtain ⟨v0, v1, v2, -, -, -, -⟩ := (E2.box 0).three
  exact bodyPost_ret (v := .tuple #[Nd.val ⟨xs, xh, xl⟩, .bool is]) (by simp [results, Tryz.results57, go_sem, Nd.val, v0, v1, v2]) rfl ⟨rfl, by first | exact E2.below | (rw [hg]; exact E2.below) | (rw [← hg]; exact E2.below)⟩
set_option maxRecDepth 100000 in
set_option maxHeartbeats 4000000 in
theorem leaf15_any (h : TrAt W q w l k) (hF : FairT w l k) (p : Nat) (hp : p < 18446744073709551616) :
    Calls Tryz.prog 21 #[.pointer (some ⟨q.g, 0, none⟩), .int .u64 p] W (Tells (.tuple #[(lfAt l p).val, .bool (decide (p < l.length))]) W.heap.size W) := by
  have hm := hF.most
  have h1 := h.past (.cells (lfB false ⟨#[]⟩ ⟨#[]⟩ 0 0) 35)
  have cN := nobodys_no h1
  have hz := lfAt_fine (fun x hx => (hF.all x hx).1) p
  have hBx := h1.lvs.row
  have cA := fun u hu => atLf_any (some ⟨q.gl, 0, none⟩) q.cl l (by omega) p hp u hu
  have cO := fun u => ownLf15_any (lfAt l p) (by omega) (by omega) u
  obtain ⟨b0, b1, hin⟩ := h1.topcells
  obtain ⟨is, his⟩ : ∃ is, decide (p < l.length) = is := ⟨_, rfl⟩
  rw [his] at cA ⊢
  obtain ⟨M, hM⟩ : ∃ M, l.length = M := ⟨_, rfl⟩
  rw [hM] at b0 cA
  generalize lfAt l p = X at *
  obtain ⟨xp, xi, xs, xh, xl⟩ := X
  simp only [Lf.val] at cA cO
  have E := (Has.start W).addAt 35 (lfB false ⟨#[]⟩ ⟨#[]⟩ 0 0) (g := W.heap.size) rfl
  clear h h1 hF hz hM his b1
  go_enter Tryz.func21, Tryz.ntmps21
  go_upto_region 1 with fail
  change Code.wp _ _ _ _ (W.alloc (.cells (lfB false ⟨#[]⟩ ⟨#[]⟩ 0 0) 35))
  obtain ⟨g, hg⟩ : ∃ g, W.heap.size = g := ⟨_, rfl⟩
  generalize W.alloc (.cells (lfB false ⟨#[]⟩ ⟨#[]⟩ 0 0) 35) = W1 at *
  rw [hg] at E ⊢
  go_upto_region 4 with (first
    | (go_at_call 36; refine cN.mono ?_; rintro e w1 ⟨rfl, rfl⟩)
    | (go_at_call 37; refine (cA _ hBx).mono ?_; rintro e w1 ⟨rfl, k1⟩)
    | fail)
  have K2 := (E.call k1).add 35 (lfB xp xi xs xh xl)
  change Code.wp _ _ _ _ (w1.alloc (.cells (lfB xp xi xs xh xl) 35))
  obtain ⟨g2, hg2⟩ : ∃ g, w1.heap.size = g := ⟨_, rfl⟩
  have hgg : g < g2 := by rw [← hg2]; exact (E.call k1).box 0 |>.inside
  rw [hg2] at K2 ⊢
  generalize w1.alloc (.cells (lfB xp xi xs xh xl) 35) = W2 at *
  clear k1 hg2 cA cN hBx b0
  obtain ⟨⟨x0, x1, x2, x3, x4⟩, -, xin⟩ := (K2.box 0).five0
  go_wp2_with (first
    | (go_at_call 15; refine (cO _).mono ?_; rintro e w3 ⟨rfl, k3⟩; have K3 := K2.call k3; obtain ⟨⟨y0, y1, y2, y3, y4⟩, ⟨yf0, yf1, yf2, yf3, yf4⟩, yin⟩ := (K3.box 1).five0)
    | fail)
  have K4 : Has W [(g, 35, lfB false ⟨#[]⟩ ⟨#[]⟩ 0 0)] w3 := ⟨fun x hx => by obtain rfl := List.mem_singleton.1 hx; exact K3.box 1, K3.below⟩
  have E2 := told5 K4 (Nat.le_of_eq hg) (fun x hx => by simp at hx) (.bool xp) (.string xi) (.string xs) (.int .u64 xh) (.int .u64 xl)
  generalize World.setCell (World.setCell (World.setCell (World.setCell (World.setCell w3 _ _) _ _) _ _) _ _) _ _ = W9 at *
  obtain ⟨⟨v0, v1, v2, v3, v4⟩, -, -⟩ := (E2.box 0).five0
  exact bodyPost_ret (v := .tuple #[Lf.val ⟨xp, xi, xs, xh, xl⟩, .bool is]) (by simp [results, Tryz.results21, go_sem, Lf.val, v0, v1, v2, v3, v4]) rfl ⟨rfl, by first | exact E2.below | (rw [hg]; exact E2.below) | (rw [← hg]; exact E2.below)⟩
end
set_option maxRecDepth 100000 in
set_option maxHeartbeats 4000000 in
theorem leaf15_no (v : Value) (p : Int) (W : World) (h : NoTree W v) : Calls Tryz.prog 21 #[v, .int .u64 p] W (Tells (.tuple #[Lf.zero.val, .bool false]) W.heap.size W) := by
  have cN := nobodys_yes v _ (h.call (chainA (Below.refl W.heap.size W) (.cells (lfB false ⟨#[]⟩ ⟨#[]⟩ 0 0) 35)))
  clear h
  have E := (Has.start W).addAt 35 (lfB false ⟨#[]⟩ ⟨#[]⟩ 0 0) (g := W.heap.size) rfl
  go_enter Tryz.func21, Tryz.ntmps21
  go_wp2_with (first | (go_at_call 36; refine cN.mono ?_; rintro e w1 ⟨rfl, rfl⟩) | fail)
  change bodyPost _ _ _ _ _ (W.alloc (.cells (lfB false ⟨#[]⟩ ⟨#[]⟩ 0 0) 35))
  generalize W.alloc (.cells (lfB false ⟨#[]⟩ ⟨#[]⟩ 0 0) 35) = W9 at *
  obtain ⟨⟨v0, v1, v2, v3, v4⟩, -, -⟩ := (E.box 0).five0
  exact bodyPost_ret (v := .tuple #[Lf.zero.val, .bool false]) (by simp [results, Tryz.results21, go_sem, Lf.val, Lf.zero, v0, v1, v2, v3, v4]) rfl ⟨rfl, E.below⟩
end Go.Proofs.YtjndabnegmecmaaGreatDoor
