/- Several of my texts, laid as one. -/
import Derived.Test.YtmflhodiibjpnaaDoorM13Fn
import Derived.Test.YtmflhodiibjpnaaDoorW7Leaf
import Derived.Test.YtmflhodiibjpnaaDoorM13Dec
/-
  pack, walked: how nodes, leaves, roots, rows of nodes are read.
-/
namespace Go.Proofs.YtmflhodiibjpnaaDoor
set_option linter.unusedVariables false
set_option linter.unusedSimpArgs false
set_option maxRecDepth 10000
open Go.RowKit

/-- A row that lies behind a height. -/
def FRow {α : Type} (S : Sh α) (W : World) (b : Nat) (A : Option Addr) (l : List α) : Prop := S.Row W W.heap.size A l ∧ ∀ ad, A = some ad → b ≤ ad.block
section
variable {α : Type} {S : Sh α} {W W' : World} {b x : Nat} {A : Option Addr} {l : List α}
theorem FRow.call (h : FRow S W b A l) (k : Below W.heap.size W W') : FRow S W' b A l := ⟨h.1.on k, h.2⟩
theorem FRow.off (h : FRow S W b A l) (k : Off (One x) W W') (hx : x < b) : FRow S W' b A l :=
  ⟨(h.1.off k (Nat.le_refl _) (fun ad e _ => by have := h.2 ad e; omega)).more k.size, h.2⟩
theorem FRow.less {b' : Nat} (h : FRow S W b A l) (hb : b' ≤ b) : FRow S W b' A l := ⟨h.1, fun ad e => Nat.le_trans hb (h.2 ad e)⟩
theorem FRow.nil (W : World) (b : Nat) : FRow S W b none [] := ⟨Sh.Row.nil S _ _ _, fun ad e => nomatch e⟩
theorem FRow.own {T : TypeId} {v : Value} (h : W.ownsRow b T S.k v l.length (S.flat l)) : ∃ A c, v = .slice A l.length c ∧ (A = none → c = 0) ∧ FRow S W b A l := by
  obtain ⟨A, c, hv, h0, hR⟩ := Sh.own_row h
  refine ⟨A, c, hv, h0, hR, fun ad e => ?_⟩
  rcases h.2 with ⟨h1, h2⟩ | ⟨g, cap, cur, hv2, hg, -⟩
  · rw [hv] at h1
    injection h1 with h1
    rw [h1] at e
    cases e
  · rw [hv] at hv2
    injection hv2 with h1
    rw [h1] at e
    injection e with e
    subst e
    exact hg
end
/-- An In, where a row of the call's own has grown. -/
theorem InS.grown {w W' : World} {g base n k : Nat} {st : StR} {T : TypeId} {v : Value} {xs : List Value} {o : Obj} (h : InS w g st) (O : w.ownsRow base T k v n xs) (ht : 5 ≠ T) (hg : g < base) (q : (w.alloc o).grownBy W' v.ownBlock) : InS W' g st :=
  h.keep fun j hj hx => (q.block j (by simp; omega) (fun e => by
    rcases O.2 with ⟨h1, h2⟩ | ⟨r, cap, cur, hv, hr, hh, -⟩
    · rw [h1] at e; cases e
    · rw [hv] at e
      have e2 : r = j := by
        have : some j = some r := e
        injection this with this
        exact this.symm
      subst e2
      rcases hx with hx | ⟨cs, fr, hx⟩
      · omega
      · rw [hh] at hx
        injection hx with hx
        injection hx with a1 a2 a3
        exact ht a2.symm)).trans (Below.heap_alloc w o j hj)
set_option maxHeartbeats 4000000 in
theorem getL_any (w : World) (g : Nat) (st : StR) (h : InS w g st) : Calls Tryd.prog 37 #[.pointer (some ⟨g, 0, none⟩)] w fun e w' =>
    e = .returned (lfP st).1.val ∧ InS w' g (lfP st).2 ∧ Off (One g) w w' := by
  have D0 := (Rp.start h).add 46 (lfB false ⟨#[]⟩ ⟨#[]⟩ 0 0)
  obtain ⟨s1, h1⟩ : ∃ s1, nxt (opF st) = s1 := ⟨_, rfl⟩
  obtain ⟨s2, h2⟩ : ∃ s2, nxt (opT 96 s1) = s2 := ⟨_, rfl⟩
  obtain ⟨s3, h3⟩ : ∃ s3, nxt (opT 32 s2) = s3 := ⟨_, rfl⟩
  have hl : lfP st = (⟨fV (opF st), tV (opT 96 s1), tV (opT 32 s2), hV (opN 16 s3), lV (opN 16 s3)⟩, nxt (opN 16 s3)) := by
    unfold lfP flagG textG wideG
    simp only [h1, h2, h3]
  rw [hl]
  show Calls _ _ _ _ fun e w' => e = .returned (.agg (lfB (fV (opF st)) (tV (opT 96 s1)) (tV (opT 32 s2)) (hV (opN 16 s3)) (lV (opN 16 s3)))) ∧ InS w' g (nxt (opN 16 s3)) ∧ Off (One g) w w'
  have c0 := fun u hu => in_flag u g st hu
  have c1 : ∀ u, InS u g s1 → Calls Tryd.prog 28 #[.pointer (some ⟨g, 0, none⟩), .int .i64 96] u _ := fun u hu => in_text 96 (by decide) u g s1 hu
  have c2 : ∀ u, InS u g s2 → Calls Tryd.prog 28 #[.pointer (some ⟨g, 0, none⟩), .int .i64 32] u _ := fun u hu => in_text 32 (by decide) u g s2 hu
  rw [h2] at c1
  rw [h3] at c2
  rw [h1] at c0
  have c3 := fun u hu => in_wide u g s3 hu
  generalize fV (opF st) = F at *
  generalize tV (opT 96 s1) = I at *
  generalize tV (opT 32 s2) = S at *
  generalize hV (opN 16 s3) = H at *
  generalize lV (opN 16 s3) = L at *
  generalize nxt (opN 16 s3) = s4 at *
  clear h1 h2 h3 hl
  go_enter Tryd.func37, Tryd.ntmps37
  go_upto_region 1 with fail
  change Code.wp _ _ _ _ (w.alloc (.cells (lfB false ⟨#[]⟩ ⟨#[]⟩ 0 0) 46))
  generalize w.alloc (.cells (lfB false ⟨#[]⟩ ⟨#[]⟩ 0 0) 46) = W0 at *
  go_wp2_with (first
    | (go_at_call 38; refine (c0 _ D0.inS).mono ?_; rintro e w1 ⟨rfl, t1, k1⟩; have D1 := D0.read t1 k1)
    | (go_at_call 28; (with_reducible refine (c1 _ D1.inS).mono ?_); rintro e w2 ⟨rfl, t2, k2⟩; have D2 := D1.read t2 k2)
    | (go_at_call 28; (with_reducible refine (c2 _ D2.inS).mono ?_); rintro e w3 ⟨rfl, t3, k3⟩; have D3 := D2.read t3 k3)
    | (go_at_call 29; refine (c3 _ D3.inS).mono ?_; rintro e w4 ⟨rfl, t4, k4⟩; have D4 := D3.read t4 k4; obtain ⟨⟨y0, y1, y2, y3, y4⟩, ⟨e0, e1, e2, e3, e4⟩, hin2⟩ := (D4.box 0).five0)
    | fail)
  have D5 := ((((D4.wrote (by decide) (fun x hx => by simp at hx) 0 (.bool F)).wrote (by decide) (fun x hx => by simp at hx) 1 (.string I)).wrote (by decide) (fun x hx => by simp at hx) 2 (.string S)).wrote (by decide) (fun x hx => by simp at hx) 3 (.int .u64 H)).wrote (by decide) (fun x hx => by simp at hx) 4 (.int .u64 L)
  change Rp w g s4 [(w.heap.size, 46, lfB F I S H L)] _ at D5
  generalize World.setCell (World.setCell (World.setCell (World.setCell (World.setCell w4 _ _) _ _) _ _) _ _) _ _ = W5 at *
  obtain ⟨⟨v0, v1, v2, v3, v4⟩, -, -⟩ := (D5.box 0).five0
  exact bodyPost_ret (v := .agg (lfB F I S H L)) (by simp [results, Tryd.results37, go_sem, v0, v1, v2, v3, v4]) rfl ⟨rfl, D5.inS, D5.off⟩
set_option maxHeartbeats 4000000 in
theorem getR_any (w : World) (g : Nat) (st : StR) (h : InS w g st) : Calls Tryd.prog 27 #[.pointer (some ⟨g, 0, none⟩)] w fun e w' =>
    e = .returned (rtP st).1.val ∧ InS w' g (rtP st).2 ∧ Off (One g) w w' := by
  have D0 := (Rp.start h).add 32 (rtB ⟨#[]⟩ 0 0 0)
  obtain ⟨s1, h1⟩ : ∃ s1, nxt (opT 32 st) = s1 := ⟨_, rfl⟩
  obtain ⟨s2, h2⟩ : ∃ s2, nxt (opN 16 s1) = s2 := ⟨_, rfl⟩
  have hl : rtP st = (⟨tV (opT 32 st), hV (opN 16 s1), lV (opN 16 s1), min (lV (opN 8 s2)) 64⟩, nxt (opN 8 s2)) := by
    unfold rtP ndG numG textG wideG
    simp only [h1, h2]
  rw [hl]
  show Calls _ _ _ _ fun e w' => e = .returned (.agg (rtB (tV (opT 32 st)) (hV (opN 16 s1)) (lV (opN 16 s1)) (min (lV (opN 8 s2)) 64))) ∧ InS w' g (nxt (opN 8 s2)) ∧ Off (One g) w w'
  have c1 : ∀ u, InS u g st → Calls Tryd.prog 28 #[.pointer (some ⟨g, 0, none⟩), .int .i64 32] u _ := fun u hu => in_text 32 (by decide) u g st hu
  have c2 := fun u hu => in_wide u g s1 hu
  have c3 := fun u hu => in_num u g s2 hu
  rw [h1] at c1
  rw [h2] at c2
  have hw := lV_word 8 s2
  generalize tV (opT 32 st) = T at *
  generalize hV (opN 16 s1) = H at *
  generalize lV (opN 16 s1) = L at *
  generalize lV (opN 8 s2) = n at *
  generalize nxt (opN 8 s2) = s3 at *
  obtain ⟨m, hm⟩ : ∃ m, min n 64 = m := ⟨_, rfl⟩
  have hwr : IntKind.i64.wrap m = m := by rw [IntKind.wrap_i64]; have := hw.1; omega
  rw [hm]
  clear h1 h2 hl
  go_enter Tryd.func27, Tryd.ntmps27
  go_upto_region 1 with fail
  change Code.wp _ _ _ _ (w.alloc (.cells (rtB ⟨#[]⟩ 0 0 0) 32))
  generalize w.alloc (.cells (rtB ⟨#[]⟩ 0 0 0) 32) = W0 at *
  go_upto_region 2 with (first
    | (go_at_call 28; refine (c1 _ D0.inS).mono ?_; rintro e w1 ⟨rfl, t1, k1⟩; have D1 := D0.read t1 k1)
    | (go_at_call 29; refine (c2 _ D1.inS).mono ?_; rintro e w2 ⟨rfl, t2, k2⟩; have D2 := D1.read t2 k2)
    | fail)
  have D3 := D2.add 32 (rtB T H L 0)
  change Code.wp _ _ _ _ (w2.alloc (.cells (rtB T H L 0) 32))
  have hlt : w.heap.size < w2.heap.size := (D2.box 0).inside
  obtain ⟨b, hb⟩ : ∃ b, w2.heap.size = b := ⟨_, rfl⟩
  rw [hb] at D3 hlt ⊢
  generalize w2.alloc (.cells (rtB T H L 0) 32) = W3 at *
  clear D0 D1 D2 t1 k1 t2 k2 hb c1 c2
  have hne : ∀ x ∈ [((w.heap.size, 32, rtB ⟨#[]⟩ 0 0 0) : Blk)], x.1 ≠ b := fun x hx => by simp at hx; subst hx; exact Nat.ne_of_lt hlt
  have hne2 : ∀ {cs : Array Value}, ∀ x ∈ [((b, 32, cs) : Blk)], x.1 ≠ w.heap.size := fun x hx => by simp at hx; subst hx; exact (Nat.ne_of_lt hlt).symm
  go_upto_region 3 with (first
    | (go_at_call 30; refine (c3 _ D3.inS).mono ?_; rintro e w4 ⟨rfl, t4, k4⟩; have D4 := D3.read t4 k4; obtain ⟨⟨y0, y1, y2, y3⟩, ⟨e0, e1, e2, e3⟩, hin2⟩ := (D4.box 0).four)
    | fail)
  have D5 := D4.wrote (by decide) hne 3 (.int .i64 m)
  change Rp w g s3 [(b, 32, rtB T H L m), (w.heap.size, 32, rtB ⟨#[]⟩ 0 0 0)] _ at D5
  generalize World.setCell w4 _ _ = W5 at *
  clear D3 D4 t4 k4 c3 y0 y1 y2 y3 e0 e1 e2 e3 hin2
  obtain ⟨⟨y0, y1, y2, y3⟩, -, hin2⟩ := (D5.box 0).four
  obtain ⟨⟨x0, x1, x2, x3⟩, ⟨e0, e1, e2, e3⟩, hin3⟩ := (D5.box 1).four
  go_wp2
  have D8 := (((D5.swap.wrote (by decide) hne2 0 (.string T)).wrote (by decide) hne2 1 (.int .u64 H)).wrote (by decide) hne2 2 (.int .u64 L)).wrote (by decide) hne2 3 (.int .i64 m)
  change Rp w g s3 [(w.heap.size, 32, rtB T H L m), (b, 32, rtB T H L m)] _ at D8
  generalize World.setCell (World.setCell (World.setCell (World.setCell W5 _ _) _ _) _ _) _ _ = W8 at *
  obtain ⟨⟨v0, v1, v2, v3⟩, -, -⟩ := (D8.box 0).four
  exact bodyPost_ret (v := .agg (rtB T H L m)) (by simp [results, Tryd.results27, go_sem, v0, v1, v2, v3]) rfl ⟨rfl, D8.inS, D8.off⟩
end Go.Proofs.YtmflhodiibjpnaaDoor
