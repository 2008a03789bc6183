/- Several of my texts, laid as one. -/
import Derived.Test.YtmflhodiibjpnaaGreatDoorM13Fn
import Derived.Test.YtmflhodiibjpnaaGreatDoorW7Leaf
import Derived.Test.YtmflhodiibjpnaaGreatDoorM13Dec
import Derived.Test.YtmflhodiibjpnaaGreatDoorM13Wr
/-
  pack, walked: how nodes, leaves, roots, rows of nodes are read.
-/
namespace Go.Proofs.YtmflhodiibjpnaaGreatDoor
set_option linter.unusedVariables false
set_option linter.unusedSimpArgs false
set_option maxRecDepth 10000
open Go.RowKit

/-- A row that lies behind a height. -/
def FRow {α : Type} (S : Sh α) (W : World) (b : Nat) (A : Option Addr) (l : List α) : Prop := S.Row W W.heap.size A l ∧ ∀ ad, A = some ad → b ≤ ad.block
section
variable {α : Type} {S : Sh α} {W W' : World} {b x : Nat} {A : Option Addr} {l : List α}
theorem FRow.call (h : FRow S W b A l) (k : Below W.heap.size W W') : FRow S W' b A l := ⟨h.1.on k, h.2⟩
theorem FRow.off (h : FRow S W b A l) (k : Off (One x) W W') (hx : x < b) : FRow S W' b A l :=
  ⟨(h.1.off k (Nat.le_refl _) (fun ad e _ => by have := h.2 ad e; omega)).more k.size, h.2⟩
theorem FRow.less {b' : Nat} (h : FRow S W b A l) (hb : b' ≤ b) : FRow S W b' A l := ⟨h.1, fun ad e => Nat.le_trans hb (h.2 ad e)⟩
theorem FRow.nil (W : World) (b : Nat) : FRow S W b none [] := ⟨Sh.Row.nil S _ _ _, fun ad e => nomatch e⟩
theorem FRow.own {T : TypeId} {v : Value} (h : W.ownsRow b T S.k v l.length (S.flat l)) : ∃ A c, v = .slice A l.length c ∧ (A = none → c = 0) ∧ FRow S W b A l := by
  obtain ⟨A, c, hv, h0, hR⟩ := Sh.own_row h
  refine ⟨A, c, hv, h0, hR, fun ad e => ?_⟩
  rcases h.2 with ⟨h1, h2⟩ | ⟨g, cap, cur, hv2, hg, -⟩
  · rw [hv] at h1
    injection h1 with h1
    rw [h1] at e
    cases e
  · rw [hv] at hv2
    injection hv2 with h1
    rw [h1] at e
    injection e with e
    subst e
    exact hg
end
/-- An In, where a row of the call's own has grown. -/
theorem InS.grown {w W' : World} {g base n k : Nat} {st : StR} {T : TypeId} {v : Value} {xs : List Value} {o : Obj} (h : InS w g st) (O : w.ownsRow base T k v n xs) (ht : 5 ≠ T) (hg : g < base) (q : (w.alloc o).grownBy W' v.ownBlock) : InS W' g st :=
  h.keep fun j hj hx => (q.block j (by simp; omega) (fun e => by
    rcases O.2 with ⟨h1, h2⟩ | ⟨r, cap, cur, hv, hr, hh, -⟩
    · rw [h1] at e; cases e
    · rw [hv] at e
      have e2 : r = j := by
        have : some j = some r := e
        injection this with this
        exact this.symm
      subst e2
      rcases hx with hx | ⟨cs, fr, hx⟩
      · omega
      · rw [hh] at hx
        injection hx with hx
        injection hx with a1 a2 a3
        exact ht a2.symm)).trans (Below.heap_alloc w o j hj)
set_option maxHeartbeats 2000000 in
theorem getN_any (w : World) (g : Nat) (st : StR) (h : InS w g st) : Calls Tryz.prog 152 #[.pointer (some ⟨g, 0, none⟩)] w fun e w' =>
    e = .returned (ndG st).1.val ∧ InS w' g (ndG st).2 ∧ Off (One g) w w' := by
  have D0 := (Rp.start h).add 143 (ndB ⟨#[]⟩ 0 0)
  show Calls _ _ _ _ fun e w' => e = .returned (.agg (ndB (tV (opT 32 st)) (hV (opN 16 (nxt (opT 32 st)))) (lV (opN 16 (nxt (opT 32 st)))))) ∧ InS w' g (nxt (opN 16 (nxt (opT 32 st)))) ∧ Off (One g) w w'
  have c1 : ∀ u, InS u g st → Calls Tryz.prog 91 #[.pointer (some ⟨g, 0, none⟩), .int .i64 32] u _ := fun u hu => in_text 32 (by decide) u g st hu
  have c2 := fun u hu => in_wide u g (nxt (opT 32 st)) hu
  generalize tV (opT 32 st) = T at *
  generalize nxt (opT 32 st) = s1 at *
  generalize hV (opN 16 s1) = H at *
  generalize lV (opN 16 s1) = L at *
  generalize nxt (opN 16 s1) = s2 at *
  go_enter Tryz.func152, Tryz.ntmps152
  go_upto_region 1 with fail
  change Code.wp _ _ _ _ (w.alloc (.cells (ndB ⟨#[]⟩ 0 0) 143))
  generalize w.alloc (.cells (ndB ⟨#[]⟩ 0 0) 143) = W0 at *
  go_wp2_with (first
    | (go_at_call 91; refine (c1 _ D0.inS).mono ?_; rintro e w1 ⟨rfl, t1, k1⟩; have D1 := D0.read t1 k1)
    | (go_at_call 92; refine (c2 _ D1.inS).mono ?_; rintro e w2 ⟨rfl, t2, k2⟩; have D2 := D1.read t2 k2; obtain ⟨y0, y1, y2, e0, e1, e2, hin2⟩ := (D2.box 0).three)
    | fail)
  have D3 := ((D2.wrote (by decide) (fun x hx => by simp at hx) 0 (.string T)).wrote (by decide) (fun x hx => by simp at hx) 1 (.int .u64 H)).wrote (by decide) (fun x hx => by simp at hx) 2 (.int .u64 L)
  change Rp w g s2 [(w.heap.size, 143, ndB T H L)] _ at D3
  generalize World.setCell (World.setCell (World.setCell w2 _ _) _ _) _ _ = W3 at *
  obtain ⟨v0, v1, v2, -, -, -, -⟩ := (D3.box 0).three
  exact bodyPost_ret (v := .agg (ndB T H L)) (by simp [results, Tryz.results152, go_sem, v0, v1, v2]) rfl ⟨rfl, D3.inS, D3.off⟩
set_option maxHeartbeats 4000000 in
theorem getL_any (w : World) (g : Nat) (st : StR) (h : InS w g st) : Calls Tryz.prog 99 #[.pointer (some ⟨g, 0, none⟩)] w fun e w' =>
    e = .returned (lfP st).1.val ∧ InS w' g (lfP st).2 ∧ Off (One g) w w' := by
  have D0 := (Rp.start h).add 28 (lfB false ⟨#[]⟩ ⟨#[]⟩ 0 0)
  obtain ⟨s1, h1⟩ : ∃ s1, nxt (opF st) = s1 := ⟨_, rfl⟩
  obtain ⟨s2, h2⟩ : ∃ s2, nxt (opT 96 s1) = s2 := ⟨_, rfl⟩
  obtain ⟨s3, h3⟩ : ∃ s3, nxt (opT 32 s2) = s3 := ⟨_, rfl⟩
  have hl : lfP st = (⟨fV (opF st), tV (opT 96 s1), tV (opT 32 s2), hV (opN 16 s3), lV (opN 16 s3)⟩, nxt (opN 16 s3)) := by
    unfold lfP flagG textG wideG
    simp only [h1, h2, h3]
  rw [hl]
  show Calls _ _ _ _ fun e w' => e = .returned (.agg (lfB (fV (opF st)) (tV (opT 96 s1)) (tV (opT 32 s2)) (hV (opN 16 s3)) (lV (opN 16 s3)))) ∧ InS w' g (nxt (opN 16 s3)) ∧ Off (One g) w w'
  have c0 := fun u hu => in_flag u g st hu
  have c1 : ∀ u, InS u g s1 → Calls Tryz.prog 91 #[.pointer (some ⟨g, 0, none⟩), .int .i64 96] u _ := fun u hu => in_text 96 (by decide) u g s1 hu
  have c2 : ∀ u, InS u g s2 → Calls Tryz.prog 91 #[.pointer (some ⟨g, 0, none⟩), .int .i64 32] u _ := fun u hu => in_text 32 (by decide) u g s2 hu
  rw [h2] at c1
  rw [h3] at c2
  rw [h1] at c0
  have c3 := fun u hu => in_wide u g s3 hu
  generalize fV (opF st) = F at *
  generalize tV (opT 96 s1) = I at *
  generalize tV (opT 32 s2) = S at *
  generalize hV (opN 16 s3) = H at *
  generalize lV (opN 16 s3) = L at *
  generalize nxt (opN 16 s3) = s4 at *
  clear h1 h2 h3 hl
  go_enter Tryz.func99, Tryz.ntmps99
  go_upto_region 1 with fail
  change Code.wp _ _ _ _ (w.alloc (.cells (lfB false ⟨#[]⟩ ⟨#[]⟩ 0 0) 28))
  generalize w.alloc (.cells (lfB false ⟨#[]⟩ ⟨#[]⟩ 0 0) 28) = W0 at *
  go_wp2_with (first
    | (go_at_call 100; refine (c0 _ D0.inS).mono ?_; rintro e w1 ⟨rfl, t1, k1⟩; have D1 := D0.read t1 k1)
    | (go_at_call 91; (with_reducible refine (c1 _ D1.inS).mono ?_); rintro e w2 ⟨rfl, t2, k2⟩; have D2 := D1.read t2 k2)
    | (go_at_call 91; (with_reducible refine (c2 _ D2.inS).mono ?_); rintro e w3 ⟨rfl, t3, k3⟩; have D3 := D2.read t3 k3)
    | (go_at_call 92; refine (c3 _ D3.inS).mono ?_; rintro e w4 ⟨rfl, t4, k4⟩; have D4 := D3.read t4 k4; obtain ⟨⟨y0, y1, y2, y3, y4⟩, ⟨e0, e1, e2, e3, e4⟩, hin2⟩ := (D4.box 0).five0)
    | fail)
  have D5 := ((((D4.wrote (by decide) (fun x hx => by simp at hx) 0 (.bool F)).wrote (by decide) (fun x hx => by simp at hx) 1 (.string I)).wrote (by decide) (fun x hx => by simp at hx) 2 (.string S)).wrote (by decide) (fun x hx => by simp at hx) 3 (.int .u64 H)).wrote (by decide) (fun x hx => by simp at hx) 4 (.int .u64 L)
  change Rp w g s4 [(w.heap.size, 28, lfB F I S H L)] _ at D5
  generalize World.setCell (World.setCell (World.setCell (World.setCell (World.setCell w4 _ _) _ _) _ _) _ _) _ _ = W5 at *
  obtain ⟨⟨v0, v1, v2, v3, v4⟩, -, -⟩ := (D5.box 0).five0
  exact bodyPost_ret (v := .agg (lfB F I S H L)) (by simp [results, Tryz.results99, go_sem, v0, v1, v2, v3, v4]) rfl ⟨rfl, D5.inS, D5.off⟩
set_option maxHeartbeats 4000000 in
theorem getR_any (w : World) (g : Nat) (st : StR) (h : InS w g st) : Calls Tryz.prog 90 #[.pointer (some ⟨g, 0, none⟩)] w fun e w' =>
    e = .returned (rtP st).1.val ∧ InS w' g (rtP st).2 ∧ Off (One g) w w' := by
  have D0 := (Rp.start h).add 26 (rtB ⟨#[]⟩ 0 0 0)
  obtain ⟨s1, h1⟩ : ∃ s1, nxt (opT 32 st) = s1 := ⟨_, rfl⟩
  obtain ⟨s2, h2⟩ : ∃ s2, nxt (opN 16 s1) = s2 := ⟨_, rfl⟩
  have hl : rtP st = (⟨tV (opT 32 st), hV (opN 16 s1), lV (opN 16 s1), min (lV (opN 8 s2)) 64⟩, nxt (opN 8 s2)) := by
    unfold rtP ndG numG textG wideG
    simp only [h1, h2]
  rw [hl]
  show Calls _ _ _ _ fun e w' => e = .returned (.agg (rtB (tV (opT 32 st)) (hV (opN 16 s1)) (lV (opN 16 s1)) (min (lV (opN 8 s2)) 64))) ∧ InS w' g (nxt (opN 8 s2)) ∧ Off (One g) w w'
  have c1 : ∀ u, InS u g st → Calls Tryz.prog 91 #[.pointer (some ⟨g, 0, none⟩), .int .i64 32] u _ := fun u hu => in_text 32 (by decide) u g st hu
  have c2 := fun u hu => in_wide u g s1 hu
  have c3 := fun u hu => in_num u g s2 hu
  rw [h1] at c1
  rw [h2] at c2
  have hw := lV_word 8 s2
  generalize tV (opT 32 st) = T at *
  generalize hV (opN 16 s1) = H at *
  generalize lV (opN 16 s1) = L at *
  generalize lV (opN 8 s2) = n at *
  generalize nxt (opN 8 s2) = s3 at *
  obtain ⟨m, hm⟩ : ∃ m, min n 64 = m := ⟨_, rfl⟩
  have hwr : IntKind.i64.wrap m = m := by rw [IntKind.wrap_i64]; have := hw.1; omega
  rw [hm]
  clear h1 h2 hl
  go_enter Tryz.func90, Tryz.ntmps90
  go_upto_region 1 with fail
  change Code.wp _ _ _ _ (w.alloc (.cells (rtB ⟨#[]⟩ 0 0 0) 26))
  generalize w.alloc (.cells (rtB ⟨#[]⟩ 0 0 0) 26) = W0 at *
  go_upto_region 2 with (first
    | (go_at_call 91; refine (c1 _ D0.inS).mono ?_; rintro e w1 ⟨rfl, t1, k1⟩; have D1 := D0.read t1 k1)
    | (go_at_call 92; refine (c2 _ D1.inS).mono ?_; rintro e w2 ⟨rfl, t2, k2⟩; have D2 := D1.read t2 k2)
    | fail)
  have D3 := D2.add 26 (rtB T H L 0)
  change Code.wp _ _ _ _ (w2.alloc (.cells (rtB T H L 0) 26))
  have hlt : w.heap.size < w2.heap.size := (D2.box 0).inside
  obtain ⟨b, hb⟩ : ∃ b, w2.heap.size = b := ⟨_, rfl⟩
  rw [hb] at D3 hlt ⊢
  generalize w2.alloc (.cells (rtB T H L 0) 26) = W3 at *
  clear D0 D1 D2 t1 k1 t2 k2 hb c1 c2
  have hne : ∀ x ∈ [((w.heap.size, 26, rtB ⟨#[]⟩ 0 0 0) : Blk)], x.1 ≠ b := fun x hx => by simp at hx; subst hx; exact Nat.ne_of_lt hlt
  have hne2 : ∀ {cs : Array Value}, ∀ x ∈ [((b, 26, cs) : Blk)], x.1 ≠ w.heap.size := fun x hx => by simp at hx; subst hx; exact (Nat.ne_of_lt hlt).symm
  go_upto_region 3 with (first
    | (go_at_call 93; refine (c3 _ D3.inS).mono ?_; rintro e w4 ⟨rfl, t4, k4⟩; have D4 := D3.read t4 k4; obtain ⟨⟨y0, y1, y2, y3⟩, ⟨e0, e1, e2, e3⟩, hin2⟩ := (D4.box 0).four)
    | fail)
  have D5 := D4.wrote (by decide) hne 3 (.int .i64 m)
  change Rp w g s3 [(b, 26, rtB T H L m), (w.heap.size, 26, rtB ⟨#[]⟩ 0 0 0)] _ at D5
  generalize World.setCell w4 _ _ = W5 at *
  clear D3 D4 t4 k4 c3 y0 y1 y2 y3 e0 e1 e2 e3 hin2
  obtain ⟨⟨y0, y1, y2, y3⟩, -, hin2⟩ := (D5.box 0).four
  obtain ⟨⟨x0, x1, x2, x3⟩, ⟨e0, e1, e2, e3⟩, hin3⟩ := (D5.box 1).four
  go_wp2
  have D8 := (((D5.swap.wrote (by decide) hne2 0 (.string T)).wrote (by decide) hne2 1 (.int .u64 H)).wrote (by decide) hne2 2 (.int .u64 L)).wrote (by decide) hne2 3 (.int .i64 m)
  change Rp w g s3 [(w.heap.size, 26, rtB T H L m), (b, 26, rtB T H L m)] _ at D8
  generalize World.setCell (World.setCell (World.setCell (World.setCell W5 _ _) _ _) _ _) _ _ = W8 at *
  obtain ⟨⟨v0, v1, v2, v3⟩, -, -⟩ := (D8.box 0).four
  exact bodyPost_ret (v := .agg (rtB T H L m)) (by simp [results, Tryz.results90, go_sem, v0, v1, v2, v3]) rfl ⟨rfl, D8.inS, D8.off⟩
set_option maxHeartbeats 4000000 in
theorem getNs_any (w : World) (g k : Nat) (st : StR) (h : InS w g st) (hK : IsNd w k) : Calls Tryz.prog 149 #[.pointer (some ⟨g, 0, none⟩), .pointer (some ⟨k, 0, none⟩)] w fun e w' =>
    ∃ A c, e = .returned (.slice A (rowG ndG st).1.length c) ∧ (A = none → c = 0) ∧ FRow ndS w' w.heap.size A (rowG ndG st).1 ∧ InS w' g (rowG ndG st).2 ∧ Off (One g) w w' := by
  have hP := h.port
  have cN := in_num w g st h
  unfold rowG
  have hg := h.inside
  obtain ⟨hn0, -⟩ := lV_word 8 st
  obtain ⟨n, hn⟩ := Int.eq_ofNat_of_zero_le hn0
  obtain ⟨s1, h1⟩ : ∃ s1, nxt (opN 8 st) = s1 := ⟨_, rfl⟩
  rw [hn, h1] at cN ⊢
  rw [Int.toNat_natCast]
  clear hn hn0 h1
  have cT := fun u st2 (hu : InS u g st2) => in_spoilt u g st2 hu
  by_cases hm : 2048 < n
  · have hmi : (2048 : Int) < (n : Int) := by omega
    rw [if_pos hmi, repG_none]
    have cS := fun u (hu : InS u g s1) => in_spoil u g _ hu
    go_enter Tryz.func149, Tryz.ntmps149
    go_upto_region 5 with (first
      | (go_at_call 93; refine cN.mono ?_; rintro e w1 ⟨rfl, t1, k1⟩)
      | (go_at_call 121; refine (cS _ t1).mono ?_; rintro e w2 ⟨rfl, t2, k2⟩)
      | fail)
    have k12 := k1.trans k2
    clear cN cS t1 k1 k2
    go_loopg [4, 5] 0 (fun gk i v wr => v = .slice none 0 0 ∧ i = .int .u64 n ∧ wr = w2)
    case atStart => exact ⟨rfl, rfl, rfl⟩
    case round =>
      obtain ⟨rfl, rfl, rfl⟩ := hrel
      have hmi2 : (0 : Int) < (n : Int) := by omega
      go_wp2_with (first
        | (go_at_call 33; refine (cT _ _ t2).mono ?_; rintro e w' ⟨rfl, rfl⟩)
        | fail)
      go_ret
      exact ⟨none, 0, rfl, fun _ => rfl, FRow.nil _ _, t2, k12⟩
  · have hmi : ¬ ((2048 : Int) < (n : Int)) := by omega
    rw [if_neg hmi]
    have HR : Hid (repG ndG n s1 = ([] ++ (repG ndG n s1).1, (repG ndG n s1).2)) := by
      show repG ndG n s1 = _
      rw [List.nil_append]
    obtain ⟨V, hV⟩ : ∃ V, repG ndG n s1 = V := ⟨_, rfl⟩
    rw [hV]
    have HV := hideIt hV
    clear hV
    go_enter Tryz.func149, Tryz.ntmps149
    go_upto_region 5 with (first
      | (go_at_call 93; refine cN.mono ?_; rintro e w1 ⟨rfl, t1, k1⟩)
      | fail)
    clear cN
    go_loopg [4, 5] n (fun gk i v wr => ∃ (m : Nat) (L : List Nd) (s2 : StR), m ≤ gk ∧ m ≤ 2048 ∧ L.length + m = n ∧ i = .int .u64 m ∧ wr.ownsRow w.heap.size 143 3 v L.length (ndS.flat L) ∧ InS wr g s2 ∧ Off (One g) w wr ∧ Hid (repG ndG n s1 = (L ++ (repG ndG m s2).1, (repG ndG m s2).2)))
    case atStart => exact ⟨n, [], s1, Nat.le_refl _, by omega, by simp, rfl, World.ownsRow_nil _ _ _ _, t1, k1, HR⟩
    case round =>
      obtain ⟨m, L, s2, hgk, hm2, hLn, rfl, O, t2, k2, HQ⟩ := hrel
      have HG := hideIt hgk
      have HLn := hideIt hLn
      clear hgk t1 k1 HR
      rcases Nat.eq_zero_or_pos m with hm0 | hm0
      · subst hm0
        have e := HQ.out
        rw [HV.out, repG, List.append_nil] at e
        subst e
        obtain ⟨A, c, rfl, hc, F⟩ := FRow.own (S := ndS) O
        have h0 : ¬ (((0 : Nat) : Int) > 0) := by omega
        go_wp2
        go_ret
        exact ⟨A, c, rfl, hc, F, t2, k2⟩
      · have hmi2 : (0 : Int) < (m : Int) := by omega
        cases s2 with
        | none =>
          have e := HQ.out
          rw [repG_none, HV.out, List.append_nil] at e
          subst e
          obtain ⟨A, c, rfl, hc, F⟩ := FRow.own (S := ndS) O
          go_wp2_with (first
            | (go_at_call 33; refine (cT _ _ t2).mono ?_; rintro e w' ⟨rfl, rfl⟩)
            | fail)
          go_ret
          exact ⟨A, c, rfl, hc, F, t2, k2⟩
        | some y =>
          have cD := fun u hu => getN_any u g (some y) hu
          obtain ⟨q, hq⟩ : ∃ q, m = q + 1 := ⟨m - 1, by omega⟩
          have hw1 : IntKind.u64.wrap ((m : Int) - 1) = (q : Int) := by rw [IntKind.wrap_u64]; omega
          have hq2 := hideIt hq
          have e := HQ.out
          rw [hq, repG] at e
          obtain ⟨⟨⟨xs, xh, xl⟩, s3⟩, hd⟩ : ∃ V, ndG (some y) = V := ⟨_, rfl⟩
          rw [hd] at cD e
          simp only [Nd.val] at cD e
          have e2 : repG ndG n s1 = ((L ++ [⟨xs, xh, xl⟩]) ++ (repG ndG q s3).1, (repG ndG q s3).2) := by
            rw [e]
            simp
          have HE := hideIt e2
          clear e e2 hd HQ hq hLn
          obtain ⟨⟨f0, f1, f2, f3⟩, -, hin3⟩ := Box.four (hK.off hP k2)
          go_wp2_with (first
            | (go_at_call 33; refine (cT _ _ t2).mono ?_; rintro e w' ⟨rfl, rfl⟩)
            | (go_at_call 152; refine (cD _ t2).mono ?_; rintro e w3 ⟨rfl, t3, k3⟩
               have O2 := own_off O k3 hg
               have hws := Nat.le_trans k2.size k3.size
               obtain ⟨v', W', hr2, O3, q3, L3⟩ := ndE.app1 w3 w.heap.size _ _ _ O2 ⟨xs, xh, xl⟩ _ rfl (by have := HLn.out; omega) hws)
            | (at_builtin; refine gen_run rfl _ _ _ rfl _ _ rfl rfl v' W' hr2 ?_)
            | fail)
          go_roundg q
          case measure => have := HG.out; have := hq2.out; omega
          case rel => exact ⟨q, L ++ [⟨xs, xh, xl⟩], s3, Nat.le_refl _, by have := hq2.out; omega, by rw [List.length_append]; have := hq2.out; have := HLn.out; simp only [List.length_cons, List.length_nil]; omega, by first | rfl | go_num, by rw [List.length_append]; exact O3, t3.grown O2 (by decide) hg q3, (k2.trans k3).low L3, HE⟩
end Go.Proofs.YtmflhodiibjpnaaGreatDoor
/-
  pack, walked: how proofs, entries are read.
-/
namespace Go.Proofs.YtmflhodiibjpnaaGreatDoor
set_option linter.unusedVariables false
set_option linter.unusedSimpArgs false
set_option maxRecDepth 10000
open Go.RowKit

def atR (u : World) (p : Addr) : Value := (u.cell? p).getD (.bool false)
/-- Only g and r have turned since; r has its cells. -/
def Gt (V : World) (g r : Nat) (T : TypeId) (n : Nat) (u : World) : Prop := Off (fun i => i = g ∨ i = r) V u ∧ ∃ cs : Array Value, cs.size = n ∧ Box u r T cs
section
variable {V U U' : World} {g r n : Nat} {T : TypeId} {C : World → Prop}
theorem Gt.start {cs : Array Value} (h : Box V r T cs) (hn : cs.size = n) : Gt V g r T n V := ⟨Off.refl _ _, cs, hn, h⟩
theorem Gt.drew (h : Gt V g r T n U) : Gt V g r T n U.drew := ⟨h.1.drew, h.2.imp fun cs k => ⟨k.1, k.2⟩⟩
theorem Gt.call (h : Gt V g r T n U) (hne : r ≠ g) (k : Off (One g) U U') : Gt V g r T n U' :=
  ⟨h.1.trans (k.mono fun i hi => Or.inl hi), h.2.imp fun cs q => ⟨q.1, k.box q.2 (fun e => hne e)⟩⟩
theorem Gt.set (h : Gt V g r T n U) (i : Nat) (v : Value) : Gt V g r T n (U.setCell ⟨r, i, none⟩ v) := by
  obtain ⟨h1, cs, h2, h3⟩ := h
  exact ⟨h1.set_ (p := ⟨r, i, none⟩) (Or.inl (Or.inr rfl)) v, _, by rw [Array.size_setIfInBounds]; exact h2, h3.wrote i v⟩
theorem Gt.at_ (h : Gt V g r T n U) (i : Nat) (hi : i < n) : U.frozen? ⟨r, i, none⟩ = false ∧ U.cell? ⟨r, i, none⟩ = some (atR U ⟨r, i, none⟩) := by
  obtain ⟨-, cs, h2, h3⟩ := h
  refine ⟨h3.free i, ?_⟩
  have : U.cell? ⟨r, i, none⟩ = cs[i]? := h3.read i
  unfold atR
  rw [this, Array.getElem?_eq_getElem (by omega)]
  rfl
theorem Gt.inside (h : Gt V g r T n U) : r < U.heap.size := by
  obtain ⟨-, cs, h2, h3⟩ := h
  exact h3.inside
theorem gt_held (fact : ∀ u, Gt V g r T n u → C u) (h : Gt V g r T n U) : Gt V g r T n U ∧ C U := ⟨h, fact _ h⟩
theorem gt_of {C : Prop} (h : Gt V g r T n U ∧ C) : Gt V g r T n U := h.1
theorem Gt.box {b : Nat} {t : TypeId} {cs : Array Value} (h : Gt V g r T n U) (hb : Box V b t cs) (h1 : b ≠ g) (h2 : b ≠ r) : Box U b t cs := h.1.box hb (fun e => by rcases e with e | e; exact h1 e; exact h2 e)
end
set_option maxHeartbeats 4000000 in
theorem getP_any (w : World) (g s k : Nat) (st : StR) (h : InS w g st) (hK : IsNr w s k) : Calls Tryz.prog 146 #[.pointer (some ⟨g, 0, none⟩), .pointer (some ⟨s, 0, none⟩)] w fun e w' =>
    ∃ A c, e = .returned (.agg #[.int .u64 (numG st).1, .slice A (rowG ndG (numG st).2).1.length c]) ∧ (A = none → c = 0) ∧ FRow ndS w' w.heap.size A (rowG ndG (numG st).2).1 ∧ InS w' g (rowG ndG (numG st).2).2 ∧ Off (One g) w w' := by
  have hP := h.port
  have hg := h.inside
  have hs := hK.1.inside
  have hsg := hP.ne hK.1 (by decide) (by decide)
  have hk := Box.inside hK.2
  have hkg := hP.ne hK.2 (by decide) (by decide)
  have D0 := (Rp.start h).add 31 #[.int .u64 0, .slice none 0 0]
  unfold numG
  simp only
  have c1 := fun u hu => in_num u g st hu
  have c2 := fun u hu hv => getNs_any u g k (nxt (opN 8 st)) hu hv
  generalize lV (opN 8 st) = n at *
  generalize nxt (opN 8 st) = s1 at *
  generalize rowG ndG s1 = R at *
  obtain ⟨L, s2⟩ := R
  simp only at c2 ⊢
  go_enter Tryz.func146, Tryz.ntmps146
  go_upto_region 1 with fail
  change Code.wp _ _ _ _ (w.alloc (.cells #[.int .u64 0, .slice none 0 0] 31))
  have hK0 := hK.call (chainA (Below.refl w.heap.size w) (.cells #[.int .u64 0, .slice none 0 0] 31))
  have hr : w.heap.size ≠ g := by omega
  generalize w.alloc (.cells #[.int .u64 0, .slice none 0 0] 31) = V0 at *
  have G0 : Gt V0 g w.heap.size 31 2 V0 := Gt.start (D0.box 0) rfl
  have fact : ∀ u, Gt V0 g w.heap.size 31 2 u → (u.cell? ⟨s, 2, none⟩ = some (fn1 149 k) ∧ u.frozen? ⟨w.heap.size, 0, none⟩ = false ∧ u.frozen? ⟨w.heap.size, 1, none⟩ = false ∧ u.cell? ⟨w.heap.size, 0, none⟩ = some (atR u ⟨w.heap.size, 0, none⟩) ∧ u.cell? ⟨w.heap.size, 1, none⟩ = some (atR u ⟨w.heap.size, 1, none⟩) ∧ w.heap.size < u.heap.size) := fun u hu =>
    ⟨(hu.box hK0.1 hsg (by omega)).read 2, (hu.at_ 0 (by decide)).1, (hu.at_ 1 (by decide)).1, (hu.at_ 0 (by decide)).2, (hu.at_ 1 (by decide)).2, hu.inside⟩
  have K2 : ∀ u, Gt V0 g w.heap.size 31 2 u → IsNd u k := fun u hu => hu.box hK0.2 hkg (by omega)
  have F0 := fact _ G0.drew
  have I0 : InS V0.drew g st := D0.drew.inS
  go_region_held3 (fun u => Gt V0 g w.heap.size 31 2 u ∧ (u.cell? ⟨s, 2, none⟩ = some (fn1 149 k) ∧ u.frozen? ⟨w.heap.size, 0, none⟩ = false ∧ u.frozen? ⟨w.heap.size, 1, none⟩ = false ∧ u.cell? ⟨w.heap.size, 0, none⟩ = some (atR u ⟨w.heap.size, 0, none⟩) ∧ u.cell? ⟨w.heap.size, 1, none⟩ = some (atR u ⟨w.heap.size, 1, none⟩) ∧ w.heap.size < u.heap.size))
    (first
      | (with_reducible exact ⟨G0.drew, F0⟩)
      | ((with_reducible refine gt_held fact ?_); (repeat (first | (with_reducible exact G0) | (with_reducible refine Gt.drew ?_) | (with_reducible refine Gt.set ?_ _ _) | (refine Gt.call ?_ hr (by with_reducible assumption)))))
      | fail)
    (first
      | (go_at_call 93; (with_reducible refine (c1 _ I0).mono ?_); rintro e w1 ⟨rfl, t1, k1⟩)
      | (go_at_call 149; (with_reducible refine (c2 _ t1 (K2 _ (gt_of (by assumption)))).mono ?_); rintro e w2 ⟨A, c, rfl, hc, FR, t2, k2⟩)
      | fail)
  have hlt : w.heap.size < w1.heap.size := Nat.lt_of_lt_of_le (D0.box 0).inside k1.size
  have D2 := (D0.drew.read t1 k1).read t2 k2
  have D3 := (D2.wrote (by decide) (fun x hx => by simp at hx) 0 (.int .u64 n)).wrote (by decide) (fun x hx => by simp at hx) 1 (.slice A L.length c)
  have FR2 := (FR.off (((Off.refl (One w.heap.size) w2).set_ (p := ⟨w.heap.size, 0, none⟩) (Or.inl rfl) (.int .u64 n)).set_ (p := ⟨w.heap.size, 1, none⟩) (Or.inl rfl) (.slice A L.length c)) hlt).less (Nat.le_of_lt hlt)
  go_wp2
  generalize World.setCell (World.setCell w2 _ _) _ _ = Z at *
  obtain ⟨z0, z1, -, -, -⟩ := (D3.box 0).two
  exact bodyPost_ret (v := .agg #[.int .u64 n, .slice A L.length c]) (by simp [results, Tryz.results146, go_sem, z0, z1]) rfl ⟨A, c, rfl, hc, FR2, D3.inS, D3.off⟩
end Go.Proofs.YtmflhodiibjpnaaGreatDoor
/-
  pack, walked: how entries are read.
-/
namespace Go.Proofs.YtmflhodiibjpnaaGreatDoor
set_option linter.unusedVariables false
set_option linter.unusedSimpArgs false
set_option maxRecDepth 10000
open Go.RowKit

set_option maxHeartbeats 4000000 in
theorem getE_any (w : World) (g a p s k : Nat) (st : StR) (h : InS w g st) (hA : IsLf w a) (hK : IsPr w p s k) : Calls Tryz.prog 108 #[.pointer (some ⟨g, 0, none⟩), .pointer (some ⟨a, 0, none⟩), .pointer (some ⟨p, 0, none⟩)] w fun e w' =>
    ∃ A c, e = .returned (.agg (enB (enP st).1.leaf.pad (enP st).1.leaf.id (enP st).1.leaf.salt (enP st).1.leaf.h (enP st).1.leaf.l (enP st).1.pos A (enP st).1.sides.length c)) ∧ (A = none → c = 0) ∧ FRow ndS w' w.heap.size A (enP st).1.sides ∧ InS w' g (enP st).2 ∧ Off (One g) w w' := by
  have hP := h.port
  have hg := h.inside
  have ha := Box.inside hA
  have hp := hK.1.inside
  have hag := hP.ne hA (by decide) (by decide)
  have hpg := hP.ne hK.1 (by decide) (by decide)
  have hs := hK.2.1.inside
  have hsg := hP.ne hK.2.1 (by decide) (by decide)
  have hk := Box.inside hK.2.2
  have hkg := hP.ne hK.2.2 (by decide) (by decide)
  have D0 := (Rp.start h).add 33 (enB false ⟨#[]⟩ ⟨#[]⟩ 0 0 0 none 0 0)
  unfold enP
  simp only
  have c1 := fun u hu => getL_any u g st hu
  have c2 := fun u hu hv => getP_any u g s k (lfP st).2 hu hv
  generalize lfP st = R at *
  obtain ⟨⟨xp, xi, xs, xh, xl⟩, s1⟩ := R
  simp only [Lf.val] at c1 c2 ⊢
  generalize numG s1 = R at *
  obtain ⟨q, s2⟩ := R
  simp only at c2 ⊢
  generalize rowG ndG s2 = R at *
  obtain ⟨L, s3⟩ := R
  simp only at c2 ⊢
  go_enter Tryz.func108, Tryz.ntmps108
  go_upto_region 1 with fail
  change Code.wp _ _ _ _ (w.alloc (.cells (enB false ⟨#[]⟩ ⟨#[]⟩ 0 0 0 none 0 0) 33))
  have hA0 := hA.call (chainA (Below.refl w.heap.size w) (.cells (enB false ⟨#[]⟩ ⟨#[]⟩ 0 0 0 none 0 0) 33))
  have hK0 := hK.call (chainA (Below.refl w.heap.size w) (.cells (enB false ⟨#[]⟩ ⟨#[]⟩ 0 0 0 none 0 0) 33))
  have hr : w.heap.size ≠ g := by omega
  generalize w.alloc (.cells (enB false ⟨#[]⟩ ⟨#[]⟩ 0 0 0 none 0 0) 33) = V0 at *
  have G0 : Gt V0 g w.heap.size 33 7 V0 := Gt.start (D0.box 0) rfl
  have fact : ∀ u, Gt V0 g w.heap.size 33 7 u → (u.cell? ⟨a, 2, none⟩ = some (fn0 99) ∧ u.cell? ⟨p, 2, none⟩ = some (fn1 146 s) ∧ u.frozen? ⟨w.heap.size, 0, none⟩ = false ∧ u.frozen? ⟨w.heap.size, 1, none⟩ = false ∧ u.frozen? ⟨w.heap.size, 2, none⟩ = false ∧ u.frozen? ⟨w.heap.size, 3, none⟩ = false ∧ u.frozen? ⟨w.heap.size, 4, none⟩ = false ∧ u.frozen? ⟨w.heap.size, 5, none⟩ = false ∧ u.frozen? ⟨w.heap.size, 6, none⟩ = false ∧ u.cell? ⟨w.heap.size, 0, none⟩ = some (atR u ⟨w.heap.size, 0, none⟩) ∧ u.cell? ⟨w.heap.size, 1, none⟩ = some (atR u ⟨w.heap.size, 1, none⟩) ∧ u.cell? ⟨w.heap.size, 2, none⟩ = some (atR u ⟨w.heap.size, 2, none⟩) ∧ u.cell? ⟨w.heap.size, 3, none⟩ = some (atR u ⟨w.heap.size, 3, none⟩) ∧ u.cell? ⟨w.heap.size, 4, none⟩ = some (atR u ⟨w.heap.size, 4, none⟩) ∧ u.cell? ⟨w.heap.size, 5, none⟩ = some (atR u ⟨w.heap.size, 5, none⟩) ∧ u.cell? ⟨w.heap.size, 6, none⟩ = some (atR u ⟨w.heap.size, 6, none⟩) ∧ w.heap.size < u.heap.size) := fun u hu =>
    ⟨Box.read (hu.box hA0 hag (by omega)) 2, (hu.box hK0.1 hpg (by omega)).read 2, (hu.at_ 0 (by decide)).1, (hu.at_ 1 (by decide)).1, (hu.at_ 2 (by decide)).1, (hu.at_ 3 (by decide)).1, (hu.at_ 4 (by decide)).1, (hu.at_ 5 (by decide)).1, (hu.at_ 6 (by decide)).1, (hu.at_ 0 (by decide)).2, (hu.at_ 1 (by decide)).2, (hu.at_ 2 (by decide)).2, (hu.at_ 3 (by decide)).2, (hu.at_ 4 (by decide)).2, (hu.at_ 5 (by decide)).2, (hu.at_ 6 (by decide)).2, hu.inside⟩
  have K2 : ∀ u, Gt V0 g w.heap.size 33 7 u → IsNr u s k := fun u hu => ⟨hu.box hK0.2.1 hsg (by omega), hu.box hK0.2.2 hkg (by omega)⟩
  have F0 := fact _ G0.drew
  have I0 : InS V0.drew g st := D0.drew.inS
  go_region_held3 (fun u => Gt V0 g w.heap.size 33 7 u ∧ (u.cell? ⟨a, 2, none⟩ = some (fn0 99) ∧ u.cell? ⟨p, 2, none⟩ = some (fn1 146 s) ∧ u.frozen? ⟨w.heap.size, 0, none⟩ = false ∧ u.frozen? ⟨w.heap.size, 1, none⟩ = false ∧ u.frozen? ⟨w.heap.size, 2, none⟩ = false ∧ u.frozen? ⟨w.heap.size, 3, none⟩ = false ∧ u.frozen? ⟨w.heap.size, 4, none⟩ = false ∧ u.frozen? ⟨w.heap.size, 5, none⟩ = false ∧ u.frozen? ⟨w.heap.size, 6, none⟩ = false ∧ u.cell? ⟨w.heap.size, 0, none⟩ = some (atR u ⟨w.heap.size, 0, none⟩) ∧ u.cell? ⟨w.heap.size, 1, none⟩ = some (atR u ⟨w.heap.size, 1, none⟩) ∧ u.cell? ⟨w.heap.size, 2, none⟩ = some (atR u ⟨w.heap.size, 2, none⟩) ∧ u.cell? ⟨w.heap.size, 3, none⟩ = some (atR u ⟨w.heap.size, 3, none⟩) ∧ u.cell? ⟨w.heap.size, 4, none⟩ = some (atR u ⟨w.heap.size, 4, none⟩) ∧ u.cell? ⟨w.heap.size, 5, none⟩ = some (atR u ⟨w.heap.size, 5, none⟩) ∧ u.cell? ⟨w.heap.size, 6, none⟩ = some (atR u ⟨w.heap.size, 6, none⟩) ∧ w.heap.size < u.heap.size))
    (first
      | (with_reducible exact ⟨G0.drew, F0⟩)
      | ((with_reducible refine gt_held fact ?_); (repeat (first | (with_reducible exact G0) | (with_reducible refine Gt.drew ?_) | (with_reducible refine Gt.set ?_ _ _) | (refine Gt.call ?_ hr (by with_reducible assumption)))))
      | fail)
    (first
      | (go_at_call 99; (with_reducible refine (c1 _ I0).mono ?_); rintro e w1 ⟨rfl, t1, k1⟩)
      | (go_at_call 146; (with_reducible refine (c2 _ t1 (K2 _ (gt_of (by assumption)))).mono ?_); rintro e w2 ⟨A, c, rfl, hc, FR, t2, k2⟩)
      | fail)
  have hlt : w.heap.size < w1.heap.size := Nat.lt_of_lt_of_le (D0.box 0).inside k1.size
  have D2 := (D0.drew.read t1 k1).read t2 k2
  have D3 := (((((((D2.wrote (by decide) (fun x hx => by simp at hx) 0 (.bool xp)).wrote (by decide) (fun x hx => by simp at hx) 1 (.string xi)).wrote (by decide) (fun x hx => by simp at hx) 2 (.string xs)).wrote (by decide) (fun x hx => by simp at hx) 3 (.int .u64 xh)).wrote (by decide) (fun x hx => by simp at hx) 4 (.int .u64 xl)).wrote (by decide) (fun x hx => by simp at hx) 5 (.int .u64 q)).wrote (by decide) (fun x hx => by simp at hx) 6 (.slice A L.length c))
  have FR2 := (FR.off ((((((((Off.refl (One w.heap.size) w2).set_ (p := ⟨w.heap.size, 0, none⟩) (Or.inl rfl) (.bool xp)).set_ (p := ⟨w.heap.size, 1, none⟩) (Or.inl rfl) (.string xi)).set_ (p := ⟨w.heap.size, 2, none⟩) (Or.inl rfl) (.string xs)).set_ (p := ⟨w.heap.size, 3, none⟩) (Or.inl rfl) (.int .u64 xh)).set_ (p := ⟨w.heap.size, 4, none⟩) (Or.inl rfl) (.int .u64 xl)).set_ (p := ⟨w.heap.size, 5, none⟩) (Or.inl rfl) (.int .u64 q)).set_ (p := ⟨w.heap.size, 6, none⟩) (Or.inl rfl) (.slice A L.length c)) hlt).less (Nat.le_of_lt hlt)
  change Rp w g s3 [(w.heap.size, 33, enB xp xi xs xh xl q A L.length c)] _ at D3
  go_wp2
  generalize World.setCell (World.setCell (World.setCell (World.setCell (World.setCell (World.setCell (World.setCell w2 _ _) _ _) _ _) _ _) _ _) _ _) _ _ = Z at *
  have hb := D3.box 0
  have z0 : Z.cell? ⟨w.heap.size, 0, none⟩ = some (.bool xp) := hb.read 0
  have z1 : Z.cell? ⟨w.heap.size, 1, none⟩ = some (.string xi) := hb.read 1
  have z2 : Z.cell? ⟨w.heap.size, 2, none⟩ = some (.string xs) := hb.read 2
  have z3 : Z.cell? ⟨w.heap.size, 3, none⟩ = some (.int .u64 xh) := hb.read 3
  have z4 : Z.cell? ⟨w.heap.size, 4, none⟩ = some (.int .u64 xl) := hb.read 4
  have z5 : Z.cell? ⟨w.heap.size, 5, none⟩ = some (.int .u64 q) := hb.read 5
  have z6 : Z.cell? ⟨w.heap.size, 6, none⟩ = some (.slice A L.length c) := hb.read 6
  exact bodyPost_ret (v := .agg (enB xp xi xs xh xl q A L.length c)) (by simp [results, Tryz.results108, go_sem, z0, z1, z2, z3, z4, z5, z6]) rfl ⟨A, c, rfl, hc, FR2, D3.inS, D3.off⟩
end Go.Proofs.YtmflhodiibjpnaaGreatDoor
/-
  pack, walked: how changes, and rows of them, are read.
-/
namespace Go.Proofs.YtmflhodiibjpnaaGreatDoor
set_option linter.unusedVariables false
set_option linter.unusedSimpArgs false
set_option maxRecDepth 10000
open Go.RowKit

set_option maxHeartbeats 4000000 in
theorem getC_any (w : World) (g a : Nat) (st : StR) (h : InS w g st) (hA : IsLf w a) : Calls Tryz.prog 158 #[.pointer (some ⟨g, 0, none⟩), .pointer (some ⟨a, 0, none⟩)] w fun e w' =>
    e = .returned (.agg (chA (chP st).1.pos (chP st).1.old.pad (chP st).1.old.id (chP st).1.old.salt (chP st).1.old.h (chP st).1.old.l (chP st).1.new.pad (chP st).1.new.id (chP st).1.new.salt (chP st).1.new.h (chP st).1.new.l)) ∧ InS w' g (chP st).2 ∧ Off (One g) w w' := by
  have hP := h.port
  have hg := h.inside
  have ha := Box.inside hA
  have hag := hP.ne hA (by decide) (by decide)
  have D0 := (Rp.start h).add 103 (chA 0 false ⟨#[]⟩ ⟨#[]⟩ 0 0 false ⟨#[]⟩ ⟨#[]⟩ 0 0)
  unfold chP
  simp only
  have c0 := fun u hu => in_num u g st hu
  have c1 := fun u hu => getL_any u g (numG st).2 hu
  have c2 := fun u hu => getL_any u g (lfP (numG st).2).2 hu
  unfold numG at c1 c2 ⊢
  simp only at c1 c2 ⊢
  generalize lV (opN 8 st) = q at *
  generalize nxt (opN 8 st) = s1 at *
  generalize lfP s1 = R at *
  obtain ⟨⟨xp, xi, xs, xh, xl⟩, s2⟩ := R
  simp only [Lf.val] at c1 c2 ⊢
  generalize lfP s2 = R at *
  obtain ⟨⟨yp, yi, ys, yh, yl⟩, s3⟩ := R
  simp only at c2 ⊢
  go_enter Tryz.func158, Tryz.ntmps158
  go_upto_region 1 with fail
  change Code.wp _ _ _ _ (w.alloc (.cells (chA 0 false ⟨#[]⟩ ⟨#[]⟩ 0 0 false ⟨#[]⟩ ⟨#[]⟩ 0 0) 103))
  have hA0 := hA.call (chainA (Below.refl w.heap.size w) (.cells (chA 0 false ⟨#[]⟩ ⟨#[]⟩ 0 0 false ⟨#[]⟩ ⟨#[]⟩ 0 0) 103))
  have hr : w.heap.size ≠ g := by omega
  generalize w.alloc (.cells (chA 0 false ⟨#[]⟩ ⟨#[]⟩ 0 0 false ⟨#[]⟩ ⟨#[]⟩ 0 0) 103) = V0 at *
  have G0 : Gt V0 g w.heap.size 103 11 V0 := Gt.start (D0.box 0) rfl
  have fact : ∀ u, Gt V0 g w.heap.size 103 11 u → (u.cell? ⟨a, 2, none⟩ = some (fn0 99) ∧ u.frozen? ⟨w.heap.size, 0, none⟩ = false ∧ u.frozen? ⟨w.heap.size, 1, none⟩ = false ∧ u.frozen? ⟨w.heap.size, 2, none⟩ = false ∧ u.frozen? ⟨w.heap.size, 3, none⟩ = false ∧ u.frozen? ⟨w.heap.size, 4, none⟩ = false ∧ u.frozen? ⟨w.heap.size, 5, none⟩ = false ∧ u.frozen? ⟨w.heap.size, 6, none⟩ = false ∧ u.frozen? ⟨w.heap.size, 7, none⟩ = false ∧ u.frozen? ⟨w.heap.size, 8, none⟩ = false ∧ u.frozen? ⟨w.heap.size, 9, none⟩ = false ∧ u.frozen? ⟨w.heap.size, 10, none⟩ = false ∧ u.cell? ⟨w.heap.size, 0, none⟩ = some (atR u ⟨w.heap.size, 0, none⟩) ∧ u.cell? ⟨w.heap.size, 1, none⟩ = some (atR u ⟨w.heap.size, 1, none⟩) ∧ u.cell? ⟨w.heap.size, 2, none⟩ = some (atR u ⟨w.heap.size, 2, none⟩) ∧ u.cell? ⟨w.heap.size, 3, none⟩ = some (atR u ⟨w.heap.size, 3, none⟩) ∧ u.cell? ⟨w.heap.size, 4, none⟩ = some (atR u ⟨w.heap.size, 4, none⟩) ∧ u.cell? ⟨w.heap.size, 5, none⟩ = some (atR u ⟨w.heap.size, 5, none⟩) ∧ u.cell? ⟨w.heap.size, 6, none⟩ = some (atR u ⟨w.heap.size, 6, none⟩) ∧ u.cell? ⟨w.heap.size, 7, none⟩ = some (atR u ⟨w.heap.size, 7, none⟩) ∧ u.cell? ⟨w.heap.size, 8, none⟩ = some (atR u ⟨w.heap.size, 8, none⟩) ∧ u.cell? ⟨w.heap.size, 9, none⟩ = some (atR u ⟨w.heap.size, 9, none⟩) ∧ u.cell? ⟨w.heap.size, 10, none⟩ = some (atR u ⟨w.heap.size, 10, none⟩) ∧ w.heap.size < u.heap.size) := fun u hu =>
    ⟨Box.read (hu.box hA0 hag (by omega)) 2, (hu.at_ 0 (by decide)).1, (hu.at_ 1 (by decide)).1, (hu.at_ 2 (by decide)).1, (hu.at_ 3 (by decide)).1, (hu.at_ 4 (by decide)).1, (hu.at_ 5 (by decide)).1, (hu.at_ 6 (by decide)).1, (hu.at_ 7 (by decide)).1, (hu.at_ 8 (by decide)).1, (hu.at_ 9 (by decide)).1, (hu.at_ 10 (by decide)).1, (hu.at_ 0 (by decide)).2, (hu.at_ 1 (by decide)).2, (hu.at_ 2 (by decide)).2, (hu.at_ 3 (by decide)).2, (hu.at_ 4 (by decide)).2, (hu.at_ 5 (by decide)).2, (hu.at_ 6 (by decide)).2, (hu.at_ 7 (by decide)).2, (hu.at_ 8 (by decide)).2, (hu.at_ 9 (by decide)).2, (hu.at_ 10 (by decide)).2, hu.inside⟩
  have F0 := fact _ G0.drew
  have I0 : InS V0.drew g st := D0.drew.inS
  go_region_held3 (fun u => Gt V0 g w.heap.size 103 11 u ∧ (u.cell? ⟨a, 2, none⟩ = some (fn0 99) ∧ u.frozen? ⟨w.heap.size, 0, none⟩ = false ∧ u.frozen? ⟨w.heap.size, 1, none⟩ = false ∧ u.frozen? ⟨w.heap.size, 2, none⟩ = false ∧ u.frozen? ⟨w.heap.size, 3, none⟩ = false ∧ u.frozen? ⟨w.heap.size, 4, none⟩ = false ∧ u.frozen? ⟨w.heap.size, 5, none⟩ = false ∧ u.frozen? ⟨w.heap.size, 6, none⟩ = false ∧ u.frozen? ⟨w.heap.size, 7, none⟩ = false ∧ u.frozen? ⟨w.heap.size, 8, none⟩ = false ∧ u.frozen? ⟨w.heap.size, 9, none⟩ = false ∧ u.frozen? ⟨w.heap.size, 10, none⟩ = false ∧ u.cell? ⟨w.heap.size, 0, none⟩ = some (atR u ⟨w.heap.size, 0, none⟩) ∧ u.cell? ⟨w.heap.size, 1, none⟩ = some (atR u ⟨w.heap.size, 1, none⟩) ∧ u.cell? ⟨w.heap.size, 2, none⟩ = some (atR u ⟨w.heap.size, 2, none⟩) ∧ u.cell? ⟨w.heap.size, 3, none⟩ = some (atR u ⟨w.heap.size, 3, none⟩) ∧ u.cell? ⟨w.heap.size, 4, none⟩ = some (atR u ⟨w.heap.size, 4, none⟩) ∧ u.cell? ⟨w.heap.size, 5, none⟩ = some (atR u ⟨w.heap.size, 5, none⟩) ∧ u.cell? ⟨w.heap.size, 6, none⟩ = some (atR u ⟨w.heap.size, 6, none⟩) ∧ u.cell? ⟨w.heap.size, 7, none⟩ = some (atR u ⟨w.heap.size, 7, none⟩) ∧ u.cell? ⟨w.heap.size, 8, none⟩ = some (atR u ⟨w.heap.size, 8, none⟩) ∧ u.cell? ⟨w.heap.size, 9, none⟩ = some (atR u ⟨w.heap.size, 9, none⟩) ∧ u.cell? ⟨w.heap.size, 10, none⟩ = some (atR u ⟨w.heap.size, 10, none⟩) ∧ w.heap.size < u.heap.size))
    (first
      | (with_reducible exact ⟨G0.drew, F0⟩)
      | ((with_reducible refine gt_held fact ?_); (repeat (first | (with_reducible exact G0) | (with_reducible refine Gt.drew ?_) | (with_reducible refine Gt.set ?_ _ _) | (refine Gt.call ?_ hr (by with_reducible assumption)))))
      | fail)
    (first
      | (go_at_call 93; (with_reducible refine (c0 _ I0).mono ?_); rintro e w1 ⟨rfl, t1, k1⟩)
      | (go_at_call 99; (with_reducible refine (c1 _ t1).mono ?_); rintro e w2 ⟨rfl, t2, k2⟩)
      | (go_at_call 99; (with_reducible refine (c2 _ t2).mono ?_); rintro e w3 ⟨rfl, t3, k3⟩)
      | fail)
  have D2 := ((D0.drew.read t1 k1).read t2 k2).read t3 k3
  have D3 := (((((((((((D2.wrote (by decide) (fun x hx => by simp at hx) 0 (.int .u64 q)).wrote (by decide) (fun x hx => by simp at hx) 1 (.bool xp)).wrote (by decide) (fun x hx => by simp at hx) 2 (.string xi)).wrote (by decide) (fun x hx => by simp at hx) 3 (.string xs)).wrote (by decide) (fun x hx => by simp at hx) 4 (.int .u64 xh)).wrote (by decide) (fun x hx => by simp at hx) 5 (.int .u64 xl)).wrote (by decide) (fun x hx => by simp at hx) 6 (.bool yp)).wrote (by decide) (fun x hx => by simp at hx) 7 (.string yi)).wrote (by decide) (fun x hx => by simp at hx) 8 (.string ys)).wrote (by decide) (fun x hx => by simp at hx) 9 (.int .u64 yh)).wrote (by decide) (fun x hx => by simp at hx) 10 (.int .u64 yl))
  simp only [chA, List.setIfInBounds_toArray, List.set_cons_zero, List.set_cons_succ] at D3
  change Rp w g s3 [(w.heap.size, 103, chA q xp xi xs xh xl yp yi ys yh yl)] _ at D3
  go_wp2
  generalize World.setCell (World.setCell (World.setCell (World.setCell (World.setCell (World.setCell (World.setCell (World.setCell (World.setCell (World.setCell (World.setCell w3 _ _) _ _) _ _) _ _) _ _) _ _) _ _) _ _) _ _) _ _) _ _ = Z at *
  have hb := D3.box 0
  have z0 : Z.cell? ⟨w.heap.size, 0, none⟩ = some (.int .u64 q) := hb.read 0
  have z1 : Z.cell? ⟨w.heap.size, 1, none⟩ = some (.bool xp) := hb.read 1
  have z2 : Z.cell? ⟨w.heap.size, 2, none⟩ = some (.string xi) := hb.read 2
  have z3 : Z.cell? ⟨w.heap.size, 3, none⟩ = some (.string xs) := hb.read 3
  have z4 : Z.cell? ⟨w.heap.size, 4, none⟩ = some (.int .u64 xh) := hb.read 4
  have z5 : Z.cell? ⟨w.heap.size, 5, none⟩ = some (.int .u64 xl) := hb.read 5
  have z6 : Z.cell? ⟨w.heap.size, 6, none⟩ = some (.bool yp) := hb.read 6
  have z7 : Z.cell? ⟨w.heap.size, 7, none⟩ = some (.string yi) := hb.read 7
  have z8 : Z.cell? ⟨w.heap.size, 8, none⟩ = some (.string ys) := hb.read 8
  have z9 : Z.cell? ⟨w.heap.size, 9, none⟩ = some (.int .u64 yh) := hb.read 9
  have z10 : Z.cell? ⟨w.heap.size, 10, none⟩ = some (.int .u64 yl) := hb.read 10
  exact bodyPost_ret (v := .agg (chA q xp xi xs xh xl yp yi ys yh yl)) (by simp [results, Tryz.results158, go_sem, z0, z1, z2, z3, z4, z5, z6, z7, z8, z9, z10]) rfl ⟨rfl, D3.inS, D3.off⟩
set_option maxHeartbeats 4000000 in
theorem getCs_any (w : World) (g k a : Nat) (st : StR) (h : InS w g st) (hK : IsCh w k a) : Calls Tryz.prog 155 #[.pointer (some ⟨g, 0, none⟩), .pointer (some ⟨k, 0, none⟩)] w fun e w' =>
    ∃ A c, e = .returned (.slice A (rowG chP st).1.length c) ∧ (A = none → c = 0) ∧ FRow chS w' w.heap.size A (rowG chP st).1 ∧ InS w' g (rowG chP st).2 ∧ Off (One g) w w' := by
  have hP := h.port
  have cN := in_num w g st h
  unfold rowG
  have hg := h.inside
  obtain ⟨hn0, -⟩ := lV_word 8 st
  obtain ⟨n, hn⟩ := Int.eq_ofNat_of_zero_le hn0
  obtain ⟨s1, h1⟩ : ∃ s1, nxt (opN 8 st) = s1 := ⟨_, rfl⟩
  rw [hn, h1] at cN ⊢
  rw [Int.toNat_natCast]
  clear hn hn0 h1
  have cT := fun u st2 (hu : InS u g st2) => in_spoilt u g st2 hu
  by_cases hm : 2048 < n
  · have hmi : (2048 : Int) < (n : Int) := by omega
    rw [if_pos hmi, repG_none]
    have cS := fun u (hu : InS u g s1) => in_spoil u g _ hu
    go_enter Tryz.func155, Tryz.ntmps155
    go_upto_region 5 with (first
      | (go_at_call 93; refine cN.mono ?_; rintro e w1 ⟨rfl, t1, k1⟩)
      | (go_at_call 121; refine (cS _ t1).mono ?_; rintro e w2 ⟨rfl, t2, k2⟩)
      | fail)
    have k12 := k1.trans k2
    clear cN cS t1 k1 k2
    go_loopg [4, 5] 0 (fun gk i v wr => v = .slice none 0 0 ∧ i = .int .u64 n ∧ wr = w2)
    case atStart => exact ⟨rfl, rfl, rfl⟩
    case round =>
      obtain ⟨rfl, rfl, rfl⟩ := hrel
      have hmi2 : (0 : Int) < (n : Int) := by omega
      go_wp2_with (first
        | (go_at_call 33; refine (cT _ _ t2).mono ?_; rintro e w' ⟨rfl, rfl⟩)
        | fail)
      go_ret
      exact ⟨none, 0, rfl, fun _ => rfl, FRow.nil _ _, t2, k12⟩
  · have hmi : ¬ ((2048 : Int) < (n : Int)) := by omega
    rw [if_neg hmi]
    have HR : Hid (repG chP n s1 = ([] ++ (repG chP n s1).1, (repG chP n s1).2)) := by
      show repG chP n s1 = _
      rw [List.nil_append]
    obtain ⟨V, hV⟩ : ∃ V, repG chP n s1 = V := ⟨_, rfl⟩
    rw [hV]
    have HV := hideIt hV
    clear hV
    go_enter Tryz.func155, Tryz.ntmps155
    go_upto_region 5 with (first
      | (go_at_call 93; refine cN.mono ?_; rintro e w1 ⟨rfl, t1, k1⟩)
      | fail)
    clear cN
    go_loopg [4, 5] n (fun gk i v wr => ∃ (m : Nat) (L : List ChP) (s2 : StR), m ≤ gk ∧ m ≤ 2048 ∧ L.length + m = n ∧ i = .int .u64 m ∧ wr.ownsRow w.heap.size 103 11 v L.length (chS.flat L) ∧ InS wr g s2 ∧ Off (One g) w wr ∧ Hid (repG chP n s1 = (L ++ (repG chP m s2).1, (repG chP m s2).2)))
    case atStart => exact ⟨n, [], s1, Nat.le_refl _, by omega, by simp, rfl, World.ownsRow_nil _ _ _ _, t1, k1, HR⟩
    case round =>
      obtain ⟨m, L, s2, hgk, hm2, hLn, rfl, O, t2, k2, HQ⟩ := hrel
      have HG := hideIt hgk
      have HLn := hideIt hLn
      clear hgk t1 k1 HR
      rcases Nat.eq_zero_or_pos m with hm0 | hm0
      · subst hm0
        have e := HQ.out
        rw [HV.out, repG, List.append_nil] at e
        subst e
        obtain ⟨A, c, rfl, hc, F⟩ := FRow.own (S := chS) O
        have h0 : ¬ (((0 : Nat) : Int) > 0) := by omega
        go_wp2
        go_ret
        exact ⟨A, c, rfl, hc, F, t2, k2⟩
      · have hmi2 : (0 : Int) < (m : Int) := by omega
        cases s2 with
        | none =>
          have e := HQ.out
          rw [repG_none, HV.out, List.append_nil] at e
          subst e
          obtain ⟨A, c, rfl, hc, F⟩ := FRow.own (S := chS) O
          go_wp2_with (first
            | (go_at_call 33; refine (cT _ _ t2).mono ?_; rintro e w' ⟨rfl, rfl⟩)
            | fail)
          go_ret
          exact ⟨A, c, rfl, hc, F, t2, k2⟩
        | some y =>
          have cD := fun u hu hv => getC_any u g a (some y) hu hv
          obtain ⟨q, hq⟩ : ∃ q, m = q + 1 := ⟨m - 1, by omega⟩
          have hw1 : IntKind.u64.wrap ((m : Int) - 1) = (q : Int) := by rw [IntKind.wrap_u64]; omega
          have hq2 := hideIt hq
          have e := HQ.out
          rw [hq, repG] at e
          obtain ⟨⟨⟨pos, ⟨xp, xi, xs, xh, xl⟩, ⟨yp, yi, ys, yh, yl⟩⟩, s3⟩, hd⟩ : ∃ V, chP (some y) = V := ⟨_, rfl⟩
          rw [hd] at cD e
          simp only at cD e
          have e2 : repG chP n s1 = ((L ++ [⟨pos, ⟨xp, xi, xs, xh, xl⟩, ⟨yp, yi, ys, yh, yl⟩⟩]) ++ (repG chP q s3).1, (repG chP q s3).2) := by
            rw [e]
            simp
          have HE := hideIt e2
          clear e e2 hd HQ hq hLn
          obtain ⟨⟨f0, f1, f2, f3⟩, -, hin3⟩ := Box.four (hK.off hP k2).1
          go_wp2_with (first
            | (go_at_call 33; refine (cT _ _ t2).mono ?_; rintro e w' ⟨rfl, rfl⟩)
            | (go_at_call 158; refine (cD _ t2 (hK.off hP k2).2).mono ?_; rintro e w3 ⟨rfl, t3, k3⟩
               have O2 := own_off O k3 hg
               have hws := Nat.le_trans k2.size k3.size
               obtain ⟨v', W', hr2, O3, q3, L3⟩ := chE.app1 w3 w.heap.size _ _ _ O2 ⟨pos, ⟨xp, xi, xs, xh, xl⟩, ⟨yp, yi, ys, yh, yl⟩⟩ _ rfl (by have := HLn.out; omega) hws)
            | (at_builtin; refine gen_run rfl _ _ _ rfl _ _ rfl rfl v' W' hr2 ?_)
            | fail)
          go_roundg q
          case measure => have := HG.out; have := hq2.out; omega
          case rel => exact ⟨q, L ++ [⟨pos, ⟨xp, xi, xs, xh, xl⟩, ⟨yp, yi, ys, yh, yl⟩⟩], s3, Nat.le_refl _, by have := hq2.out; omega, by rw [List.length_append]; have := hq2.out; have := HLn.out; simp only [List.length_cons, List.length_nil]; omega, by first | rfl | go_num, by rw [List.length_append]; exact O3, t3.grown O2 (by decide) hg q3, (k2.trans k3).low L3, HE⟩
end Go.Proofs.YtmflhodiibjpnaaGreatDoor
/-
  pack, walked: how ranges are read.
-/
namespace Go.Proofs.YtmflhodiibjpnaaGreatDoor
set_option linter.unusedVariables false
set_option linter.unusedSimpArgs false
set_option maxRecDepth 10000
open Go.RowKit

set_option maxHeartbeats 4000000 in
theorem getG_any (w : World) (g s k : Nat) (st : StR) (h : InS w g st) (hK : IsNr w s k) : Calls Tryz.prog 114 #[.pointer (some ⟨g, 0, none⟩), .pointer (some ⟨s, 0, none⟩)] w fun e w' =>
    ∃ A c B d, e = .returned (.agg (rgB (rgG st).1.a (rgG st).1.b A (rgG st).1.ins.length c B (rgG st).1.outs.length d)) ∧ (A = none → c = 0) ∧ (B = none → d = 0) ∧ FRow ndS w' w.heap.size A (rgG st).1.ins ∧ FRow ndS w' w.heap.size B (rgG st).1.outs ∧ InS w' g (rgG st).2 ∧ Off (One g) w w' := by
  have hP := h.port
  have hg := h.inside
  have hs := hK.1.inside
  have hsg := hP.ne hK.1 (by decide) (by decide)
  have hk := Box.inside hK.2
  have hkg := hP.ne hK.2 (by decide) (by decide)
  have D0 := (Rp.start h).add 35 (rgB 0 0 none 0 0 none 0 0)
  unfold rgG
  simp only
  have c1 := fun u hu => in_num u g st hu
  have c2 := fun u hu => in_num u g (numG st).2 hu
  have c3 := fun u hu hv => getNs_any u g k (numG (numG st).2).2 hu hv
  have c4 := fun u hu hv => getNs_any u g k (rowG ndG (numG (numG st).2).2).2 hu hv
  unfold numG at c2 c3 c4 ⊢
  simp only at c2 c3 c4 ⊢
  generalize lV (opN 8 st) = a at *
  generalize nxt (opN 8 st) = s1 at *
  generalize lV (opN 8 s1) = b at *
  generalize nxt (opN 8 s1) = s2 at *
  generalize rowG ndG s2 = R at *
  obtain ⟨L, s3⟩ := R
  simp only at c3 c4 ⊢
  generalize rowG ndG s3 = R at *
  obtain ⟨M, s4⟩ := R
  simp only at c4 ⊢
  go_enter Tryz.func114, Tryz.ntmps114
  go_upto_region 1 with fail
  change Code.wp _ _ _ _ (w.alloc (.cells (rgB 0 0 none 0 0 none 0 0) 35))
  have hK0 := hK.call (chainA (Below.refl w.heap.size w) (.cells (rgB 0 0 none 0 0 none 0 0) 35))
  have hr : w.heap.size ≠ g := by omega
  generalize w.alloc (.cells (rgB 0 0 none 0 0 none 0 0) 35) = V0 at *
  have G0 : Gt V0 g w.heap.size 35 4 V0 := Gt.start (D0.box 0) rfl
  have fact : ∀ u, Gt V0 g w.heap.size 35 4 u → (u.cell? ⟨s, 2, none⟩ = some (fn1 149 k) ∧ u.frozen? ⟨w.heap.size, 0, none⟩ = false ∧ u.frozen? ⟨w.heap.size, 1, none⟩ = false ∧ u.frozen? ⟨w.heap.size, 2, none⟩ = false ∧ u.frozen? ⟨w.heap.size, 3, none⟩ = false ∧ u.cell? ⟨w.heap.size, 0, none⟩ = some (atR u ⟨w.heap.size, 0, none⟩) ∧ u.cell? ⟨w.heap.size, 1, none⟩ = some (atR u ⟨w.heap.size, 1, none⟩) ∧ u.cell? ⟨w.heap.size, 2, none⟩ = some (atR u ⟨w.heap.size, 2, none⟩) ∧ u.cell? ⟨w.heap.size, 3, none⟩ = some (atR u ⟨w.heap.size, 3, none⟩) ∧ w.heap.size < u.heap.size) := fun u hu =>
    ⟨(hu.box hK0.1 hsg (by omega)).read 2, (hu.at_ 0 (by decide)).1, (hu.at_ 1 (by decide)).1, (hu.at_ 2 (by decide)).1, (hu.at_ 3 (by decide)).1, (hu.at_ 0 (by decide)).2, (hu.at_ 1 (by decide)).2, (hu.at_ 2 (by decide)).2, (hu.at_ 3 (by decide)).2, hu.inside⟩
  have K2 : ∀ u, Gt V0 g w.heap.size 35 4 u → IsNd u k := fun u hu => hu.box hK0.2 hkg (by omega)
  have F0 := fact _ G0.drew
  have I0 : InS V0.drew g st := D0.drew.inS
  go_region_held3 (fun u => Gt V0 g w.heap.size 35 4 u ∧ (u.cell? ⟨s, 2, none⟩ = some (fn1 149 k) ∧ u.frozen? ⟨w.heap.size, 0, none⟩ = false ∧ u.frozen? ⟨w.heap.size, 1, none⟩ = false ∧ u.frozen? ⟨w.heap.size, 2, none⟩ = false ∧ u.frozen? ⟨w.heap.size, 3, none⟩ = false ∧ u.cell? ⟨w.heap.size, 0, none⟩ = some (atR u ⟨w.heap.size, 0, none⟩) ∧ u.cell? ⟨w.heap.size, 1, none⟩ = some (atR u ⟨w.heap.size, 1, none⟩) ∧ u.cell? ⟨w.heap.size, 2, none⟩ = some (atR u ⟨w.heap.size, 2, none⟩) ∧ u.cell? ⟨w.heap.size, 3, none⟩ = some (atR u ⟨w.heap.size, 3, none⟩) ∧ w.heap.size < u.heap.size))
    (first
      | (with_reducible exact ⟨G0.drew, F0⟩)
      | ((with_reducible refine gt_held fact ?_); (repeat (first | (with_reducible exact G0) | (with_reducible refine Gt.drew ?_) | (with_reducible refine Gt.set ?_ _ _) | (refine Gt.call ?_ hr (by with_reducible assumption)))))
      | fail)
    (first
      | (go_at_call 93; (with_reducible refine (c1 _ I0).mono ?_); rintro e w1 ⟨rfl, t1, k1⟩)
      | (go_at_call 93; (with_reducible refine (c2 _ t1).mono ?_); rintro e w2 ⟨rfl, t2, k2⟩)
      | (go_at_call 149; (with_reducible refine (c3 _ t2 (K2 _ (gt_of (by assumption)))).mono ?_); rintro e w3 ⟨A, c, rfl, hc, FA, t3, k3⟩)
      | (go_at_call 149; (with_reducible refine (c4 _ t3 (K2 _ (gt_of (by assumption)))).mono ?_); rintro e w4 ⟨B, d, rfl, hd, FB, t4, k4⟩)
      | fail)
  have hlt : w.heap.size < w2.heap.size := Nat.lt_of_lt_of_le (D0.box 0).inside (Nat.le_trans k1.size k2.size)
  have hlt3 : w.heap.size < w3.heap.size := Nat.lt_of_lt_of_le hlt k3.size
  have D2 := (((D0.drew.read t1 k1).read t2 k2).read t3 k3).read t4 k4
  have D3 := ((((D2.wrote (by decide) (fun x hx => by simp at hx) 0 (.int .u64 a)).wrote (by decide) (fun x hx => by simp at hx) 1 (.int .u64 b)).wrote (by decide) (fun x hx => by simp at hx) 2 (.slice A L.length c)).wrote (by decide) (fun x hx => by simp at hx) 3 (.slice B M.length d))
  change Rp w g s4 [(w.heap.size, 35, rgB a b A L.length c B M.length d)] _ at D3
  have O3 := (((((Off.refl (One w.heap.size) w4).set_ (p := ⟨w.heap.size, 0, none⟩) (Or.inl rfl) (.int .u64 a)).set_ (p := ⟨w.heap.size, 1, none⟩) (Or.inl rfl) (.int .u64 b)).set_ (p := ⟨w.heap.size, 2, none⟩) (Or.inl rfl) (.slice A L.length c)).set_ (p := ⟨w.heap.size, 3, none⟩) (Or.inl rfl) (.slice B M.length d))
  have FA2 := ((FA.off k4 (by omega)).off O3 hlt).less (Nat.le_of_lt hlt)
  have FB2 := (FB.off O3 hlt3).less (Nat.le_of_lt hlt3)
  clear O3
  go_wp2
  generalize World.setCell (World.setCell (World.setCell (World.setCell w4 _ _) _ _) _ _) _ _ = Z at *
  have hb := D3.box 0
  have z0 : Z.cell? ⟨w.heap.size, 0, none⟩ = some (.int .u64 a) := hb.read 0
  have z1 : Z.cell? ⟨w.heap.size, 1, none⟩ = some (.int .u64 b) := hb.read 1
  have z2 : Z.cell? ⟨w.heap.size, 2, none⟩ = some (.slice A L.length c) := hb.read 2
  have z3 : Z.cell? ⟨w.heap.size, 3, none⟩ = some (.slice B M.length d) := hb.read 3
  exact bodyPost_ret (v := .agg (rgB a b A L.length c B M.length d)) (by simp [results, Tryz.results114, go_sem, z0, z1, z2, z3]) rfl ⟨A, c, B, d, rfl, hc, hd, FA2, FB2, D3.inS, D3.off⟩
end Go.Proofs.YtmflhodiibjpnaaGreatDoor
/-
  pack, walked: how diffs are read.
-/
namespace Go.Proofs.YtmflhodiibjpnaaGreatDoor
set_option linter.unusedVariables false
set_option linter.unusedSimpArgs false
set_option maxRecDepth 10000
open Go.RowKit

set_option maxHeartbeats 4000000 in
theorem getD_any (w : World) (g q m i a k : Nat) (st : StR) (h : InS w g st) (hC : IsCr w q i a) (hK : IsNr w m k) : Calls Tryz.prog 119 #[.pointer (some ⟨g, 0, none⟩), .pointer (some ⟨q, 0, none⟩), .pointer (some ⟨m, 0, none⟩)] w fun e w' =>
    ∃ A c B d, e = .returned (.agg (dfB A (dfP st).1.chs.length c B (dfP st).1.fr.length d)) ∧ (A = none → c = 0) ∧ (B = none → d = 0) ∧ FRow chS w' w.heap.size A (dfP st).1.chs ∧ FRow ndS w' w.heap.size B (dfP st).1.fr ∧ InS w' g (dfP st).2 ∧ Off (One g) w w' := by
  have hP := h.port
  have hg := h.inside
  have hq := hC.1.inside
  have hqg := hP.ne hC.1 (by decide) (by decide)
  have hi := hC.2.1.inside
  have hig := hP.ne hC.2.1 (by decide) (by decide)
  have ha := Box.inside hC.2.2
  have hag := hP.ne hC.2.2 (by decide) (by decide)
  have hm := hK.1.inside
  have hmg := hP.ne hK.1 (by decide) (by decide)
  have hk := Box.inside hK.2
  have hkg := hP.ne hK.2 (by decide) (by decide)
  have D0 := (Rp.start h).add 38 (dfB none 0 0 none 0 0)
  unfold dfP
  simp only
  have c1 := fun u hu hv => getCs_any u g i a st hu hv
  have c2 := fun u hu hv => getNs_any u g k (rowG chP st).2 hu hv
  generalize rowG chP st = R at *
  obtain ⟨L, s1⟩ := R
  simp only at c1 c2 ⊢
  generalize rowG ndG s1 = R at *
  obtain ⟨M, s2⟩ := R
  simp only at c2 ⊢
  go_enter Tryz.func119, Tryz.ntmps119
  go_upto_region 1 with fail
  change Code.wp _ _ _ _ (w.alloc (.cells (dfB none 0 0 none 0 0) 38))
  have hC0 := hC.call (chainA (Below.refl w.heap.size w) (.cells (dfB none 0 0 none 0 0) 38))
  have hK0 := hK.call (chainA (Below.refl w.heap.size w) (.cells (dfB none 0 0 none 0 0) 38))
  have hr : w.heap.size ≠ g := by omega
  generalize w.alloc (.cells (dfB none 0 0 none 0 0) 38) = V0 at *
  have G0 : Gt V0 g w.heap.size 38 2 V0 := Gt.start (D0.box 0) rfl
  have fact : ∀ u, Gt V0 g w.heap.size 38 2 u → (u.cell? ⟨q, 2, none⟩ = some (fn1 155 i) ∧ u.cell? ⟨m, 2, none⟩ = some (fn1 149 k) ∧ u.frozen? ⟨w.heap.size, 0, none⟩ = false ∧ u.frozen? ⟨w.heap.size, 1, none⟩ = false ∧ u.cell? ⟨w.heap.size, 0, none⟩ = some (atR u ⟨w.heap.size, 0, none⟩) ∧ u.cell? ⟨w.heap.size, 1, none⟩ = some (atR u ⟨w.heap.size, 1, none⟩) ∧ w.heap.size < u.heap.size) := fun u hu =>
    ⟨(hu.box hC0.1 hqg (by omega)).read 2, (hu.box hK0.1 hmg (by omega)).read 2, (hu.at_ 0 (by decide)).1, (hu.at_ 1 (by decide)).1, (hu.at_ 0 (by decide)).2, (hu.at_ 1 (by decide)).2, hu.inside⟩
  have K1 : ∀ u, Gt V0 g w.heap.size 38 2 u → IsCh u i a := fun u hu => ⟨hu.box hC0.2.1 hig (by omega), hu.box hC0.2.2 hag (by omega)⟩
  have K2 : ∀ u, Gt V0 g w.heap.size 38 2 u → IsNd u k := fun u hu => hu.box hK0.2 hkg (by omega)
  have F0 := fact _ G0.drew
  have I0 : InS V0.drew g st := D0.drew.inS
  go_region_held3 (fun u => Gt V0 g w.heap.size 38 2 u ∧ (u.cell? ⟨q, 2, none⟩ = some (fn1 155 i) ∧ u.cell? ⟨m, 2, none⟩ = some (fn1 149 k) ∧ u.frozen? ⟨w.heap.size, 0, none⟩ = false ∧ u.frozen? ⟨w.heap.size, 1, none⟩ = false ∧ u.cell? ⟨w.heap.size, 0, none⟩ = some (atR u ⟨w.heap.size, 0, none⟩) ∧ u.cell? ⟨w.heap.size, 1, none⟩ = some (atR u ⟨w.heap.size, 1, none⟩) ∧ w.heap.size < u.heap.size))
    (first
      | (with_reducible exact ⟨G0.drew, F0⟩)
      | ((with_reducible refine gt_held fact ?_); (repeat (first | (with_reducible exact G0) | (with_reducible refine Gt.drew ?_) | (with_reducible refine Gt.set ?_ _ _) | (refine Gt.call ?_ hr (by with_reducible assumption)))))
      | fail)
    (first
      | (go_at_call 155; (with_reducible refine (c1 _ I0 (K1 _ (gt_of (by assumption)))).mono ?_); rintro e w1 ⟨A, c, rfl, hc, FA, t1, k1⟩)
      | (go_at_call 149; (with_reducible refine (c2 _ t1 (K2 _ (gt_of (by assumption)))).mono ?_); rintro e w2 ⟨B, d, rfl, hd, FB, t2, k2⟩)
      | fail)
  have hlt0 : w.heap.size < V0.heap.size := (D0.box 0).inside
  have hlt1 : w.heap.size < w1.heap.size := Nat.lt_of_lt_of_le hlt0 k1.size
  have D2 := (D0.drew.read t1 k1).read t2 k2
  have D3 := ((D2.wrote (by decide) (fun x hx => by simp at hx) 0 (.slice A L.length c)).wrote (by decide) (fun x hx => by simp at hx) 1 (.slice B M.length d))
  change Rp w g s2 [(w.heap.size, 38, dfB A L.length c B M.length d)] _ at D3
  have O3 := (((Off.refl (One w.heap.size) w2).set_ (p := ⟨w.heap.size, 0, none⟩) (Or.inl rfl) (.slice A L.length c)).set_ (p := ⟨w.heap.size, 1, none⟩) (Or.inl rfl) (.slice B M.length d))
  have FA0 : FRow chS w1 V0.heap.size A L := FA
  have FA2 := ((FA0.off k2 (by omega)).off O3 hlt0).less (Nat.le_of_lt hlt0)
  have FB2 := (FB.off O3 hlt1).less (Nat.le_of_lt hlt1)
  clear O3
  go_wp2
  generalize World.setCell (World.setCell w2 _ _) _ _ = Z at *
  have hb := D3.box 0
  have z0 : Z.cell? ⟨w.heap.size, 0, none⟩ = some (.slice A L.length c) := hb.read 0
  have z1 : Z.cell? ⟨w.heap.size, 1, none⟩ = some (.slice B M.length d) := hb.read 1
  exact bodyPost_ret (v := .agg (dfB A L.length c B M.length d)) (by simp [results, Tryz.results119, go_sem, z0, z1]) rfl ⟨A, c, B, d, rfl, hc, hd, FA2, FB2, D3.inS, D3.off⟩
end Go.Proofs.YtmflhodiibjpnaaGreatDoor
