/- Several of my texts, laid as one. -/
import Derived.Test.YtbhgcmdodjgpmaaDoorW14Keep
import Derived.Test.YtbhgcmdodjgpmaaDoorM13Nod
import Derived.Test.YtbhgcmdodjgpmaaDoorM14Pln
import Derived.Test.YtbhgcmdodjgpmaaDoorM14Cl
import Derived.Maps.OwnIn
import Derived.Deep.AppendLies
import Derived.Test.YtbhgcmdodjgpmaaDoorRows
import Derived.Test.YtbhgcmdodjgpmaaDoorW0Words
/-
  Package node's pairs, walked: the function that is ranged over goes over a row of nodes two by two.
-/
namespace Go.Proofs.YtbhgcmdodjgpmaaDoor
set_option linter.unusedVariables false
set_option linter.unusedSimpArgs false
set_option maxRecDepth 10000
open Go.RowKit Go.Shelf
attribute [local go_sem] Oper.semAt_some

/-- Two of these nodes. -/
abbrev PrOf (l : List Nd) := { x : Nd × Nd // x.1 ∈ l ∧ x.2 ∈ l }
set_option maxHeartbeats 1000000 in
theorem pairs_any (A : Option Addr) (n c : Nat) (w : World) : Calls Tryd.prog 56 #[.slice A n c] w fun e w' =>
    e = .returned (.func (.func 66) #[] #[.pointer (some ⟨w.heap.size, 0, none⟩)]) ∧ w' = w.alloc (.cells #[.slice A n c] 54) := by
  go_enter Tryd.func56, Tryd.ntmps56
  go_wp2
  go_ret
  exact ⟨by simp, rfl⟩
set_option maxRecDepth 100000 in
set_option maxHeartbeats 4000000 in
theorem pairs_in (D : Nat) (S : Nat → Prop) (n : Nat) (hn : 1 ≤ n) (l B1 : Nat) (A : Option Addr) (c m : Nat) (ys : List Nd) (hm : ys.length = m + m) (hmx : m ≤ 1000000)
    (J Jx : List (PrOf ys) → World → Prop) (W : World) (hDW : D ≤ W.heap.size) (hJ : AbidesFrom W.heap.size J)
    (hY : ∀ pre x W1, J pre W1 → pre.length < m → YieldAt Fence.wide (n - 1) Tryd.prog l #[x.1.1.val, x.1.2.val] W1 fun e W' =>
      (e = .returned (.bool true) ∧ J (pre ++ [x]) W' ∧ KpE D S W1 W') ∨ (e = .returned (.bool false) ∧ Jx (pre ++ [x]) W'))
    (hB1 : Box W B1 54 #[.slice A ys.length c]) (hR : ndS.Row W D A ys) (hl1 : B1 < D ∧ ¬ S B1) (hl4 : ∀ ad, A = some ad → 0 < ys.length → ¬ S ad.block)
    (h0 : J [] W) :
    CallsIn Fence.wide n Tryd.prog 66 #[.func (.yield l) #[] #[], .pointer (some ⟨B1, 0, none⟩)] W fun e W' => (∃ v, e = .returned v) ∧
      ((∃ xs, xs.map (·.1) = pairsK ys ∧ J xs W') ∨ (∃ pre, pre.map (·.1) <+: pairsK ys ∧ Jx pre W')) := by
  have hlk := pairsK_len m ys hm
  obtain ⟨N, hN⟩ : ∃ N, m + m = N := ⟨_, rfl⟩
  rw [hm, hN] at hB1
  refine callsIn_of_wp Tryd.func66 rfl trivial ?_ rfl
  simp only [Tryd.ntmps66, List.size_toArray, List.length_cons, List.length_nil, Nat.reduceAdd, Nat.reduceSub, Array.replicate_succ, Array.replicate_zero, List.push_toArray, List.append_toArray, List.nil_append, List.cons_append]
  gi_wp2
  gi_loopw [3] (fun i wr => ∃ (k : Nat) (pre : List (PrOf ys)), k ≤ m ∧ i = .int .i64 ((k + k : Nat) : Int) ∧ pre.map (·.1) = (pairsK ys).take k ∧ J pre wr ∧ KpE D S W wr)
    (fun i _ => m + m - (intOf i).toNat)
  case atStart => exact ⟨0, [], Nat.zero_le _, rfl, by simp, h0, KpE.refl _⟩
  case round =>
    obtain ⟨k, pre, hk, rfl, hpre, hJr, hKp⟩ := hrel
    have hpl : pre.length = k := by
      have h1 := congrArg List.length hpre
      rw [List.length_map, List.length_take, hlk] at h1
      omega
    have HPRE := hideIt hpre
    clear hpre
    have hB1r : Box wr B1 54 #[.slice A N c] := hKp.box hl1.1 hl1.2 hB1
    have c1 := hB1r.read 0
    have i1 := hB1r.inside
    obtain ⟨j, hj⟩ : ∃ j, k + k = j := ⟨_, rfl⟩
    obtain ⟨j1, hj1⟩ : ∃ j1, j + 1 = j1 := ⟨_, rfl⟩
    obtain ⟨j2, hj2⟩ : ∃ j2, k + 1 + (k + 1) = j2 := ⟨_, rfl⟩
    have hk1 : IntKind.i64.wrap ((j : Int) + 1) = (j1 : Int) := by rw [IntKind.wrap_i64]; omega
    have hk2 : IntKind.i64.wrap ((j : Int) + 2) = (j2 : Int) := by rw [IntKind.wrap_i64]; omega
    rw [hj]
    have HJ := hideIt hj
    have HJ1 := hideIt hj1
    have HJ2 := hideIt hj2
    have HN := hideIt hN
    by_cases hlt : k < m
    · obtain ⟨⟨xs, xh, xl⟩, hx⟩ : ∃ r, ys[j]? = some r := ⟨_, List.getElem?_eq_getElem (by omega)⟩
      obtain ⟨⟨zs, zh, zl⟩, hz⟩ : ∃ r, ys[j1]? = some r := ⟨_, List.getElem?_eq_getElem (by omega)⟩
      have htk := pairsK_at k ys _ _ (by rw [hj]; exact hx) (by rw [hj, hj1]; exact hz)
      have hrm : (⟨xs, xh, xl⟩ : Nd) ∈ ys ∧ (⟨zs, zh, zl⟩ : Nd) ∈ ys := ⟨List.mem_of_getElem? hx, List.mem_of_getElem? hz⟩
      obtain ⟨ad, hA, had, hRA⟩ := hR _ _ hx
      obtain ⟨ad', hA', had', hRB⟩ := hR _ _ hz
      subst hA
      injection hA' with hA'
      subst hA'
      have hbl := hKp.2 ad.block had (hl4 ad rfl (by omega))
      obtain ⟨p0, p1, p2⟩ := ndS_at (hRA.keep (w' := wr) (by rw [gen_block]; exact hbl))
      obtain ⟨q0, q1, q2⟩ := ndS_at (hRB.keep (w' := wr) (by rw [gen_block]; exact hbl))
      change wr.cell? (ad.add (j * 3)) = _ at p0
      change wr.cell? ⟨(ad.add (j * 3)).block, (ad.add (j * 3)).off + 1, none⟩ = _ at p1
      change wr.cell? ⟨(ad.add (j * 3)).block, (ad.add (j * 3)).off + 2, none⟩ = _ at p2
      change wr.cell? (ad.add (j1 * 3)) = _ at q0
      change wr.cell? ⟨(ad.add (j1 * 3)).block, (ad.add (j1 * 3)).off + 1, none⟩ = _ at q1
      change wr.cell? ⟨(ad.add (j1 * 3)).block, (ad.add (j1 * 3)).off + 2, none⟩ = _ at q2
      have hDr : D ≤ wr.heap.size := Nat.le_trans hDW hKp.1
      have hlti : (j1 : Int) < (N : Int) := by omega
      have hltj : (j : Int) < (N : Int) := by omega
      have p3 : (ad.add (j * 3)).block < wr.drew.heap.size := by rw [gen_block]; exact Nat.lt_of_lt_of_le had hDr
      have HTK := hideIt htk
      clear hx hz htk hRA hRB hj hj1 hj2 hN hbl
      refine wpIn_wide.2 ?_
      go_upto_region 3 with fail
      obtain ⟨fn, tmps, assign, body, hy, hRd⟩ := hY pre ⟨(⟨xs, xh, xl⟩, ⟨zs, zh, zl⟩), hrm⟩ wr.drew (abideE hJ hJr (Below.refl _ _).drew) (by omega)
      simp only [Nd.val] at hy
      have hKp := hKp.trans (KpE.drew wr)
      have c1 := (show Box wr.drew B1 54 #[.slice (some ad) N c] from hB1r).read 0
      have i1 := (show Box wr.drew B1 54 #[.slice (some ad) N c] from hB1r).inside
      have p0 : wr.drew.cell? (ad.add (j * 3)) = _ := p0
      have p1 : wr.drew.cell? ⟨(ad.add (j * 3)).block, (ad.add (j * 3)).off + 1, none⟩ = _ := p1
      have p2 : wr.drew.cell? ⟨(ad.add (j * 3)).block, (ad.add (j * 3)).off + 2, none⟩ = _ := p2
      have q0 : wr.drew.cell? (ad.add (j1 * 3)) = _ := q0
      have q1 : wr.drew.cell? ⟨(ad.add (j1 * 3)).block, (ad.add (j1 * 3)).off + 1, none⟩ = _ := q1
      have q2 : wr.drew.cell? ⟨(ad.add (j1 * 3)).block, (ad.add (j1 * 3)).off + 2, none⟩ = _ := q2
      refine (wpIn_wide (n := n)).1 ?_
      refine wpIn_region_any (by kernel_rfl) ?_
      change wpAnyIn _ _ _ _ _ _ _ _ _ (World.drew _)
      clear hB1r hJr
      generalize wr.drew = W2 at *
      refine wpAnyIn_take (i := 0) (v := ?_) rfl rfl (by kernel_rfl) (by kernel_rfl) (by kernel_rfl) (fun _ _ _ h => h) ⟨Or.inl ⟨by rfl, ?_⟩, fun _ => rfl⟩ ?_
      rotate_left 1
      · intro w; go_simp; try with_reducible rfl
      try simp only [Act.put, List.getElem_toArray, List.getElem_cons_succ, List.getElem_cons_zero, List.setIfInBounds_toArray, List.set_cons_zero, List.set_cons_succ]
      refine wpAnyIn_take (i := 2) (v := ?_) rfl rfl (by kernel_rfl) (by kernel_rfl) (by kernel_rfl) (fun _ _ _ h => h) ⟨Or.inl ⟨by rfl, ?_⟩, fun _ => rfl⟩ ?_
      rotate_left 1
      · intro w; go_simp; try with_reducible rfl
      try simp only [Act.put, List.getElem_toArray, List.getElem_cons_succ, List.getElem_cons_zero, List.setIfInBounds_toArray, List.set_cons_zero, List.set_cons_succ]
      refine wpAnyIn_take (i := 6) (v := ?_) rfl rfl (by kernel_rfl) (by kernel_rfl) (by kernel_rfl) (fun _ _ _ h => h) ⟨Or.inl ⟨by rfl, ?_⟩, fun _ => rfl⟩ ?_
      rotate_left 1
      · intro w; go_simp; try with_reducible rfl
      try simp only [Act.put, List.getElem_toArray, List.getElem_cons_succ, List.getElem_cons_zero, List.setIfInBounds_toArray, List.set_cons_zero, List.set_cons_succ]
      refine wpAnyIn_take (i := 7) (v := ?_) rfl rfl (by kernel_rfl) (by kernel_rfl) (by kernel_rfl) (fun _ _ _ h => h) ⟨Or.inl ⟨by rfl, ?_⟩, fun _ => rfl⟩ ?_
      rotate_left 1
      · intro w; go_simp; try with_reducible rfl
      try simp only [Act.put, List.getElem_toArray, List.getElem_cons_succ, List.getElem_cons_zero, List.setIfInBounds_toArray, List.set_cons_zero, List.set_cons_succ]
      refine wpAnyIn_ready (rs := [1, 5]) (by kernel_rfl) (by simp) (AllReadyIn.cons rfl (fun K hK => ?_) (AllReadyIn.cons rfl (fun K hK => ?_) AllReadyIn.nil))
      ·
        go_simp
        refine hK _ _ ?_
        clear hK K
        try simp only [Act.put, List.getElem_toArray, List.getElem_cons_succ, List.getElem_cons_zero, List.setIfInBounds_toArray, List.set_cons_zero, List.set_cons_succ]
        refine wpAnyIn_take (i := 3) (v := ?_) rfl rfl (by kernel_rfl) (by kernel_rfl) (by kernel_rfl) (fun _ _ _ h => h) ⟨Or.inl ⟨by rfl, ?_⟩, fun _ => rfl⟩ ?_
        rotate_left 1
        · intro w; go_simp; try with_reducible rfl
        try simp only [Act.put, List.getElem_toArray, List.getElem_cons_succ, List.getElem_cons_zero, List.setIfInBounds_toArray, List.set_cons_zero, List.set_cons_succ]
        refine wpAnyIn_ready (rs := [4, 5]) (by kernel_rfl) (by simp) (AllReadyIn.cons rfl (fun K hK => ?_) (AllReadyIn.cons rfl (fun K hK => ?_) AllReadyIn.nil))
        ·
          go_simp
          refine hK _ _ ?_
          clear hK K
          try simp only [Act.put, List.getElem_toArray, List.getElem_cons_succ, List.getElem_cons_zero, List.setIfInBounds_toArray, List.set_cons_zero, List.set_cons_succ]
          refine wpAnyIn_ready (rs := [5]) (by kernel_rfl) (by simp) (AllReadyIn.cons rfl (fun K hK => ?_) AllReadyIn.nil)
          go_simp
          refine hK _ _ ?_
          clear hK K
          try simp only [Act.put, List.getElem_toArray, List.getElem_cons_succ, List.getElem_cons_zero, List.setIfInBounds_toArray, List.set_cons_zero, List.set_cons_succ]
          refine wpAnyIn_take (i := 8) (v := ?_) rfl rfl (by kernel_rfl) (by kernel_rfl) (by kernel_rfl) (fun _ _ _ h => h) ⟨Or.inl ⟨by rfl, ?_⟩, fun _ => rfl⟩ ?_
          rotate_left 1
          · intro w; go_simp; try with_reducible rfl
          try simp only [Act.put, List.getElem_toArray, List.getElem_cons_succ, List.getElem_cons_zero, List.setIfInBounds_toArray, List.set_cons_zero, List.set_cons_succ]
          refine wpAnyIn_ready (rs := [9]) (by kernel_rfl) (by simp) (AllReadyIn.cons rfl (fun K hK => ?_) AllReadyIn.nil)
          go_simp
          refine hK _ _ ?_
          clear hK K
          try simp only [Act.put, List.getElem_toArray, List.getElem_cons_succ, List.getElem_cons_zero, List.setIfInBounds_toArray, List.set_cons_zero, List.set_cons_succ]
          refine wpAnyIn_ready (rs := [10]) (by kernel_rfl) (by simp) (AllReadyIn.cons rfl (fun K hK => ?_) AllReadyIn.nil)
          go_simp
          refine hRd.mono ?_
          rintro e W3 (⟨rfl, hJ3, hKp3⟩ | ⟨rfl, hJx3⟩)
          · refine hK _ _ ?_
            clear hK K
            try simp only [Act.put, List.getElem_toArray, List.getElem_cons_succ, List.getElem_cons_zero, List.setIfInBounds_toArray, List.set_cons_zero, List.set_cons_succ]
            refine wpAnyIn_take (i := 11) (v := ?_) rfl rfl (by kernel_rfl) (by kernel_rfl) (by kernel_rfl) (fun _ _ _ h => h) ⟨Or.inl ⟨by rfl, ?_⟩, fun _ => rfl⟩ ?_
            rotate_left 1
            · intro w; go_simp; try with_reducible rfl
            try simp only [Act.put, List.getElem_toArray, List.getElem_cons_succ, List.getElem_cons_zero, List.setIfInBounds_toArray, List.set_cons_zero, List.set_cons_succ]
            refine wpAnyIn_done (by kernel_rfl) ?_ _
            go_wp2
            go_roundw
            case rel => exact ⟨k + 1, pre ++ [⟨(⟨xs, xh, xl⟩, ⟨zs, zh, zl⟩), hrm⟩], by omega, by rw [HJ2.out], by rw [List.map_append, HPRE.out, List.take_add_one, HTK.out]; rfl, hJ3, hKp.trans hKp3⟩
            case measure => have := HJ.out; have := HJ2.out; have := HN.out; simp [intOf]; omega
          · refine hK _ _ ?_
            clear hK K
            try simp only [Act.put, List.getElem_toArray, List.getElem_cons_succ, List.getElem_cons_zero, List.setIfInBounds_toArray, List.set_cons_zero, List.set_cons_succ]
            refine wpAnyIn_take (i := 11) (v := ?_) rfl rfl (by kernel_rfl) (by kernel_rfl) (by kernel_rfl) (fun _ _ _ h => h) ⟨Or.inl ⟨by rfl, ?_⟩, fun _ => rfl⟩ ?_
            rotate_left 1
            · intro w; go_simp; try with_reducible rfl
            try simp only [Act.put, List.getElem_toArray, List.getElem_cons_succ, List.getElem_cons_zero, List.setIfInBounds_toArray, List.set_cons_zero, List.set_cons_succ]
            refine wpAnyIn_done (by kernel_rfl) ?_ _
            go_wp2
            refine bodyPost_ret (results_none rfl _ _ _) rfl ?_
            refine ⟨⟨_, rfl⟩, .inr ⟨_, ?_, hJx3⟩⟩
            rw [List.map_append, HPRE.out]
            exact ⟨(pairsK ys).drop (k + 1), by rw [show (List.map (fun x : PrOf ys => x.1) [⟨(⟨xs, xh, xl⟩, ⟨zs, zh, zl⟩), hrm⟩]) = (pairsK ys)[k]?.toList by rw [HTK.out]; rfl, ← List.take_add_one, List.take_append_drop]⟩
        ·
          go_simp
          refine hK _ _ ?_
          clear hK K
          try simp only [Act.put, List.getElem_toArray, List.getElem_cons_succ, List.getElem_cons_zero, List.setIfInBounds_toArray, List.set_cons_zero, List.set_cons_succ]
          refine wpAnyIn_take (i := 8) (v := ?_) rfl rfl (by kernel_rfl) (by kernel_rfl) (by kernel_rfl) (fun _ _ _ h => h) ⟨Or.inl ⟨by rfl, ?_⟩, fun _ => rfl⟩ ?_
          rotate_left 1
          · intro w; go_simp; try with_reducible rfl
          try simp only [Act.put, List.getElem_toArray, List.getElem_cons_succ, List.getElem_cons_zero, List.setIfInBounds_toArray, List.set_cons_zero, List.set_cons_succ]
          refine wpAnyIn_ready (rs := [4, 9]) (by kernel_rfl) (by simp) (AllReadyIn.cons rfl (fun K hK => ?_) (AllReadyIn.cons rfl (fun K hK => ?_) AllReadyIn.nil))
          ·
            go_simp
            refine hK _ _ ?_
            clear hK K
            try simp only [Act.put, List.getElem_toArray, List.getElem_cons_succ, List.getElem_cons_zero, List.setIfInBounds_toArray, List.set_cons_zero, List.set_cons_succ]
            refine wpAnyIn_ready (rs := [9]) (by kernel_rfl) (by simp) (AllReadyIn.cons rfl (fun K hK => ?_) AllReadyIn.nil)
            go_simp
            refine hK _ _ ?_
            clear hK K
            try simp only [Act.put, List.getElem_toArray, List.getElem_cons_succ, List.getElem_cons_zero, List.setIfInBounds_toArray, List.set_cons_zero, List.set_cons_succ]
            refine wpAnyIn_ready (rs := [10]) (by kernel_rfl) (by simp) (AllReadyIn.cons rfl (fun K hK => ?_) AllReadyIn.nil)
            go_simp
            refine hRd.mono ?_
            rintro e W3 (⟨rfl, hJ3, hKp3⟩ | ⟨rfl, hJx3⟩)
            · refine hK _ _ ?_
              clear hK K
              try simp only [Act.put, List.getElem_toArray, List.getElem_cons_succ, List.getElem_cons_zero, List.setIfInBounds_toArray, List.set_cons_zero, List.set_cons_succ]
              refine wpAnyIn_take (i := 11) (v := ?_) rfl rfl (by kernel_rfl) (by kernel_rfl) (by kernel_rfl) (fun _ _ _ h => h) ⟨Or.inl ⟨by rfl, ?_⟩, fun _ => rfl⟩ ?_
              rotate_left 1
              · intro w; go_simp; try with_reducible rfl
              try simp only [Act.put, List.getElem_toArray, List.getElem_cons_succ, List.getElem_cons_zero, List.setIfInBounds_toArray, List.set_cons_zero, List.set_cons_succ]
              refine wpAnyIn_done (by kernel_rfl) ?_ _
              go_wp2
              go_roundw
              case rel => exact ⟨k + 1, pre ++ [⟨(⟨xs, xh, xl⟩, ⟨zs, zh, zl⟩), hrm⟩], by omega, by rw [HJ2.out], by rw [List.map_append, HPRE.out, List.take_add_one, HTK.out]; rfl, hJ3, hKp.trans hKp3⟩
              case measure => have := HJ.out; have := HJ2.out; have := HN.out; simp [intOf]; omega
            · refine hK _ _ ?_
              clear hK K
              try simp only [Act.put, List.getElem_toArray, List.getElem_cons_succ, List.getElem_cons_zero, List.setIfInBounds_toArray, List.set_cons_zero, List.set_cons_succ]
              refine wpAnyIn_take (i := 11) (v := ?_) rfl rfl (by kernel_rfl) (by kernel_rfl) (by kernel_rfl) (fun _ _ _ h => h) ⟨Or.inl ⟨by rfl, ?_⟩, fun _ => rfl⟩ ?_
              rotate_left 1
              · intro w; go_simp; try with_reducible rfl
              try simp only [Act.put, List.getElem_toArray, List.getElem_cons_succ, List.getElem_cons_zero, List.setIfInBounds_toArray, List.set_cons_zero, List.set_cons_succ]
              refine wpAnyIn_done (by kernel_rfl) ?_ _
              go_wp2
              refine bodyPost_ret (results_none rfl _ _ _) rfl ?_
              refine ⟨⟨_, rfl⟩, .inr ⟨_, ?_, hJx3⟩⟩
              rw [List.map_append, HPRE.out]
              exact ⟨(pairsK ys).drop (k + 1), by rw [show (List.map (fun x : PrOf ys => x.1) [⟨(⟨xs, xh, xl⟩, ⟨zs, zh, zl⟩), hrm⟩]) = (pairsK ys)[k]?.toList by rw [HTK.out]; rfl, ← List.take_add_one, List.take_append_drop]⟩
          ·
            go_simp
            refine hK _ _ ?_
            clear hK K
            try simp only [Act.put, List.getElem_toArray, List.getElem_cons_succ, List.getElem_cons_zero, List.setIfInBounds_toArray, List.set_cons_zero, List.set_cons_succ]
            refine wpAnyIn_ready (rs := [4]) (by kernel_rfl) (by simp) (AllReadyIn.cons rfl (fun K hK => ?_) AllReadyIn.nil)
            go_simp
            refine hK _ _ ?_
            clear hK K
            try simp only [Act.put, List.getElem_toArray, List.getElem_cons_succ, List.getElem_cons_zero, List.setIfInBounds_toArray, List.set_cons_zero, List.set_cons_succ]
            refine wpAnyIn_ready (rs := [10]) (by kernel_rfl) (by simp) (AllReadyIn.cons rfl (fun K hK => ?_) AllReadyIn.nil)
            go_simp
            refine hRd.mono ?_
            rintro e W3 (⟨rfl, hJ3, hKp3⟩ | ⟨rfl, hJx3⟩)
            · refine hK _ _ ?_
              clear hK K
              try simp only [Act.put, List.getElem_toArray, List.getElem_cons_succ, List.getElem_cons_zero, List.setIfInBounds_toArray, List.set_cons_zero, List.set_cons_succ]
              refine wpAnyIn_take (i := 11) (v := ?_) rfl rfl (by kernel_rfl) (by kernel_rfl) (by kernel_rfl) (fun _ _ _ h => h) ⟨Or.inl ⟨by rfl, ?_⟩, fun _ => rfl⟩ ?_
              rotate_left 1
              · intro w; go_simp; try with_reducible rfl
              try simp only [Act.put, List.getElem_toArray, List.getElem_cons_succ, List.getElem_cons_zero, List.setIfInBounds_toArray, List.set_cons_zero, List.set_cons_succ]
              refine wpAnyIn_done (by kernel_rfl) ?_ _
              go_wp2
              go_roundw
              case rel => exact ⟨k + 1, pre ++ [⟨(⟨xs, xh, xl⟩, ⟨zs, zh, zl⟩), hrm⟩], by omega, by rw [HJ2.out], by rw [List.map_append, HPRE.out, List.take_add_one, HTK.out]; rfl, hJ3, hKp.trans hKp3⟩
              case measure => have := HJ.out; have := HJ2.out; have := HN.out; simp [intOf]; omega
            · refine hK _ _ ?_
              clear hK K
              try simp only [Act.put, List.getElem_toArray, List.getElem_cons_succ, List.getElem_cons_zero, List.setIfInBounds_toArray, List.set_cons_zero, List.set_cons_succ]
              refine wpAnyIn_take (i := 11) (v := ?_) rfl rfl (by kernel_rfl) (by kernel_rfl) (by kernel_rfl) (fun _ _ _ h => h) ⟨Or.inl ⟨by rfl, ?_⟩, fun _ => rfl⟩ ?_
              rotate_left 1
              · intro w; go_simp; try with_reducible rfl
              try simp only [Act.put, List.getElem_toArray, List.getElem_cons_succ, List.getElem_cons_zero, List.setIfInBounds_toArray, List.set_cons_zero, List.set_cons_succ]
              refine wpAnyIn_done (by kernel_rfl) ?_ _
              go_wp2
              refine bodyPost_ret (results_none rfl _ _ _) rfl ?_
              refine ⟨⟨_, rfl⟩, .inr ⟨_, ?_, hJx3⟩⟩
              rw [List.map_append, HPRE.out]
              exact ⟨(pairsK ys).drop (k + 1), by rw [show (List.map (fun x : PrOf ys => x.1) [⟨(⟨xs, xh, xl⟩, ⟨zs, zh, zl⟩), hrm⟩]) = (pairsK ys)[k]?.toList by rw [HTK.out]; rfl, ← List.take_add_one, List.take_append_drop]⟩
      ·
        go_simp
        refine hK _ _ ?_
        clear hK K
        try simp only [Act.put, List.getElem_toArray, List.getElem_cons_succ, List.getElem_cons_zero, List.setIfInBounds_toArray, List.set_cons_zero, List.set_cons_succ]
        refine wpAnyIn_take (i := 8) (v := ?_) rfl rfl (by kernel_rfl) (by kernel_rfl) (by kernel_rfl) (fun _ _ _ h => h) ⟨Or.inl ⟨by rfl, ?_⟩, fun _ => rfl⟩ ?_
        rotate_left 1
        · intro w; go_simp; try with_reducible rfl
        try simp only [Act.put, List.getElem_toArray, List.getElem_cons_succ, List.getElem_cons_zero, List.setIfInBounds_toArray, List.set_cons_zero, List.set_cons_succ]
        refine wpAnyIn_ready (rs := [1, 9]) (by kernel_rfl) (by simp) (AllReadyIn.cons rfl (fun K hK => ?_) (AllReadyIn.cons rfl (fun K hK => ?_) AllReadyIn.nil))
        ·
          go_simp
          refine hK _ _ ?_
          clear hK K
          try simp only [Act.put, List.getElem_toArray, List.getElem_cons_succ, List.getElem_cons_zero, List.setIfInBounds_toArray, List.set_cons_zero, List.set_cons_succ]
          refine wpAnyIn_take (i := 3) (v := ?_) rfl rfl (by kernel_rfl) (by kernel_rfl) (by kernel_rfl) (fun _ _ _ h => h) ⟨Or.inl ⟨by rfl, ?_⟩, fun _ => rfl⟩ ?_
          rotate_left 1
          · intro w; go_simp; try with_reducible rfl
          try simp only [Act.put, List.getElem_toArray, List.getElem_cons_succ, List.getElem_cons_zero, List.setIfInBounds_toArray, List.set_cons_zero, List.set_cons_succ]
          refine wpAnyIn_ready (rs := [4, 9]) (by kernel_rfl) (by simp) (AllReadyIn.cons rfl (fun K hK => ?_) (AllReadyIn.cons rfl (fun K hK => ?_) AllReadyIn.nil))
          ·
            go_simp
            refine hK _ _ ?_
            clear hK K
            try simp only [Act.put, List.getElem_toArray, List.getElem_cons_succ, List.getElem_cons_zero, List.setIfInBounds_toArray, List.set_cons_zero, List.set_cons_succ]
            refine wpAnyIn_ready (rs := [9]) (by kernel_rfl) (by simp) (AllReadyIn.cons rfl (fun K hK => ?_) AllReadyIn.nil)
            go_simp
            refine hK _ _ ?_
            clear hK K
            try simp only [Act.put, List.getElem_toArray, List.getElem_cons_succ, List.getElem_cons_zero, List.setIfInBounds_toArray, List.set_cons_zero, List.set_cons_succ]
            refine wpAnyIn_ready (rs := [10]) (by kernel_rfl) (by simp) (AllReadyIn.cons rfl (fun K hK => ?_) AllReadyIn.nil)
            go_simp
            refine hRd.mono ?_
            rintro e W3 (⟨rfl, hJ3, hKp3⟩ | ⟨rfl, hJx3⟩)
            · refine hK _ _ ?_
              clear hK K
              try simp only [Act.put, List.getElem_toArray, List.getElem_cons_succ, List.getElem_cons_zero, List.setIfInBounds_toArray, List.set_cons_zero, List.set_cons_succ]
              refine wpAnyIn_take (i := 11) (v := ?_) rfl rfl (by kernel_rfl) (by kernel_rfl) (by kernel_rfl) (fun _ _ _ h => h) ⟨Or.inl ⟨by rfl, ?_⟩, fun _ => rfl⟩ ?_
              rotate_left 1
              · intro w; go_simp; try with_reducible rfl
              try simp only [Act.put, List.getElem_toArray, List.getElem_cons_succ, List.getElem_cons_zero, List.setIfInBounds_toArray, List.set_cons_zero, List.set_cons_succ]
              refine wpAnyIn_done (by kernel_rfl) ?_ _
              go_wp2
              go_roundw
              case rel => exact ⟨k + 1, pre ++ [⟨(⟨xs, xh, xl⟩, ⟨zs, zh, zl⟩), hrm⟩], by omega, by rw [HJ2.out], by rw [List.map_append, HPRE.out, List.take_add_one, HTK.out]; rfl, hJ3, hKp.trans hKp3⟩
              case measure => have := HJ.out; have := HJ2.out; have := HN.out; simp [intOf]; omega
            · refine hK _ _ ?_
              clear hK K
              try simp only [Act.put, List.getElem_toArray, List.getElem_cons_succ, List.getElem_cons_zero, List.setIfInBounds_toArray, List.set_cons_zero, List.set_cons_succ]
              refine wpAnyIn_take (i := 11) (v := ?_) rfl rfl (by kernel_rfl) (by kernel_rfl) (by kernel_rfl) (fun _ _ _ h => h) ⟨Or.inl ⟨by rfl, ?_⟩, fun _ => rfl⟩ ?_
              rotate_left 1
              · intro w; go_simp; try with_reducible rfl
              try simp only [Act.put, List.getElem_toArray, List.getElem_cons_succ, List.getElem_cons_zero, List.setIfInBounds_toArray, List.set_cons_zero, List.set_cons_succ]
              refine wpAnyIn_done (by kernel_rfl) ?_ _
              go_wp2
              refine bodyPost_ret (results_none rfl _ _ _) rfl ?_
              refine ⟨⟨_, rfl⟩, .inr ⟨_, ?_, hJx3⟩⟩
              rw [List.map_append, HPRE.out]
              exact ⟨(pairsK ys).drop (k + 1), by rw [show (List.map (fun x : PrOf ys => x.1) [⟨(⟨xs, xh, xl⟩, ⟨zs, zh, zl⟩), hrm⟩]) = (pairsK ys)[k]?.toList by rw [HTK.out]; rfl, ← List.take_add_one, List.take_append_drop]⟩
          ·
            go_simp
            refine hK _ _ ?_
            clear hK K
            try simp only [Act.put, List.getElem_toArray, List.getElem_cons_succ, List.getElem_cons_zero, List.setIfInBounds_toArray, List.set_cons_zero, List.set_cons_succ]
            refine wpAnyIn_ready (rs := [4]) (by kernel_rfl) (by simp) (AllReadyIn.cons rfl (fun K hK => ?_) AllReadyIn.nil)
            go_simp
            refine hK _ _ ?_
            clear hK K
            try simp only [Act.put, List.getElem_toArray, List.getElem_cons_succ, List.getElem_cons_zero, List.setIfInBounds_toArray, List.set_cons_zero, List.set_cons_succ]
            refine wpAnyIn_ready (rs := [10]) (by kernel_rfl) (by simp) (AllReadyIn.cons rfl (fun K hK => ?_) AllReadyIn.nil)
            go_simp
            refine hRd.mono ?_
            rintro e W3 (⟨rfl, hJ3, hKp3⟩ | ⟨rfl, hJx3⟩)
            · refine hK _ _ ?_
              clear hK K
              try simp only [Act.put, List.getElem_toArray, List.getElem_cons_succ, List.getElem_cons_zero, List.setIfInBounds_toArray, List.set_cons_zero, List.set_cons_succ]
              refine wpAnyIn_take (i := 11) (v := ?_) rfl rfl (by kernel_rfl) (by kernel_rfl) (by kernel_rfl) (fun _ _ _ h => h) ⟨Or.inl ⟨by rfl, ?_⟩, fun _ => rfl⟩ ?_
              rotate_left 1
              · intro w; go_simp; try with_reducible rfl
              try simp only [Act.put, List.getElem_toArray, List.getElem_cons_succ, List.getElem_cons_zero, List.setIfInBounds_toArray, List.set_cons_zero, List.set_cons_succ]
              refine wpAnyIn_done (by kernel_rfl) ?_ _
              go_wp2
              go_roundw
              case rel => exact ⟨k + 1, pre ++ [⟨(⟨xs, xh, xl⟩, ⟨zs, zh, zl⟩), hrm⟩], by omega, by rw [HJ2.out], by rw [List.map_append, HPRE.out, List.take_add_one, HTK.out]; rfl, hJ3, hKp.trans hKp3⟩
              case measure => have := HJ.out; have := HJ2.out; have := HN.out; simp [intOf]; omega
            · refine hK _ _ ?_
              clear hK K
              try simp only [Act.put, List.getElem_toArray, List.getElem_cons_succ, List.getElem_cons_zero, List.setIfInBounds_toArray, List.set_cons_zero, List.set_cons_succ]
              refine wpAnyIn_take (i := 11) (v := ?_) rfl rfl (by kernel_rfl) (by kernel_rfl) (by kernel_rfl) (fun _ _ _ h => h) ⟨Or.inl ⟨by rfl, ?_⟩, fun _ => rfl⟩ ?_
              rotate_left 1
              · intro w; go_simp; try with_reducible rfl
              try simp only [Act.put, List.getElem_toArray, List.getElem_cons_succ, List.getElem_cons_zero, List.setIfInBounds_toArray, List.set_cons_zero, List.set_cons_succ]
              refine wpAnyIn_done (by kernel_rfl) ?_ _
              go_wp2
              refine bodyPost_ret (results_none rfl _ _ _) rfl ?_
              refine ⟨⟨_, rfl⟩, .inr ⟨_, ?_, hJx3⟩⟩
              rw [List.map_append, HPRE.out]
              exact ⟨(pairsK ys).drop (k + 1), by rw [show (List.map (fun x : PrOf ys => x.1) [⟨(⟨xs, xh, xl⟩, ⟨zs, zh, zl⟩), hrm⟩]) = (pairsK ys)[k]?.toList by rw [HTK.out]; rfl, ← List.take_add_one, List.take_append_drop]⟩
        ·
          go_simp
          refine hK _ _ ?_
          clear hK K
          try simp only [Act.put, List.getElem_toArray, List.getElem_cons_succ, List.getElem_cons_zero, List.setIfInBounds_toArray, List.set_cons_zero, List.set_cons_succ]
          refine wpAnyIn_ready (rs := [1]) (by kernel_rfl) (by simp) (AllReadyIn.cons rfl (fun K hK => ?_) AllReadyIn.nil)
          go_simp
          refine hK _ _ ?_
          clear hK K
          try simp only [Act.put, List.getElem_toArray, List.getElem_cons_succ, List.getElem_cons_zero, List.setIfInBounds_toArray, List.set_cons_zero, List.set_cons_succ]
          refine wpAnyIn_take (i := 3) (v := ?_) rfl rfl (by kernel_rfl) (by kernel_rfl) (by kernel_rfl) (fun _ _ _ h => h) ⟨Or.inl ⟨by rfl, ?_⟩, fun _ => rfl⟩ ?_
          rotate_left 1
          · intro w; go_simp; try with_reducible rfl
          try simp only [Act.put, List.getElem_toArray, List.getElem_cons_succ, List.getElem_cons_zero, List.setIfInBounds_toArray, List.set_cons_zero, List.set_cons_succ]
          refine wpAnyIn_ready (rs := [4]) (by kernel_rfl) (by simp) (AllReadyIn.cons rfl (fun K hK => ?_) AllReadyIn.nil)
          go_simp
          refine hK _ _ ?_
          clear hK K
          try simp only [Act.put, List.getElem_toArray, List.getElem_cons_succ, List.getElem_cons_zero, List.setIfInBounds_toArray, List.set_cons_zero, List.set_cons_succ]
          refine wpAnyIn_ready (rs := [10]) (by kernel_rfl) (by simp) (AllReadyIn.cons rfl (fun K hK => ?_) AllReadyIn.nil)
          go_simp
          refine hRd.mono ?_
          rintro e W3 (⟨rfl, hJ3, hKp3⟩ | ⟨rfl, hJx3⟩)
          · refine hK _ _ ?_
            clear hK K
            try simp only [Act.put, List.getElem_toArray, List.getElem_cons_succ, List.getElem_cons_zero, List.setIfInBounds_toArray, List.set_cons_zero, List.set_cons_succ]
            refine wpAnyIn_take (i := 11) (v := ?_) rfl rfl (by kernel_rfl) (by kernel_rfl) (by kernel_rfl) (fun _ _ _ h => h) ⟨Or.inl ⟨by rfl, ?_⟩, fun _ => rfl⟩ ?_
            rotate_left 1
            · intro w; go_simp; try with_reducible rfl
            try simp only [Act.put, List.getElem_toArray, List.getElem_cons_succ, List.getElem_cons_zero, List.setIfInBounds_toArray, List.set_cons_zero, List.set_cons_succ]
            refine wpAnyIn_done (by kernel_rfl) ?_ _
            go_wp2
            go_roundw
            case rel => exact ⟨k + 1, pre ++ [⟨(⟨xs, xh, xl⟩, ⟨zs, zh, zl⟩), hrm⟩], by omega, by rw [HJ2.out], by rw [List.map_append, HPRE.out, List.take_add_one, HTK.out]; rfl, hJ3, hKp.trans hKp3⟩
            case measure => have := HJ.out; have := HJ2.out; have := HN.out; simp [intOf]; omega
          · refine hK _ _ ?_
            clear hK K
            try simp only [Act.put, List.getElem_toArray, List.getElem_cons_succ, List.getElem_cons_zero, List.setIfInBounds_toArray, List.set_cons_zero, List.set_cons_succ]
            refine wpAnyIn_take (i := 11) (v := ?_) rfl rfl (by kernel_rfl) (by kernel_rfl) (by kernel_rfl) (fun _ _ _ h => h) ⟨Or.inl ⟨by rfl, ?_⟩, fun _ => rfl⟩ ?_
            rotate_left 1
            · intro w; go_simp; try with_reducible rfl
            try simp only [Act.put, List.getElem_toArray, List.getElem_cons_succ, List.getElem_cons_zero, List.setIfInBounds_toArray, List.set_cons_zero, List.set_cons_succ]
            refine wpAnyIn_done (by kernel_rfl) ?_ _
            go_wp2
            refine bodyPost_ret (results_none rfl _ _ _) rfl ?_
            refine ⟨⟨_, rfl⟩, .inr ⟨_, ?_, hJx3⟩⟩
            rw [List.map_append, HPRE.out]
            exact ⟨(pairsK ys).drop (k + 1), by rw [show (List.map (fun x : PrOf ys => x.1) [⟨(⟨xs, xh, xl⟩, ⟨zs, zh, zl⟩), hrm⟩]) = (pairsK ys)[k]?.toList by rw [HTK.out]; rfl, ← List.take_add_one, List.take_append_drop]⟩
    · have e : k = m := by omega
      subst e
      have hlti : ¬ ((j1 : Int) < (N : Int)) := by omega
      have hp := HPRE.out
      rw [List.take_of_length_le (by omega)] at hp
      have HP2 := hideIt hp
      clear hp
      gi_wp2
      go_end0
      exact ⟨⟨_, rfl⟩, .inl ⟨pre, HP2.out, hJr⟩⟩
end Go.Proofs.YtbhgcmdodjgpmaaDoor
/-
  Package node's joinAll, walked: a level up.
-/
namespace Go.Proofs.YtbhgcmdodjgpmaaDoor
set_option linter.unusedVariables false
set_option linter.unusedSimpArgs false
set_option maxRecDepth 10000
open Go.RowKit Go.Shelf
attribute [local go_sem] Oper.semAt_some

theorem info_nd : (Tryd.prog.info? 36).map (fun i => (i.zero, i.size, i.bytes)) = some (some (.agg #[.string ⟨#[]⟩, .int .u64 0, .int .u64 0]), 3, 32) := by kernel_rfl
/-- What a level up keeps: the results' cells, the width; where the new level is kept, and the new level. -/
def JaH (w : World) (n : Int) (W : World) : Prop := Has w [(w.heap.size + 2, 44, #[.int .i64 0]), (w.heap.size + 1, 54, #[.slice none 0 0]), (w.heap.size, 3, #[.int .i64 n])] W
def JaI (w : World) (H : Nat) (n : Int) (pre : List (Nd × Nd)) (W : World) : Prop :=
  H ≤ W.heap.size ∧ okP n pre = true ∧ JaH w n W ∧ ∃ v, Box W (w.heap.size + 4) 54 #[v] ∧ W.ownsRow (w.heap.size + 3) 36 3 v pre.length (ndS.flat (joinP n pre)) ∧ ∀ r, v.ownBlock = some r → r = w.heap.size + 3 ∨ H ≤ r
theorem JaI.call {w W W' : World} {H : Nat} {n : Int} {pre : List (Nd × Nd)} (h : JaI w H n pre W) (hb : Below W.heap.size W W') : JaI w H n pre W' := by
  obtain ⟨h1, h2, h3, v, h4, h5, h6⟩ := h
  exact ⟨Nat.le_trans h1 hb.size, h2, h3.call hb, v, h4.call hb, own_below h5 hb, h6⟩
set_option maxRecDepth 100000 in
set_option maxHeartbeats 8000000 in
theorem joinAll14_any (n : Int) (hmw : mayW n = true) (A : Option Addr) (c m : Nat) (ys : List Nd) (hm : ys.length = m + m) (hmx : m ≤ 1000000) (hy : ∀ x ∈ ys, x.of n = true ∧ x.halved)
    (w : World) (hR : ndS.Row w w.heap.size A ys) (hT : Tab w) :
    Calls Tryd.prog 42 #[.int .i64 n, .slice A ys.length c] w fun e w' => Below w.heap.size w w' ∧
      ((okP n (pairsK ys) = true ∧ ∃ A' c', e = .returned (.tuple #[.slice A' m c', .int .i64 0]) ∧ ndS.Row w' w'.heap.size A' (pairL n ys)) ∨ (okP n (pairsK ys) = false ∧ e = .returned (.tuple #[.slice none 0 0, .int .i64 10]))) := by
  have cP := fun u => pairs_any A ys.length c u
  obtain ⟨cs, hcs, hmk⟩ : ∃ cs : Array Value, cs.size = m * 3 ∧ ∀ u, (Instr.makeSlice 54 (.int .i64 0) (.int .i64 (m : Int))).run Tryd.prog u = .ok (.slice (some ⟨u.heap.size, 0, none⟩) 0 m) (u.alloc (.cells cs 36)) := by
    obtain ⟨i0, hi, hz0, hz1, hz2⟩ := info_parts info_nd
    refine ⟨madeCells #[.string ⟨#[]⟩, .int .u64 0, .int .u64 0] (m * 3), by simp [madeCells], fun u => by
      have h := run_make (P := Tryd.prog) u 54 36 i0 _ Tryd.underlying54 hi hz0 .i64 .i64 (0 : Int) (m : Int) (by omega) (by omega) (by rw [hz2]; omega) (by omega)
      rw [hz1, Int.toNat_natCast] at h
      exact h⟩
  obtain ⟨N, hN⟩ : ∃ N, ys.length = N := ⟨_, rfl⟩
  rw [hN] at cP ⊢
  have hq2 : (N : Int) / 2 = (m : Int) := by omega
  have H0 := (((Has.start w).add 3 #[.int .i64 n]).addAt 54 #[.slice none 0 0] (g := w.heap.size + 1) (by simp)).addAt 44 #[.int .i64 0] (g := w.heap.size + 1 + 1) (by simp)
  refine (callsIn_wide (n := 9)).1 (callsIn_of_wp_marks Tryd.func42 rfl trivial ?_ rfl)
  simp only [Tryd.ntmps42, List.size_toArray, List.length_cons, List.length_nil, Nat.reduceAdd, Nat.reduceSub, Array.replicate_succ, Array.replicate_zero, List.push_toArray, List.append_toArray, List.nil_append, List.cons_append]
  refine wpIn_wide.2 ?_
  refine Code.wp_mono (noPan_to _) ?_
  go_upto_region 1 with fail
  change Code.wp _ _ _ _ (((w.alloc (.cells #[.int .i64 n] 3)).alloc (.cells #[.slice none 0 0] 54)).alloc (.cells #[.int .i64 0] 44))
  have hW0 : (((w.alloc (.cells #[.int .i64 n] 3)).alloc (.cells #[.slice none 0 0] 54)).alloc (.cells #[.int .i64 0] 44)).heap.size = w.heap.size + 3 := by simp
  generalize ((w.alloc (.cells #[.int .i64 n] 3)).alloc (.cells #[.slice none 0 0] 54)).alloc (.cells #[.int .i64 0] 44) = W0 at *
  simp only [Nat.add_assoc, Nat.reduceAdd] at H0 ⊢
  have HW0 := hideIt hW0
  clear hW0
  go_upto_region 2 with fail
  have e0 := HW0.out
  have r0 := World.ownsRow_made (base := w.heap.size + 3) (e := 36) (size := 3) W0 cs m (by omega) (by unfold maxLen; omega) hcs
  have b0 := Box.made (W0.alloc (.cells cs 36)) 54 #[.slice (some ⟨W0.heap.size, 0, none⟩) 0 m]
  rw [World.size_alloc] at b0
  have H1 := (H0.past (.cells cs 36)).past (.cells #[.slice (some ⟨W0.heap.size, 0, none⟩) 0 m] 54)
  have r1 := r0.alloc (.cells #[.slice (some ⟨W0.heap.size, 0, none⟩) 0 m] 54)
  have hW1 : ((W0.alloc (.cells cs 36)).alloc (.cells #[.slice (some ⟨W0.heap.size, 0, none⟩) 0 m] 54)).heap.size = w.heap.size + 5 := by simp [e0]
  rw [e0] at b0 H1 r1 hW1 ⊢
  simp only [Nat.add_assoc, Nat.reduceAdd] at b0 ⊢
  generalize (W0.alloc (.cells cs 36)).alloc (.cells #[.slice (some ⟨w.heap.size + 3, 0, none⟩) 0 m] 54) = W1 at *
  clear r0 H0 HW0 e0 hmk
  have HW1 := hideIt hW1
  clear hW1
  go_wp2_with (first
    | (go_at_call 56; refine (cP _).mono ?_; rintro e v1 ⟨rfl, rfl⟩)
    | fail)
  have e1 := HW1.out
  have bxR := Box.made W1 54 #[.slice A N c]
  have LY := chainA (Below.refl W1.heap.size W1) (.cells #[.slice A N c] 54)
  have KY := H1.call LY
  have RY := hR.call KY.below
  have r2 := r1.alloc (.cells #[.slice A N c] 54)
  have b2 := b0.past (.cells #[.slice A N c] 54)
  have hYs : (W1.alloc (.cells #[.slice A N c] 54)).heap.size = w.heap.size + 6 := by simp [e1]
  rw [e1] at bxR ⊢
  generalize W1.alloc (.cells #[.slice A N c] 54) = Y at *
  clear LY H1 cP HW1 e1 r1 b0
  have hTY := hT.call KY.below
  have hAS : ∀ ad, A = some ad → 0 < ys.length → ad.block < w.heap.size := fun ad e h0 => by
    obtain ⟨r, hr⟩ : ∃ r, ys[0]? = some r := ⟨_, List.getElem?_eq_getElem h0⟩
    obtain ⟨ad', e', h', -⟩ := hR 0 r hr
    rw [e] at e'
    injection e' with e'
    rw [e']
    exact h'
  refine (wpIn_wide (n := 9)).1 ?_
  refine wpIn_rangeFunc_ownH (F := Fence.wide) (n := 9) rfl (by decide) (gf := 66) (lb := #[.pointer (some ⟨w.heap.size + 5, 0, none⟩)]) rfl trivial (enters_of Tryd.func66 (by kernel_rfl) rfl)
    (encs := fun x : PrOf ys => #[x.1.1.val, x.1.2.val]) (Kp := KpE Y.heap.size (fun i => i = w.heap.size + 3 ∨ i = w.heap.size + 4)) (S := fun xs => xs.map (·.1) = pairsK ys) (Sp := fun pre => pre.map (·.1) <+: pairsK ys) (N := m) (w0 := Y)
    ?hseq (fun a b => a.trans b) (fun W l o o' hl _ _ _ => KpE.putObj W l o' hl) (Below.refl _ _) (fun _ => rfl)
    (fun pre W => JaI w Y.heap.size n (pre.map fun x => x.1) W) (fun c pre W => c = .ret ∧ okP n (pre.map fun x => x.1) = false ∧ Has w [(w.heap.size + 2, 44, #[.int .i64 10]), (w.heap.size + 1, 54, #[.slice none 0 0])] W)
    ?hI ?hIx ?h0
    (fun x a' W => ∃ Bx By, Y.heap.size ≤ Bx ∧ Y.heap.size ≤ By ∧ Box W Bx 36 (ndB x.1.1.hash x.1.1.h x.1.1.l) ∧ Box W By 36 (ndB x.1.2.hash x.1.2.h x.1.2.l) ∧
      a' = { tmps := #[.int .i64 n, .slice A N c, .pointer (some ⟨w.heap.size, 0, none⟩), undef, .pointer (some ⟨w.heap.size + 1, 0, none⟩), .pointer (some ⟨w.heap.size + 2, 0, none⟩), .pointer (some ⟨w.heap.size + 4, 0, none⟩), .pointer (some ⟨Bx, 0, none⟩), .pointer (some ⟨By, 0, none⟩), undef, undef, .slice A N c, .int .i64 N, .int .i64 m, .slice (some ⟨w.heap.size + 3, 0, none⟩) 0 m, .slice A N c, .func (.func 66) #[] #[.pointer (some ⟨w.heap.size + 5, 0, none⟩)], x.1.1.val, x.1.2.val, undef, undef, undef, undef, undef, undef, undef, undef, undef, undef, undef, undef, undef, undef, undef], defers := [] })
    ?hAx ?assign ?body ?done ?stop
  case hseq =>
    intro l J Jx W hW hJ hJx hY h0
    have := pairs_in Y.heap.size (fun i => i = w.heap.size + 3 ∨ i = w.heap.size + 4) 8 (by decide) l (w.heap.size + 5) A c m ys hm hmx J Jx W hW.size hJ hY (by rw [hN]; exact bxR.call hW) ((RY.more (by omega)).call hW) ⟨by omega, by omega⟩ ?_ h0
    · exact this
    · intro ad e h0 hs
      have := hAS ad e h0
      omega
  case hI =>
    rintro q W W' row ⟨h1, h2, h3, v, h4, h5, h6⟩ hg hr
    have hr3 : ∀ r, row = some r → Y.heap.size ≤ r := fun r e => (hr r e).1
    refine ⟨Nat.le_trans h1 hg.size, h2, h3.grownE hg (fun r e => by have := hr3 r e; omega) (fun r e x hx => by
      have := hr3 r e
      simp only [List.mem_cons, List.not_mem_nil, or_false] at hx
      rcases hx with rfl | rfl | rfl <;> simp only <;> omega), v, h4.grown hg (fun e => by have := hr3 _ e.symm; omega), ?_, h6⟩
    refine h5.kept hg ?_
    by_cases hv : v.ownBlock = none
    · exact Or.inl hv
    · refine Or.inr fun e => ?_
      rcases h5.2 with ⟨rfl, -⟩ | ⟨gg, cap, cur, rfl, hb, hgg, -⟩
      · exact hv rfl
      · obtain ⟨-, o, ho, hc⟩ := hr gg e.symm
        rw [hgg] at ho
        cases ho
        cases hc
  case hIx =>
    rintro cc q W W' row ⟨h1, h2, h3⟩ hg hr
    exact ⟨h1, h2, h3.grownE hg (fun r e => by have := (hr r e).1; omega) fun r e x hx => by
      have := (hr r e).1
      simp only [List.mem_cons, List.not_mem_nil, or_false] at hx
      rcases hx with rfl | rfl <;> simp only <;> omega⟩
  case h0 => exact ⟨Nat.le_refl _, rfl, KY, _, b2, r2, fun r e => by injection e with e; exact Or.inl e.symm⟩
  case hAx =>
    rintro x a' s W W' row ⟨Bx, By, h1, h2, h3, h4, h5⟩ hg hr
    exact ⟨Bx, By, h1, h2, box_ownE (β := Unit) Bx _ _ (fun _ => _) () W W' row h3 hg hr, box_ownE (β := Unit) By _ _ (fun _ => _) () W W' row h4 hg hr, h5⟩
  case assign =>
    rintro lk pre ⟨⟨⟨xs, xh, xl⟩, ⟨zs, zh, zl⟩⟩, hq⟩ W K hI hK2
    simp only [Nd.val] at hK2 ⊢
    gi_wp2
    have hb := chainA (chainA (Below.refl W.heap.size W) (.cells (ndB xs xh xl) 36)) (.cells (ndB zs zh zl) 36)
    have hHs := hI.1
    have bz := Box.made (W.alloc (.cells (ndB xs xh xl) 36)) 36 (ndB zs zh zl)
    rw [World.size_alloc] at bz
    exact hK2 _ _ (keepsFrom_belowE hb) (KpE.below hb hHs) (hI.call hb) ⟨W.heap.size, W.heap.size + 1, hHs, Nat.le_succ_of_le hHs, (Box.made _ _ _).past _, bz, rfl⟩
  case body =>
    rintro lk pre ⟨⟨⟨xs, xh, xl⟩, ⟨zs, zh, zl⟩⟩, hq⟩ a' W hl ⟨rr, hrr⟩ hI ⟨Bx, By, hBx, hBy, bx, by_, rfl⟩ hlt
    simp only [Nd.val]
    obtain ⟨hHs, hok, hJ, v, bv, hrow, hvb⟩ := hI
    obtain ⟨l0, l1, l2, -, -, -, li⟩ := bx.three
    obtain ⟨r0, r1, r2, -, -, -, ri⟩ := by_.three
    have n0 := (hJ.box 2).read 0
    have hin2 := (hJ.box 2).inside
    obtain ⟨⟨hxo, hxh⟩, ⟨hzo, hzh⟩⟩ := And.intro (hy _ hq.1) (hy _ hq.2)
    have cJ := fun u hu => join14_any n ⟨xs, xh, xl⟩ ⟨zs, zh, zl⟩ (Nat.le_trans (of_size hxo) (by decide)) (Nat.le_trans (of_size hzo) (by decide)) hxh hzh u hu
    have hjc := join_code n ⟨xs, xh, xl⟩ ⟨zs, zh, zl⟩
    have hJP : joinP n (pre.map (fun x => x.1) ++ [(⟨xs, xh, xl⟩, ⟨zs, zh, zl⟩)]) = joinP n (pre.map fun x => x.1) ++ [(joinS n ⟨xs, xh, xl⟩ ⟨zs, zh, zl⟩).1] := by simp [joinP]
    have hOK : okP n (pre.map (fun x => x.1) ++ [(⟨xs, xh, xl⟩, ⟨zs, zh, zl⟩)]) = decide ((joinS n ⟨xs, xh, xl⟩ ⟨zs, zh, zl⟩).2 = 0) := by
      unfold okP at hok ⊢
      rw [List.all_append, hok, Bool.true_and]
      simp
    obtain ⟨⟨⟨js, jh, jl⟩, je⟩, hJe⟩ : ∃ V, joinS n ⟨xs, xh, xl⟩ ⟨zs, zh, zl⟩ = V := ⟨_, rfl⟩
    rw [hJe] at hjc cJ hJP hOK
    simp only [Nd.val] at cJ hJP hOK
    have HJP := hideIt hJP
    have HOK := hideIt hOK
    clear hJP hOK hJe hok
    rcases hjc with h0 | h0
    · simp only at h0
      subst h0
      obtain ⟨i0, hi, hz0, hz1, hz2⟩ := info_parts info_nd
      have vne : some (w.heap.size + 4) ≠ v.ownBlock := fun e => by have := hvb _ e.symm; omega
      have hml : (pre.map fun x => x.1).length + 1 ≤ maxLen := by rw [List.length_map]; unfold maxLen; omega
      have hpl : ((pre.map fun x => x.1).length + 1) * 32 ≤ 140737488355328 := by rw [List.length_map]; omega
      have hcn : ∀ u : World, ∀ j x, (ndS.cells ⟨js, jh, jl⟩)[j]? = some x → ((u.alloc (.cells (ndB js jh jl) 36)).alloc (.cells (ndB js jh jl) 36)).cell? ((⟨u.heap.size + 1, 0, none⟩ : Addr).add j) = some x := fun u => by
        have h := cells_new4 (u.alloc (.cells (ndB js jh jl) 36)) 36 (ndS.cells ⟨js, jh, jl⟩)
        rw [World.size_alloc] at h
        exact h
      gi_wp2_with (first
        | (gi_at_builtin; refine wpListIn_append_own_at _ rfl _ _ 54 rfl (w.heap.size + 3) 36 i0 (.agg #[.string ⟨#[]⟩, .int .u64 0, .int .u64 0]) 3 32 Tryd.underlying54 hi hz0 hz1 hz2 rfl (by decide) _ _ _ rfl (o6.alloc _) ⟨w6.heap.size + 1, 0, none⟩ 1 1 (ndS.cells ⟨js, jh, jl⟩) rfl rfl (hcn _) (ndS.one _) hml hpl (Nat.le_trans (by omega) s6) ?_; intro v' w7 hown' hgrow hnil hown2; obtain ⟨g', cap', rfl⟩ := ownsRow_succ hown'; have v7 := (v6.past (.cells (ndB js jh jl) 36)).grown hgrow vne; have vc := v7.read 0; have vf := v7.free 0; have vi := v7.inside)
        | (refine ⟨trivial, ?_⟩; gi_at_call 57; refine (CallsIn.inRound lk (callsIn_wide.2 (cJ _ (hT.call hJ.below)))).mono ?_; rintro e w6 ⟨rfl, b6⟩; have J6 := (hJ.call b6).past (.cells (ndB js jh jl) 36); have v6 := (bv.call b6).past (.cells (ndB js jh jl) 36); have o6 := (own_below hrow b6).alloc (.cells (ndB js jh jl) 36); have x6 := Box.made w6 36 (ndB js jh jl); obtain ⟨z0, z1, z2, -, -, -, zi⟩ := x6.three; have v0 := v6.read 0; have v1 := v6.inside; have s6 : Y.heap.size ≤ ((w6.alloc (.cells (ndB js jh jl) 36)).alloc (.cells (ndB js jh jl) 36)).heap.size := (by have := b6.size; simp; omega))
        | fail)
      have J7 := (J6.past (.cells (ndB js jh jl) 36)).grownE hgrow (fun r e => by have := hvb r e; omega) (fun r e x hx => by
        have := hvb r e
        simp only [List.mem_cons, List.not_mem_nil, or_false] at hx
        rcases hx with rfl | rfl | rfl <;> simp only <;> omega)
      obtain ⟨y1, y2, y3, y4, y5⟩ := Boxed.appended v6 (by decide) o6 (by have := b6.size; simp; omega) (by omega) hown' hgrow
      have kf := (keepsFrom_belowE (B := Y.heap.size) (chainA b6 (.cells (ndB js jh jl) 36))).trans (y4.from _)
      have kp : KpE Y.heap.size (fun i => i = w.heap.size + 3 ∨ i = w.heap.size + 4) W w7 := (KpE.below (chainA (chainA b6 (.cells (ndB js jh jl) 36)) (.cells (ndB js jh jl) 36)) hHs).trans ⟨hgrow.size, fun i hi hs => hgrow.block i (by have := b6.size; simp; omega) (fun e => by
        rcases hvb i e.symm with h | h
        · exact hs (Or.inl h)
        · omega)⟩
      have kp2 := kp.trans (KpE.set_ w7 ⟨w.heap.size + 4, 0, none⟩ (.slice (some ⟨g', 0, none⟩) ((pre.map fun x => x.1).length + 1) cap') (Or.inr rfl))
      rw [List.length_map] at kf kp2 y2 y3 hown2
      refine ⟨kf, kp2, Nat.le_trans hHs kp2.1, ?_, J7.set_ (p := ⟨w.heap.size + 4, 0, none⟩) (by simp only; omega) (fun x hx => by
        simp only [List.mem_cons, List.not_mem_nil, or_false] at hx
        rcases hx with rfl | rfl | rfl <;> simp only <;> omega) _, _, y2, ?_, ?_⟩
      · rw [List.map_append]
        exact HOK.out.trans (by simp)
      · rw [List.map_append, List.map_cons, List.map_nil, HJP.out, List.length_append, List.length_map, ndS.flat_app, ndS.flat_one]
        exact y3
      · intro r e
        rcases hown2 with h | h
        · rw [h] at e; exact hvb r e
        · rw [h] at e
          injection e with e
          right
          have := b6.size
          simp at e
          omega
    · injection h0 with h0 h1
      simp only [Nd.zero, Nd.mk.injEq] at h0
      obtain ⟨rfl, rfl, rfl⟩ := h0
      subst h1
      gi_wp2_with (first
        | (refine ⟨trivial, ?_⟩; gi_at_call 57; refine (CallsIn.inRound lk (callsIn_wide.2 (cJ _ (hT.call hJ.below)))).mono ?_; rintro e w6 ⟨rfl, b6⟩; have J6 := (hJ.call b6).past (.cells (ndB ⟨#[]⟩ 0 0) 36); have x6 := Box.made w6 36 (ndB ⟨#[]⟩ 0 0); obtain ⟨z0, z1, z2, -, -, -, zi⟩ := x6.three; have v0 := (J6.box 0).read 0; have v1 := (J6.box 0).inside; have v2 := (J6.box 0).free 0; have u0 := (J6.box 1).read 0; have u1 := (J6.box 1).inside; have u2 := (J6.box 1).free 0)
        | fail)
      have kf := (keepsFrom_belowE (B := Y.heap.size) (chainA b6 (.cells (ndB ⟨#[]⟩ 0 0) 36))).trans (((KeepsOthers.setCell _ ⟨w.heap.size + 1, 0, none⟩ (.slice none 0 0)).trans (KeepsOthers.setCell _ ⟨w.heap.size + 2, 0, none⟩ (.int .i64 10))).from Y.heap.size)
      have E := ((J6.swap.wrote (by omega) (fun x hx => by
        simp only [List.mem_cons, List.not_mem_nil, or_false] at hx
        rcases hx with rfl | rfl <;> simp only <;> omega) 0 (.slice none 0 0)).swap.wrote (by omega) (fun x hx => by
        simp only [List.mem_cons, List.not_mem_nil, or_false] at hx
        rcases hx with rfl | rfl <;> simp only <;> omega) 0 (.int .i64 10))
      exact ⟨kf, rfl, by rw [List.map_append]; exact HOK.out.trans (decide_eq_false (by decide)), E.some_ fun x hx => by
        simp only [List.mem_cons, List.not_mem_nil, or_false] at hx
        rcases hx with rfl | rfl <;> simp⟩
  case done =>
    rintro D xs W hD hxs ⟨hHs, hok, hJ, v, bv, hrow, hvb⟩ hK2
    have hxs' : xs.map (fun x => x.1) = pairsK ys := hxs
    rw [hxs'] at hok hrow
    have hpl := pairsK_len m ys hm
    rw [joinP_pairs n m ys hm, hpl] at hrow
    obtain ⟨A', c', rfl, -, -⟩ := Sh.own_row (S := ndS) (T := 36) (l := pairL n ys) (by rw [pairL_len n m ys hm]; exact hrow)
    rw [pairL_len n m ys hm] at hrow bv hvb
    have v0 := (hJ.box 0).read 0
    have v1 := (hJ.box 0).inside
    have v2 := (hJ.box 0).free 0
    have u0 := (hJ.box 1).read 0
    have u1 := (hJ.box 1).inside
    have u2 := (hJ.box 1).free 0
    have t0 := bv.read 0
    have t1 := bv.inside
    have E := ((hJ.swap.wrote (by omega) (fun x hx => by
      simp only [List.mem_cons, List.not_mem_nil, or_false] at hx
      rcases hx with rfl | rfl <;> simp only <;> omega) 0 (.slice A' m c')).swap.wrote (by omega) (fun x hx => by
      simp only [List.mem_cons, List.not_mem_nil, or_false] at hx
      rcases hx with rfl | rfl <;> simp only <;> omega) 0 (.int .i64 0))
    have hr2 := (hrow.kept (grownBy_setCell' W (w.heap.size + 1) (.slice A' m c')) (.inr fun e => by have := hvb _ e; omega)).kept (grownBy_setCell' _ (w.heap.size + 2) (.int .i64 0)) (.inr fun e => by have := hvb _ e; omega)
    have hK3 : ((W.setCell ⟨w.heap.size + 1, 0, none⟩ (.slice A' m c')).setCell ⟨w.heap.size + 2, 0, none⟩ (.int .i64 0)).heap[D]? = some (.deferred (some [])) :=
      ((Below.heap_setCell _ ⟨w.heap.size + 2, 0, none⟩ _ D (by dsimp only; omega)).trans (Below.heap_setCell _ ⟨w.heap.size + 1, 0, none⟩ _ D (by dsimp only; omega))).trans hK2
    try dsimp only [Exit.inBlock, Exit.then]
    go_wp2
    refine ⟨by simp, .inl ⟨_, _, rfl, run_takeDeferred hK3, ?_⟩⟩
    have b2 := box_putE (o' := .deferred none) (E.box 1) (show w.heap.size + 1 ≠ D by omega)
    have b3 := box_putE (o' := .deferred none) (E.box 0) (show w.heap.size + 2 ≠ D by omega)
    have bw := E.below.trans (belowK_b (w := w) (Nat.le_refl _) _ D _ (.deferred none) (by omega) hK3 rfl rfl)
    have hr3 := ownsRow_putObj hr2 (.deferred none) hK3 rfl
    generalize World.putObj _ D _ = Z at *
    have x2 : Z.cell? ⟨w.heap.size + 1, 0, none⟩ = some (.slice A' m c') := b2.read 0
    have x3 : Z.cell? ⟨w.heap.size + 2, 0, none⟩ = some (.int .i64 0) := b3.read 0
    have hr4 : ∃ A2 c2, (Value.slice A' m c' = .slice A2 (pairL n ys).length c2) ∧ (A2 = none → c2 = 0) ∧ ndS.Row Z Z.heap.size A2 (pairL n ys) := Sh.own_row (S := ndS) (T := 36) (l := pairL n ys) (by rw [pairL_len n m ys hm]; exact hr3)
    obtain ⟨A2, c2, e2, -, hr5⟩ := hr4
    injection e2 with e2
    subst e2
    exact ⟨.tuple #[.slice A' m c', .int .i64 0], by simp [results, Tryd.results42, go_sem, x2, x3], bw, Or.inl ⟨hok, A', c', rfl, hr5⟩⟩
  case stop =>
    rintro D cc pre W hD hSp ⟨rfl, hno, hK⟩ hK2
    have hno2 : okP n (pairsK ys) = false := by
      obtain ⟨rest, hrest⟩ := hSp
      rw [← hrest]
      unfold okP at hno ⊢
      rw [List.all_append, hno, Bool.false_and]
    gi_wp2
    refine ⟨by simp, .inl ⟨_, _, rfl, run_takeDeferred hK2, ?_⟩⟩
    have b2 := box_putE (o' := .deferred none) (hK.box 1) (show w.heap.size + 1 ≠ D by omega)
    have b3 := box_putE (o' := .deferred none) (hK.box 0) (show w.heap.size + 2 ≠ D by omega)
    have bw := hK.below.trans (belowK_b (w := w) (Nat.le_refl _) _ D _ (.deferred none) (by omega) hK2 rfl rfl)
    generalize World.putObj _ D _ = Z at *
    have x2 : Z.cell? ⟨w.heap.size + 1, 0, none⟩ = some (.slice none 0 0) := b2.read 0
    have x3 : Z.cell? ⟨w.heap.size + 2, 0, none⟩ = some (.int .i64 10) := b3.read 0
    exact ⟨.tuple #[.slice none 0 0, .int .i64 10], by simp [results, Tryd.results42, go_sem, x2, x3], bw, Or.inr ⟨hno2, rfl⟩⟩
end Go.Proofs.YtbhgcmdodjgpmaaDoor
/-
  math/bits' OnesCount of a length: one, just for 2^k.
-/
namespace Go.Proofs.YtbhgcmdodjgpmaaDoor
set_option linter.unusedVariables false
set_option linter.unusedSimpArgs false
set_option maxRecDepth 10000
open Go.RowKit

def ones1 (n : Nat) : Int := IntKind.u64.wrap (bits .and .u64 ((n : Int) / 2) 6148914691236517205 + bits .and .u64 (n : Int) 6148914691236517205)
def ones2 (x : Int) : Int := IntKind.u64.wrap (bits .and .u64 (x / 4) 3689348814741910323 + bits .and .u64 x 3689348814741910323)
def ones3 (x : Int) : Int := bits .and .u64 (IntKind.u64.wrap (x / 16 + x)) 1085102592571150095
def ones4 (x : Int) : Int := IntKind.u64.wrap (x + x / 256)
def ones5 (x : Int) : Int := IntKind.u64.wrap (x + x / 65536)
def ones6 (x : Int) : Int := IntKind.u64.wrap (x + x / 4294967296)
def ones7 (x : Int) : Int := bits .and .i64 (wrap64 x) 127
def onesN (n : Nat) : Int := ones7 (ones6 (ones5 (ones4 (ones3 (ones2 (ones1 n))))))
theorem ones_pow : ∀ n : Nat, n < 301 → (onesN n != 1) = !powB n := by decide +kernel
set_option maxHeartbeats 2000000 in
theorem ones64_any (n : Nat) (w : World) : Calls Tryd.prog 55 #[.int .u64 n] w (Plain (.int .i64 (onesN n)) w) := by
  obtain ⟨x1, h1⟩ : ∃ x, IntKind.u64.wrap (bits .and .u64 ((n : Int) / 2) 6148914691236517205 + bits .and .u64 (n : Int) 6148914691236517205) = x := ⟨_, rfl⟩
  obtain ⟨x2, h2⟩ : ∃ x, IntKind.u64.wrap (bits .and .u64 (x1 / 4) 3689348814741910323 + bits .and .u64 x1 3689348814741910323) = x := ⟨_, rfl⟩
  obtain ⟨x3, h3⟩ : ∃ x, bits .and .u64 (IntKind.u64.wrap (x2 / 16 + x2)) 1085102592571150095 = x := ⟨_, rfl⟩
  obtain ⟨x4, h4⟩ : ∃ x, IntKind.u64.wrap (x3 + x3 / 256) = x := ⟨_, rfl⟩
  obtain ⟨x5, h5⟩ : ∃ x, IntKind.u64.wrap (x4 + x4 / 65536) = x := ⟨_, rfl⟩
  obtain ⟨x6, h6⟩ : ∃ x, IntKind.u64.wrap (x5 + x5 / 4294967296) = x := ⟨_, rfl⟩
  obtain ⟨x7, h7⟩ : ∃ x, bits .and .i64 (wrap64 x6) 127 = x := ⟨_, rfl⟩
  have e : onesN n = x7 := by
    unfold onesN ones1
    rw [h1, ones2, h2, ones3, h3, ones4, h4, ones5, h5, ones6, h6, ones7, h7]
  rw [e]
  clear e
  go_enter Tryd.func55, Tryd.ntmps55
  go_wp2
  go_ret
  exact ⟨rfl, rfl⟩
set_option maxHeartbeats 1000000 in
theorem ones_any (n : Nat) (w : World) : Calls Tryd.prog 41 #[.int .u64 n] w (Plain (.int .i64 (onesN n)) w) := by
  have c := fun u => ones64_any n u
  generalize onesN n = R at *
  go_enter Tryd.func41, Tryd.ntmps41
  go_wp2_with (first | (go_at_call 55; refine (c _).mono ?_; rintro e w' ⟨rfl, rfl⟩) | fail)
  go_ret
  exact ⟨rfl, rfl⟩
end Go.Proofs.YtbhgcmdodjgpmaaDoor
/-
  Package node's Fold, walked.
-/
namespace Go.Proofs.YtbhgcmdodjgpmaaDoor
set_option linter.unusedVariables false
set_option linter.unusedSimpArgs false
set_option maxRecDepth 10000
open Go.RowKit

set_option maxRecDepth 100000 in
set_option maxHeartbeats 4000000 in
theorem fold14_any (n : Int) (A : Option Addr) (c : Nat) (l : List Nd) (hlen : l.length ≤ 300) (hh : ∀ x ∈ l, x.halved) (w : World) (hR : ndS.Row w w.heap.size A l) (hT : Tab w) :
    Calls Tryd.prog 19 #[.int .i64 n, .slice A l.length c] w (fun e w' => e = .returned (.tuple #[(foldN n l).1.val, .int .i64 (foldN n l).2]) ∧ Below w.heap.size w w') := by
  have cA := fun u hu => allOf14_any n A c l (by omega) u hu
  have cO := fun u => ones_any l.length u
  have ho := ones_pow l.length (by omega)
  have hlog := powB_log l.length (by omega)
  have hf : foldN n l = if allW n l = true then (if powB l.length = true then foldS n (Nat.log2 l.length) l else (Nd.zero, 2)) else (Nd.zero, 70) := rfl
  obtain ⟨R, hRR⟩ : ∃ R, foldN n l = R := ⟨_, rfl⟩
  rw [hRR] at hf ⊢
  clear hRR
  obtain ⟨N, hN⟩ : ∃ N, l.length = N := ⟨_, rfl⟩
  obtain ⟨K, hK⟩ : ∃ K, Nat.log2 N = K := ⟨_, rfl⟩
  rw [hN] at cA cO ho hlog hf ⊢
  rw [hK] at hlog hf
  generalize onesN N = O at *
  have H0 := (Has.start w).add 36 (ndB ⟨#[]⟩ 0 0)
  have hr0 := hR.on H0.below
  go_enter Tryd.func19, Tryd.ntmps19
  go_upto_region 1 with fail
  change Code.wp _ _ _ _ (w.alloc (.cells (ndB ⟨#[]⟩ 0 0) 36))
  generalize w.alloc (.cells (ndB ⟨#[]⟩ 0 0) 36) = W0 at *
  cases hV : allW n l with
  | false =>
    rw [hV] at cA hf
    rw [if_neg (by decide)] at hf
    have HR := hideIt hf
    clear hf ho hlog
    go_wp2_with (first | (go_at_call 40; refine (cA _ hr0).mono ?_; rintro e w1 ⟨rfl, b1⟩; have K2 := H0.call b1; obtain ⟨y0, y1, y2, f0, f1, f2, hin⟩ := (K2.box 0).three) | fail)
    have E := told3 K2 (Nat.le_refl _) (fun x hx => by simp at hx) (.string ⟨#[]⟩) (.int .u64 0) (.int .u64 0)
    generalize World.setCell (World.setCell (World.setCell _ _ _) _ _) _ _ = W9 at *
    obtain ⟨v0, v1, v2, -, -, -, hin9⟩ := (E.box 0).three
    exact bodyPost_ret (v := .tuple #[Nd.zero.val, .int .i64 70]) (by simp [results, Tryd.results19, go_sem, Nd.val, Nd.zero, v0, v1, v2]) rfl ⟨by rw [HR.out], E.below⟩
  | true =>
    rw [hV] at cA hf
    rw [if_pos rfl] at hf
    have hNu : IntKind.u64.wrap (N : Int) = (N : Int) := by rw [IntKind.wrap_u64]; omega
    cases hP : powB N with
    | false =>
      rw [hP] at ho hf
      rw [if_neg (by decide)] at hf
      have HR := hideIt hf
      clear hf hlog
      have ho1 : (O != 1) = true := ho
      have ho2 : ¬ O = 1 := by simpa using ho1
      go_wp2_with (first
        | (go_at_call 40; refine (cA _ hr0).mono ?_; rintro e w1 ⟨rfl, b1⟩; have K2 := H0.call b1; obtain ⟨y0, y1, y2, f0, f1, f2, hin⟩ := (K2.box 0).three)
        | (go_at_call 41; refine (cO _).mono ?_; rintro e w2 ⟨rfl, rfl⟩)
        | fail)
      have E := told3 K2 (Nat.le_refl _) (fun x hx => by simp at hx) (.string ⟨#[]⟩) (.int .u64 0) (.int .u64 0)
      generalize World.setCell (World.setCell (World.setCell _ _ _) _ _) _ _ = W9 at *
      obtain ⟨v0, v1, v2, -, -, -, hin9⟩ := (E.box 0).three
      exact bodyPost_ret (v := .tuple #[Nd.zero.val, .int .i64 2]) (by simp [results, Tryd.results19, go_sem, Nd.val, Nd.zero, v0, v1, v2]) rfl ⟨by rw [HR.out], E.below⟩
    | true =>
      rw [hP] at ho hf
      rw [if_pos rfl] at hf
      obtain ⟨hN2, hK8⟩ := hlog hP
      have ho1 : O = 1 := by simpa using ho
      subst ho1
      obtain ⟨hmw, hof⟩ := allW_mem hV
      have HR := hideIt hf
      have HN2 := hideIt hN2
      clear hf hlog ho hN2
      go_wp2_with (first
        | (go_at_call 40; refine (cA _ hr0).mono ?_; rintro e w1 ⟨rfl, b1⟩; have K2 := H0.call b1)
        | (go_at_call 41; refine (cO _).mono ?_; rintro e w2 ⟨rfl, rfl⟩)
        | fail)
      go_loopg [6] (K + 1) (fun gk v wr => ∃ (k : Nat) (A' : Option Addr) (c' : Nat) (l' : List Nd), k < gk ∧ k ≤ 8 ∧ l'.length = 2 ^ k ∧ v = .slice A' l'.length c' ∧ foldS n K l = foldS n k l' ∧ (∀ x ∈ l', x.of n = true ∧ x.halved) ∧ ndS.Row wr wr.heap.size A' l' ∧ Has w [(w.heap.size, 36, ndB ⟨#[]⟩ 0 0)] wr)
      case atStart => exact ⟨K, A, c, l, Nat.lt_succ_self _, hK8, by rw [hN]; exact HN2.out, by rw [hN], rfl, fun x hx => ⟨hof x hx, hh x hx⟩, hR.on K2.below, K2⟩
      case round =>
        obtain ⟨k, A', c', l', hgk, hk8, hl', rfl, hfo, hx', hR', K3⟩ := hrel
        have HG := hideIt hgk
        have HL := hideIt hl'
        have HF := hideIt hfo
        clear hgk hfo K2
        cases k with
        | zero =>
          have hl1 : l'.length = 1 := hl'
          obtain ⟨x, rfl⟩ := List.length_eq_one_iff.1 hl1
          obtain ⟨ad, rfl, g1, p0, p1, p2⟩ := nd_get hR' (i := 0) (x := x) rfl
          obtain ⟨y0, y1, y2, f0, f1, f2, hin⟩ := (K3.box 0).three
          have ez : ad.add (0 * 3) = ad := by simp [Addr.add]
          rw [ez] at p0 p1 p2
          have cW := fun u => own14_any x (Nat.le_trans (of_size (hx' x (by simp)).1) (by decide)) u
          obtain ⟨xs, xh, xl⟩ := x
          simp only [Nd.val] at p0 p1 p2 cW
          have HX := hideIt HF.out
          clear g1 ez hl' hl1 HL
          go_wp2_with (first
            | (go_at_call 43; refine (cW _).mono ?_; rintro e w5 ⟨rfl, b5⟩; have K5 := K3.call b5; obtain ⟨z0, z1, z2, zf0, zf1, zf2, zin⟩ := (K5.box 0).three)
            | fail)
          have E := told3 K5 (Nat.le_refl _) (fun x hx => by simp at hx) (.string xs) (.int .u64 xh) (.int .u64 xl)
          generalize World.setCell (World.setCell (World.setCell _ _ _) _ _) _ _ = W9 at *
          obtain ⟨v0, v1, v2, -, -, -, hin9⟩ := (E.box 0).three
          exact bodyPost_ret (v := .tuple #[Nd.val ⟨xs, xh, xl⟩, .int .i64 0]) (by simp [results, Tryd.results19, go_sem, Nd.val, v0, v1, v2]) rfl ⟨by rw [HR.out, HX.out]; rfl, E.below⟩
        | succ k =>
          have hm : l'.length = 2 ^ k + 2 ^ k := by rw [hl', pow_two]
          have hk : 2 ^ k ≤ 2 ^ 7 := Nat.pow_le_pow_right (by decide) (by omega)
          have hk1 : 1 ≤ 2 ^ k := Nat.two_pow_pos k
          have cJ := fun u hu hu2 => joinAll14_any n hmw A' c' (2 ^ k) l' hm (by omega) hx' u hu hu2
          have hlt : (1 : Int) < (l'.length : Int) := by omega
          have hpl := pairL_len n (2 ^ k) l' hm
          have hup := fold_up hmw k l' hl' (fun x hx => (hx' x hx).2) (fun x hx => (hx' x hx).1)
          have hno := fold_none hmw k l' hl' (fun x hx => (hx' x hx).2) (fun x hx => (hx' x hx).1)
          have hpf := pairs_fine hmw (2 ^ k) l' hm (fun x hx => (hx' x hx).2)
          obtain ⟨M, hM⟩ : ∃ M, l'.length = M := ⟨_, rfl⟩
          rw [hM] at cJ hlt ⊢
          have HM := hideIt hM
          clear hM hl' hm hk
          have HUP := hideIt hup
          have HNO := hideIt hno
          have HPF := hideIt hpf
          clear hup hno hpf
          cases hok : okP n (pairsK l') with
          | true =>
            rw [hok] at cJ
            go_upto_region 8 with (first
              | (go_at_call 42; refine (cJ _ hR' (hT.call K3.below)).mono ?_; rintro e w5 ⟨b5, ⟨-, A2, c2, rfl, hR2⟩ | ⟨h0, -⟩⟩; rotate_left 1; exact absurd h0 (by decide))
              | fail)
            have K5 := K3.call b5
            obtain ⟨f1, f2, f3⟩ := HPF.out hok
            have HF2 := hideIt (HF.out.trans (HUP.out hok))
            go_wp2
            go_roundg (k + 1)
            case measure => have := HG.out; omega
            case rel => exact ⟨k, A2, c2, pairL n l', Nat.lt_succ_self _, by omega, hpl, by rw [hpl], HF2.out, fun x hx => ⟨f2 x hx, f1 x hx⟩, hR2, K5⟩
          | false =>
            rw [hok] at cJ
            have HX := hideIt (HF.out.trans (HNO.out hok))
            go_wp2_with (first
              | (go_at_call 42; refine (cJ _ hR' (hT.call K3.below)).mono ?_; rintro e w5 ⟨b5, ⟨h0, -⟩ | ⟨-, rfl⟩⟩; exact absurd h0 (by decide); have K5 := K3.call b5; obtain ⟨z0, z1, z2, zf0, zf1, zf2, zin⟩ := (K5.box 0).three)
              | fail)
            have E := told3 K5 (Nat.le_refl _) (fun x hx => by simp at hx) (.string ⟨#[]⟩) (.int .u64 0) (.int .u64 0)
            generalize World.setCell (World.setCell (World.setCell _ _ _) _ _) _ _ = W9 at *
            obtain ⟨v0, v1, v2, -, -, -, hin9⟩ := (E.box 0).three
            exact bodyPost_ret (v := .tuple #[Nd.zero.val, .int .i64 10]) (by simp [results, Tryd.results19, go_sem, Nd.val, Nd.zero, v0, v1, v2]) rfl ⟨by rw [HR.out, HX.out], E.below⟩
end Go.Proofs.YtbhgcmdodjgpmaaDoor
