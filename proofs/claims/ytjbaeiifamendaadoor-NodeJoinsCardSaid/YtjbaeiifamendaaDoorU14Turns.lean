/-
  Package node's turns, walked: the function that is ranged over goes over the sides, each with whether it stands right.
-/
import Derived.Test.YtjbaeiifamendaaDoorW14Keep
import Derived.Test.YtjbaeiifamendaaDoorM13Nod
import Derived.Test.YtjbaeiifamendaaDoorD14Climb
namespace Go.Proofs.YtjbaeiifamendaaDoor
set_option linter.unusedVariables false
set_option linter.unusedSimpArgs false
set_option maxRecDepth 10000
open Go.RowKit Go.Shelf
attribute [local go_sem] Oper.semAt_some

theorem bit_even (q : Nat) (hq : q < 18446744073709551616) : (bits .and .u64 (q : Int) 1 == 0) = decide (q % 2 = 0) := by
  have h := bits_and_u64_nat q 1 hq (by decide)
  rw [Nat.and_one_is_mod] at h
  have h : bits .and .u64 (q : Int) 1 = ((q % 2 : Nat) : Int) := h
  rw [h]
  by_cases h0 : q % 2 = 0
  · rw [decide_eq_true h0, h0]; rfl
  · rw [decide_eq_false h0, show q % 2 = 1 by omega]; rfl
/-- A side of these, with whether it stands right. -/
abbrev SdOf (l : List Nd) := { x : Nd × Bool // x.1 ∈ l }
set_option maxHeartbeats 1000000 in
theorem turns_any (p : Int) (A : Option Addr) (n c : Nat) (w : World) : Calls Tryd.prog 28 #[.int .u64 p, .slice A n c] w fun e w' =>
    e = .returned (.func (.func 41) #[] #[.pointer (some ⟨w.heap.size + 1, 0, none⟩), .pointer (some ⟨w.heap.size, 0, none⟩)]) ∧ w' = (w.alloc (.cells #[.int .u64 p] 22)).alloc (.cells #[.slice A n c] 28) := by
  go_enter Tryd.func28, Tryd.ntmps28
  go_wp2
  go_ret
  exact ⟨by simp, rfl⟩
set_option maxRecDepth 100000 in
set_option maxHeartbeats 4000000 in
theorem turns_in (D : Nat) (S : Nat → Prop) (n : Nat) (hn : 1 ≤ n) (l B1 B2 : Nat) (A : Option Addr) (c p : Nat) (hp : p < 18446744073709551616) (ys : List Nd) (hm : ys.length ≤ 63)
    (J Jx : List (SdOf ys) → World → Prop) (W : World) (hDW : D ≤ W.heap.size) (hJ : AbidesFrom W.heap.size J)
    (hY : ∀ pre x W1, J pre W1 → pre.length < ys.length → YieldAt Fence.wide (n - 1) Tryd.prog l #[x.1.1.val, .bool x.1.2] W1 fun e W' =>
      (e = .returned (.bool true) ∧ J (pre ++ [x]) W' ∧ KpE D S W1 W') ∨ (e = .returned (.bool false) ∧ Jx (pre ++ [x]) W'))
    (hB1 : Box W B1 28 #[.slice A ys.length c]) (hB2 : Box W B2 22 #[.int .u64 p]) (hR : ndS.Row W D A ys) (hl1 : B1 < D ∧ ¬ S B1) (hl2 : B2 < D ∧ ¬ S B2) (hl4 : ∀ ad, A = some ad → 0 < ys.length → ¬ S ad.block)
    (h0 : J [] W) :
    CallsIn Fence.wide n Tryd.prog 41 #[.func (.yield l) #[] #[], .pointer (some ⟨B1, 0, none⟩), .pointer (some ⟨B2, 0, none⟩)] W fun e W' => (∃ v, e = .returned v) ∧
      ((∃ xs, xs.map (·.1) = turnsK p ys ∧ J xs W') ∨ (∃ pre, pre.map (·.1) <+: turnsK p ys ∧ Jx pre W')) := by
  obtain ⟨N, hN⟩ : ∃ N, ys.length = N := ⟨_, rfl⟩
  have hfr := hB1.read 0
  have hin1 := hB1.inside
  have hlk := turnsK_len p ys
  refine callsIn_of_wp Tryd.func41 rfl trivial ?_ rfl
  simp only [Tryd.ntmps41, List.size_toArray, List.length_cons, List.length_nil, Nat.reduceAdd, Nat.reduceSub, Array.replicate_succ, Array.replicate_zero, List.push_toArray, List.append_toArray, List.nil_append, List.cons_append]
  gi_wp2
  gi_loopw [8] (fun i wr => ∃ (k : Nat) (pre : List (SdOf ys)), k ≤ N ∧ i = .int .i64 k ∧ pre.map (·.1) = (turnsK p ys).take k ∧ J pre wr ∧ KpE D S W wr)
    (fun i _ => N - (intOf i).toNat)
  case atStart => exact ⟨0, [], Nat.zero_le _, rfl, by simp, h0, KpE.refl _⟩
  case round =>
    obtain ⟨k, pre, hk, rfl, hpre, hJr, hKp⟩ := hrel
    have hpl : pre.length = k := by
      have h1 := congrArg List.length hpre
      rw [List.length_map, List.length_take, hlk] at h1
      omega
    have HPRE := hideIt hpre
    clear hpre
    by_cases hlt : k < N
    · obtain ⟨r, hr⟩ : ∃ r, ys[k]? = some r := ⟨_, List.getElem?_eq_getElem (by omega)⟩
      have htk := turnsK_at ys p k r hr
      have hrm := List.mem_of_getElem? hr
      obtain ⟨ad, hA, had, hRA⟩ := hR k r hr
      subst hA
      have hbl := hKp.2 ad.block had (hl4 ad rfl (by omega))
      obtain ⟨p0, p1, p2⟩ := ndS_at (hRA.keep (w' := wr) (by rw [gen_block]; exact hbl))
      change wr.cell? (ad.add (k * 3)) = _ at p0
      change wr.cell? ⟨(ad.add (k * 3)).block, (ad.add (k * 3)).off + 1, none⟩ = _ at p1
      change wr.cell? ⟨(ad.add (k * 3)).block, (ad.add (k * 3)).off + 2, none⟩ = _ at p2
      have hDr : D ≤ wr.heap.size := Nat.le_trans hDW hKp.1
      have p3 : (ad.add (k * 3)).block < wr.heap.size := by rw [gen_block]; omega
      have hlti : (k : Int) < (N : Int) := by omega
      have hB2r : Box wr B2 22 #[.int .u64 p] := hKp.box hl2.1 hl2.2 hB2
      have HTK := hideIt htk
      clear hr htk hRA
      rw [← hN] at hlti
      refine wpIn_wide.2 ?_
      go_upto_region 3 with fail
      have B1r := Box.made wr 26 #[.string r.hash, .int .u64 r.h, .int .u64 r.l]
      have L1 := chainA (Below.refl wr.heap.size wr) (.cells #[.string r.hash, .int .u64 r.h, .int .u64 r.l] 26)
      have B2s := hB2r.past (.cells #[.string r.hash, .int .u64 r.h, .int .u64 r.l] 26)
      generalize wr.alloc (.cells #[.string r.hash, .int .u64 r.h, .int .u64 r.l] 26) = W1 at *
      obtain ⟨q0, q1, q2, -, -, -, hin⟩ := (show Box W1.drew wr.heap.size 26 #[.string r.hash, .int .u64 r.h, .int .u64 r.l] from B1r).three
      have c2 := (show Box W1.drew B2 22 #[.int .u64 p] from B2s).read 0
      have i2 := (show Box W1.drew B2 22 #[.int .u64 p] from B2s).inside
      have hJ2 := abideE hJ hJr (L1.drew)
      have hK2 := hKp.trans (KpE.below L1.drew hDr)
      clear p0 p1 p2 p3
      have hqp : p / 2 ^ k < 18446744073709551616 := Nat.lt_of_le_of_lt (Nat.div_le_self _ _) hp
      have hbit := bit_even (p / 2 ^ k) hqp
      rw [show ((p / 2 ^ k : Nat) : Int) = (p : Int) / 2 ^ k by rw [Int.natCast_ediv, Int.natCast_pow]; rfl] at hbit
      obtain ⟨bt, hbt⟩ : ∃ b, decide (p / 2 ^ k % 2 = 0) = b := ⟨_, rfl⟩
      rw [hbt] at hbit
      obtain ⟨fn, tmps, assign, body, hy, hRd⟩ := hY pre ⟨(r, bt), hrm⟩ W1.drew hJ2 (by omega)
      simp only [Nd.val] at hy
      have HBT := hideIt hbt
      clear hbt hqp
      refine (wpIn_wide (n := n)).1 ?_
      refine wpIn_region_any (by kernel_rfl) ?_
      change wpAnyIn _ _ _ _ _ _ _ _ _ (World.drew _)
      generalize W1.drew = W2 at *
      refine wpAnyIn_take (i := 0) (v := ?_) rfl rfl (by kernel_rfl) (by kernel_rfl) (by kernel_rfl) (fun _ _ _ h => h) ⟨Or.inl ⟨by rfl, ?_⟩, fun _ => rfl⟩ ?_
      rotate_left 1
      · intro w; go_simp; try with_reducible rfl
      try simp only [Act.put, List.getElem_toArray, List.getElem_cons_succ, List.getElem_cons_zero, List.setIfInBounds_toArray, List.set_cons_zero, List.set_cons_succ]
      refine wpAnyIn_take (i := 3) (v := ?_) rfl rfl (by kernel_rfl) (by kernel_rfl) (by kernel_rfl) (fun _ _ _ h => h) ⟨Or.inl ⟨by rfl, ?_⟩, fun _ => rfl⟩ ?_
      rotate_left 1
      · intro w; go_simp; try with_reducible rfl
      try simp only [Act.put, List.getElem_toArray, List.getElem_cons_succ, List.getElem_cons_zero, List.setIfInBounds_toArray, List.set_cons_zero, List.set_cons_succ]
      refine wpAnyIn_ready (rs := [1, 2]) (by kernel_rfl) (by simp) (AllReadyIn.cons rfl (fun K hK => ?_) (AllReadyIn.cons rfl (fun K hK => ?_) AllReadyIn.nil))
      ·
        go_simp
        refine hK _ _ ?_
        clear hK K
        try simp only [Act.put, List.getElem_toArray, List.getElem_cons_succ, List.getElem_cons_zero, List.setIfInBounds_toArray, List.set_cons_zero, List.set_cons_succ]
        refine wpAnyIn_ready (rs := [2]) (by kernel_rfl) (by simp) (AllReadyIn.cons rfl (fun K hK => ?_) AllReadyIn.nil)
        go_simp
        refine hK _ _ ?_
        clear hK K
        try simp only [Act.put, List.getElem_toArray, List.getElem_cons_succ, List.getElem_cons_zero, List.setIfInBounds_toArray, List.set_cons_zero, List.set_cons_succ]
        refine wpAnyIn_take (i := 4) (v := ?_) rfl rfl (by kernel_rfl) (by kernel_rfl) (by kernel_rfl) (fun _ _ _ h => h) ⟨Or.inl ⟨by rfl, ?_⟩, fun _ => rfl⟩ ?_
        rotate_left 1
        · intro w; go_simp; try with_reducible rfl
        try simp only [Act.put, List.getElem_toArray, List.getElem_cons_succ, List.getElem_cons_zero, List.setIfInBounds_toArray, List.set_cons_zero, List.set_cons_succ]
        refine wpAnyIn_take (i := 5) (v := ?_) rfl rfl (by kernel_rfl) (by kernel_rfl) (by kernel_rfl) (fun _ _ _ h => h) ⟨Or.inl ⟨by rfl, ?_⟩, fun _ => rfl⟩ ?_
        rotate_left 1
        · intro w; go_simp; try with_reducible rfl
        try simp only [Act.put, List.getElem_toArray, List.getElem_cons_succ, List.getElem_cons_zero, List.setIfInBounds_toArray, List.set_cons_zero, List.set_cons_succ]
        refine wpAnyIn_take (i := 6) (v := ?_) rfl rfl (by kernel_rfl) (by kernel_rfl) (by kernel_rfl) (fun _ _ _ h => h) ⟨Or.inl ⟨by rfl, ?_⟩, fun _ => rfl⟩ ?_
        rotate_left 1
        · intro w; go_simp; try with_reducible rfl
        try simp only [Act.put, List.getElem_toArray, List.getElem_cons_succ, List.getElem_cons_zero, List.setIfInBounds_toArray, List.set_cons_zero, List.set_cons_succ]
        refine wpAnyIn_ready (rs := [7]) (by kernel_rfl) (by simp) (AllReadyIn.cons rfl (fun K hK => ?_) AllReadyIn.nil)
        go_simp
        refine hRd.mono ?_
        rintro e W3 (⟨rfl, hJ3, hKp3⟩ | ⟨rfl, hJx3⟩)
        · refine hK _ _ ?_
          clear hK K
          try simp only [Act.put, List.getElem_toArray, List.getElem_cons_succ, List.getElem_cons_zero, List.setIfInBounds_toArray, List.set_cons_zero, List.set_cons_succ]
          refine wpAnyIn_take (i := 8) (v := ?_) rfl rfl (by kernel_rfl) (by kernel_rfl) (by kernel_rfl) (fun _ _ _ h => h) ⟨Or.inl ⟨by rfl, ?_⟩, fun _ => rfl⟩ ?_
          rotate_left 1
          · intro w; go_simp; try with_reducible rfl
          try simp only [Act.put, List.getElem_toArray, List.getElem_cons_succ, List.getElem_cons_zero, List.setIfInBounds_toArray, List.set_cons_zero, List.set_cons_succ]
          refine wpAnyIn_done (by kernel_rfl) ?_ _
          go_wp2
          go_roundw
          case rel => exact ⟨k + 1, pre ++ [⟨(r, bt), hrm⟩], by omega, by go_num, by rw [List.map_append, HPRE.out, List.take_add_one, HTK.out, HBT.out]; rfl, hJ3, hK2.trans hKp3⟩
          case measure => simp [intOf]; omega
        · refine hK _ _ ?_
          clear hK K
          try simp only [Act.put, List.getElem_toArray, List.getElem_cons_succ, List.getElem_cons_zero, List.setIfInBounds_toArray, List.set_cons_zero, List.set_cons_succ]
          refine wpAnyIn_take (i := 8) (v := ?_) rfl rfl (by kernel_rfl) (by kernel_rfl) (by kernel_rfl) (fun _ _ _ h => h) ⟨Or.inl ⟨by rfl, ?_⟩, fun _ => rfl⟩ ?_
          rotate_left 1
          · intro w; go_simp; try with_reducible rfl
          try simp only [Act.put, List.getElem_toArray, List.getElem_cons_succ, List.getElem_cons_zero, List.setIfInBounds_toArray, List.set_cons_zero, List.set_cons_succ]
          refine wpAnyIn_done (by kernel_rfl) ?_ _
          go_wp2
          refine bodyPost_ret (results_none rfl _ _ _) rfl ?_
          refine ⟨⟨_, rfl⟩, .inr ⟨_, ?_, hJx3⟩⟩
          rw [List.map_append, HPRE.out]
          exact ⟨(turnsK p ys).drop (k + 1), by rw [← HBT.out, show (List.map (fun x : SdOf ys => x.1) [⟨(r, decide (p / 2 ^ k % 2 = 0)), hrm⟩]) = (turnsK p ys)[k]?.toList by rw [HTK.out]; rfl, ← List.take_add_one, List.take_append_drop]⟩
      ·
        go_simp
        refine hK _ _ ?_
        clear hK K
        try simp only [Act.put, List.getElem_toArray, List.getElem_cons_succ, List.getElem_cons_zero, List.setIfInBounds_toArray, List.set_cons_zero, List.set_cons_succ]
        refine wpAnyIn_take (i := 4) (v := ?_) rfl rfl (by kernel_rfl) (by kernel_rfl) (by kernel_rfl) (fun _ _ _ h => h) ⟨Or.inl ⟨by rfl, ?_⟩, fun _ => rfl⟩ ?_
        rotate_left 1
        · intro w; go_simp; try with_reducible rfl
        try simp only [Act.put, List.getElem_toArray, List.getElem_cons_succ, List.getElem_cons_zero, List.setIfInBounds_toArray, List.set_cons_zero, List.set_cons_succ]
        refine wpAnyIn_take (i := 5) (v := ?_) rfl rfl (by kernel_rfl) (by kernel_rfl) (by kernel_rfl) (fun _ _ _ h => h) ⟨Or.inl ⟨by rfl, ?_⟩, fun _ => rfl⟩ ?_
        rotate_left 1
        · intro w; go_simp; try with_reducible rfl
        try simp only [Act.put, List.getElem_toArray, List.getElem_cons_succ, List.getElem_cons_zero, List.setIfInBounds_toArray, List.set_cons_zero, List.set_cons_succ]
        refine wpAnyIn_take (i := 6) (v := ?_) rfl rfl (by kernel_rfl) (by kernel_rfl) (by kernel_rfl) (fun _ _ _ h => h) ⟨Or.inl ⟨by rfl, ?_⟩, fun _ => rfl⟩ ?_
        rotate_left 1
        · intro w; go_simp; try with_reducible rfl
        try simp only [Act.put, List.getElem_toArray, List.getElem_cons_succ, List.getElem_cons_zero, List.setIfInBounds_toArray, List.set_cons_zero, List.set_cons_succ]
        refine wpAnyIn_ready (rs := [1]) (by kernel_rfl) (by simp) (AllReadyIn.cons rfl (fun K hK => ?_) AllReadyIn.nil)
        go_simp
        refine hK _ _ ?_
        clear hK K
        try simp only [Act.put, List.getElem_toArray, List.getElem_cons_succ, List.getElem_cons_zero, List.setIfInBounds_toArray, List.set_cons_zero, List.set_cons_succ]
        refine wpAnyIn_ready (rs := [7]) (by kernel_rfl) (by simp) (AllReadyIn.cons rfl (fun K hK => ?_) AllReadyIn.nil)
        go_simp
        refine hRd.mono ?_
        rintro e W3 (⟨rfl, hJ3, hKp3⟩ | ⟨rfl, hJx3⟩)
        · refine hK _ _ ?_
          clear hK K
          try simp only [Act.put, List.getElem_toArray, List.getElem_cons_succ, List.getElem_cons_zero, List.setIfInBounds_toArray, List.set_cons_zero, List.set_cons_succ]
          refine wpAnyIn_take (i := 8) (v := ?_) rfl rfl (by kernel_rfl) (by kernel_rfl) (by kernel_rfl) (fun _ _ _ h => h) ⟨Or.inl ⟨by rfl, ?_⟩, fun _ => rfl⟩ ?_
          rotate_left 1
          · intro w; go_simp; try with_reducible rfl
          try simp only [Act.put, List.getElem_toArray, List.getElem_cons_succ, List.getElem_cons_zero, List.setIfInBounds_toArray, List.set_cons_zero, List.set_cons_succ]
          refine wpAnyIn_done (by kernel_rfl) ?_ _
          go_wp2
          go_roundw
          case rel => exact ⟨k + 1, pre ++ [⟨(r, bt), hrm⟩], by omega, by go_num, by rw [List.map_append, HPRE.out, List.take_add_one, HTK.out, HBT.out]; rfl, hJ3, hK2.trans hKp3⟩
          case measure => simp [intOf]; omega
        · refine hK _ _ ?_
          clear hK K
          try simp only [Act.put, List.getElem_toArray, List.getElem_cons_succ, List.getElem_cons_zero, List.setIfInBounds_toArray, List.set_cons_zero, List.set_cons_succ]
          refine wpAnyIn_take (i := 8) (v := ?_) rfl rfl (by kernel_rfl) (by kernel_rfl) (by kernel_rfl) (fun _ _ _ h => h) ⟨Or.inl ⟨by rfl, ?_⟩, fun _ => rfl⟩ ?_
          rotate_left 1
          · intro w; go_simp; try with_reducible rfl
          try simp only [Act.put, List.getElem_toArray, List.getElem_cons_succ, List.getElem_cons_zero, List.setIfInBounds_toArray, List.set_cons_zero, List.set_cons_succ]
          refine wpAnyIn_done (by kernel_rfl) ?_ _
          go_wp2
          refine bodyPost_ret (results_none rfl _ _ _) rfl ?_
          refine ⟨⟨_, rfl⟩, .inr ⟨_, ?_, hJx3⟩⟩
          rw [List.map_append, HPRE.out]
          exact ⟨(turnsK p ys).drop (k + 1), by rw [← HBT.out, show (List.map (fun x : SdOf ys => x.1) [⟨(r, decide (p / 2 ^ k % 2 = 0)), hrm⟩]) = (turnsK p ys)[k]?.toList by rw [HTK.out]; rfl, ← List.take_add_one, List.take_append_drop]⟩
    · have e : k = N := by omega
      subst e
      have hlti : ¬ ((k : Int) < (ys.length : Int)) := by omega
      have hp := HPRE.out
      rw [List.take_of_length_le (by omega)] at hp
      have HP2 := hideIt hp
      clear hp
      gi_wp2
      go_end0
      exact ⟨⟨_, rfl⟩, .inl ⟨pre, HP2.out, hJr⟩⟩
end Go.Proofs.YtjbaeiifamendaaDoor
