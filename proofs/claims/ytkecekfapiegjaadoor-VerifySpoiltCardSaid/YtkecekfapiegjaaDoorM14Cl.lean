/- Several of my texts, laid as one. -/
import Derived.Test.YtkecekfapiegjaaDoorM14W
import Derived.Test.YtkecekfapiegjaaDoorM13Nod
import Derived.Test.YtkecekfapiegjaaDoorM14Pln
import Derived.Test.YtkecekfapiegjaaDoorM14Of
/-
  Package node's turns, walked: the function that is ranged over goes over the sides, each with whether it stands right.
-/
namespace Go.Proofs.YtkecekfapiegjaaDoor
set_option linter.unusedVariables false
set_option linter.unusedSimpArgs false
set_option maxRecDepth 10000
open Go.RowKit Go.Shelf
attribute [local go_sem] Oper.semAt_some

theorem bit_even (q : Nat) (hq : q < 18446744073709551616) : (bits .and .u64 (q : Int) 1 == 0) = decide (q % 2 = 0) := by
  have h := bits_and_u64_nat q 1 hq (by decide)
  rw [Nat.and_one_is_mod] at h
  have h : bits .and .u64 (q : Int) 1 = ((q % 2 : Nat) : Int) := h
  rw [h]
  by_cases h0 : q % 2 = 0
  · rw [decide_eq_true h0, h0]; rfl
  · rw [decide_eq_false h0, show q % 2 = 1 by omega]; rfl
/-- A side of these, with whether it stands right. -/
abbrev SdOf (l : List Nd) := { x : Nd × Bool // x.1 ∈ l }
set_option maxHeartbeats 1000000 in
theorem turns_any (p : Int) (A : Option Addr) (n c : Nat) (w : World) : Calls Tryd.prog 104 #[.int .u64 p, .slice A n c] w fun e w' =>
    e = .returned (.func (.func 120) #[] #[.pointer (some ⟨w.heap.size + 1, 0, none⟩), .pointer (some ⟨w.heap.size, 0, none⟩)]) ∧ w' = (w.alloc (.cells #[.int .u64 p] 22)).alloc (.cells #[.slice A n c] 35) := by
  go_enter Tryd.func104, Tryd.ntmps104
  go_wp2
  go_ret
  exact ⟨by simp, rfl⟩
set_option maxRecDepth 100000 in
set_option maxHeartbeats 4000000 in
theorem turns_in (D : Nat) (S : Nat → Prop) (n : Nat) (hn : 1 ≤ n) (l B1 B2 : Nat) (A : Option Addr) (c p : Nat) (hp : p < 18446744073709551616) (ys : List Nd) (hm : ys.length ≤ 63)
    (J Jx : List (SdOf ys) → World → Prop) (W : World) (hDW : D ≤ W.heap.size) (hJ : AbidesFrom W.heap.size J)
    (hY : ∀ pre x W1, J pre W1 → pre.length < ys.length → YieldAt Fence.wide (n - 1) Tryd.prog l #[x.1.1.val, .bool x.1.2] W1 fun e W' =>
      (e = .returned (.bool true) ∧ J (pre ++ [x]) W' ∧ KpE D S W1 W') ∨ (e = .returned (.bool false) ∧ Jx (pre ++ [x]) W'))
    (hB1 : Box W B1 35 #[.slice A ys.length c]) (hB2 : Box W B2 22 #[.int .u64 p]) (hR : ndS.Row W D A ys) (hl1 : B1 < D ∧ ¬ S B1) (hl2 : B2 < D ∧ ¬ S B2) (hl4 : ∀ ad, A = some ad → 0 < ys.length → ¬ S ad.block)
    (h0 : J [] W) :
    CallsIn Fence.wide n Tryd.prog 120 #[.func (.yield l) #[] #[], .pointer (some ⟨B1, 0, none⟩), .pointer (some ⟨B2, 0, none⟩)] W fun e W' => (∃ v, e = .returned v) ∧
      ((∃ xs, xs.map (·.1) = turnsK p ys ∧ J xs W') ∨ (∃ pre, pre.map (·.1) <+: turnsK p ys ∧ Jx pre W')) := by
  obtain ⟨N, hN⟩ : ∃ N, ys.length = N := ⟨_, rfl⟩
  have hfr := hB1.read 0
  have hin1 := hB1.inside
  have hlk := turnsK_len p ys
  refine callsIn_of_wp Tryd.func120 rfl trivial ?_ rfl
  simp only [Tryd.ntmps120, List.size_toArray, List.length_cons, List.length_nil, Nat.reduceAdd, Nat.reduceSub, Array.replicate_succ, Array.replicate_zero, List.push_toArray, List.append_toArray, List.nil_append, List.cons_append]
  gi_wp2
  gi_loopw [8] (fun i wr => ∃ (k : Nat) (pre : List (SdOf ys)), k ≤ N ∧ i = .int .i64 k ∧ pre.map (·.1) = (turnsK p ys).take k ∧ J pre wr ∧ KpE D S W wr)
    (fun i _ => N - (intOf i).toNat)
  case atStart => exact ⟨0, [], Nat.zero_le _, rfl, by simp, h0, KpE.refl _⟩
  case round =>
    obtain ⟨k, pre, hk, rfl, hpre, hJr, hKp⟩ := hrel
    have hpl : pre.length = k := by
      have h1 := congrArg List.length hpre
      rw [List.length_map, List.length_take, hlk] at h1
      omega
    have HPRE := hideIt hpre
    clear hpre
    by_cases hlt : k < N
    · obtain ⟨r, hr⟩ : ∃ r, ys[k]? = some r := ⟨_, List.getElem?_eq_getElem (by omega)⟩
      have htk := turnsK_at ys p k r hr
      have hrm := List.mem_of_getElem? hr
      obtain ⟨ad, hA, had, hRA⟩ := hR k r hr
      subst hA
      have hbl := hKp.2 ad.block had (hl4 ad rfl (by omega))
      obtain ⟨p0, p1, p2⟩ := ndS_at (hRA.keep (w' := wr) (by rw [gen_block]; exact hbl))
      change wr.cell? (ad.add (k * 3)) = _ at p0
      change wr.cell? ⟨(ad.add (k * 3)).block, (ad.add (k * 3)).off + 1, none⟩ = _ at p1
      change wr.cell? ⟨(ad.add (k * 3)).block, (ad.add (k * 3)).off + 2, none⟩ = _ at p2
      have hDr : D ≤ wr.heap.size := Nat.le_trans hDW hKp.1
      have p3 : (ad.add (k * 3)).block < wr.heap.size := by rw [gen_block]; omega
      have hlti : (k : Int) < (N : Int) := by omega
      have hB2r : Box wr B2 22 #[.int .u64 p] := hKp.box hl2.1 hl2.2 hB2
      have HTK := hideIt htk
      clear hr htk hRA
      rw [← hN] at hlti
      refine wpIn_wide.2 ?_
      go_upto_region 3 with fail
      have B1r := Box.made wr 49 #[.string r.hash, .int .u64 r.h, .int .u64 r.l]
      have L1 := chainA (Below.refl wr.heap.size wr) (.cells #[.string r.hash, .int .u64 r.h, .int .u64 r.l] 49)
      have B2s := hB2r.past (.cells #[.string r.hash, .int .u64 r.h, .int .u64 r.l] 49)
      generalize wr.alloc (.cells #[.string r.hash, .int .u64 r.h, .int .u64 r.l] 49) = W1 at *
      obtain ⟨q0, q1, q2, -, -, -, hin⟩ := (show Box W1.drew wr.heap.size 49 #[.string r.hash, .int .u64 r.h, .int .u64 r.l] from B1r).three
      have c2 := (show Box W1.drew B2 22 #[.int .u64 p] from B2s).read 0
      have i2 := (show Box W1.drew B2 22 #[.int .u64 p] from B2s).inside
      have hJ2 := abideE hJ hJr (L1.drew)
      have hK2 := hKp.trans (KpE.below L1.drew hDr)
      clear p0 p1 p2 p3
      have hqp : p / 2 ^ k < 18446744073709551616 := Nat.lt_of_le_of_lt (Nat.div_le_self _ _) hp
      have hbit := bit_even (p / 2 ^ k) hqp
      rw [show ((p / 2 ^ k : Nat) : Int) = (p : Int) / 2 ^ k by rw [Int.natCast_ediv, Int.natCast_pow]; rfl] at hbit
      obtain ⟨bt, hbt⟩ : ∃ b, decide (p / 2 ^ k % 2 = 0) = b := ⟨_, rfl⟩
      rw [hbt] at hbit
      obtain ⟨fn, tmps, assign, body, hy, hRd⟩ := hY pre ⟨(r, bt), hrm⟩ W1.drew hJ2 (by omega)
      simp only [Nd.val] at hy
      have HBT := hideIt hbt
      clear hbt hqp
      refine (wpIn_wide (n := n)).1 ?_
      refine wpIn_region_any (by kernel_rfl) ?_
      change wpAnyIn _ _ _ _ _ _ _ _ _ (World.drew _)
      generalize W1.drew = W2 at *
      refine wpAnyIn_take (i := 0) (v := ?_) rfl rfl (by kernel_rfl) (by kernel_rfl) (by kernel_rfl) (fun _ _ _ h => h) ⟨Or.inl ⟨by rfl, ?_⟩, fun _ => rfl⟩ ?_
      rotate_left 1
      · intro w; go_simp; try with_reducible rfl
      try simp only [Act.put, List.getElem_toArray, List.getElem_cons_succ, List.getElem_cons_zero, List.setIfInBounds_toArray, List.set_cons_zero, List.set_cons_succ]
      refine wpAnyIn_take (i := 3) (v := ?_) rfl rfl (by kernel_rfl) (by kernel_rfl) (by kernel_rfl) (fun _ _ _ h => h) ⟨Or.inl ⟨by rfl, ?_⟩, fun _ => rfl⟩ ?_
      rotate_left 1
      · intro w; go_simp; try with_reducible rfl
      try simp only [Act.put, List.getElem_toArray, List.getElem_cons_succ, List.getElem_cons_zero, List.setIfInBounds_toArray, List.set_cons_zero, List.set_cons_succ]
      refine wpAnyIn_ready (rs := [1, 2]) (by kernel_rfl) (by simp) (AllReadyIn.cons rfl (fun K hK => ?_) (AllReadyIn.cons rfl (fun K hK => ?_) AllReadyIn.nil))
      ·
        go_simp
        refine hK _ _ ?_
        clear hK K
        try simp only [Act.put, List.getElem_toArray, List.getElem_cons_succ, List.getElem_cons_zero, List.setIfInBounds_toArray, List.set_cons_zero, List.set_cons_succ]
        refine wpAnyIn_ready (rs := [2]) (by kernel_rfl) (by simp) (AllReadyIn.cons rfl (fun K hK => ?_) AllReadyIn.nil)
        go_simp
        refine hK _ _ ?_
        clear hK K
        try simp only [Act.put, List.getElem_toArray, List.getElem_cons_succ, List.getElem_cons_zero, List.setIfInBounds_toArray, List.set_cons_zero, List.set_cons_succ]
        refine wpAnyIn_take (i := 4) (v := ?_) rfl rfl (by kernel_rfl) (by kernel_rfl) (by kernel_rfl) (fun _ _ _ h => h) ⟨Or.inl ⟨by rfl, ?_⟩, fun _ => rfl⟩ ?_
        rotate_left 1
        · intro w; go_simp; try with_reducible rfl
        try simp only [Act.put, List.getElem_toArray, List.getElem_cons_succ, List.getElem_cons_zero, List.setIfInBounds_toArray, List.set_cons_zero, List.set_cons_succ]
        refine wpAnyIn_take (i := 5) (v := ?_) rfl rfl (by kernel_rfl) (by kernel_rfl) (by kernel_rfl) (fun _ _ _ h => h) ⟨Or.inl ⟨by rfl, ?_⟩, fun _ => rfl⟩ ?_
        rotate_left 1
        · intro w; go_simp; try with_reducible rfl
        try simp only [Act.put, List.getElem_toArray, List.getElem_cons_succ, List.getElem_cons_zero, List.setIfInBounds_toArray, List.set_cons_zero, List.set_cons_succ]
        refine wpAnyIn_take (i := 6) (v := ?_) rfl rfl (by kernel_rfl) (by kernel_rfl) (by kernel_rfl) (fun _ _ _ h => h) ⟨Or.inl ⟨by rfl, ?_⟩, fun _ => rfl⟩ ?_
        rotate_left 1
        · intro w; go_simp; try with_reducible rfl
        try simp only [Act.put, List.getElem_toArray, List.getElem_cons_succ, List.getElem_cons_zero, List.setIfInBounds_toArray, List.set_cons_zero, List.set_cons_succ]
        refine wpAnyIn_ready (rs := [7]) (by kernel_rfl) (by simp) (AllReadyIn.cons rfl (fun K hK => ?_) AllReadyIn.nil)
        go_simp
        refine hRd.mono ?_
        rintro e W3 (⟨rfl, hJ3, hKp3⟩ | ⟨rfl, hJx3⟩)
        · refine hK _ _ ?_
          clear hK K
          try simp only [Act.put, List.getElem_toArray, List.getElem_cons_succ, List.getElem_cons_zero, List.setIfInBounds_toArray, List.set_cons_zero, List.set_cons_succ]
          refine wpAnyIn_take (i := 8) (v := ?_) rfl rfl (by kernel_rfl) (by kernel_rfl) (by kernel_rfl) (fun _ _ _ h => h) ⟨Or.inl ⟨by rfl, ?_⟩, fun _ => rfl⟩ ?_
          rotate_left 1
          · intro w; go_simp; try with_reducible rfl
          try simp only [Act.put, List.getElem_toArray, List.getElem_cons_succ, List.getElem_cons_zero, List.setIfInBounds_toArray, List.set_cons_zero, List.set_cons_succ]
          refine wpAnyIn_done (by kernel_rfl) ?_ _
          go_wp2
          go_roundw
          case rel => exact ⟨k + 1, pre ++ [⟨(r, bt), hrm⟩], by omega, by go_num, by rw [List.map_append, HPRE.out, List.take_add_one, HTK.out, HBT.out]; rfl, hJ3, hK2.trans hKp3⟩
          case measure => simp [intOf]; omega
        · refine hK _ _ ?_
          clear hK K
          try simp only [Act.put, List.getElem_toArray, List.getElem_cons_succ, List.getElem_cons_zero, List.setIfInBounds_toArray, List.set_cons_zero, List.set_cons_succ]
          refine wpAnyIn_take (i := 8) (v := ?_) rfl rfl (by kernel_rfl) (by kernel_rfl) (by kernel_rfl) (fun _ _ _ h => h) ⟨Or.inl ⟨by rfl, ?_⟩, fun _ => rfl⟩ ?_
          rotate_left 1
          · intro w; go_simp; try with_reducible rfl
          try simp only [Act.put, List.getElem_toArray, List.getElem_cons_succ, List.getElem_cons_zero, List.setIfInBounds_toArray, List.set_cons_zero, List.set_cons_succ]
          refine wpAnyIn_done (by kernel_rfl) ?_ _
          go_wp2
          refine bodyPost_ret (results_none rfl _ _ _) rfl ?_
          refine ⟨⟨_, rfl⟩, .inr ⟨_, ?_, hJx3⟩⟩
          rw [List.map_append, HPRE.out]
          exact ⟨(turnsK p ys).drop (k + 1), by rw [← HBT.out, show (List.map (fun x : SdOf ys => x.1) [⟨(r, decide (p / 2 ^ k % 2 = 0)), hrm⟩]) = (turnsK p ys)[k]?.toList by rw [HTK.out]; rfl, ← List.take_add_one, List.take_append_drop]⟩
      ·
        go_simp
        refine hK _ _ ?_
        clear hK K
        try simp only [Act.put, List.getElem_toArray, List.getElem_cons_succ, List.getElem_cons_zero, List.setIfInBounds_toArray, List.set_cons_zero, List.set_cons_succ]
        refine wpAnyIn_take (i := 4) (v := ?_) rfl rfl (by kernel_rfl) (by kernel_rfl) (by kernel_rfl) (fun _ _ _ h => h) ⟨Or.inl ⟨by rfl, ?_⟩, fun _ => rfl⟩ ?_
        rotate_left 1
        · intro w; go_simp; try with_reducible rfl
        try simp only [Act.put, List.getElem_toArray, List.getElem_cons_succ, List.getElem_cons_zero, List.setIfInBounds_toArray, List.set_cons_zero, List.set_cons_succ]
        refine wpAnyIn_take (i := 5) (v := ?_) rfl rfl (by kernel_rfl) (by kernel_rfl) (by kernel_rfl) (fun _ _ _ h => h) ⟨Or.inl ⟨by rfl, ?_⟩, fun _ => rfl⟩ ?_
        rotate_left 1
        · intro w; go_simp; try with_reducible rfl
        try simp only [Act.put, List.getElem_toArray, List.getElem_cons_succ, List.getElem_cons_zero, List.setIfInBounds_toArray, List.set_cons_zero, List.set_cons_succ]
        refine wpAnyIn_take (i := 6) (v := ?_) rfl rfl (by kernel_rfl) (by kernel_rfl) (by kernel_rfl) (fun _ _ _ h => h) ⟨Or.inl ⟨by rfl, ?_⟩, fun _ => rfl⟩ ?_
        rotate_left 1
        · intro w; go_simp; try with_reducible rfl
        try simp only [Act.put, List.getElem_toArray, List.getElem_cons_succ, List.getElem_cons_zero, List.setIfInBounds_toArray, List.set_cons_zero, List.set_cons_succ]
        refine wpAnyIn_ready (rs := [1]) (by kernel_rfl) (by simp) (AllReadyIn.cons rfl (fun K hK => ?_) AllReadyIn.nil)
        go_simp
        refine hK _ _ ?_
        clear hK K
        try simp only [Act.put, List.getElem_toArray, List.getElem_cons_succ, List.getElem_cons_zero, List.setIfInBounds_toArray, List.set_cons_zero, List.set_cons_succ]
        refine wpAnyIn_ready (rs := [7]) (by kernel_rfl) (by simp) (AllReadyIn.cons rfl (fun K hK => ?_) AllReadyIn.nil)
        go_simp
        refine hRd.mono ?_
        rintro e W3 (⟨rfl, hJ3, hKp3⟩ | ⟨rfl, hJx3⟩)
        · refine hK _ _ ?_
          clear hK K
          try simp only [Act.put, List.getElem_toArray, List.getElem_cons_succ, List.getElem_cons_zero, List.setIfInBounds_toArray, List.set_cons_zero, List.set_cons_succ]
          refine wpAnyIn_take (i := 8) (v := ?_) rfl rfl (by kernel_rfl) (by kernel_rfl) (by kernel_rfl) (fun _ _ _ h => h) ⟨Or.inl ⟨by rfl, ?_⟩, fun _ => rfl⟩ ?_
          rotate_left 1
          · intro w; go_simp; try with_reducible rfl
          try simp only [Act.put, List.getElem_toArray, List.getElem_cons_succ, List.getElem_cons_zero, List.setIfInBounds_toArray, List.set_cons_zero, List.set_cons_succ]
          refine wpAnyIn_done (by kernel_rfl) ?_ _
          go_wp2
          go_roundw
          case rel => exact ⟨k + 1, pre ++ [⟨(r, bt), hrm⟩], by omega, by go_num, by rw [List.map_append, HPRE.out, List.take_add_one, HTK.out, HBT.out]; rfl, hJ3, hK2.trans hKp3⟩
          case measure => simp [intOf]; omega
        · refine hK _ _ ?_
          clear hK K
          try simp only [Act.put, List.getElem_toArray, List.getElem_cons_succ, List.getElem_cons_zero, List.setIfInBounds_toArray, List.set_cons_zero, List.set_cons_succ]
          refine wpAnyIn_take (i := 8) (v := ?_) rfl rfl (by kernel_rfl) (by kernel_rfl) (by kernel_rfl) (fun _ _ _ h => h) ⟨Or.inl ⟨by rfl, ?_⟩, fun _ => rfl⟩ ?_
          rotate_left 1
          · intro w; go_simp; try with_reducible rfl
          try simp only [Act.put, List.getElem_toArray, List.getElem_cons_succ, List.getElem_cons_zero, List.setIfInBounds_toArray, List.set_cons_zero, List.set_cons_succ]
          refine wpAnyIn_done (by kernel_rfl) ?_ _
          go_wp2
          refine bodyPost_ret (results_none rfl _ _ _) rfl ?_
          refine ⟨⟨_, rfl⟩, .inr ⟨_, ?_, hJx3⟩⟩
          rw [List.map_append, HPRE.out]
          exact ⟨(turnsK p ys).drop (k + 1), by rw [← HBT.out, show (List.map (fun x : SdOf ys => x.1) [⟨(r, decide (p / 2 ^ k % 2 = 0)), hrm⟩]) = (turnsK p ys)[k]?.toList by rw [HTK.out]; rfl, ← List.take_add_one, List.take_append_drop]⟩
    · have e : k = N := by omega
      subst e
      have hlti : ¬ ((k : Int) < (ys.length : Int)) := by omega
      have hp := HPRE.out
      rw [List.take_of_length_le (by omega)] at hp
      have HP2 := hideIt hp
      clear hp
      gi_wp2
      go_end0
      exact ⟨⟨_, rfl⟩, .inl ⟨pre, HP2.out, hJr⟩⟩
end Go.Proofs.YtkecekfapiegjaaDoor
/-
  Package node's Climb, walked.
-/
namespace Go.Proofs.YtkecekfapiegjaaDoor
set_option linter.unusedVariables false
set_option linter.unusedSimpArgs false
set_option maxRecDepth 10000
open Go.RowKit Go.Shelf
attribute [local go_sem] Oper.semAt_some

/-- What a climb keeps: where it is, the results' cells, the width. -/
def ClH (w : World) (g : Nat) (n : Int) (nd at_ res : Nd) (e : Int) (W : World) : Prop :=
  Has w [(g, 49, ndB at_.hash at_.h at_.l), (w.heap.size + 3, 29, #[.int .i64 e]), (w.heap.size + 2, 49, ndB res.hash res.h res.l), (w.heap.size + 1, 49, ndB nd.hash nd.h nd.l), (w.heap.size, 3, #[.int .i64 n])] W
def ClI (w : World) (H g : Nat) (n : Int) (nd : Nd) (pre : List (Nd × Bool)) (W : World) : Prop :=
  H ≤ W.heap.size ∧ ∃ at_, climbT n nd pre = (at_, 0) ∧ at_.of n = true ∧ at_.halved ∧ ClH w g n nd at_ Nd.zero 0 W
set_option maxRecDepth 100000 in
set_option maxHeartbeats 8000000 in
theorem climb14_good (n : Int) (nd : Nd) (p : Nat) (hp : p < 18446744073709551616) (A : Option Addr) (c : Nat) (ys : List Nd) (hm : ys.length ≤ 63) (hn : nd.of n = true) (hh : nd.halved) (hy : ∀ x ∈ ys, x.of n = true ∧ x.halved)
    (w : World) (hR : ndS.Row w w.heap.size A ys) (hT : Tab w) :
    Calls Tryd.prog 82 #[.int .i64 n, nd.val, .int .u64 p, .slice A ys.length c] w (fun e w' => e = .returned (.tuple #[(climbS n nd p ys).1.val, .int .i64 (climbS n nd p ys).2]) ∧ Below w.heap.size w w') := by
  have hmw : mayW n = true := by rw [Nd.of, Bool.and_eq_true] at hn; exact hn.1
  have hall : allW n ys = true := by rw [allW, hmw, Bool.true_and]; exact List.all_eq_true.2 fun x hx => (hy x hx).1
  have cO := fun u => of14_any n nd u
  have cA := fun u hu => allOf14_any n A c ys (by omega) u hu
  have cW := fun u => own14_any nd (Nat.le_trans (of_size hn) (by decide)) u
  have cT := fun u => turns_any p A ys.length c u
  rw [hn] at cO
  rw [hall] at cA
  rw [← climbT_turns]
  obtain ⟨N, hN⟩ : ∃ N, ys.length = N := ⟨_, rfl⟩
  rw [hN] at cA cT hm ⊢
  have HN := hideIt hn
  have HH := hideIt hh
  obtain ⟨s, h, l⟩ := nd
  simp only [Nd.val] at cO cW
  show Calls _ _ #[.int .i64 n, .agg (ndB s h l), .int .u64 p, .slice A N c] _ _
  have H0 := ((((Has.start w).add 3 #[.int .i64 n]).addAt 49 (ndB s h l) (g := w.heap.size + 1) (by simp)).addAt 49 (ndB ⟨#[]⟩ 0 0) (g := w.heap.size + 1 + 1) (by simp)).addAt 29 #[.int .i64 0] (g := w.heap.size + 1 + 1 + 1) (by simp)
  refine (callsIn_wide (n := 9)).1 (callsIn_of_wp_marks Tryd.func82 rfl trivial ?_ rfl)
  simp only [Tryd.ntmps82, List.size_toArray, List.length_cons, List.length_nil, Nat.reduceAdd, Nat.reduceSub, Array.replicate_succ, Array.replicate_zero, List.push_toArray, List.append_toArray, List.nil_append, List.cons_append]
  refine wpIn_wide.2 ?_
  refine Code.wp_mono (noPan_to _) ?_
  go_upto_region 1 with fail
  change Code.wp _ _ _ _ ((((w.alloc (.cells #[.int .i64 n] 3)).alloc (.cells (ndB s h l) 49)).alloc (.cells (ndB ⟨#[]⟩ 0 0) 49)).alloc (.cells #[.int .i64 0] 29))
  generalize (((w.alloc (.cells #[.int .i64 n] 3)).alloc (.cells (ndB s h l) 49)).alloc (.cells (ndB ⟨#[]⟩ 0 0) 49)).alloc (.cells #[.int .i64 0] 29) = W0 at *
  simp only [Nat.add_assoc, Nat.reduceAdd] at H0 ⊢
  obtain ⟨p0, p1, p2, -, -, -, hin1⟩ := (H0.box 2).three
  have n0 := (H0.box 3).read 0
  have hin2 := (H0.box 3).inside
  have hN63 : (N : Int) ≤ 63 := by omega
  go_upto_region 6 with (first
    | (go_at_call 100; refine (cO _).mono ?_; rintro e w1 ⟨rfl, b1⟩; have K1 := H0.call b1; obtain ⟨y0, y1, y2, -, -, -, hin5⟩ := (K1.box 2).three; have n1 := (K1.box 3).read 0; have hin6 := (K1.box 3).inside)
    | (go_at_call 102; refine (cA _ (hR.on K1.below)).mono ?_; rintro e w2 ⟨rfl, b2⟩; have K2 := K1.call b2; obtain ⟨v0, v1, v2, -, -, -, hin7⟩ := (K2.box 2).three; have n2 := (K2.box 3).read 0; have hin8 := (K2.box 3).inside)
    | (go_at_call 103; refine (cW _).mono ?_; rintro e w3 ⟨rfl, b3⟩; have K3 := (K2.call b3).add 49 (ndB s h l))
    | fail)
  obtain ⟨g, hg⟩ : ∃ g, w3.heap.size = g := ⟨_, rfl⟩
  have hgb : w.heap.size + 3 < g := by have := (K2.box 0).inside; have := b3.size; omega
  rw [hg] at K3 ⊢
  change Code.wp _ _ _ _ (w3.alloc (.cells (ndB s h l) 49))
  generalize w3.alloc (.cells (ndB s h l) 49) = W4 at *
  clear y0 y1 y2 hin5 n1 hin6 v0 v1 v2 hin7 n2 hin8 p0 p1 p2 hin1 n0 hin2 cA cO cW hg b3 b2 b1 K1 K2 H0
  go_wp2_with (first
    | (go_at_call 104; refine (cT _).mono ?_; rintro e v1 ⟨rfl, rfl⟩)
    | fail)
  have bxP := (Box.made W4 22 #[.int .u64 p]).past (.cells #[.slice A N c] 35)
  have bxR := Box.made (W4.alloc (.cells #[.int .u64 p] 22)) 35 #[.slice A N c]
  rw [World.size_alloc] at bxR
  have LY := chainA (chainA (Below.refl W4.heap.size W4) (.cells #[.int .u64 p] 22)) (.cells #[.slice A N c] 35)
  have hgG := (K3.box 0).inside
  have KY := K3.call LY
  have RY := hR.call KY.below
  have hYs : ((W4.alloc (.cells #[.int .u64 p] 22)).alloc (.cells #[.slice A N c] 35)).heap.size = W4.heap.size + 2 := by simp
  obtain ⟨G, hG⟩ : ∃ G, W4.heap.size = G := ⟨_, rfl⟩
  rw [hG] at bxP bxR hYs hgG ⊢
  generalize (W4.alloc (.cells #[.int .u64 p] 22)).alloc (.cells #[.slice A N c] 35) = Y at *
  clear LY K3 cT hG
  have hTY := hT.call KY.below
  have hAS : ∀ ad, A = some ad → 0 < ys.length → ad.block < w.heap.size := fun ad e h0 => by
    obtain ⟨r, hr⟩ : ∃ r, ys[0]? = some r := ⟨_, List.getElem?_eq_getElem h0⟩
    obtain ⟨ad', e', h', -⟩ := hR 0 r hr
    rw [e] at e'
    injection e' with e'
    rw [e']
    exact h'
  refine (wpIn_wide (n := 9)).1 ?_
  refine wpIn_rangeFunc_ownH (F := Fence.wide) (n := 9) rfl (by decide) (gf := 120) (lb := #[.pointer (some ⟨G + 1, 0, none⟩), .pointer (some ⟨G, 0, none⟩)]) rfl trivial (enters_of Tryd.func120 (by kernel_rfl) rfl)
    (encs := fun x : SdOf ys => #[x.1.1.val, .bool x.1.2]) (Kp := KpE Y.heap.size (fun i => i = g)) (S := fun xs => xs.map (·.1) = turnsK p ys) (Sp := fun pre => pre.map (·.1) <+: turnsK p ys) (N := ys.length) (w0 := Y)
    ?hseq (fun a b => a.trans b) (fun W l o o' hl _ _ _ => KpE.putObj W l o' hl) (Below.refl _ _) (fun _ => rfl)
    (fun pre W => ClI w Y.heap.size g n ⟨s, h, l⟩ (pre.map fun x => x.1) W) (fun c pre W => c = .ret ∧ (climbT n ⟨s, h, l⟩ (pre.map fun x => x.1)).2 ≠ 0 ∧ Has w [(w.heap.size + 3, 29, #[.int .i64 10]), (w.heap.size + 2, 49, ndB ⟨#[]⟩ 0 0)] W)
    ?hI ?hIx ?h0
    (fun x a' W => ∃ Bx, Y.heap.size ≤ Bx ∧ Box W Bx 49 (ndB x.1.1.hash x.1.1.h x.1.1.l) ∧
      a' = { tmps := #[.int .i64 n, .agg (ndB s h l), .int .u64 p, .slice A N c, .pointer (some ⟨w.heap.size, 0, none⟩), .pointer (some ⟨w.heap.size + 1, 0, none⟩), undef, undef, .pointer (some ⟨w.heap.size + 2, 0, none⟩), .pointer (some ⟨w.heap.size + 3, 0, none⟩), .pointer (some ⟨g, 0, none⟩), .pointer (some ⟨Bx, 0, none⟩), .bool x.1.2, undef, undef, undef, undef, .bool false, .int .i64 n, .agg (ndB s h l), .bool true, .bool false, .bool false, .int .i64 n, .slice A N c, .bool true, .bool false, .bool false, undef, .bool (decide ((63 : Int) < (N : Int))), .slice A N c, .int .i64 N, .bool (decide ((63 : Int) < (N : Int))), undef, .agg (ndB s h l), .agg (ndB s h l), .int .u64 p, .slice A N c, .func (.func 120) #[] #[.pointer (some ⟨G + 1, 0, none⟩), .pointer (some ⟨G, 0, none⟩)], x.1.1.val, .bool x.1.2, undef, undef, undef, undef, undef, undef, undef, undef, undef, undef, undef, undef, undef, undef, undef, undef, undef, undef, undef], defers := [] })
    ?hAx ?assign ?body ?done ?stop
  case hseq =>
    intro l J Jx W hW hJ hJx hY h0
    have := turns_in Y.heap.size (fun i => i = g) 8 (by decide) l (G + 1) G A c p hp ys (by omega) J Jx W hW.size hJ hY (by rw [hN]; exact bxR.call hW) (bxP.call hW) ((RY.more (by omega)).call hW) ⟨by omega, by omega⟩ ⟨by omega, by omega⟩ ?_ h0
    · exact this
    · intro ad e h0 hs
      have := hAS ad e h0
      omega
  case hI =>
    rintro q W W' row ⟨h1, at_, h2, h3, h4, h5⟩ hg hr
    exact ⟨Nat.le_trans h1 hg.size, at_, h2, h3, h4, h5.grownE hg (fun r e => by have := (hr r e).1; omega) fun r e x hx => by
      have := (hr r e).1
      simp only [List.mem_cons, List.not_mem_nil, or_false] at hx
      rcases hx with rfl | rfl | rfl | rfl | rfl <;> simp only <;> omega⟩
  case hIx =>
    rintro cc q W W' row ⟨h1, h2, h3⟩ hg hr
    exact ⟨h1, h2, h3.grownE hg (fun r e => by have := (hr r e).1; omega) fun r e x hx => by
      have := (hr r e).1
      simp only [List.mem_cons, List.not_mem_nil, or_false] at hx
      rcases hx with rfl | rfl <;> simp only <;> omega⟩
  case h0 => exact ⟨Nat.le_refl _, _, rfl, HN.out, HH.out, KY⟩
  case hAx =>
    rintro x a' s W W' row ⟨Bx, h1, h2, h3⟩ hg hr
    exact ⟨Bx, h1, box_ownE (β := Unit) Bx _ _ (fun _ => _) () W W' row h2 hg hr, h3⟩
  case assign =>
    rintro lk pre ⟨⟨⟨xs, xh, xl⟩, xb⟩, hq⟩ W K ⟨hHs, at_, h2, h3, h4, h5⟩ hK2
    simp only [Nd.val] at hK2 ⊢
    gi_wp2
    exact hK2 _ _ ((KeepsOthers.alloc _ _).from _) (KpE.below ((Below.refl _ W).alloc (Nat.le_refl _) _) hHs) ⟨by rw [World.size_alloc]; omega, at_, h2, h3, h4, h5.past _⟩ ⟨W.heap.size, hHs, Box.made _ _ _, rfl⟩
  case body =>
    rintro lk pre ⟨⟨⟨xs, xh, xl⟩, xb⟩, hq⟩ a' W hl ⟨rr, hrr⟩ ⟨hHs, ⟨ts, th, tl⟩, hcl, hof, hha, hK⟩ ⟨Bx, hBx, hbox, rfl⟩ hlt
    simp only [Nd.val]
    obtain ⟨c0, c1, c2, -, -, -, ci⟩ := (hK.box 0).three
    obtain ⟨d0, d1, d2, -, -, -, di⟩ := hbox.three
    have hmx : Tryd.prog.follows .mixedOrders = true := by kernel_rfl
    gi_wp2
    refine Code.wpIn_mono (Q := fun e a' w' => e = .normal ∧ ∃ L R, Y.heap.size ≤ L ∧ Y.heap.size ≤ R ∧ L ≠ R ∧ Box w' L 49 (ndB ts th tl) ∧ Box w' R 49 (ndB xs xh xl) ∧ Box w' Bx 49 (ndB xs xh xl) ∧ ClH w g n ⟨s, h, l⟩ ⟨ts, th, tl⟩ Nd.zero 0 w' ∧
      KeepsFrom Y.heap.size W w' ∧ KpE Y.heap.size (fun i => i = g) W w' ∧ a' = { tmps := #[.int .i64 n, .agg (ndB s h l), .int .u64 p, .slice A N c, .pointer (some ⟨w.heap.size, 0, none⟩), .pointer (some ⟨w.heap.size + 1, 0, none⟩), undef, undef, .pointer (some ⟨w.heap.size + 2, 0, none⟩), .pointer (some ⟨w.heap.size + 3, 0, none⟩), .pointer (some ⟨g, 0, none⟩), .pointer (some ⟨Bx, 0, none⟩), .bool xb, .pointer (some ⟨L, 0, none⟩), .pointer (some ⟨R, 0, none⟩), undef, undef, .bool false, .int .i64 n, .agg (ndB s h l), .bool true, .bool false, .bool false, .int .i64 n, .slice A N c, .bool true, .bool false, .bool false, undef, .bool (decide ((63 : Int) < (N : Int))), .slice A N c, .int .i64 N, .bool (decide ((63 : Int) < (N : Int))), undef, .agg (ndB s h l), .agg (ndB s h l), .int .u64 p, .slice A N c, .func (.func 120) #[] #[.pointer (some ⟨G + 1, 0, none⟩), .pointer (some ⟨G, 0, none⟩)], .agg (ndB xs xh xl), .bool xb, .agg (ndB ts th tl), .agg (ndB xs xh xl), undef, undef, undef, undef, undef, undef, undef, undef, undef, undef, undef, undef, undef, undef, undef, undef, undef], defers := [] }) ?fin ?reg
    case reg =>
      gi_region_o
      all_goals first
        | exact ⟨rfl, W.heap.size, W.heap.size + 1, hHs, by omega, by omega, (two_new W _ _ _).1, (two_new W _ _ _).2, hbox.call (two_below _ _ _), hK.call (two_below _ _ _), two_keeps _ _ _ _, KpE.below (two_below _ _ _) hHs, rfl⟩
        | exact ⟨rfl, W.heap.size + 1, W.heap.size, by omega, hHs, by omega, (two_new W _ _ _).2, (two_new W _ _ _).1, hbox.call (two_below _ _ _), hK.call (two_below _ _ _), two_keeps _ _ _ _, KpE.below (two_below _ _ _) hHs, rfl⟩
    case fin =>
      rintro e a1 W1 ⟨rfl, L, R, hL, hR, hne, bL, bR, bx, hK1, kf, kp, rfl⟩
      clear c0 c1 c2 ci d0 d1 d2 di hbox hK
      have hHs1 : Y.heap.size ≤ W1.heap.size := Nat.le_trans hHs kp.1
      obtain ⟨l0, l1, l2, lf0, lf1, lf2, li⟩ := bL.three
      obtain ⟨r0, r1, r2, rf0, rf1, rf2, ri⟩ := bR.three
      obtain ⟨e0, e1, e2, -, -, -, ei⟩ := bx.three
      obtain ⟨c0, c1, c2, cf0, cf1, cf2, ci⟩ := (hK1.box 0).three
      have n0 := (hK1.box 4).read 0
      have hin2 := (hK1.box 4).inside
      have hsn := climbT_snoc n (pre.map fun x => x.1) ⟨s, h, l⟩ ⟨ts, th, tl⟩ (⟨xs, xh, xl⟩, xb) hcl
      unfold stepT at hsn
      simp only at hsn
      obtain ⟨hqo, hqh⟩ := hy _ hq
      cases xb with
      | true =>
        rw [if_pos rfl, if_pos rfl] at hsn
        have cJ := fun u hu => join14_any n ⟨ts, th, tl⟩ ⟨xs, xh, xl⟩ (Nat.le_trans (of_size hof) (by decide)) (Nat.le_trans (of_size hqo) (by decide)) hha hqh u hu
        have hjf := fun h0 => stepT_fine hmw (n := ⟨ts, th, tl⟩) (y := (⟨xs, xh, xl⟩, true)) h0
        have hjc := join_code n ⟨ts, th, tl⟩ ⟨xs, xh, xl⟩
        simp only [stepT, if_pos rfl, if_true] at hjf
        obtain ⟨⟨⟨js, jh, jl⟩, je⟩, hJ⟩ : ∃ V, joinS n ⟨ts, th, tl⟩ ⟨xs, xh, xl⟩ = V := ⟨_, rfl⟩
        rw [hJ] at hsn hjf hjc cJ
        simp only [Nd.val] at cJ
        have HSN := hideIt hsn
        clear hsn hJ hcl
        rcases hjc with h0 | h0
        · simp only at h0
          subst h0
          obtain ⟨f1, f2⟩ := hjf rfl
          simp only at f1 f2
          gi_wp2_with (first
            | (refine ⟨trivial, ?_⟩; gi_at_call 105; refine (CallsIn.inRound lk (callsIn_wide.2 (cJ _ (hT.call hK1.below)))).mono ?_; rintro e w6 ⟨rfl, b6⟩; have K6 := (hK1.call b6).past (.cells (ndB js jh jl) 49); obtain ⟨z0, z1, z2, zf0, zf1, zf2, zi⟩ := (K6.box 0).three)
            | fail)
          have E := told3 K6 (by omega) (fun x hx => by
            simp only [List.mem_cons, List.not_mem_nil, or_false] at hx
            rcases hx with rfl | rfl | rfl | rfl <;> simp only <;> omega) (.string js) (.int .u64 jh) (.int .u64 jl)
          have b7 := chainA b6 (.cells (ndB js jh jl) 49)
          have kf2 := kf.trans (keepsFrom_belowE (B := Y.heap.size) b7)
          have kp2 := kp.trans (KpE.below (D := Y.heap.size) (S := fun i => i = g) b7 hHs1)
          have kf3 := kf2.trans ((((KeepsOthers.setCell _ ⟨g, 0, none⟩ (.string js)).trans (KeepsOthers.setCell _ ⟨g, 1, none⟩ (.int .u64 jh))).trans (KeepsOthers.setCell _ ⟨g, 2, none⟩ (.int .u64 jl))).from Y.heap.size)
          have kp3 := ((kp2.trans (KpE.set_ _ ⟨g, 0, none⟩ (.string js) rfl)).trans (KpE.set_ _ ⟨g, 1, none⟩ (.int .u64 jh) rfl)).trans (KpE.set_ _ ⟨g, 2, none⟩ (.int .u64 jl) rfl)
          exact ⟨kf3, kp3, Nat.le_trans hHs kp3.1, _, by rw [List.map_append]; exact HSN.out, f1, f2, E⟩
        · injection h0 with h0 h1
          simp only [Nd.zero, Nd.mk.injEq] at h0
          obtain ⟨rfl, rfl, rfl⟩ := h0
          subst h1
          gi_wp2_with (first
            | (refine ⟨trivial, ?_⟩; gi_at_call 105; refine (CallsIn.inRound lk (callsIn_wide.2 (cJ _ (hT.call hK1.below)))).mono ?_; rintro e w6 ⟨rfl, b6⟩; have K6 := (hK1.call b6).past (.cells (ndB ⟨#[]⟩ 0 0) 49); obtain ⟨z0, z1, z2, zf0, zf1, zf2, zi⟩ := (K6.box 2).three; have y0 := (K6.box 1).read 0; have y1 := (K6.box 1).free 0; have y2 := (K6.box 1).inside)
            | fail)
          have b7 := chainA b6 (.cells (ndB ⟨#[]⟩ 0 0) 49)
          have kf2 := kf.trans (keepsFrom_belowE (B := Y.heap.size) b7)
          have kf3 := kf2.trans (((((KeepsOthers.setCell _ ⟨w.heap.size + 2, 0, none⟩ (.string ⟨#[]⟩)).trans (KeepsOthers.setCell _ ⟨w.heap.size + 2, 1, none⟩ (.int .u64 0))).trans (KeepsOthers.setCell _ ⟨w.heap.size + 2, 2, none⟩ (.int .u64 0))).trans (KeepsOthers.setCell _ ⟨w.heap.size + 3, 0, none⟩ (.int .i64 10))).from Y.heap.size)
          have E := (told4 K6.tail (by omega) (by omega) (fun x hx => by
            simp only [List.mem_cons, List.not_mem_nil, or_false] at hx
            rcases hx with rfl | rfl <;> simp only <;> omega) (.string ⟨#[]⟩) (.int .u64 0) (.int .u64 0)).wrote (by omega) (fun x hx => by
            simp only [List.mem_cons, List.not_mem_nil, or_false] at hx
            rcases hx with rfl | rfl | rfl <;> simp only <;> omega) 0 (.int .i64 10)
          exact ⟨kf3, rfl, by rw [List.map_append]; show (climbT n ⟨s, h, l⟩ (List.map (fun x => x.val) pre ++ [_])).2 ≠ 0; rw [HSN.out]; decide, E.some_ fun x hx => by
            simp only [List.mem_cons, List.not_mem_nil, or_false] at hx
            rcases hx with rfl | rfl <;> simp⟩
      | false =>
        rw [if_neg (by decide), if_neg (by decide)] at hsn
        have cJ := fun u hu => join14_any n ⟨xs, xh, xl⟩ ⟨ts, th, tl⟩ (Nat.le_trans (of_size hqo) (by decide)) (Nat.le_trans (of_size hof) (by decide)) hqh hha u hu
        have hjf := fun h0 => stepT_fine hmw (n := ⟨ts, th, tl⟩) (y := (⟨xs, xh, xl⟩, false)) h0
        have hjc := join_code n ⟨xs, xh, xl⟩ ⟨ts, th, tl⟩
        simp only [stepT, Bool.false_eq_true, if_false] at hjf
        have hYw : w.heap.size + 3 < Y.heap.size := by omega
        have hne5 : ∀ x ∈ ([(g, 49, ndB ts th tl), (w.heap.size + 3, 29, #[.int .i64 0]), (w.heap.size + 2, 49, ndB Nd.zero.hash Nd.zero.h Nd.zero.l), (w.heap.size + 1, 49, ndB s h l), (w.heap.size, 3, #[.int .i64 n])] : List Blk), x.1 < Y.heap.size := fun x hx => by
          simp only [List.mem_cons, List.not_mem_nil, or_false] at hx
          rcases hx with rfl | rfl | rfl | rfl | rfl <;> simp only <;> omega
        have o1 := two_put (S := fun i => i = g) (D := Y.heap.size) hK1 bL bR hne (by omega) (by omega) (fun x hx => ⟨Nat.ne_of_lt (Nat.lt_of_lt_of_le (hne5 x hx) hL), Nat.ne_of_lt (Nat.lt_of_lt_of_le (hne5 x hx) hR)⟩) hL hR (.string xs) (.int .u64 xh) (.int .u64 xl) (.string ts) (.int .u64 th) (.int .u64 tl)
        have o2 := two_put (S := fun i => i = g) (D := Y.heap.size) hK1 bR bL (Ne.symm hne) (by omega) (by omega) (fun x hx => ⟨Nat.ne_of_lt (Nat.lt_of_lt_of_le (hne5 x hx) hR), Nat.ne_of_lt (Nat.lt_of_lt_of_le (hne5 x hx) hL)⟩) hR hL (.string ts) (.int .u64 th) (.int .u64 tl) (.string xs) (.int .u64 xh) (.int .u64 xl)
        have O1 := hideIt o1
        have O2 := hideIt o2
        clear o1 o2 hne5
        gi_wp2
        refine Code.wpIn_mono (Q := fun e a' w' => e = .normal ∧ Box w' L 49 (ndB xs xh xl) ∧ Box w' R 49 (ndB ts th tl) ∧ ClH w g n ⟨s, h, l⟩ ⟨ts, th, tl⟩ Nd.zero 0 w' ∧
          KeepsFrom Y.heap.size W w' ∧ KpE Y.heap.size (fun i => i = g) W w' ∧ a' = { tmps := #[.int .i64 n, .agg (ndB s h l), .int .u64 p, .slice A N c, .pointer (some ⟨w.heap.size, 0, none⟩), .pointer (some ⟨w.heap.size + 1, 0, none⟩), undef, undef, .pointer (some ⟨w.heap.size + 2, 0, none⟩), .pointer (some ⟨w.heap.size + 3, 0, none⟩), .pointer (some ⟨g, 0, none⟩), .pointer (some ⟨Bx, 0, none⟩), .bool false, .pointer (some ⟨L, 0, none⟩), .pointer (some ⟨R, 0, none⟩), undef, undef, .bool false, .int .i64 n, .agg (ndB s h l), .bool true, .bool false, .bool false, .int .i64 n, .slice A N c, .bool true, .bool false, .bool false, undef, .bool (decide ((63 : Int) < (N : Int))), .slice A N c, .int .i64 N, .bool (decide ((63 : Int) < (N : Int))), undef, .agg (ndB s h l), .agg (ndB s h l), .int .u64 p, .slice A N c, .func (.func 120) #[] #[.pointer (some ⟨G + 1, 0, none⟩), .pointer (some ⟨G, 0, none⟩)], .agg (ndB xs xh xl), .bool false, .agg (ndB ts th tl), .agg (ndB xs xh xl), .bool false, .bool true, .agg (ndB xs xh xl), .agg (ndB ts th tl), undef, undef, undef, undef, undef, undef, undef, undef, undef, undef, undef, undef, undef], defers := [] }) ?fin ?reg
        case reg =>
          gi_region_o
          all_goals have o1 := O1.out
          all_goals have o2 := O2.out
          all_goals first
            | exact ⟨rfl, o1.1, o1.2.1, o1.2.2.1, kf.trans o1.2.2.2.1, kp.trans o1.2.2.2.2, rfl⟩
            | exact ⟨rfl, o2.2.1, o2.1, o2.2.2.1, kf.trans o2.2.2.2.1, kp.trans o2.2.2.2.2, rfl⟩
        case fin =>
          rintro e a1 W1 ⟨rfl, bL, bR, hK1, kf, kp, rfl⟩
          clear l0 l1 l2 lf0 lf1 lf2 li r0 r1 r2 rf0 rf1 rf2 ri e0 e1 e2 ei c0 c1 c2 cf0 cf1 cf2 ci n0 hin2 hHs1
          have hHs1 : Y.heap.size ≤ W1.heap.size := Nat.le_trans hHs kp.1
          obtain ⟨l0, l1, l2, lf0, lf1, lf2, li⟩ := bL.three
          obtain ⟨r0, r1, r2, rf0, rf1, rf2, ri⟩ := bR.three
          obtain ⟨c0, c1, c2, cf0, cf1, cf2, ci⟩ := (hK1.box 0).three
          have n0 := (hK1.box 4).read 0
          have hin2 := (hK1.box 4).inside
          obtain ⟨⟨⟨js, jh, jl⟩, je⟩, hJ⟩ : ∃ V, joinS n ⟨xs, xh, xl⟩ ⟨ts, th, tl⟩ = V := ⟨_, rfl⟩
          rw [hJ] at hsn hjf hjc cJ
          simp only [Nd.val] at cJ
          have HSN := hideIt hsn
          clear hsn hJ hcl
          rcases hjc with h0 | h0
          · simp only at h0
            subst h0
            obtain ⟨f1, f2⟩ := hjf rfl
            simp only at f1 f2
            gi_wp2_with (first
              | (refine ⟨trivial, ?_⟩; gi_at_call 105; refine (CallsIn.inRound lk (callsIn_wide.2 (cJ _ (hT.call hK1.below)))).mono ?_; rintro e w6 ⟨rfl, b6⟩; have K6 := (hK1.call b6).past (.cells (ndB js jh jl) 49); obtain ⟨z0, z1, z2, zf0, zf1, zf2, zi⟩ := (K6.box 0).three)
              | fail)
            have E := told3 K6 (by omega) (fun x hx => by
              simp only [List.mem_cons, List.not_mem_nil, or_false] at hx
              rcases hx with rfl | rfl | rfl | rfl <;> simp only <;> omega) (.string js) (.int .u64 jh) (.int .u64 jl)
            have b7 := chainA b6 (.cells (ndB js jh jl) 49)
            have kf2 := kf.trans (keepsFrom_belowE (B := Y.heap.size) b7)
            have kp2 := kp.trans (KpE.below (D := Y.heap.size) (S := fun i => i = g) b7 hHs1)
            have kf3 := kf2.trans ((((KeepsOthers.setCell _ ⟨g, 0, none⟩ (.string js)).trans (KeepsOthers.setCell _ ⟨g, 1, none⟩ (.int .u64 jh))).trans (KeepsOthers.setCell _ ⟨g, 2, none⟩ (.int .u64 jl))).from Y.heap.size)
            have kp3 := ((kp2.trans (KpE.set_ _ ⟨g, 0, none⟩ (.string js) rfl)).trans (KpE.set_ _ ⟨g, 1, none⟩ (.int .u64 jh) rfl)).trans (KpE.set_ _ ⟨g, 2, none⟩ (.int .u64 jl) rfl)
            exact ⟨kf3, kp3, Nat.le_trans hHs kp3.1, _, by rw [List.map_append]; exact HSN.out, f1, f2, E⟩
          · injection h0 with h0 h1
            simp only [Nd.zero, Nd.mk.injEq] at h0
            obtain ⟨rfl, rfl, rfl⟩ := h0
            subst h1
            gi_wp2_with (first
              | (refine ⟨trivial, ?_⟩; gi_at_call 105; refine (CallsIn.inRound lk (callsIn_wide.2 (cJ _ (hT.call hK1.below)))).mono ?_; rintro e w6 ⟨rfl, b6⟩; have K6 := (hK1.call b6).past (.cells (ndB ⟨#[]⟩ 0 0) 49); obtain ⟨z0, z1, z2, zf0, zf1, zf2, zi⟩ := (K6.box 2).three; have y0 := (K6.box 1).read 0; have y1 := (K6.box 1).free 0; have y2 := (K6.box 1).inside)
              | fail)
            have b7 := chainA b6 (.cells (ndB ⟨#[]⟩ 0 0) 49)
            have kf2 := kf.trans (keepsFrom_belowE (B := Y.heap.size) b7)
            have kf3 := kf2.trans (((((KeepsOthers.setCell _ ⟨w.heap.size + 2, 0, none⟩ (.string ⟨#[]⟩)).trans (KeepsOthers.setCell _ ⟨w.heap.size + 2, 1, none⟩ (.int .u64 0))).trans (KeepsOthers.setCell _ ⟨w.heap.size + 2, 2, none⟩ (.int .u64 0))).trans (KeepsOthers.setCell _ ⟨w.heap.size + 3, 0, none⟩ (.int .i64 10))).from Y.heap.size)
            have E := (told4 K6.tail (by omega) (by omega) (fun x hx => by
              simp only [List.mem_cons, List.not_mem_nil, or_false] at hx
              rcases hx with rfl | rfl <;> simp only <;> omega) (.string ⟨#[]⟩) (.int .u64 0) (.int .u64 0)).wrote (by omega) (fun x hx => by
              simp only [List.mem_cons, List.not_mem_nil, or_false] at hx
              rcases hx with rfl | rfl | rfl <;> simp only <;> omega) 0 (.int .i64 10)
            exact ⟨kf3, rfl, by rw [List.map_append]; show (climbT n ⟨s, h, l⟩ (List.map (fun x => x.val) pre ++ [_])).2 ≠ 0; rw [HSN.out]; decide, E.some_ fun x hx => by
              simp only [List.mem_cons, List.not_mem_nil, or_false] at hx
              rcases hx with rfl | rfl <;> simp⟩
  case done =>
    rintro D xs W hD hxs ⟨hHs, ⟨ts, th, tl⟩, hcl, hof, hha, hK⟩ hK2
    have hxs' : xs.map (fun x => x.1) = turnsK p ys := hxs
    rw [hxs'] at hcl
    have HCL := hideIt hcl
    clear hcl
    obtain ⟨c0, c1, c2, cf0, cf1, cf2, ci⟩ := (hK.box 0).three
    obtain ⟨z0, z1, z2, zf0, zf1, zf2, zi⟩ := (hK.box 2).three
    have y0 := (hK.box 1).read 0
    have y1 := (hK.box 1).free 0
    have y2 := (hK.box 1).inside
    have E := (told4 hK.tail (by omega) (by omega) (fun x hx => by
      simp only [List.mem_cons, List.not_mem_nil, or_false] at hx
      rcases hx with rfl | rfl <;> simp only <;> omega) (.string ts) (.int .u64 th) (.int .u64 tl)).wrote (by omega) (fun x hx => by
      simp only [List.mem_cons, List.not_mem_nil, or_false] at hx
      rcases hx with rfl | rfl | rfl <;> simp only <;> omega) 0 (.int .i64 0)
    have hK3 : ((((W.setCell ⟨w.heap.size + 2, 0, none⟩ (.string ts)).setCell ⟨w.heap.size + 2, 1, none⟩ (.int .u64 th)).setCell ⟨w.heap.size + 2, 2, none⟩ (.int .u64 tl)).setCell ⟨w.heap.size + 3, 0, none⟩ (.int .i64 0)).heap[D]? = some (.deferred (some [])) :=
      ((((Below.heap_setCell _ ⟨w.heap.size + 3, 0, none⟩ _ D (by dsimp only; omega)).trans (Below.heap_setCell _ ⟨w.heap.size + 2, 2, none⟩ _ D (by dsimp only; omega))).trans (Below.heap_setCell _ ⟨w.heap.size + 2, 1, none⟩ _ D (by dsimp only; omega))).trans (Below.heap_setCell _ ⟨w.heap.size + 2, 0, none⟩ _ D (by dsimp only; omega))).trans hK2
    try dsimp only [Exit.inBlock, Exit.then]
    go_wp2
    refine ⟨by simp, .inl ⟨_, _, rfl, run_takeDeferred hK3, ?_⟩⟩
    have b2 := box_putE (o' := .deferred none) (E.box 1) (show w.heap.size + 2 ≠ D by omega)
    have b3 := box_putE (o' := .deferred none) (E.box 0) (show w.heap.size + 3 ≠ D by omega)
    have bw := E.below.trans (belowK_b (w := w) (Nat.le_refl _) _ D _ (.deferred none) (by omega) hK3 rfl rfl)
    generalize World.putObj _ D _ = Z at *
    obtain ⟨x0, x1, x2, -, -, -, xi⟩ := b2.three
    have x3 : Z.cell? ⟨w.heap.size + 3, 0, none⟩ = some (.int .i64 0) := b3.read 0
    exact ⟨.tuple #[Nd.val ⟨ts, th, tl⟩, .int .i64 0], by simp [results, Tryd.results82, go_sem, Nd.val, x0, x1, x2, x3], by rw [HCL.out], bw⟩
  case stop =>
    rintro D cc pre W hD hSp ⟨rfl, hne, hK⟩ hK2
    have hcl : climbT n ⟨s, h, l⟩ (turnsK p ys) = (Nd.zero, 10) := by
      obtain ⟨rest, hrest⟩ := hSp
      rw [← hrest, climbT_app, if_neg hne]
    have HCL := hideIt hcl
    clear hcl hne
    gi_wp2
    refine ⟨by simp, .inl ⟨_, _, rfl, run_takeDeferred hK2, ?_⟩⟩
    have b2 := box_putE (o' := .deferred none) (hK.box 1) (show w.heap.size + 2 ≠ D by omega)
    have b3 := box_putE (o' := .deferred none) (hK.box 0) (show w.heap.size + 3 ≠ D by omega)
    have bw := hK.below.trans (belowK_b (w := w) (Nat.le_refl _) _ D _ (.deferred none) (by omega) hK2 rfl rfl)
    generalize World.putObj _ D _ = Z at *
    obtain ⟨x0, x1, x2, -, -, -, xi⟩ := b2.three
    have x3 : Z.cell? ⟨w.heap.size + 3, 0, none⟩ = some (.int .i64 10) := b3.read 0
    exact ⟨.tuple #[Nd.zero.val, .int .i64 10], by simp [results, Tryd.results82, go_sem, Nd.val, Nd.zero, x0, x1, x2, x3], by rw [HCL.out], bw⟩
end Go.Proofs.YtkecekfapiegjaaDoor
/-
  Package node's Climb, whole.
-/
namespace Go.Proofs.YtkecekfapiegjaaDoor
set_option linter.unusedVariables false
set_option linter.unusedSimpArgs false
set_option maxRecDepth 10000
open Go.RowKit

set_option maxRecDepth 100000 in
set_option maxHeartbeats 4000000 in
theorem climb14_bad (n : Int) (nd : Nd) (p : Nat) (A : Option Addr) (c : Nat) (ys : List Nd) (hm : ys.length ≤ 1000000000) (hb : (nd.of n && allW n ys) = false ∨ 63 < ys.length)
    (w : World) (hR : ndS.Row w w.heap.size A ys) :
    Calls Tryd.prog 82 #[.int .i64 n, nd.val, .int .u64 p, .slice A ys.length c] w (fun e w' => e = .returned (.tuple #[(climbN n nd p ys).1.val, .int .i64 (climbN n nd p ys).2]) ∧ Below w.heap.size w w') := by
  have cO := fun u => of14_any n nd u
  have cA := fun u hu => allOf14_any n A c ys (by omega) u hu
  have hc : climbN n nd p ys = if (nd.of n && allW n ys) = true then (if ys.length ≤ 63 then climbS n nd p ys else (Nd.zero, 2)) else (Nd.zero, 70) := rfl
  obtain ⟨N, hN⟩ : ∃ N, ys.length = N := ⟨_, rfl⟩
  rw [hN] at cA hm hb hc ⊢
  obtain ⟨R, hRR⟩ : ∃ R, climbN n nd p ys = R := ⟨_, rfl⟩
  rw [hRR] at hc ⊢
  generalize climbS n nd p ys = X at *
  obtain ⟨s, h, l⟩ := nd
  simp only [Nd.val] at cO
  generalize Nd.of n ⟨s, h, l⟩ = P at *
  generalize allW n ys = V at *
  show Calls _ _ #[.int .i64 n, .agg (ndB s h l), .int .u64 p, .slice A N c] _ _
  have H0 := ((((Has.start w).add 3 #[.int .i64 n]).addAt 49 (ndB s h l) (g := w.heap.size + 1) (by simp)).addAt 49 (ndB ⟨#[]⟩ 0 0) (g := w.heap.size + 1 + 1) (by simp)).addAt 29 #[.int .i64 0] (g := w.heap.size + 1 + 1 + 1) (by simp)
  clear hRR
  go_enter Tryd.func82, Tryd.ntmps82
  go_upto_region 1 with fail
  change Code.wp _ _ _ _ ((((w.alloc (.cells #[.int .i64 n] 3)).alloc (.cells (ndB s h l) 49)).alloc (.cells (ndB ⟨#[]⟩ 0 0) 49)).alloc (.cells #[.int .i64 0] 29))
  generalize (((w.alloc (.cells #[.int .i64 n] 3)).alloc (.cells (ndB s h l) 49)).alloc (.cells (ndB ⟨#[]⟩ 0 0) 49)).alloc (.cells #[.int .i64 0] 29) = W0 at *
  simp only [Nat.add_assoc, Nat.reduceAdd] at H0 ⊢
  obtain ⟨p0, p1, p2, -, -, -, hin1⟩ := (H0.box 2).three
  have n0 := (H0.box 3).read 0
  have hin2 := (H0.box 3).inside
  cases P with
  | false =>
    rw [Bool.false_and, if_neg (by decide)] at hc
    have HR := hideIt hc
    clear hc hb
    go_wp2_with (first
      | (go_at_call 100; refine (cO _).mono ?_; rintro e w1 ⟨rfl, b1⟩; have K1 := H0.call b1; obtain ⟨z0, z1, z2, zf0, zf1, zf2, zi⟩ := (K1.box 1).three; have y0 := (K1.box 0).read 0; have y1 := (K1.box 0).free 0; have y2 := (K1.box 0).inside)
      | fail)
    have E := (told4 K1 (by omega) (by omega) (fun x hx => by
      simp only [List.mem_cons, List.not_mem_nil, or_false] at hx
      rcases hx with rfl | rfl <;> simp only <;> omega) (.string ⟨#[]⟩) (.int .u64 0) (.int .u64 0)).wrote (by omega) (fun x hx => by
      simp only [List.mem_cons, List.not_mem_nil, or_false] at hx
      rcases hx with rfl | rfl | rfl <;> simp only <;> omega) 0 (.int .i64 70)
    generalize World.setCell (World.setCell (World.setCell (World.setCell _ _ _) _ _) _ _) _ _ = W9 at *
    obtain ⟨x0, x1, x2, -, -, -, xi⟩ := (E.box 1).three
    have x3 : W9.cell? ⟨w.heap.size + 3, 0, none⟩ = some (.int .i64 70) := (E.box 0).read 0
    exact bodyPost_ret (v := .tuple #[Nd.zero.val, .int .i64 70]) (by simp [results, Tryd.results82, go_sem, Nd.val, Nd.zero, x0, x1, x2, x3]) rfl ⟨by rw [HR.out], E.below⟩
  | true =>
    cases V with
    | false =>
      rw [Bool.and_false, if_neg (by decide)] at hc
      have HR := hideIt hc
      clear hc hb
      go_wp2_with (first
        | (go_at_call 100; refine (cO _).mono ?_; rintro e w1 ⟨rfl, b1⟩; have K1 := H0.call b1; obtain ⟨v0, v1, v2, -, -, -, vi⟩ := (K1.box 2).three; have n1 := (K1.box 3).read 0; have hin3 := (K1.box 3).inside)
        | (go_at_call 102; refine (cA _ (hR.on K1.below)).mono ?_; rintro e w2 ⟨rfl, b2⟩; have K2 := K1.call b2; obtain ⟨z0, z1, z2, zf0, zf1, zf2, zi⟩ := (K2.box 1).three; have y0 := (K2.box 0).read 0; have y1 := (K2.box 0).free 0; have y2 := (K2.box 0).inside)
        | fail)
      have E := (told4 K2 (by omega) (by omega) (fun x hx => by
        simp only [List.mem_cons, List.not_mem_nil, or_false] at hx
        rcases hx with rfl | rfl <;> simp only <;> omega) (.string ⟨#[]⟩) (.int .u64 0) (.int .u64 0)).wrote (by omega) (fun x hx => by
        simp only [List.mem_cons, List.not_mem_nil, or_false] at hx
        rcases hx with rfl | rfl | rfl <;> simp only <;> omega) 0 (.int .i64 70)
      generalize World.setCell (World.setCell (World.setCell (World.setCell _ _ _) _ _) _ _) _ _ = W9 at *
      obtain ⟨x0, x1, x2, -, -, -, xi⟩ := (E.box 1).three
      have x3 : W9.cell? ⟨w.heap.size + 3, 0, none⟩ = some (.int .i64 70) := (E.box 0).read 0
      exact bodyPost_ret (v := .tuple #[Nd.zero.val, .int .i64 70]) (by simp [results, Tryd.results82, go_sem, Nd.val, Nd.zero, x0, x1, x2, x3]) rfl ⟨by rw [HR.out], E.below⟩
    | true =>
      have hN63 : ¬ N ≤ 63 := by rcases hb with hb | hb; · cases hb
                                 · omega
      rw [Bool.and_true, if_pos rfl, if_neg hN63] at hc
      have hNi : (63 : Int) < N := by omega
      have HR := hideIt hc
      clear hc hb hN63
      go_wp2_with (first
        | (go_at_call 100; refine (cO _).mono ?_; rintro e w1 ⟨rfl, b1⟩; have K1 := H0.call b1; obtain ⟨v0, v1, v2, -, -, -, vi⟩ := (K1.box 2).three; have n1 := (K1.box 3).read 0; have hin3 := (K1.box 3).inside)
        | (go_at_call 102; refine (cA _ (hR.on K1.below)).mono ?_; rintro e w2 ⟨rfl, b2⟩; have K2 := K1.call b2; obtain ⟨z0, z1, z2, zf0, zf1, zf2, zi⟩ := (K2.box 1).three; have y0 := (K2.box 0).read 0; have y1 := (K2.box 0).free 0; have y2 := (K2.box 0).inside)
        | fail)
      have E := (told4 K2 (by omega) (by omega) (fun x hx => by
        simp only [List.mem_cons, List.not_mem_nil, or_false] at hx
        rcases hx with rfl | rfl <;> simp only <;> omega) (.string ⟨#[]⟩) (.int .u64 0) (.int .u64 0)).wrote (by omega) (fun x hx => by
        simp only [List.mem_cons, List.not_mem_nil, or_false] at hx
        rcases hx with rfl | rfl | rfl <;> simp only <;> omega) 0 (.int .i64 2)
      generalize World.setCell (World.setCell (World.setCell (World.setCell _ _ _) _ _) _ _) _ _ = W9 at *
      obtain ⟨x0, x1, x2, -, -, -, xi⟩ := (E.box 1).three
      have x3 : W9.cell? ⟨w.heap.size + 3, 0, none⟩ = some (.int .i64 2) := (E.box 0).read 0
      exact bodyPost_ret (v := .tuple #[Nd.zero.val, .int .i64 2]) (by simp [results, Tryd.results82, go_sem, Nd.val, Nd.zero, x0, x1, x2, x3]) rfl ⟨by rw [HR.out], E.below⟩
/-- Climb of anything. -/
theorem climb14_any (n : Int) (nd : Nd) (p : Nat) (hp : p < 18446744073709551616) (A : Option Addr) (c : Nat) (ys : List Nd) (hm : ys.length ≤ 1000000000) (hh : nd.halved) (hy : ∀ x ∈ ys, x.halved)
    (w : World) (hR : ndS.Row w w.heap.size A ys) (hT : Tab w) :
    Calls Tryd.prog 82 #[.int .i64 n, nd.val, .int .u64 p, .slice A ys.length c] w (fun e w' => e = .returned (.tuple #[(climbN n nd p ys).1.val, .int .i64 (climbN n nd p ys).2]) ∧ Below w.heap.size w w') := by
  by_cases hb : (nd.of n && allW n ys) = false ∨ 63 < ys.length
  · exact climb14_bad n nd p A c ys hm hb w hR
  · have h1 : (nd.of n && allW n ys) = true := by
      cases h : (nd.of n && allW n ys) with
      | true => rfl
      | false => exact absurd (Or.inl h) hb
    have h2 : ys.length ≤ 63 := by omega
    have h3 : nd.of n = true ∧ allW n ys = true := by simpa using h1
    have e : climbN n nd p ys = climbS n nd p ys := by rw [climbN, if_pos h1, if_pos h2]
    rw [e]
    exact climb14_good n nd p hp A c ys h2 h3.1 hh (fun x hx => ⟨(allW_mem h3.2).2 x hx, hy x hx⟩) w hR hT
end Go.Proofs.YtkecekfapiegjaaDoor
