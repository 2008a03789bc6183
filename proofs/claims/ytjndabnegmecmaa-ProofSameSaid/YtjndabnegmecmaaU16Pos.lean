/-
  Package proof's positions, walked: the function that is ranged over goes over a tree's leaves, each with its position. Of the tree only what Leaf tells is asked.
-/
import Derived.Test.YtjndabnegmecmaaW14Keep
import Derived.Test.YtjndabnegmecmaaM16Ent
import Derived.Test.YtjndabnegmecmaaU1Bytes
namespace Go.Proofs.Ytjndabnegmecmaa
set_option linter.unusedVariables false
set_option linter.unusedSimpArgs false
set_option maxRecDepth 10000
open Go.RowKit Go.Shelf
attribute [local go_sem] Oper.semAt_some

/-- A leaf of these, with its position. -/
abbrev PoOf (l : List Lf) := { x : Nat × Lf // l[x.1]? = some x.2 }
set_option maxHeartbeats 1000000 in
theorem positions_any (a : Option Addr) (w : World) : Calls Try.prog 23 #[.pointer a] w fun e w' =>
    e = .returned (.func (.func 31) #[] #[.pointer (some ⟨w.heap.size, 0, none⟩)]) ∧ w' = w.alloc (.cells #[.pointer a] 37) := by
  go_enter Try.func23, Try.ntmps23
  go_wp2
  go_ret
  exact ⟨by simp, rfl⟩
set_option maxRecDepth 100000 in
set_option maxHeartbeats 4000000 in
theorem positions_in (D : Nat) (S : Nat → Prop) (n : Nat) (hn : 1 ≤ n) (y B1 : Nat) (a : Option Addr) (l : List Lf) (hl : l.length ≤ 1000000) (I : World → Prop) (hst : ∀ u u', I u → KpE D S u u' → I u')
    (hL : ∀ u, I u → ∀ p : Nat, p < 18446744073709551616 → Calls Try.prog 20 #[.pointer a, .int .u64 p] u (Tells (.tuple #[(lfAt l p).val, .bool (decide (p < l.length))]) u.heap.size u))
    (J Jx : List (PoOf l) → World → Prop) (W : World) (hDW : D ≤ W.heap.size) (hJ : AbidesFrom W.heap.size J)
    (hY : ∀ pre x W1, J pre W1 → pre.length < l.length → YieldAt Fence.wide (n - 1) Try.prog y #[.int .u64 x.1.1, x.1.2.val] W1 fun e W' =>
      (e = .returned (.bool true) ∧ J (pre ++ [x]) W' ∧ KpE D S W1 W') ∨ (e = .returned (.bool false) ∧ Jx (pre ++ [x]) W'))
    (hB1 : Box W B1 37 #[.pointer a]) (hl1 : B1 < D ∧ ¬ S B1) (hI0 : I W) (h0 : J [] W) :
    CallsIn Fence.wide n Try.prog 31 #[.func (.yield y) #[] #[], .pointer (some ⟨B1, 0, none⟩)] W fun e W' => (∃ v, e = .returned v) ∧
      ((∃ xs, xs.map (·.1) = posL l ∧ J xs W') ∨ (∃ pre, pre.map (·.1) <+: posL l ∧ Jx pre W')) := by
  obtain ⟨N, hN⟩ : ∃ N, l.length = N := ⟨_, rfl⟩
  have hlk := posL_len l
  refine callsIn_of_wp Try.func31 rfl trivial ?_ rfl
  simp only [Try.ntmps31, List.size_toArray, List.length_cons, List.length_nil, Nat.reduceAdd, Nat.reduceSub, Array.replicate_succ, Array.replicate_zero, List.push_toArray, List.append_toArray, List.nil_append, List.cons_append]
  gi_wp2
  gi_loopw [3] (fun i wr => ∃ (k : Nat) (pre : List (PoOf l)), k ≤ N ∧ i = .int .u64 k ∧ pre.map (·.1) = (posL l).take k ∧ J pre wr ∧ KpE D S W wr)
    (fun i _ => N - (intOf i).toNat)
  case atStart => exact ⟨0, [], Nat.zero_le _, rfl, by simp, h0, KpE.refl _⟩
  case round =>
    obtain ⟨k, pre, hk, rfl, hpre, hJr, hKp⟩ := hrel
    have hpl : pre.length = k := by
      have h1 := congrArg List.length hpre
      rw [List.length_map, List.length_take, hlk] at h1
      omega
    have HPRE := hideIt hpre
    clear hpre
    have hB1r : Box wr B1 37 #[.pointer a] := hKp.box hl1.1 hl1.2 hB1
    have c1 := hB1r.read 0
    have i1 := hB1r.inside
    have hIr := hst _ _ hI0 hKp
    have cL := hL wr hIr k (by omega)
    have hDr : D ≤ wr.heap.size := Nat.le_trans hDW hKp.1
    by_cases hlt : k < N
    · obtain ⟨x, hx⟩ : ∃ r, l[k]? = some r := ⟨_, List.getElem?_eq_getElem (by omega)⟩
      have htk := posL_at hx
      rw [lfAt_some hx, decide_eq_true (by omega)] at cL
      have HTK := hideIt htk
      have HX := hideIt hx
      obtain ⟨xp, xi, xs, xh, xl⟩ := x
      simp only [Lf.val] at cL
      clear htk hx
      refine wpIn_wide.2 ?_
      go_upto_region 3 with (first
        | (go_at_call 20; refine cL.mono ?_; rintro e w2 ⟨rfl, b2⟩)
        | fail)
      have L1 := chainA b2 (.cells (lfB xp xi xs xh xl) 26)
      have B1r := Box.made w2 26 (lfB xp xi xs xh xl)
      change Code.wp _ _ _ _ (w2.alloc (.cells (lfB xp xi xs xh xl) 26))
      generalize w2.alloc (.cells (lfB xp xi xs xh xl) 26) = W1 at *
      obtain ⟨g, hg⟩ : ∃ g, w2.heap.size = g := ⟨_, rfl⟩
      rw [hg] at B1r ⊢
      clear hg cL b2 c1 i1
      obtain ⟨⟨q0, q1, q2, q3, q4⟩, -, hin⟩ := B1r.five0
      have hJ2 := abideE hJ hJr L1
      have hK2 := hKp.trans (KpE.below L1 hDr)
      obtain ⟨fn, tmps, assign, body, hy, hRd⟩ := hY pre ⟨(k, ⟨xp, xi, xs, xh, xl⟩), HX.out⟩ W1 hJ2 (by omega)
      simp only [Lf.val] at hy
      refine (wpIn_wide (n := n)).1 ?_
      gi_wp2
      refine hRd.mono ?_
      rintro e W3 (⟨rfl, hJ3, hKp3⟩ | ⟨rfl, hJx3⟩)
      · gi_wp2
        go_wp2
        go_roundw
        case rel => exact ⟨k + 1, pre ++ [⟨(k, ⟨xp, xi, xs, xh, xl⟩), HX.out⟩], by omega, by go_num, by rw [List.map_append, HPRE.out, List.take_add_one, HTK.out]; rfl, hJ3, hK2.trans hKp3⟩
        case measure => simp [intOf]; omega
      · gi_wp2
        go_wp2
        refine bodyPost_ret (results_none rfl _ _ _) rfl ?_
        refine ⟨⟨_, rfl⟩, .inr ⟨_, ?_, hJx3⟩⟩
        rw [List.map_append, HPRE.out]
        exact ⟨(posL l).drop (k + 1), by rw [show (List.map (fun x : PoOf l => x.1) [⟨(k, ⟨xp, xi, xs, xh, xl⟩), HX.out⟩]) = (posL l)[k]?.toList by rw [HTK.out]; rfl, ← List.take_add_one, List.take_append_drop]⟩
    · have e : k = N := by omega
      subst e
      rw [decide_eq_false (by omega)] at cL
      have hz : lfAt l k = Lf.zero := by rw [lfAt, List.getD_eq_getElem?_getD, List.getElem?_eq_none (by omega)]; rfl
      rw [hz] at cL
      have hp := HPRE.out
      rw [List.take_of_length_le (by omega)] at hp
      have HP2 := hideIt hp
      clear hp hz
      simp only [Lf.val, Lf.zero] at cL
      refine wpIn_wide.2 ?_
      go_upto_region 3 with (first
        | (go_at_call 20; refine cL.mono ?_; rintro e w2 ⟨rfl, b2⟩)
        | fail)
      have L1 := chainA b2 (.cells (lfB false ⟨#[]⟩ ⟨#[]⟩ 0 0) 26)
      change Code.wp _ _ _ _ (w2.alloc (.cells (lfB false ⟨#[]⟩ ⟨#[]⟩ 0 0) 26))
      generalize w2.alloc (.cells (lfB false ⟨#[]⟩ ⟨#[]⟩ 0 0) 26) = W1 at *
      have hJ2 := abideE hJ hJr L1
      go_wp2
      refine bodyPost_ret (results_none rfl _ _ _) rfl ?_
      exact ⟨⟨_, rfl⟩, .inl ⟨pre, HP2.out, hJ2⟩⟩
end Go.Proofs.Ytjndabnegmecmaa
