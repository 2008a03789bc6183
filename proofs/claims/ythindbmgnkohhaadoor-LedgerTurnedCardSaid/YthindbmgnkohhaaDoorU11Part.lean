/-
  ledger's part, walked: rows whose Ids the others have, and those whose Ids they haven't.
-/
import Derived.Test.YthindbmgnkohhaaDoorM11Pln
import Derived.Test.YthindbmgnkohhaaDoorW11Set
import Derived.Test.YthindbmgnkohhaaDoorR10Sort
namespace Go.Proofs.YthindbmgnkohhaaDoor
set_option linter.unusedVariables false
set_option linter.unusedSimpArgs false
set_option maxRecDepth 10000
open Go.RowKit Go.Sort

/-- append of one row, and where it lies then. -/
theorem app_one (w : World) (base : Nat) (v : Value) (n : Nat) (ys : List Rw) (hown : w.ownsRow base 50 3 v n (rowCs ys)) (x : Rw) (hm : n ≤ 100000000) (hb : base ≤ w.heap.size) :
    ∃ v' w', (∀ ty, (Builtin.append_ #[23, 23] ty #[v, .slice (some ⟨w.heap.size, 0, none⟩) 1 1]).run Tryd.prog (w.alloc (.cells #[.string x.id, .int .u64 x.h, .int .u64 x.l] 50)) = .ok v' w') ∧
      w'.ownsRow base 50 3 v' (n + 1) (rowCs (ys ++ [x])) ∧ (w.alloc (.cells #[.string x.id, .int .u64 x.h, .int .u64 x.l] 50)).grownBy w' v.ownBlock ∧ (v'.ownBlock = v.ownBlock ∨ v'.ownBlock = some (w.heap.size + 1)) := by
  obtain ⟨i0, hi, hz0, hz1, hz2⟩ := info_parts infoS_row
  obtain ⟨v', w', hr, h2, h3, -, h4⟩ := run_append_own_at (P := Tryd.prog) (w.alloc (.cells #[.string x.id, .int .u64 x.h, .int .u64 x.l] 50)) base 23 0 50 i0 _ 3 32 Tryd.underlying23 hi hz0 hz1 hz2 rfl (by decide) v n (rowCs ys) (hown.alloc _) ⟨w.heap.size, 0, none⟩ 1 1 (rowCs [x]) rfl
    (cells_new4 w 50 (rowCs [x])) (rowCs_one [x]) (by unfold maxLen; omega) (by omega) (by simp; omega)
  rw [← rowCs_app] at h2
  rw [World.size_alloc] at h4
  exact ⟨v', w', fun ty => (run_append_ty _ 23 ty 0 v _).trans hr, h2, h3, h4⟩
theorem und_set : Tryd.prog.underlying 117 = some (.map 9 118) := Tryd.underlying117
set_option maxRecDepth 100000 in
set_option maxHeartbeats 4000000 in
theorem part_any (A B : Option Addr) (c d : Nat) (xs ys : List Rw) (hm : xs.length ≤ 1000000) (hn : ys.length ≤ 1000000) (hz : ∀ x ∈ xs, x.id.size ≤ 1000000) (hy : ∀ x ∈ ys, x.id.size ≤ 1000000) (w : World) (hR : RwRow w w.heap.size A xs) (hS : RwRow w w.heap.size B ys) :
    Calls Tryd.prog 46 #[.slice A xs.length c, .slice B ys.length d] w fun e w' => ∃ v1 v2, e = .returned (.tuple #[v1, v2]) ∧ w'.ownsRow w.heap.size 50 3 v1 (inL xs ys).length (rowCs (inL xs ys)) ∧
      w'.ownsRow w.heap.size 50 3 v2 (outL xs ys).length (rowCs (outL xs ys)) ∧ Below w.heap.size w w' := by
  have hmm := @run_makeMap Tryd.prog
  have M0 := IdSet.made w
  have L0 := chainA (Below.refl w.heap.size w) (.map #[] 0)
  go_enter Tryd.func46, Tryd.ntmps46
  go_wp2
  generalize w.alloc (.map #[] 0) = W at *
  go_loopg [16] ys.length (fun gk i wr => ∃ k : Nat, k ≤ ys.length ∧ ys.length - k ≤ gk ∧ i = .int .i64 k ∧ IdSet wr w.heap.size ((ys.take k).map keyR) ∧ Below w.heap.size w wr)
  case atStart => exact ⟨0, Nat.zero_le _, by omega, rfl, M0, L0⟩
  case round =>
    obtain ⟨k, hk, hgk, rfl, M, hb⟩ := hrel
    have HG := hideIt hgk
    clear hgk
    by_cases hlt : k < ys.length
    · obtain ⟨x, hx⟩ : ∃ x, ys[k]? = some x := ⟨_, List.getElem?_eq_getElem hlt⟩
      obtain ⟨ad, rfl, had, p0, p1, p2⟩ := (hS.call hb) k x hx
      have hlti : (k : Int) < (ys.length : Int) := by omega
      have p3 : (ad.add (k * 3)).block < wr.heap.size := by rw [o10_block]; exact Nat.lt_of_lt_of_le had hb.size
      have hsz := hy x (List.mem_of_getElem? hx)
      have ht := take_succ_at hx
      have HT := hideIt ht
      clear hx ht
      have M1 := M.alloc (.cells #[.string x.id, .int .u64 x.h, .int .u64 x.l] 50)
      have B1 := Box.made wr 50 #[.string x.id, .int .u64 x.h, .int .u64 x.l]
      have L1 := chainA hb (.cells #[.string x.id, .int .u64 x.h, .int .u64 x.l] 50)
      go_upto_region 5 with fail
      generalize wr.alloc (.cells #[.string x.id, .int .u64 x.h, .int .u64 x.l] 50) = W1 at *
      obtain ⟨q0, q1, q2, r0, r1, r2, hin1⟩ := B1.three
      go_wp2_with (first
        | (at_mapUpdate; refine wpl_idset_put rfl _ _ _ 117 rfl und_set rfl M1 x.id rfl rfl (by omega) (by simp; omega) ?_; intro w2 M2 hg2)
        | fail)
      go_roundg (ys.length - (k + 1))
      case measure => have := HG.out; omega
      case rel => exact ⟨k + 1, by omega, Nat.le_refl _, by go_num, by rw [HT.out, List.map_append]; exact M2, L1.grown hg2 (Nat.le_of_lt (Nat.lt_of_le_of_lt hb.size hin1)) (fun j hj => by injection hj with hj; omega)⟩
    · have e : k = ys.length := by omega
      subst e
      rw [List.take_length] at M
      have M := M
      go_wp2
      go_loopg [4, 5, 27] xs.length (fun gk v1 v2 i wr => ∃ k : Nat, k ≤ xs.length ∧ xs.length - k ≤ gk ∧ i = .int .i64 k ∧ IdSet wr w.heap.size (ys.map keyR) ∧
        wr.ownsRow (w.heap.size + 1) 50 3 v1 (inL (xs.take k) ys).length (rowCs (inL (xs.take k) ys)) ∧ wr.ownsRow (w.heap.size + 1) 50 3 v2 (outL (xs.take k) ys).length (rowCs (outL (xs.take k) ys)) ∧
        (v1.ownBlock = none ∨ v1.ownBlock ≠ v2.ownBlock) ∧ Below w.heap.size w wr)
      case atStart => exact ⟨0, Nat.zero_le _, by omega, rfl, M, World.ownsRow_nil _ _ _ _, World.ownsRow_nil _ _ _ _, .inl rfl, hb⟩
      case round =>
        obtain ⟨k, hk, hgk, rfl, M, O1, O2, hap, hb⟩ := hrel
        have HG := hideIt hgk
        have HP := hideIt hap
        clear hgk hap
        by_cases hlt : k < xs.length
        · obtain ⟨x, hx⟩ : ∃ x, xs[k]? = some x := ⟨_, List.getElem?_eq_getElem hlt⟩
          obtain ⟨ad, rfl, had, p0, p1, p2⟩ := (hR.call hb) k x hx
          have hlti : (k : Int) < (xs.length : Int) := by omega
          have p3 : (ad.add (k * 3)).block < wr.heap.size := by rw [o10_block]; exact Nat.lt_of_lt_of_le had hb.size
          have hsz := hz x (List.mem_of_getElem? hx)
          have ht := take_succ_at hx
          have HT := hideIt ht
          have hl1 := inL_len (xs.take k) ys
          have hl2 := outL_len (xs.take k) ys
          rw [List.length_take] at hl1 hl2
          clear hx ht
          have M1 := M.alloc (.cells #[.string x.id, .int .u64 x.h, .int .u64 x.l] 50)
          have B1 := Box.made wr 50 #[.string x.id, .int .u64 x.h, .int .u64 x.l]
          have L1 := chainA hb (.cells #[.string x.id, .int .u64 x.h, .int .u64 x.l] 50)
          have O1 := O1.alloc (.cells #[.string x.id, .int .u64 x.h, .int .u64 x.l] 50)
          have O2 := O2.alloc (.cells #[.string x.id, .int .u64 x.h, .int .u64 x.l] 50)
          go_upto_region 10 with fail
          generalize wr.alloc (.cells #[.string x.id, .int .u64 x.h, .int .u64 x.l] 50) = W1 at *
          obtain ⟨q0, q1, q2, r0, r1, r2, hin1⟩ := B1.three
          obtain ⟨q, hq⟩ : ∃ q, hasK ys (keyR x) = q := ⟨_, rfl⟩
          have hq2 : decide (x.id.data.toList ∈ ys.map keyR) = q := by rw [← hq, hasK_keys]; rfl
          have HQ := hideIt hq
          clear hq
          have hmu := und_set
          go_upto_region 11 with (first
            | (at_lookup; refine wpl_idset_look rfl _ _ 117 rfl und_set rfl M1 x.id rfl (by omega) q hq2 ?_)
            | fail)
          have M2 := M1.alloc (.cells #[] 118)
          have B2 := B1.past (.cells #[] 118)
          have L2 := chainA L1 (.cells #[] 118)
          have O1 := O1.alloc (.cells #[] 118)
          have O2 := O2.alloc (.cells #[] 118)
          generalize W1.alloc (.cells #[] 118) = W2 at *
          obtain ⟨q0, q1, q2, r0, r1, r2, hin1⟩ := B2.three
          have hWs := L2.size
          have hMl := M2.lt
          cases q with
          | true =>
            obtain ⟨v', w', hr, O3, hg3, hl3⟩ := app_one W2 (w.heap.size + 1) u4 _ _ O1 x (by omega) (by omega)
            have hgA : W2.grownBy w' u4.ownBlock := (World.grownBy_alloc _ _ _).trans hg3
            have O4 := O2.kept hgA (by
              rcases HP.out with h | h
              · rw [h]; cases u5.ownBlock <;> simp
              · exact .inr fun e => h e.symm)
            have M3 := M2.kept hgA (fun e => by have := O1.lt _ e.symm; omega)
            have L3 : Below w.heap.size w w' := (chainA L2 (.cells #[.string x.id, .int .u64 x.h, .int .u64 x.l] 50)).grown hg3 (by simp; omega) (fun j hj => by have := O1.lt j hj; omega)
            have hap : v'.ownBlock = none ∨ v'.ownBlock ≠ u5.ownBlock := by
              rcases hl3 with h | h
              · rw [h]; exact HP.out
              · right
                rw [h]
                intro e
                have := O2.lt _ e.symm
                omega
            have HAP := hideIt hap
            clear hap hl3
            go_wp2_with (first
              | (at_builtin; refine wpList_run rfl _ _ _ rfl _ _ rfl rfl v' w' hr ?_)
              | fail)
            go_roundg (xs.length - (k + 1))
            case measure => have := HG.out; omega
            case rel =>
              have e1 : inL (xs.take (k + 1)) ys = inL (xs.take k) ys ++ [x] := by rw [HT.out, inL_snoc, HQ.out]; rfl
              have e2 : outL (xs.take (k + 1)) ys = outL (xs.take k) ys := by rw [HT.out, outL_snoc, HQ.out]; simp
              exact ⟨k + 1, by omega, Nat.le_refl _, by go_num, M3, by rw [e1, List.length_append]; exact O3, by rw [e2]; exact O4, HAP.out, L3⟩
          | false =>
            obtain ⟨v', w', hr, O3, hg3, hl3⟩ := app_one W2 (w.heap.size + 1) u5 _ _ O2 x (by omega) (by omega)
            have hgA : W2.grownBy w' u5.ownBlock := (World.grownBy_alloc _ _ _).trans hg3
            have O4 := O1.kept hgA HP.out
            have M3 := M2.kept hgA (fun e => by have := O2.lt _ e.symm; omega)
            have L3 : Below w.heap.size w w' := (chainA L2 (.cells #[.string x.id, .int .u64 x.h, .int .u64 x.l] 50)).grown hg3 (by simp; omega) (fun j hj => by have := O2.lt j hj; omega)
            have hap : u4.ownBlock = none ∨ u4.ownBlock ≠ v'.ownBlock := by
              rcases hl3 with h | h
              · rw [h]; exact HP.out
              · right
                rw [h]
                intro e
                have := O1.lt _ e
                omega
            have HAP := hideIt hap
            clear hap hl3
            go_wp2_with (first
              | (at_builtin; refine wpList_run rfl _ _ _ rfl _ _ rfl rfl v' w' hr ?_)
              | fail)
            go_roundg (xs.length - (k + 1))
            case measure => have := HG.out; omega
            case rel =>
              have e1 : inL (xs.take (k + 1)) ys = inL (xs.take k) ys := by rw [HT.out, inL_snoc, HQ.out]; simp
              have e2 : outL (xs.take (k + 1)) ys = outL (xs.take k) ys ++ [x] := by rw [HT.out, outL_snoc, HQ.out]; simp
              exact ⟨k + 1, by omega, Nat.le_refl _, by go_num, M3, by rw [e1]; exact O4, by rw [e2, List.length_append]; exact O3, HAP.out, L3⟩
        · have e : k = xs.length := by omega
          subst e
          rw [List.take_length] at O1 O2
          go_wp2
          refine bodyPost_ret (results_tmp2 rfl _ _ _) rfl ?_
          exact ⟨_, _, rfl, own_mono O1 (Nat.le_succ _), own_mono O2 (Nat.le_succ _), hb⟩
end Go.Proofs.YthindbmgnkohhaaDoor
