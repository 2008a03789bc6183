/-
  paymasterref11.Only, walked: rows whose Ids others have, or haven't, by Ids.
-/
import Derived.Test.YthindbmgnkohhaaU11Part
import Derived.Test.YthindbmgnkohhaaU11Find
namespace Go.Proofs.Ythindbmgnkohhaa
set_option linter.unusedVariables false
set_option linter.unusedSimpArgs false
set_option maxRecDepth 10000
open Go.RowKit Go.Sort

set_option maxRecDepth 100000 in
set_option maxHeartbeats 4000000 in
theorem ronly_any (A B : Option Addr) (c d : Nat) (xs ys : List Rw) (b : Bool) (hm : xs.length ≤ 1000000) (hn : ys.length ≤ 1000000) (w : World) (hR : RwRow w w.heap.size A xs) (hS : RwRow w w.heap.size B ys) :
    Calls Try.prog 9 #[.slice A xs.length c, .slice B ys.length d, .bool b] w fun e w' => ∃ v, e = .returned v ∧ ∃ zs, zs.length = (onlyL xs ys b).length ∧ w'.ownsRow w.heap.size 28 3 v zs.length (rowCs zs) ∧ Below w.heap.size w w' ∧ Sd (onlyL xs ys b) zs := by
  go_enter Try.func9, Try.ntmps9
  go_wp2
  go_loopg [7, 8] xs.length (fun gk v i wr => ∃ k : Nat, k ≤ xs.length ∧ xs.length - k ≤ gk ∧ i = .int .i64 k ∧ wr.ownsRow w.heap.size 28 3 v (onlyL (xs.take k) ys b).length (rowCs (onlyL (xs.take k) ys b)) ∧ Below w.heap.size w wr)
  case atStart => exact ⟨0, Nat.zero_le _, by omega, rfl, by
    have e : onlyL (xs.take 0) ys b = [] := by unfold onlyL inL outL; simp
    rw [e]
    exact World.ownsRow_nil _ _ _ _, Below.refl _ _⟩
  case round =>
    obtain ⟨k, hk, hgk, rfl, O, hb⟩ := hrel
    have HG := hideIt hgk
    clear hgk
    by_cases hlt : k < xs.length
    · obtain ⟨x, hx⟩ : ∃ x, xs[k]? = some x := ⟨_, List.getElem?_eq_getElem hlt⟩
      obtain ⟨ad, rfl, had, p0, p1, p2⟩ := (hR.call hb) k x hx
      have hlti : (k : Int) < (xs.length : Int) := by omega
      have hbs := hb.size
      have p3 : (ad.add (k * 3)).block < wr.heap.size := by rw [o10_block]; exact Nat.lt_of_lt_of_le had hb.size
      have ht := take_succ_at hx
      have HT := hideIt ht
      have HX := hideIt hx
      have hl1 := onlyL_len (xs.take k) ys b
      rw [List.length_take] at hl1
      clear hx ht
      have cF := rfind_any B d ys x.id (by omega) wr ((hS.call hb).more hbs)
      rw [findR_has] at cF
      obtain ⟨y, hy⟩ : ∃ y, (findR ys x.id.data.toList).1 = y := ⟨_, rfl⟩
      obtain ⟨q, hq⟩ : ∃ q, hasK ys (keyR x) = q := ⟨_, rfl⟩
      rw [hy, show hasK ys x.id.data.toList = q from hq] at cF
      simp only [Rw.val] at cF
      have HQ := hideIt hq
      clear hy hq
      go_upto_region 6 with (first
        | (go_at_call 6; refine cF.mono ?_; rintro e w1 ⟨rfl, j1⟩)
        | fail)
      have O := (own_below O j1).alloc (.cells #[.string y.id, .int .u64 y.h, .int .u64 y.l] 28)
      have hb2 := chainA (hb.trans (j1.mono hbs)) (.cells #[.string y.id, .int .u64 y.h, .int .u64 y.l] 28)
      have j2 := chainA j1 (.cells #[.string y.id, .int .u64 y.h, .int .u64 y.l] 28)
      change Code.wp _ _ _ _ (w1.alloc (.cells #[.string y.id, .int .u64 y.h, .int .u64 y.l] 28))
      generalize w1.alloc (.cells #[.string y.id, .int .u64 y.h, .int .u64 y.l] 28) = W1 at *
      obtain ⟨ad', e', had', p0, p1, p2⟩ := (hR.call hb2) k x HX.out
      injection e' with e'
      subst e'
      have hWs := hb2.size
      have p3 : (ad.add (k * 3)).block < W1.heap.size := by rw [o10_block]; omega
      by_cases hqb : q = b
      · obtain ⟨v', w', hr, O3, hg3, hl3⟩ := app_one W1 w.heap.size u7 _ _ O x (by omega) (by omega)
        have L3 : Below w.heap.size w w' := (chainA hb2 (.cells #[.string x.id, .int .u64 x.h, .int .u64 x.l] 28)).grown hg3 (by simp; omega) (fun j hj => (O.lt j hj).1)
        have e1 : onlyL (xs.take (k + 1)) ys b = onlyL (xs.take k) ys b ++ [x] := by rw [HT.out, onlyL_snoc, HQ.out, if_pos hqb]
        have HE := hideIt e1
        clear e1
        subst hqb
        cases q <;>
        · go_wp2_with (first
            | (at_builtin; refine wpList_run rfl _ _ _ rfl _ _ rfl rfl v' w' hr ?_)
            | fail)
          go_roundg (xs.length - (k + 1))
          case measure => have := HG.out; omega
          case rel => exact ⟨k + 1, by omega, Nat.le_refl _, by go_num, by rw [HE.out, List.length_append]; exact O3, L3⟩
      · have e1 : onlyL (xs.take (k + 1)) ys b = onlyL (xs.take k) ys b := by rw [HT.out, onlyL_snoc, HQ.out, if_neg hqb]; simp
        have HE := hideIt e1
        clear e1
        have hqn : q = !b := by cases q <;> cases b <;> simp_all
        subst hqn
        cases b <;>
        · go_wp2
          go_roundg (xs.length - (k + 1))
          case measure => have := HG.out; omega
          case rel => exact ⟨k + 1, by omega, Nat.le_refl _, by go_num, by rw [HE.out]; exact O, hb2⟩
    · have e : k = xs.length := by omega
      subst e
      rw [List.take_length] at O
      obtain ⟨A1, k1, rfl, -, R1⟩ := rows_of_own O
      have hl1 := onlyL_len xs ys b
      have d1 := rsortref_any A1 k1 (onlyL xs ys b) (by omega) wr R1
      clear R1
      obtain ⟨N1, hN1⟩ : ∃ N, (onlyL xs ys b).length = N := ⟨_, rfl⟩
      rw [hN1] at d1 ⊢
      have hbs := hb.size
      go_wp2_with (first
        | (go_at_call 13; refine d1.mono ?_; rintro e w3 ⟨v1, rfl, zs, hz1, hz2, j3, hz3⟩)
        | fail)
      go_ret
      exact ⟨v1, rfl, zs, hz1.trans hN1.symm, own_mono hz2 hbs, hb.trans (j3.mono hbs), hz3⟩
end Go.Proofs.Ythindbmgnkohhaa
