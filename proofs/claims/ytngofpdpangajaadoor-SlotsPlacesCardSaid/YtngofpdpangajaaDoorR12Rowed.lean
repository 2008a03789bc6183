/-
  paymasterref12's rowed, walked.
-/
import Derived.Test.YtngofpdpangajaaDoorM12Ref
import Derived.Test.YtngofpdpangajaaDoorM12May
namespace Go.Proofs.YtngofpdpangajaaDoor
set_option linter.unusedVariables false
set_option linter.unusedSimpArgs false
set_option maxRecDepth 10000
open Go.RowKit Go.Sort

set_option maxRecDepth 100000 in
set_option maxHeartbeats 4000000 in
theorem rrowed_any (A : Option Addr) (c : Nat) (ys : List Rw) (hm : ys.length ≤ 1000000) (hz : ∀ r ∈ ys, r.id.size ≤ 1000000) (w : World) (hR : RwRow w w.heap.size A ys) :
    Calls Tryd.prog 42 #[.slice A ys.length c] w (Tells (.bool (decide (RowsP ys))) w.heap.size w) := by
  obtain ⟨V, hV⟩ : ∃ V, decide (RowsP ys) = V := ⟨_, rfl⟩
  rw [hV]
  have HV := hideIt hV
  clear hV
  have HP0 := hideIt rowsP_nil
  obtain ⟨N, hN⟩ : ∃ N, ys.length = N := ⟨_, rfl⟩
  rw [hN]
  go_enter Tryd.func42, Tryd.ntmps42
  go_wp2
  go_loopg [3, 4] N (fun gk i _ wr => ∃ k : Nat, k ≤ N ∧ N - k ≤ gk ∧ i = .int .i64 k ∧ Below w.heap.size w wr ∧ Hid (RowsP (ys.take k)))
  case atStart => exact ⟨0, Nat.zero_le _, by omega, rfl, Below.refl _ _, HP0⟩
  case round =>
    obtain ⟨k, hk, hgk, rfl, hb, HM⟩ := hrel
    have HG := hideIt hgk
    clear hgk
    generalize wr = W at *
    by_cases hlt : k < N
    · obtain ⟨x, hx⟩ : ∃ x, ys[k]? = some x := ⟨_, List.getElem?_eq_getElem (by omega)⟩
      obtain ⟨ad, hA, had, p0, p1, p2⟩ := (hR.call hb) k x hx
      subst hA
      have hlti : (k : Int) < (N : Int) := by omega
      have p5 : (ad.add (k * 3)).block < W.heap.size := by rw [o10_block]; exact Nat.lt_of_lt_of_le had hb.size
      have z1 := hz x (List.mem_of_getElem? hx)
      have cI := fun u => rmayId_any x.id (by omega) u
      change ∀ u, Calls _ _ _ _ (Plain (.bool (isId (keyR x))) _) at cI
      have hat := fun hM => rowsP_at (xs := ys) hM hx
      have hstep := fun h1 h2 => rowsP_step HM.out hx h1 h2
      have HAT := hideIt hat
      have HST := hideIt hstep
      have HX := hideIt hx
      clear hat hstep hx HM
      obtain ⟨t1, ht1⟩ : ∃ b, isId (keyR x) = b := ⟨_, rfl⟩
      rw [ht1] at cI
      have HT1 := hideIt ht1
      clear ht1
      cases t1 with
      | false =>
        have hno : V = false := by
          rw [← HV.out]
          refine decide_eq_false fun hM => ?_
          have h1 := (HAT.out hM).1
          rw [HT1.out] at h1
          cases h1
        subst hno
        go_wp2_with (first | (go_at_call 56; refine (cI _).mono ?_; rintro e v1 ⟨rfl, rfl⟩) | fail)
        go_ret
        exact ⟨rfl, hb⟩
      | true =>
        go_upto_region 7 with (first | (go_at_call 56; refine (cI _).mono ?_; rintro e v1 ⟨rfl, rfl⟩) | fail)
        clear p0 p1 p2 p5 cI
        go_loopg [4] k (fun gq i wq => ∃ q : Nat, q ≤ k ∧ k - q ≤ gq ∧ i = .int .i64 q ∧ Below W.heap.size W wq ∧ Hid (∀ j y, j < q → ys[j]? = some y → keyR y ≠ keyR x))
        case atStart => exact ⟨0, Nat.zero_le _, by omega, rfl, Below.refl _ _, fun j y hj => absurd hj (Nat.not_lt_zero _)⟩
        case round =>
          rename World => wq
          obtain ⟨q, hq, hgq, rfl, hbq, HB⟩ := hrel
          have HGq := hideIt hgq
          clear hgq
          have hbz := hb.trans (hbq.mono hb.size)
          by_cases hltq : q < k
          · obtain ⟨y, hy⟩ : ∃ y, ys[q]? = some y := ⟨_, List.getElem?_eq_getElem (by omega)⟩
            obtain ⟨_, hA, had1, x0, -, -⟩ := (hR.call hbz) k x HX.out
            cases hA
            obtain ⟨_, hA, -, y0, -, -⟩ := (hR.call hbz) q y hy
            cases hA
            have hltiq : (q : Int) < (k : Int) := by omega
            have hqN : (q : Int) < (N : Int) := by omega
            have x5 : (ad.add (k * 3)).block < wq.heap.size := by rw [o10_block]; exact Nat.lt_of_lt_of_le had1 hbz.size
            have y5 : (ad.add (q * 3)).block < wq.heap.size := by rw [o10_block]; exact Nat.lt_of_lt_of_le had1 hbz.size
            have e1 := key_sameR y x
            obtain ⟨s1, hs1⟩ : ∃ b, decide (keyR y = keyR x) = b := ⟨_, rfl⟩
            rw [hs1] at e1
            have HS1 := hideIt hs1
            have HY := hideIt hy
            clear hs1 hy
            cases s1 with
            | true =>
              have hno : V = false := by
                rw [← HV.out]
                refine decide_eq_false fun hM => (HAT.out hM).2 ?_
                rw [← of_decide_eq_true HS1.out]
                refine List.mem_map_of_mem (List.mem_of_getElem? (i := q) ?_)
                rw [List.getElem?_take_of_lt hltq]
                exact HY.out
              subst hno
              go_upto_region 9 with fail
              go_quiet (fail)
              go_wp2
              go_ret
              exact ⟨rfl, below_drewN hbz _⟩
            | false =>
              go_upto_region 9 with fail
              go_quiet (fail)
              go_wp2
              go_roundg (k - (q + 1))
              case measure => have := HGq.out; omega
              case rel => exact ⟨q + 1, by omega, Nat.le_refl _, by go_num, below_drewN hbq _, fun j z hj hz2 => by
                by_cases e : j = q
                · subst e
                  rw [HY.out] at hz2
                  injection hz2 with hz2
                  subst hz2
                  exact of_decide_eq_false HS1.out
                · exact HB.out j z (by omega) hz2⟩
          · have e : q = k := by omega
            subst e
            have hall : RowsP (ys.take (q + 1)) := by
              refine HST.out HT1.out (fun hm => ?_)
              obtain ⟨y, hy, e⟩ := List.mem_map.1 hm
              obtain ⟨j, hj, e2⟩ := List.getElem_of_mem hy
              rw [List.length_take] at hj
              rw [List.getElem_take] at e2
              exact HB.out j y (by omega) (by rw [← e2]; exact List.getElem?_eq_getElem _) e
            have HALL := hideIt hall
            clear hall
            go_wp2
            go_roundg (N - (q + 1))
            case measure => have := HG.out; omega
            case rel => exact ⟨q + 1, by omega, Nat.le_refl _, by go_num, hbz, HALL⟩
    · have e : k = N := by omega
      subst e
      have hM := HM.out
      rw [List.take_of_length_le (by omega)] at hM
      have hv := HV.out
      rw [decide_eq_true hM] at hv
      subst hv
      go_wp2
      go_ret
      exact ⟨rfl, hb⟩
end Go.Proofs.YtngofpdpangajaaDoor
