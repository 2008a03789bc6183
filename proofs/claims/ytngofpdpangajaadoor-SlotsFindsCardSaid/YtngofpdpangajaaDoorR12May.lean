/-
  paymasterref12's May, walked.
-/
import Derived.Test.YtngofpdpangajaaDoorD12May
import Derived.Test.YtngofpdpangajaaDoorR12Find
import Derived.Test.YtngofpdpangajaaDoorR7Id
import Derived.Deep.RegionHeld3
namespace Go.Proofs.YtngofpdpangajaaDoor
set_option linter.unusedVariables false
set_option linter.unusedSimpArgs false
set_option maxRecDepth 10000
open Go.RowKit Go.Sort

theorem key_same2 (x y : Ac) : (x.id.toList == y.id.toList) = decide (keyA x = keyA y) := by
  rw [Lib.toList_data, Lib.toList_data]
  exact Bool.beq_eq_decide_eq _ _
/-- Of the first ones some one is like it. -/
def seenA (l : List Ac) (x : Ac) : Bool := l.any fun y => decide (keyA y = keyA x) || decide (y.slot = x.slot)
theorem seenA_no {l : List Ac} {x : Ac} : seenA l x = false ↔ keyA x ∉ l.map keyA ∧ x.slot ∉ l.map Ac.slot := by
  unfold seenA
  rw [List.any_eq_false]
  simp only [Bool.or_eq_true, decide_eq_true_eq, not_or, List.mem_map, not_exists, not_and]
  constructor
  · intro h
    exact ⟨fun y hy => (h y hy).1, fun y hy => (h y hy).2⟩
  · intro h y hy
    exact ⟨h.1 y hy, h.2 y hy⟩
set_option maxRecDepth 100000 in
set_option maxHeartbeats 4000000 in
theorem rmay_any (A : Option Addr) (c : Nat) (xs : List Ac) (hm : xs.length ≤ 1000000) (ho : AllAc xs) (hz : ∀ x ∈ xs, x.id.size ≤ 1000000 ∧ x.salt.size ≤ 1000000) (h : Int) (w : World) (hR : AcRow w w.heap.size A xs) :
    Calls Tryd.prog 23 #[.slice A xs.length c, .int .i64 h] w (Tells (.bool (mayA h xs)) w.heap.size w) := by
  have cMH := fun u => rhigh_any h u
  unfold mayA
  cases hk : shOk h with
  | false =>
    rw [hk] at cMH
    rw [Bool.false_and]
    go_enter Tryd.func23, Tryd.ntmps23
    go_wp2_with (first | (go_at_call 41; refine (cMH _).mono ?_; rintro e v1 ⟨rfl, rfl⟩) | fail)
    go_ret
    exact ⟨rfl, Below.refl _ _⟩
  | true =>
    rw [hk] at cMH
    rw [Bool.true_and]
    have hb := of_decide_eq_true hk
    obtain ⟨n, rfl⟩ := Int.eq_ofNat_of_zero_le hb.1
    rw [Int.toNat_natCast]
    have cS := fun u => rmany_any n (by omega) u
    obtain ⟨P, hP⟩ : ∃ P, pw n = P := ⟨_, rfl⟩
    rw [hP] at cS ⊢
    obtain ⟨V, hV⟩ : ∃ V, decide (MayP P xs) = V := ⟨_, rfl⟩
    rw [hV]
    have HV := hideIt hV
    have HP0 := hideIt (mayP_nil P)
    clear hV hP hk hb
    obtain ⟨N, hN⟩ : ∃ N, xs.length = N := ⟨_, rfl⟩
    rw [hN]
    go_enter Tryd.func23, Tryd.ntmps23
    go_wp2_with (first | (go_at_call 41; refine (cMH _).mono ?_; rintro e v1 ⟨rfl, rfl⟩) | fail)
    clear cMH
    go_loopg [5, 6] N (fun gk i _ wr => ∃ k : Nat, k ≤ N ∧ N - k ≤ gk ∧ i = .int .i64 k ∧ Below w.heap.size w wr ∧ Hid (MayP P (xs.take k)))
    case atStart => exact ⟨0, Nat.zero_le _, by omega, rfl, Below.refl _ _, HP0⟩
    case round =>
      obtain ⟨k, hk, hgk, rfl, hb, HM⟩ := hrel
      have HG := hideIt hgk
      clear hgk
      by_cases hlt : k < N
      · obtain ⟨x, hx⟩ : ∃ x, xs[k]? = some x := ⟨_, List.getElem?_eq_getElem (by omega)⟩
        obtain ⟨ad, hA, had, p0, p1, p2, p3, p4⟩ := (hR.call hb) k x hx
        subst hA
        have hlti : (k : Int) < (N : Int) := by omega
        have p5 : (ad.add (k * 5)).block < wr.heap.size := by rw [o10_block]; exact Nat.lt_of_lt_of_le had hb.size
        obtain ⟨z1, z2⟩ := hz x (List.mem_of_getElem? hx)
        have cI := fun u => rmayId_any x.id (by omega) u
        have hdef := okA_def P x
        have hat := fun hM => mayP_at (A := P) (xs := xs) hM hx
        have hstep := fun h1 h2 h3 => mayP_step (A := P) HM.out hx h1 h2 h3
        have HAT := hideIt hat
        have HST := hideIt hstep
        have HX := hideIt hx
        clear hat hstep hx HM
        change okA P x = (isId x.id.data.toList && _) at hdef
        generalize isId x.id.data.toList = t1 at *
        obtain ⟨t2, ht2⟩ : ∃ b, decide (x.slot < P) = b := ⟨_, rfl⟩
        obtain ⟨t3, ht3⟩ : ∃ b, decide (x.salt.size ≤ 32) = b := ⟨_, rfl⟩
        rw [ht2, ht3] at hdef
        generalize okA P x = t0 at *
        have HD := hideIt hdef
        clear hdef
        have hmx : (ad.add (k * 5)).block < wr.drew.heap.size := p5
        have hI3 : ((x.salt.size : Int) ≤ 32) ↔ x.salt.size ≤ 32 := by omega
        go_upto_region 6 with fail
        go_cut [41] from 16 to 41 (fun s41 wx => s41 = .bool (!t0) ∧ Below wr.heap.size wr wx)
        case first =>
          cases t1 with
          | false =>
            have e := HD.out
            simp only [Bool.false_and] at e
            subst e
            go_quiet (first
              | (go_at_call 56; exact Calls.quiet_of_same ((cI _).mono (fun _ _ h => ⟨h.1, h.2.symm⟩)))
              | (go_at_call 43; exact Calls.quiet_of_same ((cS _).mono (fun _ _ h => ⟨h.1, h.2.symm⟩)))
              | fail)
            all_goals go_wp2_with fail
            all_goals go_meet
            all_goals exact ⟨rfl, below_drewN (Below.refl _ _) _⟩
          | true =>
            cases t2 with
            | false =>
              have e := HD.out
              simp only [Bool.and_false, Bool.true_and] at e
              subst e
              have hs : P ≤ x.slot := by have := of_decide_eq_false ht2; omega
              go_quiet (first
                | (go_at_call 56; exact Calls.quiet_of_same ((cI _).mono (fun _ _ h => ⟨h.1, h.2.symm⟩)))
                | (go_at_call 43; exact Calls.quiet_of_same ((cS _).mono (fun _ _ h => ⟨h.1, h.2.symm⟩)))
                | fail)
              all_goals go_wp2_with fail
              all_goals go_meet
              all_goals exact ⟨rfl, below_drewN (Below.refl _ _) _⟩
            | true =>
              have e := HD.out
              simp only [Bool.and_true, Bool.true_and] at e
              subst e
              have hs : ¬ (P ≤ x.slot) := by have := of_decide_eq_true ht2; omega
              cases t0 with
              | true =>
                have h3 : ¬ (32 < (x.salt.size : Int)) := by have := of_decide_eq_true ht3; omega
                go_quiet (first
                  | (go_at_call 56; exact Calls.quiet_of_same ((cI _).mono (fun _ _ h => ⟨h.1, h.2.symm⟩)))
                  | (go_at_call 43; exact Calls.quiet_of_same ((cS _).mono (fun _ _ h => ⟨h.1, h.2.symm⟩)))
                  | fail)
                all_goals go_wp2_with fail
                all_goals go_meet
                all_goals exact ⟨rfl, below_drewN (Below.refl _ _) _⟩
              | false =>
                have h3 : 32 < (x.salt.size : Int) := by have := of_decide_eq_false ht3; omega
                go_quiet (first
                  | (go_at_call 56; exact Calls.quiet_of_same ((cI _).mono (fun _ _ h => ⟨h.1, h.2.symm⟩)))
                  | (go_at_call 43; exact Calls.quiet_of_same ((cS _).mono (fun _ _ h => ⟨h.1, h.2.symm⟩)))
                  | fail)
                all_goals go_wp2_with fail
                all_goals go_meet
                all_goals exact ⟨rfl, below_drewN (Below.refl _ _) _⟩
        case rest =>
          obtain ⟨rfl, hbc⟩ := hcut
          have hb2 := hb.trans (hbc.mono hb.size)
          clear HD ht2 ht3 cI cS hI3 p0 p1 p2 p3 p4 p5 hmx
          cases t0 with
          | false =>
            have hno : V = false := by
              rw [← HV.out]
              exact decide_eq_false fun hM => Bool.noConfusion (HAT.out hM).1
            subst hno
            go_wp2
            go_ret
            exact ⟨rfl, hb2⟩
          | true =>
            generalize wc = W at *
            go_upto_region 9 with fail
            go_loopg [6] k (fun gq i wq => ∃ q : Nat, q ≤ k ∧ k - q ≤ gq ∧ i = .int .i64 q ∧ Below W.heap.size W wq ∧ Hid (∀ j y, j < q → xs[j]? = some y → keyA y ≠ keyA x ∧ y.slot ≠ x.slot))
            case atStart => exact ⟨0, Nat.zero_le _, by omega, rfl, Below.refl _ _, fun j y hj => absurd hj (Nat.not_lt_zero _)⟩
            case round =>
              rename World => wq
              obtain ⟨q, hq, hgq, rfl, hbq, HB⟩ := hrel
              have HGq := hideIt hgq
              clear hgq
              have hbz := hb2.trans (hbq.mono hb2.size)
              by_cases hltq : q < k
              · obtain ⟨y, hy⟩ : ∃ y, xs[q]? = some y := ⟨_, List.getElem?_eq_getElem (by omega)⟩
                obtain ⟨_, hA, had1, x0, -, -, -, x4⟩ := (hR.call hbz) k x HX.out
                cases hA
                obtain ⟨_, hA, -, y0, -, -, -, y4⟩ := (hR.call hbz) q y hy
                cases hA
                have hltiq : (q : Int) < (k : Int) := by omega
                have hqN : (q : Int) < (N : Int) := by omega
                have x5 : (ad.add (k * 5)).block < wq.heap.size := by rw [o10_block]; exact Nat.lt_of_lt_of_le had1 hbz.size
                have y5 : (ad.add (q * 5)).block < wq.heap.size := by rw [o10_block]; exact Nat.lt_of_lt_of_le had1 hbz.size
                have e1 := key_same2 y x
                obtain ⟨s1, hs1⟩ : ∃ b, decide (keyA y = keyA x) = b := ⟨_, rfl⟩
                obtain ⟨s2, hs2⟩ : ∃ b, decide (y.slot = x.slot) = b := ⟨_, rfl⟩
                rw [hs1] at e1
                have e2 : (y.slot == x.slot) = s2 := by rw [← hs2]; exact Bool.beq_eq_decide_eq _ _
                have HS1 := hideIt hs1
                have HS2 := hideIt hs2
                have HY := hideIt hy
                clear hs1 hs2 hy
                cases s1 with
                | true =>
                  have hno : V = false := by
                    rw [← HV.out]
                    refine decide_eq_false fun hM => (HAT.out hM).2.1 ?_
                    rw [← of_decide_eq_true HS1.out]
                    refine List.mem_map_of_mem (List.mem_of_getElem? (i := q) ?_)
                    rw [List.getElem?_take_of_lt hltq]
                    exact HY.out
                  subst hno
                  go_upto_region 11 with fail
                  go_quiet (fail)
                  go_wp2
                  go_ret
                  exact ⟨rfl, below_drewN hbz _⟩
                | false =>
                  cases s2 with
                  | true =>
                    have hno : V = false := by
                      rw [← HV.out]
                      refine decide_eq_false fun hM => (HAT.out hM).2.2 ?_
                      rw [← of_decide_eq_true HS2.out]
                      refine List.mem_map_of_mem (List.mem_of_getElem? (i := q) ?_)
                      rw [List.getElem?_take_of_lt hltq]
                      exact HY.out
                    subst hno
                    go_upto_region 11 with fail
                    go_quiet (fail)
                    go_wp2
                    go_ret
                    exact ⟨rfl, below_drewN hbz _⟩
                  | false =>
                    go_upto_region 11 with fail
                    go_quiet (fail)
                    go_wp2
                    go_roundg (k - (q + 1))
                    case measure => have := HGq.out; omega
                    case rel => exact ⟨q + 1, by omega, Nat.le_refl _, by go_num, below_drewN hbq _, fun j z hj hz2 => by
                      by_cases e : j = q
                      · subst e
                        rw [HY.out] at hz2
                        injection hz2 with hz2
                        subst hz2
                        exact ⟨of_decide_eq_false HS1.out, of_decide_eq_false HS2.out⟩
                      · exact HB.out j z (by omega) hz2⟩
              · have e : q = k := by omega
                subst e
                have hall : MayP P (xs.take (q + 1)) := by
                  refine HST.out (by trivial) (fun hm => ?_) (fun hm => ?_)
                  · obtain ⟨y, hy, e⟩ := List.mem_map.1 hm
                    obtain ⟨j, hj, e2⟩ := List.getElem_of_mem hy
                    rw [List.length_take] at hj
                    rw [List.getElem_take] at e2
                    exact (HB.out j y (by omega) (by rw [← e2]; exact List.getElem?_eq_getElem _)).1 e
                  · obtain ⟨y, hy, e⟩ := List.mem_map.1 hm
                    obtain ⟨j, hj, e2⟩ := List.getElem_of_mem hy
                    rw [List.length_take] at hj
                    rw [List.getElem_take] at e2
                    exact (HB.out j y (by omega) (by rw [← e2]; exact List.getElem?_eq_getElem _)).2 e
                have HALL := hideIt hall
                clear hall
                go_wp2
                go_roundg (N - (q + 1))
                case measure => have := HG.out; omega
                case rel => exact ⟨q + 1, by omega, Nat.le_refl _, by go_num, hbz, HALL⟩
      · have e : k = N := by omega
        subst e
        have hM := HM.out
        rw [List.take_of_length_le (by omega)] at hM
        have hv := HV.out
        rw [decide_eq_true hM] at hv
        subst hv
        go_wp2
        go_ret
        exact ⟨rfl, hb⟩
end Go.Proofs.YtngofpdpangajaaDoor
