/-
  The law PackRoots: roots written one behind the other are read as what they were, as long as each may be told; the first that may not be spoils it. Conditions: none.
-/
import Derived.Test.YtmflhodiibjpnaaDoorM13Top
import Derived.Test.YtmflhodiibjpnaaDoorT13Root
import Derived.Test.YtmflhodiibjpnaaDoorM13Dec
import Derived.Test.YtmflhodiibjpnaaDoorW10Laid
namespace Go.Proofs.YtmflhodiibjpnaaDoor
set_option linter.unusedVariables false
set_option linter.unusedSimpArgs false
set_option maxRecDepth 10000
open Go.ChangeShapes Go.WideShapes Go.ChangeAt Go.RowKit

theorem rtsY_next {l : List RtP} {k : Nat} {x : RtP} (h : l[k]? = some x) : (l.take (k + 1)).flatMap rtY = (l.take k).flatMap rtY ++ rtY x := by
  rw [List.take_add_one, h]
  simp [List.flatMap_append]
theorem rtsY_drop {l : List RtP} {k : Nat} {x : RtP} (h : l[k]? = some x) : (l.drop k).flatMap rtY = rtY x ++ (l.drop (k + 1)).flatMap rtY := by
  obtain ⟨hlt, e⟩ := List.getElem?_eq_some_iff.1 h
  rw [List.drop_eq_getElem_cons hlt, e]
  rfl
theorem rtY_small {x : RtP} (h : x.hash.size ≤ 100) : (rtY x).length ≤ 200 := by
  unfold rtY
  rw [List.length_append]
  have h1 := ndY_len ⟨x.hash, x.h, x.l⟩
  simp only at h1
  have h2 := wideL_len 0 (x.n % 18446744073709551616)
  omega
theorem rtsY_small {l : List RtP} (h : ∀ x ∈ l, x.hash.size ≤ 100) : (l.flatMap rtY).length ≤ l.length * 200 := by
  induction l with
  | nil => exact Nat.zero_le _
  | cons x r ih =>
    have h1 := ih fun y hy => h y (List.mem_cons_of_mem _ hy)
    have h2 := rtY_small (h x List.mem_cons_self)
    rw [List.flatMap_cons, List.length_append, List.length_cons]
    omega
theorem rt_read {x : RtP} (hx : x.fine) (h : x.long = false) (r : List UInt8) : rtG (some (rtY x ++ r)) = (x, some r) := by
  unfold RtP.long at h
  simp only [Bool.or_eq_false_iff, decide_eq_false_iff_not] at h
  exact rtC.1 x r ⟨⟨by omega, hx.2.1⟩, by omega, by omega⟩

set_option maxRecDepth 100000 in
set_option maxHeartbeats 8000000 in
theorem l13roots_long (A : Option Addr) (c : Nat) (xs : List RtP) (hm : xs.length ≤ 9223372036854775807) (hl : 20 < xs.length) (w : World) (hT : TabU w) :
    Calls Tryd.prog 3 #[.slice A xs.length c] w (Tells (.bool true) w.heap.size w) := by
  have cA := awake13_any w hT
  have hi : (20 : Int) < (xs.length : Int) := by omega
  go_enter Tryd.func3, Tryd.ntmps3
  go_wp2_with (first
    | (go_at_call 4; refine cA.mono ?_; rintro e w1 ⟨rfl, j1⟩)
    | fail)
  go_ret
  exact ⟨rfl, j1⟩
set_option maxRecDepth 100000 in
set_option maxHeartbeats 8000000 in
theorem l13roots_any (A : Option Addr) (c : Nat) (xs : List RtP) (hl : xs.length ≤ 20) (hx : ∀ x ∈ xs, x.fine) (w : World) (hT : TabU w) (hR : rtS.Row w w.heap.size A xs) :
    Calls Tryd.prog 3 #[.slice A xs.length c] w (Tells (.bool true) w.heap.size w) := by
  have cA := awake13_any w hT
  have hi : ¬ ((20 : Int) < (xs.length : Int)) := by omega
  go_enter Tryd.func3, Tryd.ntmps3
  go_wp2_with (first
    | (go_at_call 4; refine cA.mono ?_; rintro e w1 ⟨rfl, j1⟩)
    | fail)
  have O1 : OutS (w1.alloc (.cells #[.pointer none, .int .i64 0, .bool false] 27)) w1.heap.size (some ⟨#[]⟩) := out_new (Box.made _ _ _)
  have L1 : Below w.heap.size w (w1.alloc (.cells #[.pointer none, .int .i64 0, .bool false] 27)) := chainA j1 _
  have hgo : w.heap.size ≤ w1.heap.size := j1.size
  generalize w1.alloc (.cells #[.pointer none, .int .i64 0, .bool false] 27) = W1 at *
  generalize w1.heap.size = go at *
  clear cA j1 hi
  go_loopg [4] xs.length (fun gg i wr => ∃ k : Nat, k ≤ xs.length ∧ gg = xs.length - k ∧ i = .int .i64 k ∧ OutS wr go (some (ofL ((xs.take k).flatMap rtY))) ∧ (∀ x ∈ xs.take k, x.hash.size ≤ 100) ∧ Below w.heap.size w wr)
  case atStart => exact ⟨0, Nat.zero_le _, rfl, rfl, O1, by simp, L1⟩
  case round =>
    obtain ⟨k, hkl, hgk, rfl, hO, h100, Lw⟩ := hrel
    clear O1 L1
    have HG := hideIt hgk
    clear hgk
    by_cases hlt : k < xs.length
    · obtain ⟨x, hxk⟩ : ∃ x, xs[k]? = some x := ⟨_, List.getElem?_eq_getElem hlt⟩
      have fx := hx x (List.mem_of_getElem? hxk)
      obtain ⟨ad, rfl, hb, q0, q1, q2, q3⟩ := rt_get (hR.call Lw) hxk
      have q5 : (ad.add (k * 4)).block < wr.heap.size := Nat.lt_of_lt_of_le hb Lw.size
      have b1 : (k : Int) < (xs.length : Int) := by omega
      by_cases h : 100 < x.hash.size
      · have hi2 : (100 : Int) < (x.hash.size : Int) := by omega
        go_wp2_with fail
        go_ret
        exact ⟨rfl, Lw⟩
      · have hi2 : ¬ ((100 : Int) < (x.hash.size : Int)) := by omega
        have cP := fun u hu => putroot_any go (some (ofL ((xs.take k).flatMap rtY))) x (by omega) fx.2.1 u hu
        have hn : ∀ y ∈ xs.take (k + 1), y.hash.size ≤ 100 := by
          intro y hy
          rw [List.take_add_one, hxk] at hy
          rcases List.mem_append.1 hy with h1 | h1
          · exact h100 y h1
          · simp at h1; subst h1; omega
        have hz := rtsY_small hn
        have hz1 : (xs.take (k + 1)).length ≤ 20 := by rw [List.length_take]; omega
        have e1 : putB (some (ofL ((xs.take k).flatMap rtY))) (ofL (rtY x)) = some (ofL ((xs.take (k + 1)).flatMap rtY)) := by
          rw [rtsY_next hxk] at hz ⊢
          rw [List.length_append] at hz
          rw [putB_yes _ _ (by rw [ofL_size, ofL_size]; omega), ofL_app]
        have HE := hideIt e1
        have HN := hideIt hn
        clear e1 hn hz hz1 h100
        generalize hS : ofL ((xs.take k).flatMap rtY) = S at *
        simp only [RtP.val] at cP
        go_wp2_with (first
          | (go_at_call 5; refine (cP _ hO).mono ?_; rintro e w4 ⟨rfl, O4, k4⟩)
          | fail)
        rw [HE.out] at O4
        go_roundg (xs.length - (k + 1))
        case measure => have := HG.out; omega
        case rel => exact ⟨k + 1, by omega, rfl, by go_num, O4, HN.out, Lw.trans (k4.below (fun i hi => by have : i = go := hi; omega) Lw.size)⟩
    · have b1 : ¬ ((k : Int) < (xs.length : Int)) := by omega
      rw [List.take_of_length_le (by omega)] at hO h100
      have hz := rtsY_small h100
      have cD := fun u hu => out_done go (some (ofL (xs.flatMap rtY))) u hu
      obtain ⟨L, hL⟩ : ∃ L, xs.flatMap rtY = L := ⟨_, rfl⟩
      rw [hL] at cD hz hO
      have cO := fun u => in_open (ofL L) (by rw [ofL_size]; omega) u
      rw [ofL_list] at cO
      simp only [doneV] at cD
      have HL := hideIt hL
      clear hL hz
      go_wp2_with (first
        | (go_at_call 6; refine (cD _ hO).mono ?_; rintro e w4 ⟨rfl, rfl⟩)
        | (go_at_call 7; refine (cO _).mono ?_; rintro e w5 ⟨gi, rfl, hgi, I5, j5⟩)
        | fail)
      have L5 := Lw.trans (j5.mono Lw.size)
      have hgi0 : w.heap.size ≤ gi := Nat.le_trans Lw.size hgi
      clear cO cD hO j5 hgi Lw hgo hlt
      generalize wr.heap.size = m0 at *
      go_loopg [8] xs.length (fun gg i wr => ∃ k : Nat, k ≤ xs.length ∧ gg = xs.length - k ∧ i = .int .i64 k ∧ InS wr gi (some ((xs.drop k).flatMap rtY)) ∧ Below w.heap.size w wr)
      case atStart => exact ⟨0, Nat.zero_le _, rfl, rfl, by rw [List.drop_zero, HL.out]; exact I5, L5⟩
      case round =>
        obtain ⟨q, hql, hgq, rfl, hI, Lw⟩ := hrel
        clear I5 L5
        have HG := hideIt hgq
        clear hgq
        by_cases hlt : q < xs.length
        · obtain ⟨x, hxk⟩ : ∃ x, xs[q]? = some x := ⟨_, List.getElem?_eq_getElem hlt⟩
          have fx := hx x (List.mem_of_getElem? hxk)
          have h1 := h100 x (List.mem_of_getElem? hxk)
          rw [rtsY_drop hxk] at hI
          have b2 : (q : Int) < (xs.length : Int) := by omega
          obtain ⟨R, hRR⟩ : ∃ R, (xs.drop (q + 1)).flatMap rtY = R := ⟨_, rfl⟩
          rw [hRR] at hI
          have cT := fun u => root_any x (by omega) fx.2.1 u
          have cG := fun u hu => getroot_any u gi (some (rtY x ++ R)) hu
          have up : ∀ u, Below w.heap.size w u → ∃ ad, A = some ad ∧ (ad.add (q * 4)).block < w.heap.size ∧
    u.cell? (ad.add (q * 4)) = some (.string x.hash) ∧ u.cell? ⟨(ad.add (q * 4)).block, (ad.add (q * 4)).off + 1, none⟩ = some (.int .u64 x.h) ∧ u.cell? ⟨(ad.add (q * 4)).block, (ad.add (q * 4)).off + 2, none⟩ = some (.int .u64 x.l) ∧ u.cell? ⟨(ad.add (q * 4)).block, (ad.add (q * 4)).off + 3, none⟩ = some (.int .i64 x.n) := fun u hu => rt_get (hR.call hu) hxk
          obtain ⟨ad, rfl, hb, q0, q1, q2, q3⟩ := up _ Lw
          have q5 : (ad.add (q * 4)).block < wr.heap.size := Nat.lt_of_lt_of_le hb Lw.size
          cases hlong : x.long with
          | true =>
            have e1 : rtO x = (⟨#[]⟩, 3) := by unfold rtO; rw [if_pos hlong]
            rw [e1] at cT
            rw [rt_bad (by omega) fx.2.1 fx.2.2 hlong] at cG
            have cS := fun u hu => in_spoilt u gi none hu
            have hq := fun u : World => run_eql_rt RtP.zero RtP.zero u
            rw [RtP.same_self] at hq
            simp only [RtP.val, RtP.zero] at cT cG hq
            go_upto_region 21 with (first
              | (go_at_call 8; refine (cT _).mono ?_; rintro e w6 ⟨rfl, j6⟩)
              | (go_at_call 9; refine (cG _ (hI.call j6)).mono ?_; rintro e w7 ⟨rfl, I7, k7⟩)
              | fail)
            have L6 := Lw.trans (j6.mono Lw.size)
            have L7 := L6.trans (k7.below (fun i hi => by have : i = gi := hi; omega) L6.size)
            change Code.wp _ _ _ _ (w7.alloc (.cells (rtB ⟨#[]⟩ 0 0 0) 32))
            have I8 := I7.call (chainA (Below.refl _ _) (.cells (rtB ⟨#[]⟩ 0 0 0) 32))
            have L8 := chainA L7 (.cells (rtB ⟨#[]⟩ 0 0 0) 32)
            have B8 := Box.made w7 32 (rtB ⟨#[]⟩ 0 0 0)
            clear q0 q1 q2 q3 q5 L6 L7 I7 k7 j6 hI Lw cT cG
            generalize w7.alloc (.cells (rtB ⟨#[]⟩ 0 0 0) 32) = W8 at *
            have p0 := B8.read 0
            have p1 := B8.read 1
            have p2 := B8.read 2
            have p3 := B8.read 3
            have p5 := B8.inside
            go_wp2_with (first
              | (go_at_call 10; refine (cS _ I8).mono ?_; rintro e w9 ⟨rfl, rfl⟩)
              | fail)
            go_ret
            exact ⟨rfl, L8⟩
          | false =>
            have h32 : x.hash.size ≤ 32 := by
              have h0 := hlong
              unfold RtP.long at h0
              simp only [Bool.or_eq_false_iff, decide_eq_false_iff_not] at h0
              omega
            have e1 : rtO x = (ofL (82 :: rtY x), 0) := by unfold rtO; rw [if_neg (by rw [hlong]; decide), whole_fit (rtY_fit x h32)]
            rw [e1] at cT
            rw [rt_read fx hlong] at cG
            have cS := fun u hu => in_spoilt u gi (some R) hu
            rw [show (some R).isNone = false from rfl] at cS
            have hq := fun u : World => run_neq_rt x x u
            rw [RtP.same_self] at hq
            simp only [RtP.val] at cT cG hq
            generalize ofL (82 :: rtY x) = T at *
            go_upto_region 21 with (first
              | (go_at_call 8; refine (cT _).mono ?_; rintro e w6 ⟨rfl, j6⟩)
              | (go_at_call 9; refine (cG _ (hI.call j6)).mono ?_; rintro e w7 ⟨rfl, I7, k7⟩)
              | fail)
            have L6 := Lw.trans (j6.mono Lw.size)
            have L7 := L6.trans (k7.below (fun i hi => by have : i = gi := hi; omega) L6.size)
            change Code.wp _ _ _ _ (w7.alloc (.cells (rtB x.hash x.h x.l x.n) 32))
            have I8 := I7.call (chainA (Below.refl _ _) (.cells (rtB x.hash x.h x.l x.n) 32))
            have L8 := chainA L7 (.cells (rtB x.hash x.h x.l x.n) 32)
            have B8 := Box.made w7 32 (rtB x.hash x.h x.l x.n)
            clear q0 q1 q2 q3 q5 L6 L7 I7 k7 j6 hI Lw cT cG
            generalize w7.alloc (.cells (rtB x.hash x.h x.l x.n) 32) = W8 at *
            have p0 := B8.read 0
            have p1 := B8.read 1
            have p2 := B8.read 2
            have p3 := B8.read 3
            have p5 := B8.inside
            have fact : ∀ u, Below W8.heap.size W8 u → ((u.cell? ⟨w7.heap.size, 0, none⟩ = some (.string x.hash) ∧ u.cell? ⟨w7.heap.size, 1, none⟩ = some (.int .u64 x.h) ∧ u.cell? ⟨w7.heap.size, 2, none⟩ = some (.int .u64 x.l) ∧ u.cell? ⟨w7.heap.size, 3, none⟩ = some (.int .i64 x.n)) ∧ (u.cell? (ad.add (q * 4)) = some (.string x.hash) ∧ u.cell? ⟨(ad.add (q * 4)).block, (ad.add (q * 4)).off + 1, none⟩ = some (.int .u64 x.h) ∧ u.cell? ⟨(ad.add (q * 4)).block, (ad.add (q * 4)).off + 2, none⟩ = some (.int .u64 x.l) ∧ u.cell? ⟨(ad.add (q * 4)).block, (ad.add (q * 4)).off + 3, none⟩ = some (.int .i64 x.n)) ∧ w7.heap.size < u.heap.size ∧ (ad.add (q * 4)).block < u.heap.size) := fun u hu => by
              have B9 := B8.call hu
              have L9 := chain L8 hu
              obtain ⟨ad2, had2, hb, q0, q1, q2, q3⟩ := up _ L9
              cases had2
              exact ⟨⟨B9.read 0, B9.read 1, B9.read 2, B9.read 3⟩, ⟨q0, q1, q2, q3⟩, B9.inside, Nat.lt_of_lt_of_le hb L9.size⟩
            clear p0 p1 p2 p3 p5
            go_upto_region 23 with fail
            go_region_held3 (fun u => Below W8.heap.size W8 u ∧ ((u.cell? ⟨w7.heap.size, 0, none⟩ = some (.string x.hash) ∧ u.cell? ⟨w7.heap.size, 1, none⟩ = some (.int .u64 x.h) ∧ u.cell? ⟨w7.heap.size, 2, none⟩ = some (.int .u64 x.l) ∧ u.cell? ⟨w7.heap.size, 3, none⟩ = some (.int .i64 x.n)) ∧ (u.cell? (ad.add (q * 4)) = some (.string x.hash) ∧ u.cell? ⟨(ad.add (q * 4)).block, (ad.add (q * 4)).off + 1, none⟩ = some (.int .u64 x.h) ∧ u.cell? ⟨(ad.add (q * 4)).block, (ad.add (q * 4)).off + 2, none⟩ = some (.int .u64 x.l) ∧ u.cell? ⟨(ad.add (q * 4)).block, (ad.add (q * 4)).off + 3, none⟩ = some (.int .i64 x.n)) ∧ w7.heap.size < u.heap.size ∧ (ad.add (q * 4)).block < u.heap.size))
              (first | exact on_start fact | exact on_call fact (by assumption) (by assumption) | with_reducible assumption | fail)
              (first
                | (go_at_call 10; refine (cS _ (I8.call (on_low (by assumption)))).mono ?_; rintro e w9 ⟨rfl, rfl⟩)
                | fail)
            all_goals go_wp2_with fail
            all_goals go_roundg (xs.length - (q + 1))
            all_goals first
              | (have := HG.out; omega)
              | exact ⟨q + 1, by omega, rfl, by go_num, by rw [hRR]; exact I8.call (on_low (by assumption)), chain L8 (on_low (by assumption))⟩
        · have b2 : ¬ ((q : Int) < (xs.length : Int)) := by omega
          rw [List.drop_of_length_le (by omega)] at hI
          have cC := fun u hu => in_close u gi (some []) hu
          rw [show closeN (some []) = 0 from rfl] at cC
          go_wp2_with (first
            | (go_at_call 11; refine (cC _ hI).mono ?_; rintro e w6 ⟨rfl, rfl⟩)
            | fail)
          go_ret
          exact ⟨rfl, Lw⟩
end Go.Proofs.YtmflhodiibjpnaaDoor
