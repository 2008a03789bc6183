/-
  The sum of a row's nodes, as the theorem NodeSums asks it, walked.
-/
import Derived.Test.YtjbaeiifamendaaDoorL14Law
import Derived.Deep.AppendLies
import Derived.Deep.RegionHeld3
namespace Go.Proofs.YtjbaeiifamendaaDoor
set_option linter.unusedVariables false
set_option linter.unusedSimpArgs false
set_option maxRecDepth 10000
open Go.RowKit

theorem Box.num14 {w : World} {g : Nat} {t : TypeId} {a b : Value} (h : Box w g t #[a, b]) : w.cell? ⟨g, 0, none⟩ = some a ∧ w.cell? ⟨g, 1, none⟩ = some b ∧ g < w.heap.size := ⟨h.read 0, h.read 1, h.inside⟩
theorem sumNd_take {xs : List Nd} {k : Nat} (h : k < xs.length) : sumN (xs.take (k + 1)) = sumN (xs.take k) + nv xs[k].h xs[k].l := by
  rw [List.take_add_one, List.getElem?_eq_getElem h, sumN_app]
  simp [sumN, Nd.sum]
set_option maxHeartbeats 4000000 in
theorem sums14_any (A : Option Addr) (c : Nat) (xs : List Nd) (hx : ∀ x ∈ xs, x.halved) (hm : xs.length ≤ 1000000) (w : World) (hr : ndS.Row w w.heap.size A xs) :
    Calls Tryd.prog 20 #[.slice A xs.length c] w (Tells (.tuple #[.agg #[.int .u64 (rh (sumN xs)), .int .u64 (rl (sumN xs))], .bool (room (sumN xs))]) w.heap.size w) := by
  have B0 : Box ((w.alloc (.cells #[.int .u64 0, .int .u64 0] 24)).alloc (.cells #[.int .u64 0, .int .u64 0] 24)) w.heap.size 24 #[.int .u64 0, .int .u64 0] := (Box.made w _ _).past _
  have B1 : Box ((w.alloc (.cells #[.int .u64 0, .int .u64 0] 24)).alloc (.cells #[.int .u64 0, .int .u64 0] 24)) (w.heap.size + 1) 24 #[.int .u64 0, .int .u64 0] := by
    have := Box.made (w.alloc (.cells #[.int .u64 0, .int .u64 0] 24)) 24 #[.int .u64 0, .int .u64 0]
    simpa using this
  have L1 : Below w.heap.size w ((w.alloc (.cells #[.int .u64 0, .int .u64 0] 24)).alloc (.cells #[.int .u64 0, .int .u64 0] 24)) := by repeat (first | exact Below.refl _ _ | apply Below.drew | apply below_drewN | refine Below.alloc ?_ (by simp; try omega) _ | refine Below.setCell ?_ (by simp; try omega) _)
  go_enter Tryd.func20, Tryd.ntmps20
  go_wp2
  generalize (w.alloc (.cells #[.int .u64 0, .int .u64 0] 24)).alloc (.cells #[.int .u64 0, .int .u64 0] 24) = W at *
  go_loopg [5] xs.length (fun gk i wr => ∃ k : Nat, k ≤ xs.length ∧ gk = xs.length - k ∧ i = .int .i64 k ∧ room (sumN (xs.take k)) = true ∧ Box wr w.heap.size 24 #[.int .u64 0, .int .u64 0] ∧
    Box wr (w.heap.size + 1) 24 #[.int .u64 (rh (sumN (xs.take k))), .int .u64 (rl (sumN (xs.take k)))] ∧ Below w.heap.size w wr)
  case atStart => exact ⟨0, by omega, rfl, rfl, by rw [List.take_zero]; decide, B0, B1, L1⟩
  case round =>
    obtain ⟨k, hk, rfl, rfl, hroom, hb0, hb1, hbel⟩ := hrel
    by_cases hlt : k < xs.length
    · obtain ⟨p, hp⟩ : ∃ p : Nd, xs[k] = p := ⟨_, rfl⟩
      obtain ⟨ad, rfl, had, hc0, c0, c1⟩ := nd_get hr (i := k) (x := p) (by rw [List.getElem?_eq_getElem hlt, hp])
      have c0' : wr.cell? ⟨(ad.add (k * 3)).block, (ad.add (k * 3)).off + 1, none⟩ = some (.int .u64 p.h) := by rw [hbel.cell (p := ⟨(ad.add (k * 3)).block, (ad.add (k * 3)).off + 1, none⟩) had]; exact c0
      have c1' : wr.cell? ⟨(ad.add (k * 3)).block, (ad.add (k * 3)).off + 2, none⟩ = some (.int .u64 p.l) := by rw [hbel.cell (p := ⟨(ad.add (k * 3)).block, (ad.add (k * 3)).off + 2, none⟩) had]; exact c1
      obtain ⟨m0, m1, m2⟩ := hb1.num14
      have e1 := sumNd_take hlt
      rw [hp] at e1
      obtain ⟨w1, w2⟩ := hx p (by rw [← hp]; exact List.getElem_mem hlt)
      have E1 := hideIt e1
      have HP := hideIt hp
      have HR := hideIt hroom
      clear e1 hp hroom
      have hv := nv_r HR.out
      have cA := fun u : World => add_any (rh (sumN (xs.take k))) (rl (sumN (xs.take k))) p.h p.l (rh_word _) (rl_word _) w1 w2 u
      rw [hv, ← E1.out] at cA
      clear hv
      have i0' : (0 : Int) ≤ (k : Int) := by omega
      have i1' : (k : Int) < (xs.length : Int) := by omega
      have hbB := hbel.size
      go_upto_region 5 with fail
      go_cut [6, 7] (fun s6 s7 wx => ∃ g, s6 = .pointer (some ⟨g, 0, none⟩) ∧ s7 = .int .i64 (re (sumN (xs.take (k + 1)))) ∧ Box wx g 24 #[.int .u64 (rh (sumN (xs.take (k + 1)))), .int .u64 (rl (sumN (xs.take (k + 1))))] ∧ Below wr.heap.size wr wx)
      case first =>
        go_region_held3 (fun w' => Below wr.heap.size wr w' ∧ w'.cell? ⟨w.heap.size + 1, 0, none⟩ = some (.int .u64 (rh (sumN (xs.take k)))) ∧ w'.cell? ⟨w.heap.size + 1, 1, none⟩ = some (.int .u64 (rl (sumN (xs.take k)))) ∧
            w'.cell? ⟨(ad.add (k * 3)).block, (ad.add (k * 3)).off + 1, none⟩ = some (.int .u64 p.h) ∧ w'.cell? ⟨(ad.add (k * 3)).block, (ad.add (k * 3)).off + 2, none⟩ = some (.int .u64 p.l))
          (exact (fun (hb : Below wr.heap.size wr _) => ⟨hb, (hb1.call hb).read 0, (hb1.call hb).read 1, (hb.cell (p := ⟨(ad.add (k * 3)).block, (ad.add (k * 3)).off + 1, none⟩) (Nat.lt_of_lt_of_le had hbB)).trans c0', (hb.cell (p := ⟨(ad.add (k * 3)).block, (ad.add (k * 3)).off + 2, none⟩) (Nat.lt_of_lt_of_le had hbB)).trans c1'⟩)
            (by repeat (first
              | exact Below.refl _ _
              | exact chain (by repeat (first | exact Below.refl _ _ | apply Below.drew | refine Below.alloc ?_ (by simp) _)) hb3
              | apply Below.drew
              | refine Below.alloc ?_ (by first | exact Nat.le_refl _ | (have := hb3.size; simp at this ⊢; omega)) _
              | refine Below.setCell ?_ (by first | exact Nat.le_refl _ | (have := hb3.size; simp at this ⊢; omega)) _)))
          (first
            | (go_at_call 32; ((with_reducible refine (cA _).mono ?_); rintro e w3 ⟨rfl, hb3⟩)
               first
                 | (have G3 := ((Box.made wr 24 #[.int .u64 0, .int .u64 0]).draw).call hb3
                    obtain ⟨g1, g2, g3⟩ := G3.num14
                    have g4 := G3.free 0
                    have g5 := G3.free 1)
                 | (have G3 := (Box.made wr.drew 24 #[.int .u64 0, .int .u64 0]).call hb3
                    obtain ⟨g1, g2, g3⟩ := G3.num14
                    have g4 := G3.free 0
                    have g5 := G3.free 1)
                 | skip))
        all_goals go_wp2_with fail
        all_goals go_meet
        · exact ⟨_, rfl, rfl, Box.made _ _ _, by
            repeat (first
              | exact Below.refl _ _
              | exact chain (by repeat (first | exact Below.refl _ _ | apply Below.drew | refine Below.alloc ?_ (by simp) _)) hb3
              | apply Below.drew
              | refine Below.alloc ?_ (by first | exact Nat.le_refl _ | (have := hb3.size; simp at this ⊢; omega)) _)⟩
        · exact ⟨_, rfl, rfl, (G3.wrote 0 _).wrote 1 _, by
            repeat (first
              | exact Below.refl _ _
              | exact chain (by repeat (first | exact Below.refl _ _ | apply Below.drew | refine Below.alloc ?_ (by simp) _)) hb3
              | apply Below.drew
              | refine Below.setCell ?_ (by first | exact Nat.le_refl _ | (have := hb3.size; simp at this ⊢; omega)) _)⟩
      case rest =>
        obtain ⟨g, rfl, rfl, hbx, hbl⟩ := hcut
        have P2 := hb0.call hbl
        have Q2 := hb1.call hbl
        have L2 := chain hbel hbl
        obtain ⟨n0, n1, n2⟩ := P2.num14
        obtain ⟨q0, q1, q2⟩ := Q2.num14
        have f0 := P2.free 0
        have f1 := P2.free 1
        have g0 := Q2.free 0
        have g1 := Q2.free 1
        obtain ⟨x0, x1, x2⟩ := hbx.num14
        clear c0 c1 c0' c1' m0 m1 m2
        cases hr2 : room (sumN (xs.take (k + 1)))
        · have hno : room (sumN xs) = false := by
            have h1 := room_not.1 hr2
            have h2 := sumN_pos (fun x h => hx x (List.mem_of_mem_take h) : ∀ x ∈ xs.take (k + 1), x.halved)
            have h3 := sumN_pos (fun x h => hx x (List.mem_of_mem_drop h) : ∀ x ∈ xs.drop (k + 1), x.halved)
            have h4 : sumN xs = sumN (xs.take (k + 1)) + sumN (xs.drop (k + 1)) := by rw [← sumN_app, List.take_append_drop]
            exact room_not.2 (by omega)
          have HN := hideIt hno
          have e10 := re_no hr2
          clear hno hr2
          go_wp2
          have P3 := (P2.apart (p := ⟨w.heap.size + 1, 0, none⟩) (by simp) (.int .u64 0)).apart (p := ⟨w.heap.size + 1, 1, none⟩) (by simp) (.int .u64 0)
          have e0 := (P2.wrote 0 (.int .u64 0)).read 0
          have e1 := ((P2.wrote 0 (.int .u64 0)).wrote 1 (.int .u64 0)).read 1
          simp only [Nat.reduceLT, List.setIfInBounds_toArray, List.set_cons_zero, List.set_cons_succ, List.getElem?_toArray, List.getElem?_cons_zero, List.getElem?_cons_succ] at e0 e1
          exact bodyPost_ret (v := .tuple #[.agg #[.int .u64 0, .int .u64 0], .bool false]) (by simp [results, Tryd.results20, go_sem, e0, e1, e10]) rfl
            ⟨by rw [rh_no HN.out, rl_no HN.out, HN.out], by repeat (first | exact L2 | apply Below.drew | refine Below.setCell ?_ (by simp) _)⟩
        · have e10 := re_yes hr2
          have HN := hideIt hr2
          clear hr2
          go_wp2
          go_roundg (xs.length - (k + 1))
          case measure => omega
          case rel =>
            refine ⟨k + 1, by omega, rfl, by go_num, HN.out, (P2.apart (by simp) _).apart (by simp) _, (Q2.wrote 0 _).wrote 1 _, by repeat (first | exact L2 | apply Below.drew | refine Below.setCell ?_ (by simp) _)⟩
    · have e : k = xs.length := by omega
      subst e
      obtain ⟨m0, m1, m2⟩ := hb1.num14
      have ht : xs.take xs.length = xs := List.take_of_length_le (Nat.le_refl _)
      rw [ht] at hroom hb1 m0 m1
      have HR := hideIt hroom
      have f0 := hb0.free 0
      have f1 := hb0.free 1
      obtain ⟨n0, n1, n2⟩ := hb0.num14
      clear ht hroom
      go_wp2
      exact bodyPost_ret (v := .tuple #[.agg #[.int .u64 (rh (sumN xs)), .int .u64 (rl (sumN xs))], .bool true]) (by simp [results, Tryd.results20, go_sem, (hb0.wrote 0 _).read 0, ((hb0.wrote 0 (.int .u64 (rh (sumN xs)))).wrote 1 (.int .u64 (rl (sumN xs)))).read 1]) rfl
        ⟨by rw [HR.out], (hbel.setCell (by simp) _).setCell (by simp) _⟩
end Go.Proofs.YtjbaeiifamendaaDoor
