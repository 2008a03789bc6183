/-
  Package tag's leaves, walked: what may be, a text behind its length, a leaf's text.
-/
import Derived.Test.YtmflhodiibjpnaaGreatDoorU7Id
import Derived.Test.YtmflhodiibjpnaaGreatDoorE7Same
import Derived.Test.YtmflhodiibjpnaaGreatDoorW7Leaf
import Derived.Test.YtmflhodiibjpnaaGreatDoorU1Bytes
import Derived.Test.YtmflhodiibjpnaaGreatDoorW1Has
namespace Go.Proofs.YtmflhodiibjpnaaGreatDoor
set_option linter.unusedVariables false
set_option linter.unusedSimpArgs false
set_option maxRecDepth 10000
open Go.RowKit

set_option maxHeartbeats 4000000 in
theorem mayLeaf_any (x : Lf) (h1 : x.id.size ≤ 9223372036854775807) (h2 : x.salt.size ≤ 9223372036854775807) (w : World) (hT : TabU w) : Calls Tryz.prog 46 #[x.val] w (Tells (.bool x.may) w.heap.size w) := by
  obtain ⟨p, i, s, h, l⟩ := x
  simp only at h1 h2
  have B0 : Box (w.alloc (.cells #[.bool p, .string i, .string s, .int .u64 h, .int .u64 l] 28)) w.heap.size 28 (Lf.cells ⟨p, i, s, h, l⟩) := Box.made w _ _
  have L0 : Below w.heap.size w (w.alloc (.cells #[.bool p, .string i, .string s, .int .u64 h, .int .u64 l] 28)) := by repeat (first | exact Below.refl _ _ | apply Below.drew | apply below_drewN | refine Below.alloc ?_ (by simp; try omega) _ | refine Below.setCell ?_ (by simp; try omega) _)
  have T0 := hT.past (.cells #[.bool p, .string i, .string s, .int .u64 h, .int .u64 l] 28)
  obtain ⟨A, hA⟩ : ∃ A, Lf.may ⟨p, i, s, h, l⟩ = A := ⟨_, rfl⟩
  rw [hA]
  rw [may_def] at hA
  have HA := hideIt hA
  clear hA
  show Calls _ _ #[.agg #[.bool p, .string i, .string s, .int .u64 h, .int .u64 l]] _ _
  go_enter Tryz.func46, Tryz.ntmps46
  go_upto_region 1 with fail
  change Code.wp _ _ _ _ (w.alloc (.cells #[.bool p, .string i, .string s, .int .u64 h, .int .u64 l] 28))
  generalize w.alloc (.cells #[.bool p, .string i, .string s, .int .u64 h, .int .u64 l] 28) = W at *
  obtain ⟨r0, r1, r2, r3, r4⟩ := B0.leaf
  simp only at r0 r1 r2 r3 r4
  have hin := B0.inside
  by_cases hs : (32 : Int) < (s.size : Int)
  · have e := HA.out
    rw [decide_eq_false (show ¬ s.size ≤ 32 by omega), Bool.false_and] at e
    subst e
    go_wp2
    go_ret
    exact ⟨rfl, L0⟩
  · have hA := HA.out
    rw [decide_eq_true (show s.size ≤ 32 by omega), Bool.true_and] at hA
    clear HA
    cases p with
    | false =>
      rw [if_neg (by decide)] at hA
      have cI := fun u hu => mayId_any i h1 u hu
      rw [hA] at cI
      clear hA
      go_wp2_with (first | (go_at_call 85; refine (cI _ T0).mono ?_; rintro e w1 ⟨rfl, b1⟩))
      go_ret
      exact ⟨rfl, chain L0 b1⟩
    | true =>
      rw [if_pos rfl] at hA
      by_cases hi : i.size = 0
      · rw [decide_eq_true hi, Bool.true_and] at hA
        obtain rfl : i = ⟨#[]⟩ := ba_ext (by have := ba_size i; rw [hi] at this; rw [List.length_eq_zero_iff.1 this])
        have hq := fun u : World => run_eql_n7 h l 0 0 u
        have he : (h == 0 && l == 0) = (decide (h = 0) && decide (l = 0)) := by
          by_cases e1 : h = 0 <;> by_cases e2 : l = 0 <;> simp [e1, e2]
        rw [he, hA] at hq
        clear he hA hi
        have cO := fun u => of_any 0 u
        go_upto_region 4 with fail
        go_region_held3 (fun w' => Below W.heap.size W w' ∧ w'.cell? ⟨w.heap.size, 1, none⟩ = some (.string ⟨#[]⟩) ∧ w'.cell? ⟨w.heap.size, 3, none⟩ = some (.int .u64 h) ∧ w'.cell? ⟨w.heap.size, 4, none⟩ = some (.int .u64 l))
          (first
            | exact keep_first (by assumption) (by assumption) (fun hb => ⟨hb, (B0.call hb).read 1, (B0.call hb).read 3, (B0.call hb).read 4⟩)
            | exact ⟨(Below.refl _ _).drew, r1, r3, r4⟩)
          (first
            | (go_at_call 84; refine (cO _).mono ?_; rintro e v3 ⟨rfl, hv3⟩))
        go_wp2
        go_ret
        exact ⟨rfl, chain L0.drew hv3⟩
      · rw [decide_eq_false hi, Bool.false_and] at hA
        subst hA
        have hE := empty_str i
        rw [decide_eq_false hi] at hE
        have hE1 : (i.toList == []) = false := by simpa using hE
        have hE2 : i.toList.isEmpty = false := by simpa using hE
        go_upto_region 4 with fail
        go_quiet (fail)
        go_wp2
        go_ret
        exact ⟨rfl, below_drewN L0 _⟩
end Go.Proofs.YtmflhodiibjpnaaGreatDoor
