/-
  paymasterref07's leaves, walked: MayLeaf, LeafText.
-/
import Derived.Test.YtmflhodiibjpnaaGreatDoorM7Rid
import Derived.Test.YtmflhodiibjpnaaGreatDoorW7Leaf
namespace Go.Proofs.YtmflhodiibjpnaaGreatDoor
set_option linter.unusedVariables false
set_option linter.unusedSimpArgs false
set_option maxRecDepth 10000
open Go.RowKit

theorem run_neq_n7 (x y a b : Int) (w : World) : (binOp .neq 24 (.agg #[.int .u64 x, .int .u64 y]) (.agg #[.int .u64 a, .int .u64 b])).run Tryz.prog w = .ok (.bool (!(x == a && y == b))) w := by
  rw [run_neq_struct, equal_n7 9998]
  rfl
theorem Box.put2 {w : World} {g : Nat} {t : TypeId} {a b : Value} (h : Box w g t #[a, b]) (x y : Value) : Box ((w.setCell ⟨g, 0, none⟩ x).setCell ⟨g, 1, none⟩ y) g t #[x, y] := by
  simpa using (h.wrote 0 x).wrote 1 y

set_option maxHeartbeats 4000000 in
theorem rmayLeaf_any (x : Lf) (h1 : x.id.size ≤ 1000000) (h2 : x.salt.size ≤ 1000000) (w : World) : Calls Tryz.prog 57 #[x.val] w (Tells (.bool x.may) w.heap.size w) := by
  obtain ⟨p, i, s, h, l⟩ := x
  simp only at h1 h2
  have H0 : Has w [(w.heap.size + 1, 24, #[.int .u64 0, .int .u64 0]), (w.heap.size, 28, lfB p i s h l)] ((w.alloc (.cells (lfB p i s h l) 28)).alloc (.cells #[.int .u64 0, .int .u64 0] 24)) :=
    ((Has.start w).add 28 (lfB p i s h l)).addAt 24 #[.int .u64 0, .int .u64 0] (by simp)
  obtain ⟨A, hA⟩ : ∃ A, Lf.may ⟨p, i, s, h, l⟩ = A := ⟨_, rfl⟩
  rw [hA]
  rw [may_def] at hA
  have HA := hideIt hA
  clear hA
  show Calls _ _ #[.agg #[.bool p, .string i, .string s, .int .u64 h, .int .u64 l]] _ _
  go_enter Tryz.func57, Tryz.ntmps57
  go_upto_region 2 with fail
  change Code.wp _ _ _ _ ((w.alloc (.cells (lfB p i s h l) 28)).alloc (.cells #[.int .u64 0, .int .u64 0] 24))
  generalize (w.alloc (.cells (lfB p i s h l) 28)).alloc (.cells #[.int .u64 0, .int .u64 0] 24) = W at *
  obtain ⟨⟨y0, y1, y2, y3, y4⟩, -, hin1⟩ := (H0.box 1).five0
  obtain ⟨z0, z1, -, -, hin2⟩ := (H0.box 0).two
  have L0 := H0.below
  have eH := HA.out
  cases p with
  | false =>
    rw [if_neg (by decide)] at eH
    have cI := fun u => rmayId_any i h1 u
    generalize isId i.data.toList = I at *
    cases I with
    | false =>
      rw [Bool.and_false] at eH
      subst eH
      go_wp2_with (first | (go_at_call 102; refine (cI _).mono ?_; rintro e w1 ⟨rfl, rfl⟩))
      go_ret
      exact ⟨rfl, L0⟩
    | true =>
      rw [Bool.and_true] at eH
      have e2 : decide ((s.size : Int) ≤ 32) = A := by rw [← eH]; exact decide_eq_decide.2 (by omega)
      clear eH HA
      go_wp2_with (first | (go_at_call 102; refine (cI _).mono ?_; rintro e w1 ⟨rfl, rfl⟩))
      go_ret
      exact ⟨rfl, L0⟩
  | true =>
    rw [if_pos rfl] at eH
    by_cases hi : i.size = 0
    · rw [decide_eq_true hi, Bool.true_and] at eH
      obtain rfl : i = ⟨#[]⟩ := ba_nil hi
      have hq := fun u : World => run_neq_n7 h l 0 0 u
      have he : (h == 0 && l == 0) = (decide (h = 0) && decide (l = 0)) := by
        by_cases e1 : h = 0 <;> by_cases e2 : l = 0 <;> simp [e1, e2]
      rw [he] at hq
      generalize (decide (h = 0) && decide (l = 0)) = q at *
      cases q with
      | false =>
        rw [Bool.and_false] at eH
        subst eH
        clear he hi HA
        go_wp2
        go_ret
        exact ⟨rfl, L0⟩
      | true =>
        rw [Bool.and_true] at eH
        have e2 : decide ((s.size : Int) ≤ 32) = A := by rw [← eH]; exact decide_eq_decide.2 (by omega)
        clear eH HA he hi
        go_wp2
        go_ret
        exact ⟨rfl, L0⟩
    · rw [decide_eq_false hi, Bool.false_and, Bool.and_false] at eH
      subst eH
      obtain ⟨hE1, hE2⟩ := ne_nil hi
      clear HA
      go_wp2
      go_ret
      exact ⟨rfl, L0⟩

end Go.Proofs.YtmflhodiibjpnaaGreatDoor
