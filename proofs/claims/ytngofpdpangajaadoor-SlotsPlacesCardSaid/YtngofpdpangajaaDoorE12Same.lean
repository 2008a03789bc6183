/-
  '==' on accounts; paymasterref12's Same, the statements' Long, walked.
-/
import Derived.Test.YtngofpdpangajaaDoorE7Same
import Derived.Test.YtngofpdpangajaaDoorM12Set
import Derived.WalkKit
import Derived.WalkSpells
import Derived.StillTactics
import Derived.RowKit3
import Derived.Outline
import Derived.LoopTactic
import Derived.Deep.RegionWith
import Derived.Deep.LoopGhost
namespace Go.Proofs.YtngofpdpangajaaDoor
set_option linter.unusedVariables false
set_option linter.unusedSimpArgs false
set_option maxRecDepth 10000
open Go.RowKit Go.Lib

/-- The same account? -/
def Ac.same (x y : Ac) : Bool := x.id.toList == y.id.toList && ((x.h == y.h && x.l == y.l) && (x.salt.toList == y.salt.toList && x.slot == y.slot))
theorem Ac.same_iff (x y : Ac) : x.same y = true ↔ x = y := by
  obtain ⟨s, h, l, t, n⟩ := x
  obtain ⟨s', h', l', t', n'⟩ := y
  unfold Ac.same
  simp only [same_str7, Bool.and_eq_true, beq_iff_eq, decide_eq_true_eq, Ac.mk.injEq]
  constructor
  · rintro ⟨a, ⟨b, c⟩, d, e⟩; exact ⟨a, b, c, d, e⟩
  · rintro ⟨a, b, c, d, e⟩; exact ⟨a, ⟨b, c⟩, d, e⟩
theorem Ac.same_self (x : Ac) : x.same x = true := (Ac.same_iff x x).2 rfl
theorem equal_ac (d : Nat) (x y : Ac) (w : World) : (Op.equalIn (d + 3) 38 x.val y.val).run Tryd.prog w = .ok (x.same y) w := by
  obtain ⟨i, h, l, s, n⟩ := x
  obtain ⟨i', h', l', s', n'⟩ := y
  unfold Ac.val Ac.same
  rw [run_equalIn_agg w (d + 2) 38 _ _ (by kernel_rfl) (by kernel_rfl)]
  simp only [Program.fieldsOf, Tryd.underlying38, Op.eqFields]
  have e := fun (u : World) => equal_n7 d h l h' l' u
  cases h2 : i.toList == i'.toList <;> cases h3 : s.toList == s'.toList <;> cases h4 : (h == h' && l == l') <;> cases h5 : n == n' <;>
    (rw [h4] at e; simp [go_sem, run_equalIn_int, Tryd.underlying34, Tryd.underlying9, h2, h3, h5, e])
theorem run_eql_ac (x y : Ac) (w : World) : (binOp .eql 38 x.val y.val).run Tryd.prog w = .ok (.bool (x.same y)) w := by
  have e := equal_ac 9997 x y w
  unfold Ac.val at *
  rw [run_eql_struct, e]
  rfl
theorem run_neq_ac (x y : Ac) (w : World) : (binOp .neq 38 x.val y.val).run Tryd.prog w = .ok (.bool (!x.same y)) w := by
  have e := equal_ac 9997 x y w
  unfold Ac.val at *
  rw [run_neq_struct, e]
  rfl
/-- Are accounts more than are gone through? -/
def longA (xs : List Ac) : Bool := decide (200 < xs.length) || xs.any (fun x => decide (200 < x.id.size) || decide (200 < x.salt.size))
theorem longA_no {xs : List Ac} (h : longA xs = false) : xs.length ≤ 200 ∧ ∀ x ∈ xs, x.id.size ≤ 200 ∧ x.salt.size ≤ 200 := by
  unfold longA at h
  rw [Bool.or_eq_false_iff] at h
  have h1 := of_decide_eq_false h.1
  refine ⟨by omega, fun x hx => ?_⟩
  have h2 := h.2
  rw [List.any_eq_false] at h2
  have := h2 x hx
  simp at this
  exact this
set_option maxHeartbeats 1000000 in
theorem longA_any (A : Option Addr) (c : Nat) (xs : List Ac) (hm : xs.length ≤ 9223372036854775807) (w : World) (hr : AcRow w w.heap.size A xs) :
    Calls Tryd.prog 10 #[.slice A xs.length c] w (Plain (.bool (longA xs)) w) := by
  have HM := hideIt hm
  by_cases h200 : 200 < xs.length
  · have h2 : (200 : Int) < (xs.length : Int) := by omega
    have e : longA xs = true := by unfold longA; rw [decide_eq_true h200]; rfl
    rw [e]
    clear hm
    go_enter Tryd.func10, Tryd.ntmps10
    go_wp2
    go_ret
    exact ⟨rfl, rfl⟩
  · have h2 : ¬ ((200 : Int) < (xs.length : Int)) := by omega
    have e : longA xs = xs.any (fun x => decide (200 < x.id.size) || decide (200 < x.salt.size)) := by unfold longA; rw [decide_eq_false h200]; rfl
    rw [e]
    clear e
    go_enter Tryd.func10, Tryd.ntmps10
    go_wp2
    go_loopg [3] xs.length (fun gk i wr => ∃ k : Nat, k ≤ xs.length ∧ gk = xs.length - k ∧ i = .int .i64 k ∧ (∀ j x, j < k → xs[j]? = some x → x.id.size ≤ 200 ∧ x.salt.size ≤ 200) ∧ wr = w)
    case atStart => exact ⟨0, Nat.zero_le _, rfl, rfl, fun j x hj => absurd hj (Nat.not_lt_zero _), rfl⟩
    case round =>
      obtain ⟨k, hk, hgk, rfl, hall, rfl⟩ := hrel
      have HG := hideIt hgk
      have HA := hideIt hall
      clear hgk hall
      by_cases hlt : k < xs.length
      · obtain ⟨x, hx⟩ : ∃ x, xs[k]? = some x := ⟨_, List.getElem?_eq_getElem hlt⟩
        obtain ⟨ad, rfl, hb, q0, q1, q2, q3, q4⟩ := hr k x hx
        have hb2 : (ad.add (k * 5)).block < wr.heap.size := by rw [o10_block]; exact hb
        have b1 : (k : Int) < (xs.length : Int) := by omega
        have HX := hideIt hx
        clear hx hr
        by_cases hs : 200 < x.id.size
        · have hsi : (200 : Int) < (x.id.size : Int) := by omega
          have ha : xs.any (fun x => decide (200 < x.id.size) || decide (200 < x.salt.size)) = true := List.any_eq_true.2 ⟨x, List.mem_of_getElem? HX.out, by rw [decide_eq_true hs]; rfl⟩
          have HH := hideIt ha
          clear ha
          go_wp2
          go_ret
          exact ⟨by rw [HH.out]; rfl, rfl⟩
        · have hsi : ¬ ((200 : Int) < (x.id.size : Int)) := by omega
          by_cases ht : 200 < x.salt.size
          · have hti : (200 : Int) < (x.salt.size : Int) := by omega
            have ha : xs.any (fun x => decide (200 < x.id.size) || decide (200 < x.salt.size)) = true := List.any_eq_true.2 ⟨x, List.mem_of_getElem? HX.out, by rw [decide_eq_true ht, Bool.or_true]⟩
            have HH := hideIt ha
            clear ha
            go_wp2
            go_ret
            exact ⟨by rw [HH.out]; rfl, rfl⟩
          · have hti : ¬ ((200 : Int) < (x.salt.size : Int)) := by omega
            go_wp2
            go_roundg (xs.length - (k + 1))
            case measure => have := HG.out; omega
            case rel => exact ⟨k + 1, by omega, rfl, by go_num, fun j y hj hy => by
              by_cases e : j = k
              · subst e
                rw [HX.out] at hy
                injection hy with hy
                subst hy
                omega
              · exact HA.out j y (by omega) hy, rfl⟩
      · have e : k = xs.length := by omega
        subst e
        have ha : xs.any (fun x => decide (200 < x.id.size) || decide (200 < x.salt.size)) = false := List.any_eq_false.2 fun x hx => by
          obtain ⟨i, hi, rfl⟩ := List.getElem_of_mem hx
          have := HA.out i _ hi (List.getElem?_eq_getElem hi)
          simp
          omega
        have HH := hideIt ha
        clear ha
        go_wp2
        go_ret
        exact ⟨by rw [HH.out]; rfl, rfl⟩
set_option maxRecDepth 100000 in
set_option maxHeartbeats 2000000 in
theorem rsameA_any (A B : Option Addr) (c d : Nat) (l : List Ac) (hl : l.length ≤ 1000000000) (w : World) (h1 : AcRow w w.heap.size A l) (h2 : AcRow w w.heap.size B l) :
    Calls Tryd.prog 14 #[.slice A l.length c, .slice B l.length d] w (Tells (.bool true) w.heap.size w) := by
  have hq : ∀ (x : Ac) (u : World), (binOp .neq 38 (.agg #[.string x.id, .int .u64 x.h, .int .u64 x.l, .string x.salt, .int .u64 x.slot]) (.agg #[.string x.id, .int .u64 x.h, .int .u64 x.l, .string x.salt, .int .u64 x.slot])).run Tryd.prog u = .ok (.bool false) u := fun x u => by
    have h := run_neq_ac x x u
    rw [Ac.same_self] at h
    exact h
  go_enter Tryd.func14, Tryd.ntmps14
  go_wp2
  go_loopg [5] l.length (fun gk i wr => ∃ k : Nat, k ≤ l.length ∧ gk = l.length - k ∧ i = .int .i64 k ∧ Below w.heap.size w wr)
  case atStart => exact ⟨0, by omega, rfl, rfl, Below.refl _ _⟩
  case round =>
    obtain ⟨k, hk, hgk, rfl, hb⟩ := hrel
    have HG := hideIt hgk
    clear hgk
    by_cases hlt : k < l.length
    · obtain ⟨x, hx⟩ : ∃ x, l[k]? = some x := ⟨_, List.getElem?_eq_getElem hlt⟩
      obtain ⟨ad, rfl, hadl, p0, p1, p2, p3, p4⟩ := h1.call hb k x hx
      obtain ⟨ae, rfl, hael, q0, q1, q2, q3, q4⟩ := h2.call hb k x hx
      have hlti : (k : Int) < (l.length : Int) := by omega
      have g1 : (ad.add (k * 5)).block < wr.heap.size := by rw [o10_block]; exact Nat.lt_of_lt_of_le hadl hb.size
      have g2 : (ae.add (k * 5)).block < wr.heap.size := by rw [o10_block]; exact Nat.lt_of_lt_of_le hael hb.size
      have hq1 := hq x
      clear hx hq
      go_upto_region 6 with fail
      go_quiet (fail)
      go_wp2
      go_roundg (l.length - (k + 1))
      case measure => have := HG.out; omega
      case rel => exact ⟨k + 1, by omega, rfl, by go_num, below_drewN hb _⟩
    · go_wp2
      go_ret
      exact ⟨rfl, hb⟩
end Go.Proofs.YtngofpdpangajaaDoor
