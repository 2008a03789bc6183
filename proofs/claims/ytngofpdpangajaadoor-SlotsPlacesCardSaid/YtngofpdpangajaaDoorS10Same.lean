/-
  paymasterref10.Same at equal rows, and the statements' Long, walked.
-/
import Derived.Test.YtngofpdpangajaaDoorT10Row
import Derived.Test.YtngofpdpangajaaDoorE10Same
import Derived.WalkKit
import Derived.WalkSpells
import Derived.StillTactics
import Derived.RowKit3
import Derived.Outline
import Derived.BigQuiet
import Derived.Deep.QuietTactic
import Derived.LoopTactic
import Derived.Deep.RegionWith
import Derived.Deep.LoopGhost
namespace Go.Proofs.YtngofpdpangajaaDoor
set_option linter.unusedVariables false
set_option linter.unusedSimpArgs false
set_option maxRecDepth 10000
open Go.RowKit Go.Lib

set_option maxRecDepth 100000 in
set_option maxHeartbeats 2000000 in
theorem rsame_any (A B : Option Addr) (c d : Nat) (l : List Rw) (hl : l.length ≤ 1000000000) (w : World) (h1 : RwRow w w.heap.size A l) (h2 : RwRow w w.heap.size B l) :
    Calls Tryd.prog 15 #[.slice A l.length c, .slice B l.length d] w (Tells (.bool true) w.heap.size w) := by
  have hq : ∀ (x : Rw) (u : World), (binOp .neq 59 (.agg #[.string x.id, .int .u64 x.h, .int .u64 x.l]) (.agg #[.string x.id, .int .u64 x.h, .int .u64 x.l])).run Tryd.prog u = .ok (.bool false) u := fun x u => by
    have h := run_neq_rw x x u
    rw [Rw.same_self] at h
    exact h
  go_enter Tryd.func15, Tryd.ntmps15
  go_wp2
  go_loopg [5] l.length (fun gk i wr => ∃ k : Nat, k ≤ l.length ∧ gk = l.length - k ∧ i = .int .i64 k ∧ Below w.heap.size w wr)
  case atStart => exact ⟨0, by omega, rfl, rfl, Below.refl _ _⟩
  case round =>
    obtain ⟨k, hk, hgk, rfl, hb⟩ := hrel
    have HG := hideIt hgk
    clear hgk
    by_cases hlt : k < l.length
    · obtain ⟨x, hx⟩ : ∃ x, l[k]? = some x := ⟨_, List.getElem?_eq_getElem hlt⟩
      obtain ⟨ad, rfl, hadl, p0, p1, p2⟩ := h1.call hb k x hx
      obtain ⟨ae, rfl, hael, q0, q1, q2⟩ := h2.call hb k x hx
      have hlti : (k : Int) < (l.length : Int) := by omega
      have g1 : (ad.add (k * 3)).block < wr.heap.size := by rw [o10_block]; exact Nat.lt_of_lt_of_le hadl hb.size
      have g2 : (ae.add (k * 3)).block < wr.heap.size := by rw [o10_block]; exact Nat.lt_of_lt_of_le hael hb.size
      have hq1 := hq x
      clear hx hq
      go_upto_region 6 with fail
      go_quiet (fail)
      go_wp2
      go_roundg (l.length - (k + 1))
      case measure => have := HG.out; omega
      case rel => exact ⟨k + 1, by omega, rfl, by go_num, below_drewN hb _⟩
    · go_wp2
      go_ret
      exact ⟨rfl, hb⟩
/-- Are rows more than are gone through? -/
def longR (xs : List Rw) : Bool := decide (200 < xs.length) || xs.any (fun x => decide (200 < x.id.size))
theorem longR_no {xs : List Rw} (h : longR xs = false) : xs.length ≤ 200 ∧ ∀ x ∈ xs, x.id.size ≤ 200 := by
  unfold longR at h
  rw [Bool.or_eq_false_iff] at h
  have h1 := of_decide_eq_false h.1
  refine ⟨by omega, fun x hx => ?_⟩
  have h2 := h.2
  rw [List.any_eq_false] at h2
  have := h2 x hx
  simp at this
  exact this
theorem longR_any (A : Option Addr) (c : Nat) (xs : List Rw) (hm : xs.length ≤ 9223372036854775807) (w : World) (hr : RwRow w w.heap.size A xs) :
    Calls Tryd.prog 11 #[.slice A xs.length c] w (Plain (.bool (longR xs)) w) := by
  have HM := hideIt hm
  by_cases h200 : 200 < xs.length
  · have h2 : (200 : Int) < (xs.length : Int) := by omega
    have e : longR xs = true := by unfold longR; rw [decide_eq_true h200]; rfl
    rw [e]
    clear hm
    go_enter Tryd.func11, Tryd.ntmps11
    go_wp2
    go_ret
    exact ⟨rfl, rfl⟩
  · have h2 : ¬ ((200 : Int) < (xs.length : Int)) := by omega
    have e : longR xs = xs.any (fun x => decide (200 < x.id.size)) := by unfold longR; rw [decide_eq_false h200]; rfl
    rw [e]
    clear e
    go_enter Tryd.func11, Tryd.ntmps11
    go_wp2
    go_loopg [3] xs.length (fun gk i wr => ∃ k : Nat, k ≤ xs.length ∧ gk = xs.length - k ∧ i = .int .i64 k ∧ (∀ j x, j < k → xs[j]? = some x → x.id.size ≤ 200) ∧ wr = w)
    case atStart => exact ⟨0, Nat.zero_le _, rfl, rfl, fun j x hj => absurd hj (Nat.not_lt_zero _), rfl⟩
    case round =>
      obtain ⟨k, hk, hgk, rfl, hall, rfl⟩ := hrel
      have HG := hideIt hgk
      have HA := hideIt hall
      clear hgk hall
      by_cases hlt : k < xs.length
      · obtain ⟨x, hx⟩ : ∃ x, xs[k]? = some x := ⟨_, List.getElem?_eq_getElem hlt⟩
        obtain ⟨ad, rfl, hb, q0, q1, q2⟩ := hr k x hx
        have hb2 : (ad.add (k * 3)).block < wr.heap.size := by rw [o10_block]; exact hb
        have b1 : (k : Int) < (xs.length : Int) := by omega
        have HX := hideIt hx
        clear hx hr
        by_cases hs : 200 < x.id.size
        · have hsi : (200 : Int) < (x.id.size : Int) := by omega
          have ha : xs.any (fun x => decide (200 < x.id.size)) = true := List.any_eq_true.2 ⟨x, List.mem_of_getElem? HX.out, decide_eq_true hs⟩
          have HH := hideIt ha
          clear ha
          go_wp2
          go_ret
          exact ⟨by rw [HH.out]; rfl, rfl⟩
        · have hsi : ¬ ((200 : Int) < (x.id.size : Int)) := by omega
          go_wp2
          go_roundg (xs.length - (k + 1))
          case measure => have := HG.out; omega
          case rel => exact ⟨k + 1, by omega, rfl, by go_num, fun j y hj hy => by
            by_cases e : j = k
            · subst e
              rw [HX.out] at hy
              injection hy with hy
              subst hy
              omega
            · exact HA.out j y (by omega) hy, rfl⟩
      · have e : k = xs.length := by omega
        subst e
        have ha : xs.any (fun x => decide (200 < x.id.size)) = false := List.any_eq_false.2 fun x hx => by
          obtain ⟨i, hi, rfl⟩ := List.getElem_of_mem hx
          have := HA.out i _ hi (List.getElem?_eq_getElem hi)
          simp
          omega
        have HH := hideIt ha
        clear ha
        go_wp2
        go_ret
        exact ⟨by rw [HH.out]; rfl, rfl⟩
end Go.Proofs.YtngofpdpangajaaDoor
