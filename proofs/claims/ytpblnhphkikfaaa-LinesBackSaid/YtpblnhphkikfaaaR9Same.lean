/-
  paymasterref09.SameRunes, Same, walked.
-/
import Derived.Test.YtpblnhphkikfaaaU9Text
namespace Go.Proofs.Ytpblnhphkikfaaa
set_option linter.unusedVariables false
set_option linter.unusedSimpArgs false
set_option maxRecDepth 10000
open Go.RowKit Go.Lib

set_option maxRecDepth 100000 in
set_option maxHeartbeats 2000000 in
theorem sameRunes_any (A B : Option Addr) (c d : Nat) (l m : List Int) (hl : l.length ≤ 1000000) (w : World) (h1 : RuneRow w w.heap.size A l) (h2 : RuneRow w w.heap.size B m) :
    Calls Try.prog 21 #[.slice A l.length c, .slice B m.length d] w (Tells (.bool (decide (l = m))) w.heap.size w) := by
  by_cases hlen : l.length = m.length
  · have hleni : (l.length : Int) = (m.length : Int) := by omega
    obtain ⟨R, hR⟩ : ∃ R, decide (l = m) = R := ⟨_, rfl⟩
    rw [hR]
    have HR := hideIt hR
    clear hR
    rw [← hlen]
    go_enter Try.func21, Try.ntmps21
    go_wp2
    go_loopg [5] l.length (fun gk i wr => ∃ k : Nat, k ≤ l.length ∧ gk = l.length - k ∧ i = .int .i64 k ∧ Below w.heap.size w wr ∧ Hid (l.take k = m.take k))
    case atStart => exact ⟨0, by omega, rfl, rfl, Below.refl _ _, rfl⟩
    case round =>
      obtain ⟨k, hk, hgk, rfl, hb, htk⟩ := hrel
      have HG := hideIt hgk
      clear hgk
      by_cases hlt : k < l.length
      · obtain ⟨x, hx⟩ : ∃ x, l[k]? = some x := ⟨_, List.getElem?_eq_getElem hlt⟩
        obtain ⟨y, hy⟩ : ∃ y, m[k]? = some y := ⟨_, List.getElem?_eq_getElem (by omega)⟩
        obtain ⟨ad, rfl, hadl, hac⟩ := h1.call hb k x hx
        obtain ⟨ae, rfl, hael, hae⟩ := h2.call hb k y hy
        have hlti : (k : Int) < (l.length : Int) := by omega
        have g1 : (ad.add k).block < wr.heap.size := by rw [addr_block]; exact Nat.lt_of_lt_of_le hadl hb.size
        have g2 : (ae.add k).block < wr.heap.size := by rw [addr_block]; exact Nat.lt_of_lt_of_le hael hb.size
        by_cases hxy : x = y
        · subst hxy
          have e : l.take (k + 1) = m.take (k + 1) := by rw [List.take_add_one, List.take_add_one, htk.out, hx, hy]
          have HE := hideIt e
          clear e htk hx hy
          go_upto_region 6 with fail
          go_quiet (fail)
          go_wp2
          go_roundg (l.length - (k + 1))
          case measure => have := HG.out; omega
          case rel => exact ⟨k + 1, by omega, rfl, by go_num, below_drewN hb _, HE⟩
        · have e : R = false := by
            rw [← HR.out]
            refine decide_eq_false fun h => hxy ?_
            subst h
            rw [hx] at hy
            injection hy
          subst e
          clear htk hx hy HR
          go_upto_region 6 with fail
          go_quiet (fail)
          go_wp2
          go_ret
          exact ⟨rfl, below_drewN hb _⟩
      · have e : k = l.length := by omega
        subst e
        have e : R = true := by
          rw [← HR.out]
          refine decide_eq_true ?_
          have := htk.out
          rw [List.take_length, hlen, List.take_length] at this
          exact this
        subst e
        clear HR htk
        go_wp2
        go_ret
        exact ⟨rfl, hb⟩
  · have hleni : ¬ ((l.length : Int) = (m.length : Int)) := by omega
    have e : decide (l = m) = false := decide_eq_false fun h => hlen (by rw [h])
    rw [e]
    clear e
    go_enter Try.func21, Try.ntmps21
    go_wp2
    go_ret
    exact ⟨rfl, Below.refl _ _⟩
theorem ba_toList (a b : ByteArray) : (a.toList == b.toList) = decide (a = b) := by
  rw [ByteArray.toList_eq, ByteArray.toList_eq]
  by_cases h : a = b
  · subst h; simp
  · rw [decide_eq_false h]
    apply beq_false_of_ne
    intro e
    exact h (ba_ext e)
set_option maxRecDepth 100000 in
set_option maxHeartbeats 2000000 in
theorem same_any (A B : Option Addr) (c d : Nat) (l : List ByteArray) (hl : l.length ≤ 1000000) (w : World) (h1 : StrRow w w.heap.size A l) (h2 : StrRow w w.heap.size B l) :
    Calls Try.prog 24 #[.slice A l.length c, .slice B l.length d] w (Tells (.bool true) w.heap.size w) := by
  go_enter Try.func24, Try.ntmps24
  go_wp2
  go_loopg [5] l.length (fun gk i wr => ∃ k : Nat, k ≤ l.length ∧ gk = l.length - k ∧ i = .int .i64 k ∧ Below w.heap.size w wr)
  case atStart => exact ⟨0, by omega, rfl, rfl, Below.refl _ _⟩
  case round =>
    obtain ⟨k, hk, hgk, rfl, hb⟩ := hrel
    have HG := hideIt hgk
    clear hgk
    by_cases hlt : k < l.length
    · obtain ⟨x, hx⟩ : ∃ x, l[k]? = some x := ⟨_, List.getElem?_eq_getElem hlt⟩
      obtain ⟨ad, rfl, hadl, hac⟩ := h1.call hb k x hx
      obtain ⟨ae, rfl, hael, hae⟩ := h2.call hb k x hx
      have hlti : (k : Int) < (l.length : Int) := by omega
      have g1 : (ad.add k).block < wr.heap.size := by rw [addr_block]; exact Nat.lt_of_lt_of_le hadl hb.size
      have g2 : (ae.add k).block < wr.heap.size := by rw [addr_block]; exact Nat.lt_of_lt_of_le hael hb.size
      clear hx
      go_upto_region 6 with fail
      go_quiet (fail)
      go_wp2
      go_roundg (l.length - (k + 1))
      case measure => have := HG.out; omega
      case rel => exact ⟨k + 1, by omega, rfl, by go_num, below_drewN hb _⟩
    · go_wp2
      go_ret
      exact ⟨rfl, hb⟩
end Go.Proofs.Ytpblnhphkikfaaa
