/-
  paymasterref01.digits, walked: the eight digits of base 65536, the least first.
-/
import Derived.Test.YtfnbehijnmbhjaaDoorU1Calls
import Derived.Test.YtfnbehijnmbhjaaDoorW0Words
import Derived.LoopTactic
import Derived.Deep.LoopGhost
namespace Go.Proofs.YtfnbehijnmbhjaaDoor
set_option linter.unusedVariables false
set_option linter.unusedSimpArgs false
set_option maxRecDepth 10000
open Go.RowKit

/-- The k lowest digits. -/
def digs (l : Int) (k : Nat) : List Int := (List.range k).map fun i => l / 65536 ^ i % 65536
theorem digs_succ (l : Int) (k : Nat) : digs l (k + 1) = digs l k ++ [l / 65536 ^ k % 65536] := by simp [digs, List.range_succ]
theorem digs_length (l : Int) (k : Nat) : (digs l k).length = k := by simp [digs]
def u64s (l : List Int) : List Value := l.map (Value.int .u64)

theorem info_u64 : (Tryd.prog.info? 22).map (fun i => (i.zero, i.size, i.bytes)) = some (some (.int .u64 0), 1, 8) := by kernel_rfl

set_option maxRecDepth 100000 in
set_option maxHeartbeats 2000000 in
theorem digits_any (h l : Int) (hh : Word h) (hl : Word l) (w : World) :
    Calls Tryd.prog 73 #[.agg #[.int .u64 h, .int .u64 l]] w fun e w' =>
      ∃ v, e = .returned v ∧ w'.ownsRow w.heap.size 22 1 v 8 (u64s (digs l 4 ++ digs h 4)) ∧ Below w.heap.size w w' := by
  obtain ⟨i0, hi, hz0, hz1, hz2⟩ := info_parts info_u64
  go_enter Tryd.func73, Tryd.ntmps73
  go_wp2
  go_loopg [3, 4] 4 (fun gk v i wr => ∃ k : Nat, k ≤ 4 ∧ gk = 4 - k ∧ i = .int .i64 k ∧ wr.ownsRow (w.heap.size + 1) 22 1 v k (u64s (digs l k)) ∧
    Box wr w.heap.size 24 #[.int .u64 h, .int .u64 (l / 65536 ^ k)] ∧ Below w.heap.size w wr)
  case atStart => exact ⟨0, by omega, rfl, rfl, ⟨rfl, .inl ⟨rfl, rfl⟩⟩, by simpa using Box.made _ _ _, by repeat (first | exact Below.refl _ _ | apply Below.drew | apply below_drewN | refine Below.alloc ?_ (by simp; try omega) _ | refine Below.setCell ?_ (by simp; try omega) _)⟩
  case round =>
    obtain ⟨k, hk, rfl, rfl, hown, hbox, hbel⟩ := hrel
    have hB := hbox.inside
    by_cases hlt : k < 4
    · obtain ⟨lk, elk⟩ : ∃ lk, l / 65536 ^ k = lk := ⟨_, rfl⟩
      rw [elk] at hbox
      have l0 : 0 ≤ lk := by rw [← elk]; exact Int.ediv_nonneg hl.1 (by exact Int.pow_nonneg (by decide))
      have l1 : lk < 18446744073709551616 := by
        rw [← elk]; exact Int.lt_of_le_of_lt (Int.ediv_le_self _ hl.1) hl.2
      have ELK := hideIt elk
      clear elk
      have c1 : wr.cell? ⟨w.heap.size, 1, none⟩ = some (.int .u64 lk) := hbox.read 1
      go_wp2_with (first
        | (at_builtin; refine wp_append_new rfl _ _ 121 rfl (w.heap.size + 1) 22 i0 (.int .u64 0) 8 Tryd.underlying121 hi hz0 hz1 hz2 rfl _ _ _ rfl hown #[.int .u64 (lk % 65536)] rfl (by simp [Value.oneCell']) (by simp; omega) (by omega) (by omega) ?_))
      intro v' w1 hown' hb1 hk1
      have hbox1 := hk1 _ _ _ hbox (by omega)
      have hbel1 := hbel.trans (hb1 _ (by omega))
      have d1 : w1.cell? ⟨w.heap.size, 1, none⟩ = some (.int .u64 lk) := hbox1.read 1
      have d2 := hbox1.free 1
      clear hb1 hk1
      go_wp2
      go_roundg (4 - (k + 1))
      case measure => omega
      case rel =>
        have ed : digs l (k + 1) = digs l k ++ [lk % 65536] := by rw [digs_succ, ELK.out]
        have ep : l / 65536 ^ (k + 1) = lk / 65536 := by rw [Int.pow_succ, ← Int.ediv_ediv_of_nonneg (Int.pow_nonneg (by decide)), ELK.out]
        refine ⟨k + 1, by omega, rfl, by go_num, ?_, ?_, hbel1.setCell (by simp) _⟩
        · rw [ed]
          simpa [u64s] using own_apart hown' (fun hx => by have h2 := (hown'.lt _ hx).1; exact absurd h2 (by show ¬ (w.heap.size + 1 ≤ w.heap.size); omega)) _
        · rw [ep]
          exact hbox1.wrote 1 _
    · have e : k = 4 := by omega
      subst e
      clear hlt hk
      go_wp2
      go_loopg [3, 5] 4 (fun gk v i wr => ∃ k : Nat, k ≤ 4 ∧ gk = 4 - k ∧ i = .int .i64 k ∧ wr.ownsRow (w.heap.size + 1) 22 1 v (4 + k) (u64s (digs l 4 ++ digs h k)) ∧
        Box wr w.heap.size 24 #[.int .u64 (h / 65536 ^ k), .int .u64 (l / 65536 ^ 4)] ∧ Below w.heap.size w wr)
      case atStart => exact ⟨0, by omega, rfl, rfl, by simpa [digs] using hown, by simpa using hbox, hbel⟩
      case round =>
        obtain ⟨k, hk, rfl, rfl, hown, hbox, hbel⟩ := hrel
        have hB := hbox.inside
        by_cases hlt : k < 4
        · obtain ⟨lk, elk⟩ : ∃ lk, h / 65536 ^ k = lk := ⟨_, rfl⟩
          rw [elk] at hbox
          have l0 : 0 ≤ lk := by rw [← elk]; exact Int.ediv_nonneg hh.1 (by exact Int.pow_nonneg (by decide))
          have l1 : lk < 18446744073709551616 := by
            rw [← elk]; exact Int.lt_of_le_of_lt (Int.ediv_le_self _ hh.1) hh.2
          have ELK := hideIt elk
          clear elk
          have c1 : wr.cell? ⟨w.heap.size, 0, none⟩ = some (.int .u64 lk) := hbox.read 0
          go_wp2_with (first
            | (at_builtin; refine wp_append_new rfl _ _ 121 rfl (w.heap.size + 1) 22 i0 (.int .u64 0) 8 Tryd.underlying121 hi hz0 hz1 hz2 rfl _ _ _ rfl hown #[.int .u64 (lk % 65536)] rfl (by simp [Value.oneCell']) (by simp; omega) (by omega) (by omega) ?_))
          intro v' w1 hown' hb1 hk1
          have hbox1 := hk1 _ _ _ hbox (by omega)
          have hbel1 := hbel.trans (hb1 _ (by omega))
          have d1 : w1.cell? ⟨w.heap.size, 0, none⟩ = some (.int .u64 lk) := hbox1.read 0
          have d2 := hbox1.free 0
          clear hb1 hk1
          go_wp2
          go_roundg (4 - (k + 1))
          case measure => omega
          case rel =>
            have ed : digs h (k + 1) = digs h k ++ [lk % 65536] := by rw [digs_succ, ELK.out]
            have ep : h / 65536 ^ (k + 1) = lk / 65536 := by rw [Int.pow_succ, ← Int.ediv_ediv_of_nonneg (Int.pow_nonneg (by decide)), ELK.out]
            refine ⟨k + 1, by omega, rfl, by go_num, ?_, ?_, hbel1.setCell (by simp) _⟩
            · rw [ed]
              simpa [u64s, Nat.add_assoc] using own_apart hown' (fun hx => by have h2 := (hown'.lt _ hx).1; exact absurd h2 (by show ¬ (w.heap.size + 1 ≤ w.heap.size); omega)) _
            · rw [ep]
              exact hbox1.wrote 0 _
        · have e : k = 4 := by omega
          subst e
          clear hlt hk
          go_wp2
          go_ret
          exact ⟨_, rfl, own_mono hown (by omega), hbel⟩
end Go.Proofs.YtfnbehijnmbhjaaDoor
