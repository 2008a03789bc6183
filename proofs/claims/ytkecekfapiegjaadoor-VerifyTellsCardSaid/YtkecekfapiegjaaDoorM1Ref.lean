/- Several of my texts, laid as one. -/
import Derived.Test.YtkecekfapiegjaaDoorM1Num
import Derived.Test.YtkecekfapiegjaaDoorM0Wrd
import Derived.LoopTactic
import Derived.Deep.LoopGhost
import Derived.RegionTactic
import Derived.ChangeAlike
import Derived.Deep.RegionHeld3
import Derived.Deep.DeepCutAuto
import Derived.Deep.CutRange
import Derived.Test.YtkecekfapiegjaaDoorU1Bytes
import Derived.Deep.AppendLies
/-
  paymasterref01.digits, walked: the eight digits of base 65536, the least first.
-/
namespace Go.Proofs.YtkecekfapiegjaaDoor
set_option linter.unusedVariables false
set_option linter.unusedSimpArgs false
set_option maxRecDepth 10000
open Go.RowKit

/-- The k lowest digits. -/
def digs (l : Int) (k : Nat) : List Int := (List.range k).map fun i => l / 65536 ^ i % 65536
theorem digs_succ (l : Int) (k : Nat) : digs l (k + 1) = digs l k ++ [l / 65536 ^ k % 65536] := by simp [digs, List.range_succ]
theorem digs_length (l : Int) (k : Nat) : (digs l k).length = k := by simp [digs]
def u64s (l : List Int) : List Value := l.map (Value.int .u64)

theorem info_u64 : (Tryd.prog.info? 22).map (fun i => (i.zero, i.size, i.bytes)) = some (some (.int .u64 0), 1, 8) := by kernel_rfl

set_option maxRecDepth 100000 in
set_option maxHeartbeats 2000000 in
theorem digits_any (h l : Int) (hh : Word h) (hl : Word l) (w : World) :
    Calls Tryd.prog 106 #[.agg #[.int .u64 h, .int .u64 l]] w fun e w' =>
      ∃ v, e = .returned v ∧ w'.ownsRow w.heap.size 22 1 v 8 (u64s (digs l 4 ++ digs h 4)) ∧ Below w.heap.size w w' := by
  obtain ⟨i0, hi, hz0, hz1, hz2⟩ := info_parts info_u64
  go_enter Tryd.func106, Tryd.ntmps106
  go_wp2
  go_loopg [3, 4] 4 (fun gk v i wr => ∃ k : Nat, k ≤ 4 ∧ gk = 4 - k ∧ i = .int .i64 k ∧ wr.ownsRow (w.heap.size + 1) 22 1 v k (u64s (digs l k)) ∧
    Box wr w.heap.size 24 #[.int .u64 h, .int .u64 (l / 65536 ^ k)] ∧ Below w.heap.size w wr)
  case atStart => exact ⟨0, by omega, rfl, rfl, ⟨rfl, .inl ⟨rfl, rfl⟩⟩, by simpa using Box.made _ _ _, by repeat (first | exact Below.refl _ _ | apply Below.drew | apply below_drewN | refine Below.alloc ?_ (by simp; try omega) _ | refine Below.setCell ?_ (by simp; try omega) _)⟩
  case round =>
    obtain ⟨k, hk, rfl, rfl, hown, hbox, hbel⟩ := hrel
    have hB := hbox.inside
    by_cases hlt : k < 4
    · obtain ⟨lk, elk⟩ : ∃ lk, l / 65536 ^ k = lk := ⟨_, rfl⟩
      rw [elk] at hbox
      have l0 : 0 ≤ lk := by rw [← elk]; exact Int.ediv_nonneg hl.1 (by exact Int.pow_nonneg (by decide))
      have l1 : lk < 18446744073709551616 := by
        rw [← elk]; exact Int.lt_of_le_of_lt (Int.ediv_le_self _ hl.1) hl.2
      have ELK := hideIt elk
      clear elk
      have c1 : wr.cell? ⟨w.heap.size, 1, none⟩ = some (.int .u64 lk) := hbox.read 1
      go_wp2_with (first
        | (at_builtin; refine wp_append_new rfl _ _ 159 rfl (w.heap.size + 1) 22 i0 (.int .u64 0) 8 Tryd.underlying159 hi hz0 hz1 hz2 rfl _ _ _ rfl hown #[.int .u64 (lk % 65536)] rfl (by simp [Value.oneCell']) (by simp; omega) (by omega) (by omega) ?_))
      intro v' w1 hown' hb1 hk1
      have hbox1 := hk1 _ _ _ hbox (by omega)
      have hbel1 := hbel.trans (hb1 _ (by omega))
      have d1 : w1.cell? ⟨w.heap.size, 1, none⟩ = some (.int .u64 lk) := hbox1.read 1
      have d2 := hbox1.free 1
      clear hb1 hk1
      go_wp2
      go_roundg (4 - (k + 1))
      case measure => omega
      case rel =>
        have ed : digs l (k + 1) = digs l k ++ [lk % 65536] := by rw [digs_succ, ELK.out]
        have ep : l / 65536 ^ (k + 1) = lk / 65536 := by rw [Int.pow_succ, ← Int.ediv_ediv_of_nonneg (Int.pow_nonneg (by decide)), ELK.out]
        refine ⟨k + 1, by omega, rfl, by go_num, ?_, ?_, hbel1.setCell (by simp) _⟩
        · rw [ed]
          simpa [u64s] using own_apart hown' (fun hx => by have h2 := (hown'.lt _ hx).1; exact absurd h2 (by show ¬ (w.heap.size + 1 ≤ w.heap.size); omega)) _
        · rw [ep]
          exact hbox1.wrote 1 _
    · have e : k = 4 := by omega
      subst e
      clear hlt hk
      go_wp2
      go_loopg [3, 5] 4 (fun gk v i wr => ∃ k : Nat, k ≤ 4 ∧ gk = 4 - k ∧ i = .int .i64 k ∧ wr.ownsRow (w.heap.size + 1) 22 1 v (4 + k) (u64s (digs l 4 ++ digs h k)) ∧
        Box wr w.heap.size 24 #[.int .u64 (h / 65536 ^ k), .int .u64 (l / 65536 ^ 4)] ∧ Below w.heap.size w wr)
      case atStart => exact ⟨0, by omega, rfl, rfl, by simpa [digs] using hown, by simpa using hbox, hbel⟩
      case round =>
        obtain ⟨k, hk, rfl, rfl, hown, hbox, hbel⟩ := hrel
        have hB := hbox.inside
        by_cases hlt : k < 4
        · obtain ⟨lk, elk⟩ : ∃ lk, h / 65536 ^ k = lk := ⟨_, rfl⟩
          rw [elk] at hbox
          have l0 : 0 ≤ lk := by rw [← elk]; exact Int.ediv_nonneg hh.1 (by exact Int.pow_nonneg (by decide))
          have l1 : lk < 18446744073709551616 := by
            rw [← elk]; exact Int.lt_of_le_of_lt (Int.ediv_le_self _ hh.1) hh.2
          have ELK := hideIt elk
          clear elk
          have c1 : wr.cell? ⟨w.heap.size, 0, none⟩ = some (.int .u64 lk) := hbox.read 0
          go_wp2_with (first
            | (at_builtin; refine wp_append_new rfl _ _ 159 rfl (w.heap.size + 1) 22 i0 (.int .u64 0) 8 Tryd.underlying159 hi hz0 hz1 hz2 rfl _ _ _ rfl hown #[.int .u64 (lk % 65536)] rfl (by simp [Value.oneCell']) (by simp; omega) (by omega) (by omega) ?_))
          intro v' w1 hown' hb1 hk1
          have hbox1 := hk1 _ _ _ hbox (by omega)
          have hbel1 := hbel.trans (hb1 _ (by omega))
          have d1 : w1.cell? ⟨w.heap.size, 0, none⟩ = some (.int .u64 lk) := hbox1.read 0
          have d2 := hbox1.free 0
          clear hb1 hk1
          go_wp2
          go_roundg (4 - (k + 1))
          case measure => omega
          case rel =>
            have ed : digs h (k + 1) = digs h k ++ [lk % 65536] := by rw [digs_succ, ELK.out]
            have ep : h / 65536 ^ (k + 1) = lk / 65536 := by rw [Int.pow_succ, ← Int.ediv_ediv_of_nonneg (Int.pow_nonneg (by decide)), ELK.out]
            refine ⟨k + 1, by omega, rfl, by go_num, ?_, ?_, hbel1.setCell (by simp) _⟩
            · rw [ed]
              simpa [u64s, Nat.add_assoc] using own_apart hown' (fun hx => by have h2 := (hown'.lt _ hx).1; exact absurd h2 (by show ¬ (w.heap.size + 1 ≤ w.heap.size); omega)) _
            · rw [ep]
              exact hbox1.wrote 0 _
        · have e : k = 4 := by omega
          subst e
          clear hlt hk
          go_wp2
          go_ret
          exact ⟨_, rfl, own_mono hown (by omega), hbel⟩
end Go.Proofs.YtkecekfapiegjaaDoor
/-
  paymasterref01.number, walked: the number of digits of base 65536, the least first; none where there is no room for it.
-/
namespace Go.Proofs.YtkecekfapiegjaaDoor
set_option linter.unusedVariables false
set_option linter.unusedSimpArgs false
set_option maxRecDepth 10000
open Go.RowKit

/-- The number of a row of digits. -/
def val : List Int → Int
  | [] => 0
  | d :: r => d + 65536 * val r
/-- Digits they are. -/
def AllDig (xs : List Int) : Prop := ∀ d ∈ xs, 0 ≤ d ∧ d < 65536

theorem val_nonneg : ∀ {xs : List Int}, AllDig xs → 0 ≤ val xs
  | [], _ => by simp [val]
  | d :: r, h => by
    have h1 := h d (by simp)
    have h2 := val_nonneg (xs := r) (fun x hx => h x (by simp [hx]))
    simp only [val]; omega
theorem val_drop {xs : List Int} {m : Nat} (hm : m < xs.length) : val (xs.drop m) = xs[m] + 65536 * val (xs.drop (m + 1)) := by
  rw [List.drop_eq_getElem_cons hm]; rfl
theorem val_drop_le : ∀ (m : Nat) {xs : List Int}, AllDig xs → 65536 ^ m * val (xs.drop m) ≤ val xs
  | 0, xs, _ => by simp
  | m + 1, [], _ => by simp [val]
  | m + 1, d :: r, h => by
    have h1 := h d (by simp)
    have h2 := val_drop_le m (xs := r) (fun x hx => h x (by simp [hx]))
    simp only [val, List.drop_succ_cons]
    have e : (65536 : Int) ^ (m + 1) * val (r.drop m) = 65536 * (65536 ^ m * val (r.drop m)) := by
      rw [Int.pow_succ, Int.mul_comm (65536 ^ m), Int.mul_assoc]
    rw [e]; omega
theorem AllDig.drop {xs : List Int} (h : AllDig xs) (m : Nat) : AllDig (xs.drop m) := fun d hd => h d (List.mem_of_mem_drop hd)
theorem val_append : ∀ (xs ys : List Int), val (xs ++ ys) = val xs + 65536 ^ xs.length * val ys
  | [], ys => by simp [val]
  | d :: r, ys => by
    simp only [List.cons_append, val, val_append r ys, List.length_cons, Int.pow_succ]
    rw [Int.mul_comm (65536 ^ r.length) 65536, Int.mul_assoc]; omega

/-- What stands in the two halves when the digits from place j on have been read: T is their number. -/
theorem half_step {T d : Int} {m : Nat} (hm : m < 4) (h0 : 0 ≤ T) (h1 : T < 65536 ^ (8 - (m + 1))) (d0 : 0 ≤ d) (d1 : d < 65536) :
    (d + 65536 * T) / 65536 ^ (4 - m) = T / 65536 ^ (4 - (m + 1)) ∧ (d + 65536 * T) % 65536 ^ (4 - m) = T % 65536 ^ (4 - (m + 1)) * 65536 + d ∧
    0 ≤ T % 65536 ^ (4 - (m + 1)) ∧ T % 65536 ^ (4 - (m + 1)) * 65536 + d < 18446744073709551616 ∧ 0 ≤ T / 65536 ^ (4 - (m + 1)) ∧ d + 65536 * T < 65536 ^ (8 - m) := by
  have hm' : m = 0 ∨ m = 1 ∨ m = 2 ∨ m = 3 := by omega
  rcases hm' with rfl | rfl | rfl | rfl <;> simp only [Nat.reduceAdd, Nat.reduceSub, Int.reducePow, Nat.zero_add, Int.pow_zero, Int.pow_succ] at h1 ⊢ <;> refine ⟨?_, ?_, ?_, ?_, ?_, ?_⟩ <;> omega

/-- What is told of a row of digits. -/
def NumTells (N : Int) (B : Nat) (w : World) (e : Ending) (w' : World) : Prop :=
  e = .returned (.tuple #[.agg #[.int .u64 (rh N), .int .u64 (rl N)], .bool (room N)]) ∧ Below B w w'

set_option maxHeartbeats 4000000 in
theorem number_any (g cap : Nat) (xs : List Int) (w : World) (hd : AllDig xs) (h8 : 8 ≤ xs.length) (hmax : xs.length ≤ 1000) (hg : g < w.heap.size)
    (hc : ∀ j u, (u64s xs)[j]? = some u → w.cell? ⟨g, j, none⟩ = some u) :
    Calls Tryd.prog 107 #[.slice (some ⟨g, 0, none⟩) xs.length cap] w (NumTells (val xs) w.heap.size w) := by
  go_enter Tryd.func107, Tryd.ntmps107
  go_wp2
  go_loopg [5] xs.length (fun gk i wr => ∃ j : Nat, j ≤ xs.length ∧ gk = j ∧ i = .int .i64 ((j : Int) - 1) ∧ val (xs.drop j) < 65536 ^ (8 - j) ∧
    Box wr w.heap.size 24 #[.int .u64 0, .int .u64 0] ∧
    Box wr (w.heap.size + 1) 24 #[.int .u64 (val (xs.drop j) / 65536 ^ (4 - j)), .int .u64 (val (xs.drop j) % 65536 ^ (4 - j))] ∧ Below w.heap.size w wr)
  case atStart => 
    refine ⟨xs.length, by omega, rfl, rfl, ?_, (Box.made _ _ _).past _, ?_, by repeat (first | exact Below.refl _ _ | apply Below.drew | apply below_drewN | refine Below.alloc ?_ (by simp; try omega) _ | refine Below.setCell ?_ (by simp; try omega) _)⟩
    · simp [val]; exact Int.pow_pos (by decide)
    · simpa [val] using Box.made (w.alloc _) _ _
  case round =>
    obtain ⟨j, hj, hgk, rfl, hT, hb0, hb1, hbel⟩ := hrel
    have HG := hideIt hgk
    clear hgk
    have hB := hb1.inside
    have T0 := val_nonneg (hd.drop j)
    have n0 : wr.cell? ⟨w.heap.size, 0, none⟩ = some (.int .u64 0) := hb0.read 0
    have n1 : wr.cell? ⟨w.heap.size, 1, none⟩ = some (.int .u64 0) := hb0.read 1
    have nf0 := hb0.free 0
    have nf1 := hb0.free 1
    have af0 := hb1.free 0
    have af1 := hb1.free 1
    by_cases hz : j = 0
    · subst hz
      have e4 : (65536 : Int) ^ (4 - 0) = 18446744073709551616 := rfl
      have e8 : (65536 : Int) ^ (8 - 0) = 340282366920938463463374607431768211456 := rfl
      simp only [e4, e8, List.drop_zero] at hT hb1 T0
      have hr : room (val xs) = true := room_iff.2 ⟨T0, hT⟩
      rw [← rh_yes hr, ← rl_yes hr] at hb1
      have a0 : wr.cell? ⟨w.heap.size + 1, 0, none⟩ = some (.int .u64 (rh (val xs))) := hb1.read 0
      have a1 : wr.cell? ⟨w.heap.size + 1, 1, none⟩ = some (.int .u64 (rl (val xs))) := hb1.read 1
      have HR := hideIt hr
      clear hr
      go_wp2
      exact bodyPost_ret (v := .tuple #[.agg #[.int .u64 (rh (val xs)), .int .u64 (rl (val xs))], .bool true]) (by simp [results, Tryd.results107, go_sem, n0, n1]) rfl ⟨by rw [HR.out], (hbel.setCell (by simp) _).setCell (by simp) _⟩
    · obtain ⟨m, rfl⟩ : ∃ m, j = m + 1 := ⟨j - 1, by omega⟩
      have em : (((m + 1 : Nat) : Int) - 1) = (m : Int) := by omega
      rw [em]
      have hm : m < xs.length := by omega
      obtain ⟨d0, d1⟩ := hd xs[m] (by simp)
      have hv := val_drop hm
      obtain ⟨d, ed⟩ : ∃ d, xs[m] = d := ⟨_, rfl⟩
      have cm : wr.cell? ⟨g, m, none⟩ = some (.int .u64 d) := by
        rw [hbel.cell (p := ⟨g, m, none⟩) hg]; exact hc m _ (by simp [u64s, ← ed, hm])
      rw [ed] at d0 d1 hv
      have hle := val_drop_le m hd
      obtain ⟨T, eT⟩ : ∃ T, val (xs.drop (m + 1)) = T := ⟨_, rfl⟩
      rw [eT] at hT hb1 T0 hv
      rw [hv] at hle
      have HV := hideIt hv
      have HE := hideIt eT
      have ED := hideIt ed
      clear hv eT ed hz em
      by_cases h8' : 8 ≤ m
      · have e8 : 8 - (m + 1) = 0 := by omega
        have e4 : 4 - (m + 1) = 0 := by omega
        rw [e8, Int.pow_zero] at hT
        have hT0 : T = 0 := by omega
        subst hT0
        rw [e4, Int.pow_zero] at hb1
        by_cases hdz : d = 0
        · subst hdz
          go_wp2
          go_roundg m
          case measure => have := HG.out; omega
          case rel =>
            have e4' : 4 - m = 0 := by omega
            have e8'' : 8 - m = 0 := by omega
            refine ⟨m, by omega, rfl, rfl, ?_, hb0, ?_, hbel⟩
            · rw [HV.out, e8'']; decide
            · rw [HV.out, e4', Int.pow_zero]; simpa using hb1
        · have hr : room (val xs) = false := by
            rw [room_not]
            have p8 : (65536 : Int) ^ m = 65536 ^ (m - 8) * 65536 ^ 8 := by rw [← Int.pow_add]; congr 1; omega
            have p1 : (1 : Int) ≤ 65536 ^ (m - 8) := Int.pow_pos (by decide)
            have p2 : (65536 : Int) ^ 8 ≤ 65536 ^ m := by
              rw [p8]; have := Int.mul_le_mul_of_nonneg_right p1 (show (0 : Int) ≤ 65536 ^ 8 by decide); rw [Int.one_mul] at this; exact this
            have p3 : (65536 : Int) ^ m ≤ 65536 ^ m * (d + 65536 * 0) := by
              have := Int.mul_le_mul_of_nonneg_left (show (1 : Int) ≤ d + 65536 * 0 by omega) (show (0 : Int) ≤ 65536 ^ m from Int.pow_nonneg (by decide)); rw [Int.mul_one] at this; exact this
            have p4 : (65536 : Int) ^ 8 = 340282366920938463463374607431768211456 := rfl
            omega
          have HR := hideIt hr
          clear hr hle
          go_wp2
          exact bodyPost_ret (v := .tuple #[.agg #[.int .u64 0, .int .u64 0], .bool false]) (by simp [results, Tryd.results107, go_sem, n0, n1]) rfl ⟨by rw [rh_no HR.out, rl_no HR.out, HR.out], (hbel.setCell (by simp) _).setCell (by simp) _⟩
      · clear hle
        by_cases h4 : 4 ≤ m
        · have e4 : 4 - (m + 1) = 0 := by omega
          have e4' : 4 - m = 0 := by omega
          have e8 : 8 - m = 8 - (m + 1) + 1 := by omega
          have h3 : (65536 : Int) ^ (8 - (m + 1)) ≤ 65536 ^ 3 := by
            have : m = 4 ∨ m = 5 ∨ m = 6 ∨ m = 7 := by omega
            rcases this with rfl | rfl | rfl | rfl <;> decide
          have h3' : (65536 : Int) ^ 3 = 281474976710656 := rfl
          have hT' : d + 65536 * T < 65536 ^ (8 - m) := by rw [e8, Int.pow_succ]; omega
          rw [e4, Int.pow_zero] at hb1
          have a0 : wr.cell? ⟨w.heap.size + 1, 0, none⟩ = some (.int .u64 T) := by have := hb1.read 0; simpa using this
          have b0 : T * 65536 + d < 18446744073709551616 := by omega
          have HT := hideIt hT'
          clear hT hT' h3 h3' e8
          go_wp2
          go_region
          go_wp2
          go_roundg m
          case measure => have := HG.out; omega
          case rel =>
            refine ⟨m, by omega, rfl, rfl, by rw [HV.out]; exact HT.out, (hb0.draw).apart (by simp) _, ?_, (hbel.drew).setCell (by simp) _⟩
            have q1 : (d + 65536 * T) / 1 = T * 65536 + d := by omega
            have q2 : (d + 65536 * T) % 1 = T % 1 := by omega
            rw [HV.out, e4', Int.pow_zero, q1, q2]
            exact hb1.wrote 0 _
        · obtain ⟨s1, s2, s3, s4, s5, s6⟩ := half_step (T := T) (d := d) (m := m) (by omega) T0 hT d0 d1
          obtain ⟨x, ex⟩ : ∃ x, T / 65536 ^ (4 - (m + 1)) = x := ⟨_, rfl⟩
          obtain ⟨y, ey⟩ : ∃ y, T % 65536 ^ (4 - (m + 1)) = y := ⟨_, rfl⟩
          rw [ex, ey] at hb1
          rw [ex] at s1 s5
          rw [ey] at s2 s3 s4
          have a1 : wr.cell? ⟨w.heap.size + 1, 1, none⟩ = some (.int .u64 y) := hb1.read 1
          have S1 := hideIt s1
          have S2 := hideIt s2
          have HT := hideIt s6
          clear s1 s2 s6 hT ex ey
          go_wp2
          go_region
          go_wp2
          go_roundg m
          case measure => have := HG.out; omega
          case rel =>
            refine ⟨m, by omega, rfl, rfl, by rw [HV.out]; exact HT.out, (hb0.draw).apart (by simp) _, ?_, (hbel.drew).setCell (by simp) _⟩
            rw [HV.out, S1.out, S2.out]
            exact hb1.draw.wrote 1 _
end Go.Proofs.YtkecekfapiegjaaDoor
/-
  paymasterref01.Cmp, walked: how two numbers compare, digit by digit from the greatest on.
-/
namespace Go.Proofs.YtkecekfapiegjaaDoor
set_option linter.unusedVariables false
set_option linter.unusedSimpArgs false
set_option maxRecDepth 10000
open Go.RowKit

/-- A number's eight digits. -/
def dgs (h l : Int) : List Int := digs l 4 ++ digs h 4
theorem dgs_length (h l : Int) : (dgs h l).length = 8 := by simp [dgs, digs_length]
theorem digs_all (l : Int) (k : Nat) : AllDig (digs l k) := by
  intro d hd
  simp only [digs, List.mem_map] at hd
  obtain ⟨i, -, rfl⟩ := hd
  exact ⟨Int.emod_nonneg _ (by decide), Int.emod_lt_of_pos _ (by decide)⟩
theorem dgs_all (h l : Int) : AllDig (dgs h l) := by
  intro d hd
  rcases List.mem_append.1 hd with hd | hd
  · exact digs_all l 4 d hd
  · exact digs_all h 4 d hd
theorem digs_four (l : Int) : digs l 4 = [l % 65536, l / 65536 % 65536, l / 4294967296 % 65536, l / 281474976710656 % 65536] := by
  simp [digs, List.range_succ]
theorem val_digs {l : Int} (hl : Word l) : val (digs l 4) = l := by
  rw [digs_four]; obtain ⟨_, _⟩ := hl; simp only [val]; omega
theorem val_dgs {h l : Int} (hh : Word h) (hl : Word l) : val (dgs h l) = nv h l := by
  rw [dgs, val_append, val_digs hh, val_digs hl, digs_length]; unfold nv
  have : (65536 : Int) ^ 4 = 18446744073709551616 := rfl
  rw [this]; omega

/-- A slice whose cells are known, in memory that is there. -/
def Row8 (w : World) (B : Nat) (v : Value) (xs : List Int) : Prop :=
  ∃ g cap, v = .slice (some ⟨g, 0, none⟩) xs.length cap ∧ B ≤ g ∧ g < w.heap.size ∧ ∀ j u, (u64s xs)[j]? = some u → w.cell? ⟨g, j, none⟩ = some u
theorem digits_row (h l : Int) (hh : Word h) (hl : Word l) (w : World) :
    Calls Tryd.prog 106 #[.agg #[.int .u64 h, .int .u64 l]] w fun e w' => ∃ g cap, e = .returned (.slice (some ⟨g, 0, none⟩) 8 cap) ∧ w.heap.size ≤ g ∧ g < w'.heap.size ∧
      (∀ j u, (u64s (dgs h l))[j]? = some u → w'.cell? ⟨g, j, none⟩ = some u) ∧ Below w.heap.size w w' := by
  refine (digits_any h l hh hl w).mono ?_
  rintro e w' ⟨v, rfl, hown, hb⟩
  obtain ⟨g, cap, rfl, h1, h2, h3, h4, h5, h6⟩ := own_row hown (by omega)
  exact ⟨g, cap, rfl, h1, h2, h5, hb⟩

theorem val_lt : ∀ {xs : List Int}, AllDig xs → val xs < 65536 ^ xs.length
  | [], _ => by simp [val]
  | d :: r, h => by
    have h1 := h d (by simp)
    have h2 := val_lt (xs := r) (fun x hx => h x (by simp [hx]))
    simp only [val, List.length_cons, Int.pow_succ]; omega
/-- The greatest digit at which they differ decides. -/
theorem val_less {xs ys : List Int} {m : Nat} (mx : m < xs.length) (my : m < ys.length) (dx : AllDig xs) (dy : AllDig ys) (hl : xs.length = ys.length) (hd : xs.drop (m + 1) = ys.drop (m + 1)) :
    xs[m] < ys[m] → val xs < val ys := by
  intro h
  have sx := val_append (xs.take m) (xs.drop m)
  have sy := val_append (ys.take m) (ys.drop m)
  rw [List.take_append_drop, List.length_take, Nat.min_eq_left (by omega)] at sx sy
  have lx := val_lt (xs := xs.take m) (fun d h => dx d (List.mem_of_mem_take h))
  rw [List.length_take, Nat.min_eq_left (by omega)] at lx
  have ny := val_nonneg (xs := ys.take m) (fun d h => dy d (List.mem_of_mem_take h))
  have ex := val_drop mx
  have ey := val_drop my
  rw [hd] at ex
  have le : 65536 ^ m * (val (xs.drop m) + 1) ≤ 65536 ^ m * val (ys.drop m) := Int.mul_le_mul_of_nonneg_left (by omega) (Int.pow_nonneg (by decide))
  rw [Int.mul_add, Int.mul_one] at le
  omega
/-- Two numbers in two blocks behind those of world w; nothing else of w has turned. -/
abbrev TwoIn (w : World) (ah al bh bl : Int) (w' : World) : Prop :=
  w'.cell? ⟨w.heap.size, 0, none⟩ = some (.int .u64 ah) ∧ w'.cell? ⟨w.heap.size, 1, none⟩ = some (.int .u64 al) ∧ w'.cell? ⟨w.heap.size + 1, 0, none⟩ = some (.int .u64 bh) ∧
  w'.cell? ⟨w.heap.size + 1, 1, none⟩ = some (.int .u64 bl) ∧ w.heap.size + 1 < w'.heap.size ∧ Below w.heap.size w w'
theorem TwoIn.keep {w W w' : World} {ah al bh bl : Int} (h : TwoIn w ah al bh bl W) (hb : Below W.heap.size W w') : TwoIn w ah al bh bl w' := by
  obtain ⟨h1, h2, h3, h4, h5, h6⟩ := h
  refine ⟨?_, ?_, ?_, ?_, Nat.lt_of_lt_of_le h5 hb.size, h6.trans (hb.mono (by omega))⟩
  · rw [hb.cell (p := ⟨w.heap.size, 0, none⟩) (by show w.heap.size < _; omega)]; exact h1
  · rw [hb.cell (p := ⟨w.heap.size, 1, none⟩) (by show w.heap.size < _; omega)]; exact h2
  · rw [hb.cell (p := ⟨w.heap.size + 1, 0, none⟩) h5]; exact h3
  · rw [hb.cell (p := ⟨w.heap.size + 1, 1, none⟩) h5]; exact h4
/-- A row's cells, kept behind a call. -/
theorem row_keep {W w' : World} {g : Nat} {xs : List Value} (h : ∀ j u, xs[j]? = some u → W.cell? ⟨g, j, none⟩ = some u) (hg : g < W.heap.size) (hb : Below W.heap.size W w') :
    ∀ j u, xs[j]? = some u → w'.cell? ⟨g, j, none⟩ = some u := fun j u hu => (hb.cell (p := ⟨g, j, none⟩) hg).trans (h j u hu)

end Go.Proofs.YtkecekfapiegjaaDoor
/-
  paymasterref01.Add and Sub, walked: digit by digit, with a carry or a borrow.
-/
namespace Go.Proofs.YtkecekfapiegjaaDoor
set_option linter.unusedVariables false
set_option linter.unusedSimpArgs false
set_option maxRecDepth 10000
open Go.RowKit

/-- Two numbers in blocks p and q of the world W0; nothing that W0 had has turned. -/
abbrev TwoAt (W0 : World) (p q : Nat) (ah al bh bl : Int) (w' : World) : Prop :=
  w'.cell? ⟨p, 0, none⟩ = some (.int .u64 ah) ∧ w'.cell? ⟨p, 1, none⟩ = some (.int .u64 al) ∧ w'.cell? ⟨q, 0, none⟩ = some (.int .u64 bh) ∧
  w'.cell? ⟨q, 1, none⟩ = some (.int .u64 bl) ∧ p < W0.heap.size ∧ q < W0.heap.size ∧ Below W0.heap.size W0 w'
theorem TwoAt.keep {W0 W w' : World} {p q : Nat} {ah al bh bl : Int} (h : TwoAt W0 p q ah al bh bl W) (hb : Below W.heap.size W w') : TwoAt W0 p q ah al bh bl w' := by
  obtain ⟨h1, h2, h3, h4, h5, h6, h7⟩ := h
  have hs := h7.size
  refine ⟨?_, ?_, ?_, ?_, h5, h6, h7.trans (hb.mono (by omega))⟩
  · rw [hb.cell (p := ⟨p, 0, none⟩) (by show p < _; omega)]; exact h1
  · rw [hb.cell (p := ⟨p, 1, none⟩) (by show p < _; omega)]; exact h2
  · rw [hb.cell (p := ⟨q, 0, none⟩) (by show q < _; omega)]; exact h3
  · rw [hb.cell (p := ⟨q, 1, none⟩) (by show q < _; omega)]; exact h4

theorem val_take {xs : List Int} {k : Nat} (hk : k < xs.length) : val (xs.take (k + 1)) = val (xs.take k) + 65536 ^ k * xs[k] := by
  rw [List.take_succ_eq_append_getElem hk, val_append, List.length_take, Nat.min_eq_left (by omega)]
  simp [val]
theorem val_snoc {zs : List Int} {k : Nat} (hz : zs.length = k) (d : Int) : val (zs ++ [d]) = val zs + 65536 ^ k * d := by
  rw [val_append, hz]; simp [val]
theorem AllDig.snoc {zs : List Int} (h : AllDig zs) {d : Int} (h0 : 0 ≤ d) (h1 : d < 65536) : AllDig (zs ++ [d]) := by
  intro x hx
  rcases List.mem_append.1 hx with hx | hx
  · exact h x hx
  · simp at hx; subst hx; exact ⟨h0, h1⟩

theorem add_round {xs ys zs : List Int} {k : Nat} {x y c : Int} (hx : k < xs.length) (hy : k < ys.length) (ex : xs[k] = x) (ey : ys[k] = y) (hz : zs.length = k)
    (he : val zs + 65536 ^ k * c = val (xs.take k) + val (ys.take k)) :
    val (zs ++ [(x + y + c) % 65536]) + 65536 ^ (k + 1) * ((x + y + c) / 65536) = val (xs.take (k + 1)) + val (ys.take (k + 1)) := by
  rw [val_snoc hz, val_take hx, val_take hy, ex, ey, Int.pow_succ, Int.mul_assoc]
  generalize (65536 : Int) ^ k = P at *
  have e : P * ((x + y + c) % 65536) + P * (65536 * ((x + y + c) / 65536)) = P * x + P * y + P * c := by
    rw [← Int.mul_add, Int.emod_add_mul_ediv, Int.mul_add, Int.mul_add]
  omega
theorem sub_round {xs ys zs : List Int} {k : Nat} {x y c : Int} (hx : k < xs.length) (hy : k < ys.length) (ex : xs[k] = x) (ey : ys[k] = y) (hz : zs.length = k)
    (he : val zs = val (xs.take k) - val (ys.take k) + 65536 ^ k * c) :
    val (zs ++ [(65536 + x - y - c) % 65536]) = val (xs.take (k + 1)) - val (ys.take (k + 1)) + 65536 ^ (k + 1) * (1 - (65536 + x - y - c) / 65536) := by
  rw [val_snoc hz, val_take hx, val_take hy, ex, ey, Int.pow_succ, Int.mul_assoc]
  generalize (65536 : Int) ^ k = P at *
  have e : P * ((65536 + x - y - c) % 65536) + P * (65536 * ((65536 + x - y - c) / 65536)) = P * 65536 + P * x - P * y - P * c := by
    rw [← Int.mul_add, Int.emod_add_mul_ediv, Int.mul_sub, Int.mul_sub, Int.mul_add]
  have e2 : P * (65536 * (1 - (65536 + x - y - c) / 65536)) = P * 65536 - P * (65536 * ((65536 + x - y - c) / 65536)) := by
    rw [← Int.mul_sub, Int.mul_sub 65536, Int.mul_one]
  omega

set_option maxHeartbeats 8000000 in
theorem radd_any (ah al bh bl : Int) (a1 : Word ah) (a0 : Word al) (b1 : Word bh) (b0 : Word bl) (w : World) :
    Calls Tryd.prog 85 #[.agg #[.int .u64 ah, .int .u64 al], .agg #[.int .u64 bh, .int .u64 bl]] w (Fit (nv ah al + nv bh bl) w.heap.size w) := by
  obtain ⟨i0, hi, hz0, hz1, hz2⟩ := info_parts info_u64
  obtain ⟨W0, hW0⟩ : ∃ W0 : World, W0 = ((w.alloc (.cells #[.int .u64 ah, .int .u64 al] 24)).alloc (.cells #[.int .u64 bh, .int .u64 bl] 24)).alloc (.cells #[.int .u64 0, .int .u64 0] 24) := ⟨_, rfl⟩
  have hsz : W0.heap.size = w.heap.size + 3 := by rw [hW0]; simp
  have hbw : Below w.heap.size w W0 := by rw [hW0]; repeat (first | exact Below.refl _ _ | apply Below.drew | apply below_drewN | refine Below.alloc ?_ (by simp; try omega) _ | refine Below.setCell ?_ (by simp; try omega) _)
  have hr0 : Box W0 (w.heap.size + 2) 24 #[.int .u64 0, .int .u64 0] := by
    rw [hW0]
    have := Box.made ((w.alloc (.cells #[.int .u64 ah, .int .u64 al] 24)).alloc (.cells #[.int .u64 bh, .int .u64 bl] 24)) 24 #[.int .u64 0, .int .u64 0]
    simpa using this
  have HW := hideIt hW0
  clear hW0
  go_enter Tryd.func85, Tryd.ntmps85
  go_upto_region 1 with fail
  go_cut [6, 7] (fun x y wx => ∃ g c g' c', x = .slice (some ⟨g, 0, none⟩) 8 c ∧ y = .slice (some ⟨g', 0, none⟩) 8 c' ∧ g < wx.heap.size ∧ g' < wx.heap.size ∧
     (∀ j u, (u64s (dgs ah al))[j]? = some u → wx.cell? ⟨g, j, none⟩ = some u) ∧ (∀ j u, (u64s (dgs bh bl))[j]? = some u → wx.cell? ⟨g', j, none⟩ = some u) ∧ Below W0.heap.size W0 wx)
  case first =>
    rw [← HW.out]
    have c1 : W0.cell? ⟨w.heap.size, 0, none⟩ = some (.int .u64 ah) := by rw [HW.out]; simp [go_sem]
    have c2 : W0.cell? ⟨w.heap.size, 1, none⟩ = some (.int .u64 al) := by rw [HW.out]; simp [go_sem]
    have c3 : W0.cell? ⟨w.heap.size + 1, 0, none⟩ = some (.int .u64 bh) := by rw [HW.out]; simp [go_sem]
    have c4 : W0.cell? ⟨w.heap.size + 1, 1, none⟩ = some (.int .u64 bl) := by rw [HW.out]; simp [go_sem]
    go_region_held3 (fun w' => w'.cell? ⟨w.heap.size, 0, none⟩ = some (.int .u64 ah) ∧ w'.cell? ⟨w.heap.size, 1, none⟩ = some (.int .u64 al) ∧ w'.cell? ⟨w.heap.size + 1, 0, none⟩ = some (.int .u64 bh) ∧ w'.cell? ⟨w.heap.size + 1, 1, none⟩ = some (.int .u64 bl) ∧ w.heap.size < W0.heap.size ∧ w.heap.size + 1 < W0.heap.size ∧ Below W0.heap.size W0 w')
      (first | exact TwoAt.keep (by assumption) (by assumption) | exact ⟨c1, c2, c3, c4, by omega, by omega, (Below.refl _ _).drew⟩)
      (first
        | (go_at_call_of 106 (Value.int IntKind.u64 ah); refine (digits_row ah al a1 a0 _).mono ?_; rintro e w' ⟨g1, p1, rfl, p2, p3, p4, p5⟩)
        | (go_at_call_of 106 (Value.int IntKind.u64 bh); refine (digits_row bh bl b1 b0 _).mono ?_; rintro e w' ⟨g2, q1, rfl, q2, q3, q4, q5⟩))
    all_goals go_wp2_with fail
    all_goals go_meet
    have hh : TwoAt W0 w.heap.size (w.heap.size + 1) ah al bh bl w' := by assumption
    exact ⟨g1, p1, g2, q1, rfl, rfl, Nat.lt_of_lt_of_le p3 q5.size, q3, row_keep p4 p3 q5, q4, hh.2.2.2.2.2.2⟩
  case rest =>
    obtain ⟨g, c, g', c', rfl, rfl, hg, hg', hx, hy, hb⟩ := hcut
    have lx := dgs_length ah al
    have ly := dgs_length bh bl
    have vx := val_dgs a1 a0
    have vy := val_dgs b1 b0
    have dx := dgs_all ah al
    have dy := dgs_all bh bl
    generalize dgs ah al = xs at *
    generalize dgs bh bl = ys at *
    have LX := hideIt lx
    have LY := hideIt ly
    have VX := hideIt vx
    have VY := hideIt vy
    clear lx ly vx vy
    have hbox := hr0.below hb (by omega)
    have hbB := hbw.trans (hb.mono (by omega))
    have hszc := hb.size
    go_wp2
    go_loopg [8, 9, 10, 11] 8 (fun gk cv v i nn wr => ∃ (k : Nat) (zs : List Int) (c : Int), k ≤ 8 ∧ gk = 8 - k ∧ cv = .int .u64 c ∧ i = .int .i64 k ∧ wr.ownsRow wc.heap.size 22 1 v k (u64s zs) ∧ AllDig zs ∧ 0 ≤ c ∧ c ≤ 1 ∧
      val zs + 65536 ^ k * c = val (xs.take k) + val (ys.take k) ∧ Below wc.heap.size wc wr)
    case atStart => exact ⟨0, [], 0, by omega, rfl, rfl, rfl, ⟨rfl, .inl ⟨rfl, rfl⟩⟩, fun _ h => by simp at h, by omega, by omega, by simp [val], Below.refl _ _⟩
    case round =>
      obtain ⟨k, zs, c, hk, rfl, rfl, rfl, hown, hdz, c0, c1, hv, hbel⟩ := hrel
      have lz : zs.length = k := by have := hown.1; simpa [u64s] using this
      have LZ := hideIt lz
      have HV := hideIt hv
      clear lz hv
      have hszr := hbel.size
      by_cases hlt : k < 8
      · have mx : k < xs.length := by rw [LX.out]; omega
        have my : k < ys.length := by rw [LY.out]; omega
        have i0' : (0 : Int) ≤ (k : Int) := by omega
        have i1' : (k : Int) < 8 := by omega
        obtain ⟨x, ex⟩ : ∃ x, xs[k] = x := ⟨_, rfl⟩
        obtain ⟨y, ey⟩ : ∃ y, ys[k] = y := ⟨_, rfl⟩
        have cx : wr.cell? ⟨g, k, none⟩ = some (.int .u64 x) := by
          rw [hbel.cell (p := ⟨g, k, none⟩) hg]; exact hx k _ (by simp [u64s, mx, ex])
        have cy : wr.cell? ⟨g', k, none⟩ = some (.int .u64 y) := by
          rw [hbel.cell (p := ⟨g', k, none⟩) hg']; exact hy k _ (by simp [u64s, my, ey])
        obtain ⟨x0, x1⟩ := dx xs[k] (by simp)
        obtain ⟨y0, y1⟩ := dy ys[k] (by simp)
        rw [ex] at x0 x1
        rw [ey] at y0 y1
        have hr := add_round mx my ex ey LZ.out HV.out
        have HR := hideIt hr
        clear hr ex ey
        go_wp2
        go_quiet (fail)
        go_wp2_with (first
          | (at_builtin; refine wp_append_new rfl _ _ 159 rfl wc.heap.size 22 i0 (.int .u64 0) 8 Tryd.underlying159 hi hz0 hz1 hz2 rfl _ _ _ rfl (own_draws hown _) #[.int .u64 ((x + y + c) % 65536)] rfl (by simp [Value.oneCell']) (by simp; omega) (by omega) (by simpa using hszr) ?_))
        intro v' w1 hown' hb1 _
        have hbel1 := hbel.trans ((below_drewN (Below.refl _ _) _).trans (hb1 wc.heap.size (Nat.le_refl _)))
        clear hb1
        go_wp2
        go_roundg (8 - (k + 1))
        case measure => omega
        case rel => exact ⟨k + 1, zs ++ [(x + y + c) % 65536], (x + y + c) / 65536, by omega, rfl, rfl, by go_num, by simpa [u64s] using hown', hdz.snoc (by omega) (by omega), by omega, by omega, HR.out, hbel1⟩
      · have e : k = 8 := by omega
        subst e
        have hsum : val (zs ++ [c]) = nv ah al + nv bh bl := by
          have h := HV.out
          rw [List.take_of_length_le (by rw [LX.out]; omega), List.take_of_length_le (by rw [LY.out]; omega), VX.out, VY.out] at h
          rw [val_snoc LZ.out, h]
        have hds := hdz.snoc c0 (show c < 65536 by omega)
        have HS := hideIt hsum
        clear hsum
        have hboxr := hbox.below hbel hbox.inside
        go_wp2_with (first
          | (at_builtin; refine wp_append_new rfl _ _ 159 rfl wc.heap.size 22 i0 (.int .u64 0) 8 Tryd.underlying159 hi hz0 hz1 hz2 rfl _ _ _ rfl hown #[.int .u64 c] rfl (by simp [Value.oneCell']) (by simp) (by omega) (by omega) ?_))
        intro v' w1 hown' hb1 hk1
        have hown2 : w1.ownsRow wc.heap.size 22 1 v' 9 (u64s (zs ++ [c])) := by simpa [u64s] using hown'
        obtain ⟨gg, cc, rfl, h1, h2, h3, h4, h5, h6⟩ := own_row hown2 (by omega)
        have hbox1 := hk1 _ _ _ hboxr hbox.inside
        have hbel1 := hbel.trans (hb1 wc.heap.size (Nat.le_refl _))
        have hl9 : (zs ++ [c]).length = 9 := by simp [LZ.out]
        clear hb1 hk1 hown' hown2 hown
        have hnum := number_any gg cc (zs ++ [c]) w1 hds (by omega) (by omega) h2 h5
        rw [hl9, HS.out] at hnum
        have hbelw := hbB.trans (hbel1.mono (by omega))
        have hs1 := hbel1.size
        have ho1 : 0 ≤ rh (nv ah al + nv bh bl) := (rh_word _).1
        cases hroom : room (nv ah al + nv bh bl)
        · go_wp2_with (first | (go_at_call 107; refine hnum.mono ?_; rintro e w2 ⟨rfl, hb2⟩
                                have hbox2 := hbox1.below hb2 hbox1.inside
                                have r0 : w2.cell? ⟨w.heap.size + 1 + 1, 0, none⟩ = some (.int .u64 0) := hbox2.read 0
                                have r1 : w2.cell? ⟨w.heap.size + 1 + 1, 1, none⟩ = some (.int .u64 0) := hbox2.read 1
                                have f0 : w2.frozen? ⟨w.heap.size + 1 + 1, 0, none⟩ = false := hbox2.free 0
                                have f1 : w2.frozen? ⟨w.heap.size + 1 + 1, 1, none⟩ = false := hbox2.free 1
                                have hi2 := hbox2.inside
                                have hbelw2 := hbelw.trans (hb2.mono (by omega))))
          have hbx := ((hbox2.wrote 0 (.int .u64 0)).wrote 1 (.int .u64 0)).past (.cells #[.int .u64 (rh (nv ah al + nv bh bl)), .int .u64 (rl (nv ah al + nv bh bl))] 24)
          have e0 := hbx.read 0
          have e1 := hbx.read 1
          simp only [Nat.reduceLT, List.setIfInBounds_toArray, List.set_cons_zero, List.set_cons_succ, List.getElem?_toArray, List.getElem?_cons_zero, List.getElem?_cons_succ] at e0 e1
          exact bodyPost_ret (v := .tuple #[.agg #[.int .u64 0, .int .u64 0], .int .i64 10]) (by simp [results, Tryd.results85, go_sem, e0, e1]) rfl
            ⟨by rw [rh_no hroom, rl_no hroom, re_no hroom], by repeat (first | exact hbelw2 | apply Below.drew | refine Below.alloc ?_ (by simp; try omega) _ | refine Below.setCell ?_ (by simp; try omega) _)⟩
        · go_wp2_with (first | (go_at_call 107; refine hnum.mono ?_; rintro e w2 ⟨rfl, hb2⟩
                                have hbox2 := hbox1.below hb2 hbox1.inside
                                have r0 : w2.cell? ⟨w.heap.size + 1 + 1, 0, none⟩ = some (.int .u64 0) := hbox2.read 0
                                have r1 : w2.cell? ⟨w.heap.size + 1 + 1, 1, none⟩ = some (.int .u64 0) := hbox2.read 1
                                have f0 : w2.frozen? ⟨w.heap.size + 1 + 1, 0, none⟩ = false := hbox2.free 0
                                have f1 : w2.frozen? ⟨w.heap.size + 1 + 1, 1, none⟩ = false := hbox2.free 1
                                have hi2 := hbox2.inside
                                have hbelw2 := hbelw.trans (hb2.mono (by omega))))
          have hbx := ((hbox2.wrote 0 (.int .u64 (rh (nv ah al + nv bh bl)))).wrote 1 (.int .u64 (rl (nv ah al + nv bh bl)))).past (.cells #[.int .u64 (rh (nv ah al + nv bh bl)), .int .u64 (rl (nv ah al + nv bh bl))] 24)
          have e0 := hbx.read 0
          have e1 := hbx.read 1
          simp only [Nat.reduceLT, List.setIfInBounds_toArray, List.set_cons_zero, List.set_cons_succ, List.getElem?_toArray, List.getElem?_cons_zero, List.getElem?_cons_succ] at e0 e1
          exact bodyPost_ret (v := .tuple #[.agg #[.int .u64 (rh (nv ah al + nv bh bl)), .int .u64 (rl (nv ah al + nv bh bl))], .int .i64 0]) (by simp [results, Tryd.results85, go_sem, e0, e1]) rfl
            ⟨by rw [re_yes hroom], by repeat (first | exact hbelw2 | apply Below.drew | refine Below.alloc ?_ (by simp; try omega) _ | refine Below.setCell ?_ (by simp; try omega) _)⟩
end Go.Proofs.YtkecekfapiegjaaDoor
/-
  The arithmetic of multiplying digit by digit, each place kept below the base. No program is named here.
-/
namespace Go.Proofs.YtkecekfapiegjaaDoor
set_option linter.unusedVariables false
set_option linter.unusedSimpArgs false
set_option maxRecDepth 10000
open Go.RowKit

theorem val_set : ∀ {zs : List Int} {m : Nat} (hm : m < zs.length) (d : Int), val (zs.set m d) = val zs + 65536 ^ m * (d - zs[m])
  | z :: r, 0, hm, d => by simp [val]; omega
  | z :: r, m + 1, hm, d => by
    have ih := val_set (zs := r) (m := m) (by simpa using hm) d
    simp only [List.set_cons_succ, val, List.getElem_cons_succ, ih, Int.pow_succ]
    rw [Int.mul_add, Int.mul_comm (65536 ^ m) 65536, Int.mul_assoc]; omega
theorem AllDig.set {zs : List Int} (h : AllDig zs) (m : Nat) {d : Int} (h0 : 0 ≤ d) (h1 : d < 65536) : AllDig (zs.set m d) := by
  intro x hx
  rcases List.mem_or_eq_of_mem_set hx with hx | hx
  · exact h x hx
  · subst hx; exact ⟨h0, h1⟩
/-- One step of the carry. -/
theorem carry_step {zs : List Int} {m : Nat} (hm : m < zs.length) {z more T : Int} (ez : zs[m] = z) (hT : val zs + more * 65536 ^ m = T) :
    val (zs.set m ((more + z) % 65536)) + (more + z) / 65536 * 65536 ^ (m + 1) = T := by
  rw [val_set hm, ez, ← hT, Int.pow_succ, Int.mul_sub, Int.mul_comm more, ← Int.mul_assoc, Int.mul_comm ((more + z) / 65536 ) (65536 ^ m), Int.mul_assoc]
  generalize (65536 : Int) ^ m = P at *
  have e : P * ((more + z) % 65536) + P * ((more + z) / 65536 * 65536) = P * more + P * z := by
    rw [← Int.mul_add, ← Int.mul_add]; congr 1; omega
  omega
theorem carry_place {zs : List Int} (hd : AllDig zs) {m : Nat} {more T : Int} (h0 : 0 < more) (hT : val zs + more * 65536 ^ m = T) (hb : T < 65536 ^ 12) : m < 12 := by
  have hz := val_nonneg hd
  rcases Nat.lt_or_ge m 12 with h | h
  · exact h
  · exfalso
    have p1 : (65536 : Int) ^ 12 ≤ 65536 ^ m := by
      have e : (65536 : Int) ^ m = 65536 ^ (m - 12) * 65536 ^ 12 := by rw [← Int.pow_add]; congr 1; omega
      have p : (1 : Int) ≤ 65536 ^ (m - 12) := Int.pow_pos (by decide)
      rw [e]
      have := Int.mul_le_mul_of_nonneg_right p (show (0 : Int) ≤ 65536 ^ 12 by decide)
      rw [Int.one_mul] at this
      exact this
    have p2 := Int.mul_le_mul_of_nonneg_right (show (1 : Int) ≤ more by omega) (show (0 : Int) ≤ 65536 ^ m from Int.pow_nonneg (by decide))
    rw [Int.one_mul] at p2
    omega
/-- A place's product is taken in. -/
theorem prod_step {ys : List Int} {k i : Nat} (hk : k < ys.length) {y x S V : Int} (ey : ys[k] = y) (hV : V = S + x * 65536 ^ i * val (ys.take k)) :
    V + x * y * 65536 ^ (i + k) = S + x * 65536 ^ i * val (ys.take (k + 1)) := by
  rw [hV, val_take hk, ey, Int.mul_add, Int.pow_add]
  have e : x * 65536 ^ i * (65536 ^ k * y) = x * y * (65536 ^ i * 65536 ^ k) := by
    rw [Int.mul_assoc x, Int.mul_assoc x, Int.mul_left_comm y, Int.mul_comm y]
  rw [e]; omega
theorem val_take_le {ys : List Int} (h : AllDig ys) (k : Nat) : 0 ≤ val (ys.take k) ∧ val (ys.take k) ≤ val ys := by
  have h1 := val_nonneg (xs := ys.take k) (fun d hd => h d (List.mem_of_mem_take hd))
  have h2 := val_nonneg (h.drop k)
  have e := val_append (ys.take k) (ys.drop k)
  rw [List.take_append_drop] at e
  have h3 : 0 ≤ 65536 ^ (ys.take k).length * val (ys.drop k) := Int.mul_nonneg (Int.pow_nonneg (by decide)) h2
  exact ⟨h1, by omega⟩
/-- Whatever part of the product has been taken in is at most the product. -/
theorem part_le {xs ys : List Int} (hx : AllDig xs) (hy : AllDig ys) {i k : Nat} {x n : Int} (hi : i < xs.length) (ex : xs[i] = x) (hn : val ys = n) (hA : val xs < 65536 ^ 8) (hN : n < 65536 ^ 4) :
    val (xs.take i) * n + x * 65536 ^ i * val (ys.take k) < 65536 ^ 12 := by
  obtain ⟨k0, k1⟩ := val_take_le hy k
  have x0 := (hx xs[i] (by simp)).1
  rw [ex] at x0
  have p : 0 ≤ x * 65536 ^ i := Int.mul_nonneg x0 (Int.pow_nonneg (by decide))
  have h1 := Int.mul_le_mul_of_nonneg_left k1 p
  rw [hn] at h1 k1
  have n0 : 0 ≤ n := by omega
  have e := val_take hi
  rw [ex] at e
  have h2 : val (xs.take i) * n + x * 65536 ^ i * n = val (xs.take (i + 1)) * n := by
    rw [e, Int.add_mul, Int.mul_comm x]
  have h3 := Int.mul_le_mul_of_nonneg_right (val_take_le hx (i + 1)).2 n0
  have h4 : val xs * n ≤ val xs * 65536 ^ 4 := Int.mul_le_mul_of_nonneg_left (by omega) (val_nonneg hx)
  have h5 : val xs * 65536 ^ 4 < 65536 ^ 12 := by
    have e4 : (65536 : Int) ^ 4 = 18446744073709551616 := rfl
    have e8 : (65536 : Int) ^ 8 = 340282366920938463463374607431768211456 := rfl
    have e12 : (65536 : Int) ^ 12 = 6277101735386680763835789423207666416102355444464034512896 := rfl
    rw [e8] at hA
    rw [e4, e12]
    omega
  omega
theorem u64s_set (zs : List Int) (m : Nat) (d : Int) : (u64s (zs.set m d)).toArray = (u64s zs).toArray.setIfInBounds m (.int .u64 d) := by
  simp [u64s, List.map_set]
end Go.Proofs.YtkecekfapiegjaaDoor
/-
  The arithmetic of dividing bit by bit, the greatest first. No program is named here.
-/
namespace Go.Proofs.YtkecekfapiegjaaDoor
set_option linter.unusedVariables false
set_option linter.unusedSimpArgs false
set_option maxRecDepth 10000
open Go.RowKit

/-- The bit that is asked behind j others of its digit; 0 behind all sixteen. -/
def bitv (j : Nat) : Int := 32768 / 2 ^ j
theorem bitv_next (j : Nat) : bitv (j + 1) = bitv j / 2 := by
  unfold bitv; rw [Int.pow_succ, Int.ediv_ediv_of_nonneg (Int.pow_nonneg (by decide))]
theorem bitv_cases {j : Nat} (hj : j < 16) : 1 ≤ bitv j ∧ bitv j ≤ 32768 ∧ (2 : Int) ^ (16 - j) = bitv j * 2 ∧ (2 : Int) ^ (16 - (j + 1)) = bitv j := by
  have : j = 0 ∨ j = 1 ∨ j = 2 ∨ j = 3 ∨ j = 4 ∨ j = 5 ∨ j = 6 ∨ j = 7 ∨ j = 8 ∨ j = 9 ∨ j = 10 ∨ j = 11 ∨ j = 12 ∨ j = 13 ∨ j = 14 ∨ j = 15 := by omega
  rcases this with rfl | rfl | rfl | rfl | rfl | rfl | rfl | rfl | rfl | rfl | rfl | rfl | rfl | rfl | rfl | rfl <;> decide
theorem bitv_end : bitv 16 = 0 := by decide

/-- What has been read of the number behind j bits of digit x, hi being the digits above. -/
def seen (hi x : Int) (j : Nat) : Int := hi * 2 ^ j + x / 2 ^ (16 - j)
theorem seen_next {hi x : Int} {j : Nat} (hj : j < 16) (hx : 0 ≤ x) : seen hi x (j + 1) = 2 * seen hi x j + x / bitv j % 2 := by
  obtain ⟨b0, b1, e1, e2⟩ := bitv_cases hj
  unfold seen
  rw [e1, e2, Int.pow_succ, ← Int.mul_assoc, ← Int.ediv_ediv_of_nonneg (by omega)]
  generalize x / bitv j = y
  omega
theorem seen_start {hi x : Int} (h0 : 0 ≤ x) (h1 : x < 65536) : seen hi x 0 = hi := by
  unfold seen
  have e : (2 : Int) ^ (16 - 0) = 65536 := rfl
  rw [e, Int.pow_zero]; omega
theorem seen_end (hi x : Int) : seen hi x 16 = x + 65536 * hi := by
  unfold seen
  have e : (2 : Int) ^ (16 - 16) = 1 := rfl
  have e2 : (2 : Int) ^ 16 = 65536 := rfl
  rw [e, e2]; omega
/-- What stands behind j bits: the quotient's part, what is left, the places below all nought. -/
structure Div (n hi x : Int) (i j : Nat) (qs : List Int) (Q rest : Int) : Prop where
  see : seen hi x j = Q * n + rest
  r0 : 0 ≤ rest
  r1 : rest < n
  len : qs.length = 8
  dig : AllDig qs
  low : ∀ m, m < i → qs[m]? = some 0
  here : ∃ d, qs[i]? = some d ∧ d + 2 ^ (16 - j) ≤ 65536
  num : val qs = Q * 2 ^ (16 - j) * 65536 ^ i
theorem Div.yes {n hi x : Int} {i j : Nat} {qs : List Int} {Q rest o d : Int} (h : Div n hi x i j qs Q rest) (hj : j < 16) (hx : 0 ≤ x) (ho : x / bitv j % 2 = o) (hd : qs[i]? = some d) (hge : n ≤ 2 * rest + o) :
    Div n hi x i (j + 1) (qs.set i (d + bitv j)) (2 * Q + 1) (2 * rest + o - n) := by
  obtain ⟨see, r0, r1, len, dig, low, ⟨d', hd', hb⟩, num⟩ := h
  obtain ⟨b0, b1, e1, e2⟩ := bitv_cases hj
  rw [hd] at hd'
  injection hd' with hd'
  subst hd'
  have ho1 : 0 ≤ o ∧ o ≤ 1 := by rw [← ho]; omega
  obtain ⟨hil, hde⟩ := List.getElem?_eq_some_iff.1 hd
  have d0 := (dig d (List.mem_of_getElem? hd)).1
  rw [e1] at hb num
  refine ⟨?_, by omega, by omega, by rw [List.length_set]; exact len, dig.set i (by omega) (by omega), fun m hm => ?_, ⟨d + bitv j, by rw [List.getElem?_set_self hil], by rw [e2]; omega⟩, ?_⟩
  · rw [seen_next hj hx, see, ho, Int.add_mul, Int.one_mul, Int.mul_assoc]; omega
  · rw [List.getElem?_set_ne (by omega)]; exact low m hm
  · rw [val_set hil, hde, num, e2, show d + bitv j - d = bitv j by omega, Int.add_mul, Int.one_mul, Int.add_mul, Int.mul_comm (65536 ^ i) (bitv j)]
    congr 2
    rw [Int.mul_comm (bitv j) 2, ← Int.mul_assoc, Int.mul_comm Q 2]
theorem Div.no {n hi x : Int} {i j : Nat} {qs : List Int} {Q rest o : Int} (h : Div n hi x i j qs Q rest) (hj : j < 16) (hx : 0 ≤ x) (ho : x / bitv j % 2 = o) (hlt : 2 * rest + o < n) :
    Div n hi x i (j + 1) qs (2 * Q) (2 * rest + o) := by
  obtain ⟨see, r0, r1, len, dig, low, ⟨d, hd, hb⟩, num⟩ := h
  obtain ⟨b0, b1, e1, e2⟩ := bitv_cases hj
  have ho1 : 0 ≤ o ∧ o ≤ 1 := by rw [← ho]; omega
  rw [e1] at hb num
  refine ⟨?_, by omega, by omega, len, dig, low, ⟨d, hd, by rw [e2]; omega⟩, ?_⟩
  · rw [seen_next hj hx, see, ho, Int.mul_assoc]; omega
  · rw [num, e2]
    congr 1
    rw [Int.mul_comm (bitv j) 2, ← Int.mul_assoc, Int.mul_comm Q 2]
end Go.Proofs.YtkecekfapiegjaaDoor
/-
  paymasterref01.Bytes, walked: from the greatest digit on, two bytes of each.
-/
namespace Go.Proofs.YtkecekfapiegjaaDoor
set_option linter.unusedVariables false
set_option linter.unusedSimpArgs false
set_option maxRecDepth 10000
open Go.RowKit

theorem info_u8r : (Tryd.prog.info? 5).map (fun i => (i.zero, i.size, i.bytes)) = some (some (.int .u8 0), 1, 1) := by kernel_rfl
/-- Two bytes of each digit. -/
def twos (ds : List Int) : List Int := ds.flatMap fun d => [d / 256, d % 256]
def u8r (l : List Int) : List Value := l.map (Value.int .u8)
theorem twos_length (ds : List Int) : (twos ds).length = 2 * ds.length := by
  induction ds with
  | nil => rfl
  | cons d r ih => simp only [twos, List.flatMap_cons, List.length_append, List.length_cons, List.length_nil] at *; omega
theorem twos_snoc (ds : List Int) (d : Int) : twos (ds ++ [d]) = twos ds ++ [d / 256, d % 256] := by simp [twos]
theorem drop_reverse_step {xs : List Int} {m : Nat} (hm : m < xs.length) : (xs.drop m).reverse = (xs.drop (m + 1)).reverse ++ [xs[m]] := by
  rw [List.drop_eq_getElem_cons hm, List.reverse_cons]
theorem half_twos {h : Int} (hh : Word h) : twos (digs h 4).reverse = (List.range 8).map (byteAt h) := by
  obtain ⟨h0, h1⟩ := hh
  rw [digs_four]
  simp only [twos, List.reverse_cons, List.reverse_nil, List.nil_append, List.cons_append, List.flatMap_cons, List.flatMap_nil, List.append_nil, List.range_succ, List.range_zero, List.map_cons, List.map_nil, byteAt]
  simp only [Nat.reduceSub, Nat.reduceMul, Int.reducePow]
  simp only [List.cons.injEq, and_true]
  refine ⟨?_, ?_, ?_, ?_, ?_, ?_, ?_, ?_⟩ <;> omega
theorem bytes_twos {h l : Int} (hh : Word h) (hl : Word l) : twos (dgs h l).reverse = bytesOf h l := by
  rw [dgs, List.reverse_append, bytesOf, ← half_twos hh, ← half_twos hl]
  simp [twos]

set_option maxHeartbeats 4000000 in
theorem rbytes_any (h l : Int) (hh : Word h) (hl : Word l) (w : World) :
    Calls Tryd.prog 88 #[.agg #[.int .u64 h, .int .u64 l]] w (Tells (.string (strOfNums (bytesOf h l))) w.heap.size w) := by
  obtain ⟨i0, hi, hz0, hz1, hz2⟩ := info_parts info_u8r
  go_enter Tryd.func88, Tryd.ntmps88
  go_wp2_with (first
    | (go_at_call 106; refine (digits_row h l hh hl _).mono ?_; rintro e w1 ⟨g, c, rfl, p2, p3, p4, p5⟩))
  have lx := dgs_length h l
  have bx := bytes_twos hh hl
  have dx := dgs_all h l
  generalize dgs h l = xs at *
  have LX := hideIt lx
  have BX := hideIt bx
  clear lx bx
  have L1 : Below w.heap.size w w1 := by
    refine Below.trans ?_ (p5.mono (by simp))
    repeat (first | exact Below.refl _ _ | apply Below.drew | apply below_drewN | refine Below.alloc ?_ (by simp; try omega) _ | refine Below.setCell ?_ (by simp; try omega) _)
  have hs1 := L1.size
  clear p5
  go_loopg [4, 5] 8 (fun gk v i wr => ∃ j : Nat, j ≤ 8 ∧ gk = j ∧ i = .int .i64 ((j : Int) - 1) ∧ wr.ownsRow w1.heap.size 5 1 v (16 - 2 * j) (u8r (twos (xs.drop j).reverse)) ∧ Below w1.heap.size w1 wr)
  case atStart => exact ⟨8, by omega, rfl, rfl, ⟨by rw [List.drop_eq_nil_of_le (by rw [LX.out]; omega)]; rfl, .inl ⟨rfl, rfl⟩⟩, Below.refl _ _⟩
  case round =>
    obtain ⟨j, hj, hgk, rfl, hown, hbel⟩ := hrel
    have HG := hideIt hgk
    clear hgk
    have hs2 := hbel.size
    by_cases hz : j = 0
    · subst hz
      rw [List.drop_zero, BX.out] at hown
      obtain ⟨g2, c2, rfl, q1, q2, q3, q4, q5, q6⟩ := own_row hown (by omega)
      have hconv := run_convert_bytes_arg (P := Tryd.prog) wr 135 5 Tryd.underlying135 Tryd.underlying5 g2 0 16 c2 (bytesOf h l) (by simp [bytesOf]) (fun i hi => by
        rw [Nat.zero_add]; exact q5 i _ (by simp only [u8r, List.getElem?_map]; rw [List.getElem?_eq_getElem (by simpa [bytesOf] using hi)]; simp [List.getD_eq_getElem?_getD, List.getElem?_eq_getElem (show i < (bytesOf h l).length by simpa [bytesOf] using hi)])) 9 Tryd.underlying9
      go_wp2
      go_ret
      exact ⟨rfl, chain L1 hbel⟩
    · obtain ⟨m, rfl⟩ : ∃ m, j = m + 1 := ⟨j - 1, by omega⟩
      have em : (((m + 1 : Nat) : Int) - 1) = (m : Int) := by omega
      rw [em]
      have mx : m < xs.length := by rw [LX.out]; omega
      have i0' : (0 : Int) ≤ (m : Int) := by omega
      have i1' : (m : Int) < 8 := by omega
      have hstep := drop_reverse_step mx
      obtain ⟨d0, d1⟩ := dx xs[m] (by simp)
      obtain ⟨d, ed⟩ : ∃ d, xs[m] = d := ⟨_, rfl⟩
      have cd : wr.cell? ⟨g, m, none⟩ = some (.int .u64 d) := by
        rw [hbel.cell (p := ⟨g, m, none⟩) p3]; exact p4 m _ (by simp [u64s, mx, ed])
      rw [ed] at d0 d1 hstep
      have HS := hideIt hstep
      clear hstep ed em hz
      have hfar : some g ≠ u4.ownBlock := fun hx => by have := (hown.lt g hx.symm).1; omega
      have t1 : IntKind.u64.wrap (d.tdiv 256) = d / 256 := by rw [Int.tdiv_eq_ediv_of_nonneg d0, IntKind.wrap_u64]; omega
      have t5 : IntKind.u8.wrap (d.tmod 256) = d % 256 := by rw [Int.tmod_eq_emod_of_nonneg d0, IntKind.wrap_u8]; omega
      have t3 : IntKind.u8.wrap (d / 256) = d / 256 := by rw [IntKind.wrap_u8]; omega
      have t4 : IntKind.u8.wrap (d % 256) = d % 256 := by rw [IntKind.wrap_u8]; omega
      go_upto_region 6 with fail
      go_region_held3 (fun w' => w'.cell? ⟨g, m, none⟩ = some (.int .u64 d))
        (first
          | go_keep
          | (rw [hgrow.cell_far _ (by simp; omega) hfar]; assumption))
        ((refine step_append_lies _ (by rfl) _ _ _ (by rfl) w1.heap.size 5 i0 _ 1 1 Tryd.underlying135 hi hz0 hz1 hz2 rfl (by omega) _ _ _ (by rfl) ((hown.alloc _).drew)
              ⟨wr.heap.size, 0, none⟩ 2 2 [.int .u8 (d / 256), .int .u8 (d % 256)] (by rfl) (by rfl) (World.news_of_block (cs := #[.int .u8 (d / 256), .int .u8 (d % 256)]) (t := 5) (fr := (0, 0)) (heap_alloc_new wr _)) (by simp [Value.oneCell'])
              (by omega) (by unfold maxLen; omega) (by omega) (by simp; omega) (wr.heap.size + 1) (by simp) ?_; intro gg cap w2 hown1 hgrow hat hlt))
      go_wp2
      go_roundg m
      case measure => have := HG.out; omega
      case rel =>
        refine ⟨m, by omega, rfl, rfl, ?_, ?_⟩
        · rw [HS.out, twos_snoc]
          have e16 : 16 - 2 * m = 16 - 2 * (m + 1) + 2 := by omega
          rw [e16]
          simpa [u8r] using hown1
        · exact hbel.trans (((Below.refl w1.heap.size wr).alloc hs2 _).drew.grown hgrow (by simp; omega) (fun k hk => by have := (hown.lt k hk).1; omega))
end Go.Proofs.YtkecekfapiegjaaDoor
