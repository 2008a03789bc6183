/-
  paymasterref01.number, walked: the number of digits of base 65536, the least first; none where there is no room for it.
-/
import Derived.Test.YtfnbehijnmbhjaaDoorR1Digits
import Derived.RegionTactic
import Derived.ChangeAlike
namespace Go.Proofs.YtfnbehijnmbhjaaDoor
set_option linter.unusedVariables false
set_option linter.unusedSimpArgs false
set_option maxRecDepth 10000
open Go.RowKit

/-- The number of a row of digits. -/
def val : List Int → Int
  | [] => 0
  | d :: r => d + 65536 * val r
/-- Digits they are. -/
def AllDig (xs : List Int) : Prop := ∀ d ∈ xs, 0 ≤ d ∧ d < 65536

theorem val_nonneg : ∀ {xs : List Int}, AllDig xs → 0 ≤ val xs
  | [], _ => by simp [val]
  | d :: r, h => by
    have h1 := h d (by simp)
    have h2 := val_nonneg (xs := r) (fun x hx => h x (by simp [hx]))
    simp only [val]; omega
theorem val_drop {xs : List Int} {m : Nat} (hm : m < xs.length) : val (xs.drop m) = xs[m] + 65536 * val (xs.drop (m + 1)) := by
  rw [List.drop_eq_getElem_cons hm]; rfl
theorem val_drop_le : ∀ (m : Nat) {xs : List Int}, AllDig xs → 65536 ^ m * val (xs.drop m) ≤ val xs
  | 0, xs, _ => by simp
  | m + 1, [], _ => by simp [val]
  | m + 1, d :: r, h => by
    have h1 := h d (by simp)
    have h2 := val_drop_le m (xs := r) (fun x hx => h x (by simp [hx]))
    simp only [val, List.drop_succ_cons]
    have e : (65536 : Int) ^ (m + 1) * val (r.drop m) = 65536 * (65536 ^ m * val (r.drop m)) := by
      rw [Int.pow_succ, Int.mul_comm (65536 ^ m), Int.mul_assoc]
    rw [e]; omega
theorem AllDig.drop {xs : List Int} (h : AllDig xs) (m : Nat) : AllDig (xs.drop m) := fun d hd => h d (List.mem_of_mem_drop hd)
theorem val_append : ∀ (xs ys : List Int), val (xs ++ ys) = val xs + 65536 ^ xs.length * val ys
  | [], ys => by simp [val]
  | d :: r, ys => by
    simp only [List.cons_append, val, val_append r ys, List.length_cons, Int.pow_succ]
    rw [Int.mul_comm (65536 ^ r.length) 65536, Int.mul_assoc]; omega

/-- What stands in the two halves when the digits from place j on have been read: T is their number. -/
theorem half_step {T d : Int} {m : Nat} (hm : m < 4) (h0 : 0 ≤ T) (h1 : T < 65536 ^ (8 - (m + 1))) (d0 : 0 ≤ d) (d1 : d < 65536) :
    (d + 65536 * T) / 65536 ^ (4 - m) = T / 65536 ^ (4 - (m + 1)) ∧ (d + 65536 * T) % 65536 ^ (4 - m) = T % 65536 ^ (4 - (m + 1)) * 65536 + d ∧
    0 ≤ T % 65536 ^ (4 - (m + 1)) ∧ T % 65536 ^ (4 - (m + 1)) * 65536 + d < 18446744073709551616 ∧ 0 ≤ T / 65536 ^ (4 - (m + 1)) ∧ d + 65536 * T < 65536 ^ (8 - m) := by
  have hm' : m = 0 ∨ m = 1 ∨ m = 2 ∨ m = 3 := by omega
  rcases hm' with rfl | rfl | rfl | rfl <;> simp only [Nat.reduceAdd, Nat.reduceSub, Int.reducePow, Nat.zero_add, Int.pow_zero, Int.pow_succ] at h1 ⊢ <;> refine ⟨?_, ?_, ?_, ?_, ?_, ?_⟩ <;> omega

/-- What is told of a row of digits. -/
def NumTells (N : Int) (B : Nat) (w : World) (e : Ending) (w' : World) : Prop :=
  e = .returned (.tuple #[.agg #[.int .u64 (rh N), .int .u64 (rl N)], .bool (room N)]) ∧ Below B w w'

set_option maxHeartbeats 4000000 in
theorem number_any (g cap : Nat) (xs : List Int) (w : World) (hd : AllDig xs) (h8 : 8 ≤ xs.length) (hmax : xs.length ≤ 1000) (hg : g < w.heap.size)
    (hc : ∀ j u, (u64s xs)[j]? = some u → w.cell? ⟨g, j, none⟩ = some u) :
    Calls Tryd.prog 74 #[.slice (some ⟨g, 0, none⟩) xs.length cap] w (NumTells (val xs) w.heap.size w) := by
  go_enter Tryd.func74, Tryd.ntmps74
  go_wp2
  go_loopg [5] xs.length (fun gk i wr => ∃ j : Nat, j ≤ xs.length ∧ gk = j ∧ i = .int .i64 ((j : Int) - 1) ∧ val (xs.drop j) < 65536 ^ (8 - j) ∧
    Box wr w.heap.size 24 #[.int .u64 0, .int .u64 0] ∧
    Box wr (w.heap.size + 1) 24 #[.int .u64 (val (xs.drop j) / 65536 ^ (4 - j)), .int .u64 (val (xs.drop j) % 65536 ^ (4 - j))] ∧ Below w.heap.size w wr)
  case atStart => 
    refine ⟨xs.length, by omega, rfl, rfl, ?_, (Box.made _ _ _).past _, ?_, by repeat (first | exact Below.refl _ _ | apply Below.drew | apply below_drewN | refine Below.alloc ?_ (by simp; try omega) _ | refine Below.setCell ?_ (by simp; try omega) _)⟩
    · simp [val]; exact Int.pow_pos (by decide)
    · simpa [val] using Box.made (w.alloc _) _ _
  case round =>
    obtain ⟨j, hj, hgk, rfl, hT, hb0, hb1, hbel⟩ := hrel
    have HG := hideIt hgk
    clear hgk
    have hB := hb1.inside
    have T0 := val_nonneg (hd.drop j)
    have n0 : wr.cell? ⟨w.heap.size, 0, none⟩ = some (.int .u64 0) := hb0.read 0
    have n1 : wr.cell? ⟨w.heap.size, 1, none⟩ = some (.int .u64 0) := hb0.read 1
    have nf0 := hb0.free 0
    have nf1 := hb0.free 1
    have af0 := hb1.free 0
    have af1 := hb1.free 1
    by_cases hz : j = 0
    · subst hz
      have e4 : (65536 : Int) ^ (4 - 0) = 18446744073709551616 := rfl
      have e8 : (65536 : Int) ^ (8 - 0) = 340282366920938463463374607431768211456 := rfl
      simp only [e4, e8, List.drop_zero] at hT hb1 T0
      have hr : room (val xs) = true := room_iff.2 ⟨T0, hT⟩
      rw [← rh_yes hr, ← rl_yes hr] at hb1
      have a0 : wr.cell? ⟨w.heap.size + 1, 0, none⟩ = some (.int .u64 (rh (val xs))) := hb1.read 0
      have a1 : wr.cell? ⟨w.heap.size + 1, 1, none⟩ = some (.int .u64 (rl (val xs))) := hb1.read 1
      have HR := hideIt hr
      clear hr
      go_wp2
      exact bodyPost_ret (v := .tuple #[.agg #[.int .u64 (rh (val xs)), .int .u64 (rl (val xs))], .bool true]) (by simp [results, Tryd.results74, go_sem, n0, n1]) rfl ⟨by rw [HR.out], (hbel.setCell (by simp) _).setCell (by simp) _⟩
    · obtain ⟨m, rfl⟩ : ∃ m, j = m + 1 := ⟨j - 1, by omega⟩
      have em : (((m + 1 : Nat) : Int) - 1) = (m : Int) := by omega
      rw [em]
      have hm : m < xs.length := by omega
      obtain ⟨d0, d1⟩ := hd xs[m] (by simp)
      have hv := val_drop hm
      obtain ⟨d, ed⟩ : ∃ d, xs[m] = d := ⟨_, rfl⟩
      have cm : wr.cell? ⟨g, m, none⟩ = some (.int .u64 d) := by
        rw [hbel.cell (p := ⟨g, m, none⟩) hg]; exact hc m _ (by simp [u64s, ← ed, hm])
      rw [ed] at d0 d1 hv
      have hle := val_drop_le m hd
      obtain ⟨T, eT⟩ : ∃ T, val (xs.drop (m + 1)) = T := ⟨_, rfl⟩
      rw [eT] at hT hb1 T0 hv
      rw [hv] at hle
      have HV := hideIt hv
      have HE := hideIt eT
      have ED := hideIt ed
      clear hv eT ed hz em
      by_cases h8' : 8 ≤ m
      · have e8 : 8 - (m + 1) = 0 := by omega
        have e4 : 4 - (m + 1) = 0 := by omega
        rw [e8, Int.pow_zero] at hT
        have hT0 : T = 0 := by omega
        subst hT0
        rw [e4, Int.pow_zero] at hb1
        by_cases hdz : d = 0
        · subst hdz
          go_wp2
          go_roundg m
          case measure => have := HG.out; omega
          case rel =>
            have e4' : 4 - m = 0 := by omega
            have e8'' : 8 - m = 0 := by omega
            refine ⟨m, by omega, rfl, rfl, ?_, hb0, ?_, hbel⟩
            · rw [HV.out, e8'']; decide
            · rw [HV.out, e4', Int.pow_zero]; simpa using hb1
        · have hr : room (val xs) = false := by
            rw [room_not]
            have p8 : (65536 : Int) ^ m = 65536 ^ (m - 8) * 65536 ^ 8 := by rw [← Int.pow_add]; congr 1; omega
            have p1 : (1 : Int) ≤ 65536 ^ (m - 8) := Int.pow_pos (by decide)
            have p2 : (65536 : Int) ^ 8 ≤ 65536 ^ m := by
              rw [p8]; have := Int.mul_le_mul_of_nonneg_right p1 (show (0 : Int) ≤ 65536 ^ 8 by decide); rw [Int.one_mul] at this; exact this
            have p3 : (65536 : Int) ^ m ≤ 65536 ^ m * (d + 65536 * 0) := by
              have := Int.mul_le_mul_of_nonneg_left (show (1 : Int) ≤ d + 65536 * 0 by omega) (show (0 : Int) ≤ 65536 ^ m from Int.pow_nonneg (by decide)); rw [Int.mul_one] at this; exact this
            have p4 : (65536 : Int) ^ 8 = 340282366920938463463374607431768211456 := rfl
            omega
          have HR := hideIt hr
          clear hr hle
          go_wp2
          exact bodyPost_ret (v := .tuple #[.agg #[.int .u64 0, .int .u64 0], .bool false]) (by simp [results, Tryd.results74, go_sem, n0, n1]) rfl ⟨by rw [rh_no HR.out, rl_no HR.out, HR.out], (hbel.setCell (by simp) _).setCell (by simp) _⟩
      · clear hle
        by_cases h4 : 4 ≤ m
        · have e4 : 4 - (m + 1) = 0 := by omega
          have e4' : 4 - m = 0 := by omega
          have e8 : 8 - m = 8 - (m + 1) + 1 := by omega
          have h3 : (65536 : Int) ^ (8 - (m + 1)) ≤ 65536 ^ 3 := by
            have : m = 4 ∨ m = 5 ∨ m = 6 ∨ m = 7 := by omega
            rcases this with rfl | rfl | rfl | rfl <;> decide
          have h3' : (65536 : Int) ^ 3 = 281474976710656 := rfl
          have hT' : d + 65536 * T < 65536 ^ (8 - m) := by rw [e8, Int.pow_succ]; omega
          rw [e4, Int.pow_zero] at hb1
          have a0 : wr.cell? ⟨w.heap.size + 1, 0, none⟩ = some (.int .u64 T) := by have := hb1.read 0; simpa using this
          have b0 : T * 65536 + d < 18446744073709551616 := by omega
          have HT := hideIt hT'
          clear hT hT' h3 h3' e8
          go_wp2
          go_region
          go_wp2
          go_roundg m
          case measure => have := HG.out; omega
          case rel =>
            refine ⟨m, by omega, rfl, rfl, by rw [HV.out]; exact HT.out, (hb0.draw).apart (by simp) _, ?_, (hbel.drew).setCell (by simp) _⟩
            have q1 : (d + 65536 * T) / 1 = T * 65536 + d := by omega
            have q2 : (d + 65536 * T) % 1 = T % 1 := by omega
            rw [HV.out, e4', Int.pow_zero, q1, q2]
            exact hb1.wrote 0 _
        · obtain ⟨s1, s2, s3, s4, s5, s6⟩ := half_step (T := T) (d := d) (m := m) (by omega) T0 hT d0 d1
          obtain ⟨x, ex⟩ : ∃ x, T / 65536 ^ (4 - (m + 1)) = x := ⟨_, rfl⟩
          obtain ⟨y, ey⟩ : ∃ y, T % 65536 ^ (4 - (m + 1)) = y := ⟨_, rfl⟩
          rw [ex, ey] at hb1
          rw [ex] at s1 s5
          rw [ey] at s2 s3 s4
          have a1 : wr.cell? ⟨w.heap.size + 1, 1, none⟩ = some (.int .u64 y) := hb1.read 1
          have S1 := hideIt s1
          have S2 := hideIt s2
          have HT := hideIt s6
          clear s1 s2 s6 hT ex ey
          go_wp2
          go_region
          go_wp2
          go_roundg m
          case measure => have := HG.out; omega
          case rel =>
            refine ⟨m, by omega, rfl, rfl, by rw [HV.out]; exact HT.out, (hb0.draw).apart (by simp) _, ?_, (hbel.drew).setCell (by simp) _⟩
            rw [HV.out, S1.out, S2.out]
            exact hb1.draw.wrote 1 _
end Go.Proofs.YtfnbehijnmbhjaaDoor
