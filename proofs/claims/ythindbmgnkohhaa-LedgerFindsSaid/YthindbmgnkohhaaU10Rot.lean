/-
  slices' rotateCmpFunc at rows, walked.
-/
import Derived.Test.YthindbmgnkohhaaU10Mem
namespace Go.Proofs.Ythindbmgnkohhaa
set_option linter.unusedVariables false
set_option linter.unusedSimpArgs false
set_option maxRecDepth 10000
open Go.RowKit Go.Sort

set_option maxRecDepth 100000 in
set_option maxHeartbeats 4000000 in
theorem rotate_any (B g cap a m b : Nat) (d0 : Array Rw) (f : Value) (w : World) (h : RowBox w g d0) (hB : B ≤ g) (ham : a < m) (hmb : m < b) (hb : b ≤ d0.size) (hs : d0.size ≤ 1000000000) :
    Calls Try.prog 23 #[.slice (some ⟨g, 0, none⟩) d0.size cap, .int .i64 a, .int .i64 m, .int .i64 b, f] w fun e w' => e = .returned (.tuple #[]) ∧
      ∃ d, Ran B g w d w' ∧ d.size = d0.size ∧ ∀ x, d[x]! = if a ≤ x ∧ x < a + (b - m) then d0[x - a + m]! else if a + (b - m) ≤ x ∧ x < b then d0[x - (b - m)]! else d0[x]! := by
  obtain ⟨N, hN⟩ : ∃ N, d0.size = N := ⟨_, rfl⟩
  obtain ⟨T, hT⟩ : ∃ T : Nat → Rw, T = fun x => if a ≤ x ∧ x < a + (b - m) then d0[x - a + m]! else if a + (b - m) ≤ x ∧ x < b then d0[x - (b - m)]! else d0[x]! := ⟨_, rfl⟩
  have w1 : IntKind.i64.wrap ((m : Int) - (a : Int)) = ((m - a : Nat) : Int) := by rw [IntKind.wrap_i64]; omega
  have w2 : IntKind.i64.wrap ((b : Int) - (m : Int)) = ((b - m : Nat) : Int) := by rw [IntKind.wrap_i64]; omega
  have hst : ∀ x, (x < m - (m - a) ∨ m + (b - m) ≤ x → d0[x]! = T x) ∧ (m - (m - a) ≤ x ∧ x < m - (m - a) + (b - m) → T x = d0[x + (m - a)]!) ∧ (m - (m - a) + (b - m) ≤ x ∧ x < m + (b - m) → T x = d0[x - (b - m)]!) := fun x => by
    rw [hT]
    refine ⟨fun k => ?_, fun k => ?_, fun k => ?_⟩
    · simp only
      rw [if_neg (by omega), if_neg (by omega)]
    · simp only
      rw [if_pos (by omega)]
      congr 1; omega
    · simp only
      rw [if_neg (by omega), if_pos (by omega)]
  have hfin : ∀ d : Array Rw, (∀ x, d[x]! = T x) → ∀ x, d[x]! = if a ≤ x ∧ x < a + (b - m) then d0[x - a + m]! else if a + (b - m) ≤ x ∧ x < b then d0[x - (b - m)]! else d0[x]! := fun d hd x => by rw [hd x, hT]
  have HF := hideIt hfin
  have HS := hideIt hst
  rw [hN]
  clear hT hfin hst
  go_enter Try.func23, Try.ntmps23
  go_wp2
  go_loopg [10, 11] (b - a) (fun gk i j wr => ∃ (p q : Nat) (d : Array Rw), 1 ≤ p ∧ 1 ≤ q ∧ p ≤ m - a ∧ q ≤ b - m ∧ p + q ≤ gk ∧ i = .int .i64 p ∧ j = .int .i64 q ∧ RowBox wr g d ∧ Below B w wr ∧ d.size = N ∧
    Hid (∀ x, (x < m - p ∨ m + q ≤ x → d[x]! = T x) ∧ (m - p ≤ x ∧ x < m - p + q → T x = d[x + p]!) ∧ (m - p + q ≤ x ∧ x < m + q → T x = d[x - q]!)))
  case atStart => exact ⟨m - a, b - m, d0, by omega, by omega, Nat.le_refl _, Nat.le_refl _, by omega, by go_num, by go_num, h, Below.refl _ _, hN, HS⟩
  case round =>
    obtain ⟨p, q, d, hp, hq, hpm, hqm, hgk, rfl, rfl, hR, hb', hds, hspec⟩ := hrel
    have c1 := fun (a' b' n' : Nat) (h1 : a' + n' ≤ b') (h2 : b' + n' ≤ d.size) => swapRange_any B g cap a' b' n' d f wr hR hB h1 h2 (by omega)
    rw [hds] at c1
    have w3 : IntKind.i64.wrap ((m : Int) - (p : Int)) = ((m - p : Nat) : Int) := by rw [IntKind.wrap_i64]; omega
    by_cases hpq : p = q
    · subst hpq
      have cS := c1 (m - p) m p (by omega) (by omega)
      go_wp2_with (first
        | (go_at_call 24; refine cS.mono ?_; rintro e v2 ⟨rfl, d2, ⟨hR2, hB2⟩, hd2, hsp⟩)
        | fail)
      go_end0
      refine ⟨rfl, d2, ⟨hR2, hb'.trans hB2⟩, by omega, HF.out d2 fun x => ?_⟩
      obtain ⟨s1, s2, s3⟩ := hspec.out x
      rw [hsp x]
      by_cases k1 : m - p ≤ x ∧ x < m - p + p
      · rw [if_pos k1, s2 k1]
        congr 1; omega
      · rw [if_neg k1]
        by_cases k2 : m ≤ x ∧ x < m + p
        · rw [if_pos k2, s3 (by omega)]
          congr 1; omega
        · rw [if_neg k2]
          exact s1 (by omega)
    · have hpqi : ¬ ((p : Int) = (q : Int)) := by omega
      have hpqb : ((p : Int) == (q : Int)) = false := beq_false_of_ne hpqi
      by_cases hlt : q < p
      · have hlti : (q : Int) < (p : Int) := by omega
        have w4 : IntKind.i64.wrap ((p : Int) - (q : Int)) = ((p - q : Nat) : Int) := by rw [IntKind.wrap_i64]; omega
        have cS := c1 (m - p) m q (by omega) (by omega)
        go_wp2_with (first
          | (go_at_call 24; refine cS.mono ?_; rintro e v2 ⟨rfl, d2, ⟨hR2, hB2⟩, hd2, hsp⟩)
          | fail)
        go_roundg (p - q + q)
        case measure => omega
        case rel =>
          refine ⟨p - q, q, d2, by omega, by omega, by omega, by omega, by omega, by go_num, rfl, hR2, hb'.trans hB2, by omega, ?_⟩
          show ∀ x, _
          intro x
          have o := hspec.out
          refine ⟨fun k => ?_, fun k => ?_, fun k => ?_⟩
          · rw [hsp x]
            by_cases k1 : m - p ≤ x ∧ x < m - p + q
            · rw [if_pos k1, (o x).2.1 (by omega)]
              congr 1; omega
            · rw [if_neg k1]
              by_cases k2 : m ≤ x ∧ x < m + q
              · omega
              · rw [if_neg k2]
                exact (o x).1 (by omega)
          · rw [hsp (x + (p - q)), (o x).2.2 (by omega)]
            rw [if_neg (by omega), if_pos (by omega)]
            congr 1; omega
          · rw [hsp (x - q), (o x).2.2 (by omega)]
            rw [if_neg (by omega), if_neg (by omega)]
      · have hlti : ¬ (q : Int) < (p : Int) := by omega
        have w4 : IntKind.i64.wrap ((q : Int) - (p : Int)) = ((q - p : Nat) : Int) := by rw [IntKind.wrap_i64]; omega
        obtain ⟨MQ, hMQ⟩ : ∃ MQ, m + q = MQ := ⟨_, rfl⟩
        obtain ⟨R, hRR⟩ : ∃ R, m + q - p = R := ⟨_, rfl⟩
        obtain ⟨S, hSS⟩ : ∃ S, m - p = S := ⟨_, rfl⟩
        have w5 : IntKind.i64.wrap ((m : Int) + (q : Int)) = (MQ : Int) := by rw [IntKind.wrap_i64]; omega
        have w6 : IntKind.i64.wrap ((MQ : Int) - (p : Int)) = (R : Int) := by rw [IntKind.wrap_i64]; omega
        have cS := c1 S R p (by omega) (by omega)
        rw [hSS] at w3
        have HMQ := hideIt hMQ
        have HRR := hideIt hRR
        have HSS := hideIt hSS
        clear hMQ hRR hSS
        go_wp2_with (first
          | (go_at_call 24; refine cS.mono ?_; rintro e v2 ⟨rfl, d2, ⟨hR2, hB2⟩, hd2, hsp⟩)
          | fail)
        go_roundg (p + (q - p))
        case measure => omega
        case rel =>
          have hMQ := HMQ.out
          have hRR := HRR.out
          have hSS := HSS.out
          refine ⟨p, q - p, d2, by omega, by omega, by omega, by omega, by omega, rfl, by go_num, hR2, hb'.trans hB2, by omega, ?_⟩
          show ∀ x, _
          intro x
          have o := hspec.out
          refine ⟨fun k => ?_, fun k => ?_, fun k => ?_⟩
          · rw [hsp x]
            by_cases k1 : S ≤ x ∧ x < S + p
            · omega
            · rw [if_neg k1]
              by_cases k2 : R ≤ x ∧ x < R + p
              · rw [if_pos k2, (o x).2.2 (by omega)]
                congr 1; omega
              · rw [if_neg k2]
                exact (o x).1 (by omega)
          · rw [hsp (x + p), (o x).2.1 (by omega)]
            rw [if_neg (by omega), if_neg (by omega)]
          · rw [hsp (x - (q - p)), (o x).2.1 (by omega)]
            rw [if_pos (by omega)]
            congr 1; omega
end Go.Proofs.Ythindbmgnkohhaa
