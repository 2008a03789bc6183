/-
  slices' stableCmpFunc and SortStableFunc at rows, by their Ids, walked.
-/
import Derived.Test.YtfnbehijnmbhjaaDoorU10Sy1
import Derived.Test.YtfnbehijnmbhjaaDoorU10Sy2
import Derived.Test.YtfnbehijnmbhjaaDoorU10Sy3
import Derived.Test.YtfnbehijnmbhjaaDoorD10Blocks
namespace Go.Proofs.YtfnbehijnmbhjaaDoor
set_option linter.unusedVariables false
set_option linter.unusedSimpArgs false
set_option maxRecDepth 10000
open Go.RowKit Go.Sort

theorem sym_does (B g cap : Nat) (hB : B ≤ g) : ∀ (n a m b : Nat) (d : Array Rw) (w : World), b - a ≤ n → RowBox w g d → a < m → m < b → b ≤ d.size → d.size ≤ 1000000000 → Sl (sg d a m) → Sl (sg d m b) → SymDoes B g cap a m b d w
  | 0, a, m, b, d, w, hn, hR, h1, h2, h3, hs, hl, hr => by omega
  | n + 1, a, m, b, d, w, hn, hR, h1, h2, h3, hs, hl, hr => by
    by_cases k1 : a + 1 = m
    · subst k1
      exact sym1_any B g cap a b d w hR hB h2 h3 hs hr
    · by_cases k2 : m + 1 = b
      · subst k2
        exact sym2_any B g cap a m d w hR hB (by omega) h3 hs hl
      · exact sym3_any B g cap a m b d w hR hB (by omega) (by omega) h3 hs hl hr fun a' m' b' d' w' q1 q2 q3 q4 q5 q6 q7 q8 =>
          sym_does B g cap hB n a' m' b' d' w' (by omega) q2 q3 q4 (by omega) (by omega) q7 q8
theorem ins_does (B g cap a b : Nat) (d : Array Rw) (w : World) (h : RowBox w g d) (hB : B ≤ g) (hab : a ≤ b) (hb : b ≤ d.size) (hs : d.size ≤ 1000000000) :
    Calls Tryd.prog 79 #[.slice (some ⟨g, 0, none⟩) d.size cap, .int .i64 a, .int .i64 b, .func (.func 42) #[] #[]] w fun e w' => e = .returned (.tuple #[]) ∧
      ∃ e', Ran B g w e' w' ∧ Mg d e' a b :=
  (insert_any B g cap a b d w h hB hab hb hs).mono fun e w' k => ⟨k.1, _, k.2, ins_sorts d a b hab hb⟩
/-- What stays kept while segments are put in order. -/
theorem kept {d e e' : Array Rw} {a b n : Nat} (h : Keep d e 0 n) (hm : Mg e e' a b) (h1 : a ≤ b) (h2 : b ≤ n) : Keep d e' 0 n := h.trans (hm.1.wide (Nat.zero_le _) h1 h2)
set_option maxRecDepth 100000 in
set_option maxHeartbeats 4000000 in
theorem stable_any (B g cap : Nat) (d : Array Rw) (w : World) (h : RowBox w g d) (hB : B ≤ g) (hs : d.size ≤ 1000000000) :
    Calls Tryd.prog 64 #[.slice (some ⟨g, 0, none⟩) d.size cap, .int .i64 d.size, .func (.func 42) #[] #[]] w fun e w' => e = .returned (.tuple #[]) ∧
      ∃ e', Ran B g w e' w' ∧ Mg d e' 0 d.size := by
  obtain ⟨N, hN⟩ : ∃ N, d.size = N := ⟨_, rfl⟩
  rw [hN]
  go_enter Tryd.func64, Tryd.ntmps64
  go_wp2
  go_loopg [7, 8] N (fun gk va vb wr => ∃ (t A b : Nat) (e : Array Rw), va = .int .i64 A ∧ vb = .int .i64 b ∧ A + 20 = b ∧ A ≤ N ∧ N - A ≤ gk ∧ e.size = N ∧ RowBox wr g e ∧ Below B w wr ∧ Hid (t * 20 = A) ∧ Hid (Keep d e 0 N) ∧ Hid (Lo 20 t e))
  case atStart => exact ⟨0, 0, 20, d, by go_num, by go_num, rfl, Nat.zero_le _, by omega, hN, h, Below.refl _ _, rfl, Keep.refl _ _ _, lo_none _ _⟩
  case round =>
    obtain ⟨t, A, b, e, rfl, rfl, hAb, hAN, hgk, hes, hR, hb', HA, HK, HL⟩ := hrel
    by_cases hlt : b ≤ N
    · have hlti : (b : Int) ≤ (N : Int) := by omega
      obtain ⟨b2, hb2⟩ : ∃ b2, b + 20 = b2 := ⟨_, rfl⟩
      have w1 : IntKind.i64.wrap ((b : Int) + 20) = (b2 : Int) := by rw [IntKind.wrap_i64]; omega
      have cI := ins_does B g cap A b e wr hR hB (by omega) (by omega) (by omega)
      rw [hes] at cI
      go_wp2_with (first | (go_at_call 79; refine cI.mono ?_; rintro z v2 ⟨rfl, e2, ⟨hR2, hB2⟩, hm2⟩) | fail)
      go_roundg (N - b)
      case measure => omega
      case rel =>
        exact ⟨t + 1, b, b2, e2, rfl, rfl, hb2, hlt, Nat.le_refl _, hm2.size.trans hes, hR2, hb'.trans hB2, (by show (t + 1) * 20 = b; have := HA.out; omega), kept HK.out hm2 (by omega) hlt, lo_step HA.out hAb HL.out hm2⟩
    · have hlti : ¬ (b : Int) ≤ (N : Int) := by omega
      have cI := ins_does B g cap A N e wr hR hB hAN (by omega) (by omega)
      rw [hes] at cI
      go_wp2_with (first | (go_at_call 79; refine cI.mono ?_; rintro z v2 ⟨rfl, e2, ⟨hR2, hB2⟩, hm2⟩) | fail)
      have HH2 := hideIt (lo_end HA.out hAN (by omega) HL.out hm2)
      have HK2 := hideIt (kept HK.out hm2 hAN (Nat.le_refl _))
      have hes2 := hm2.size.trans hes
      have hb2 := hb'.trans hB2
      clear hm2 HA HK HL cI hR hb' hB2
      go_loopg [6, 7, 8] N (fun gk vs va vb wr => ∃ (s : Nat) (e : Array Rw), vs = .int .i64 s ∧ 20 ≤ s ∧ N - s ≤ gk ∧ s ≤ N + N + 20 ∧ e.size = N ∧ RowBox wr g e ∧ Below B w wr ∧ Hid (Keep d e 0 N) ∧ Hid (Hi s 0 N e))
      case atStart => exact ⟨20, e2, by go_num, Nat.le_refl _, by omega, by omega, hes2, hR2, hb2, HK2, HH2⟩
      case round =>
        obtain ⟨s, e, rfl, h20, hgk2, hsN, hes, hR, hb', HK, HH⟩ := hrel
        by_cases hls : s < N
        · have hlsi : (s : Int) < (N : Int) := by omega
          obtain ⟨S, hS⟩ : ∃ S, 2 * s = S := ⟨_, rfl⟩
          have w2 : IntKind.i64.wrap (2 * (s : Int)) = (S : Int) := by rw [IntKind.wrap_i64]; omega
          have w3 : IntKind.i64.wrap ((s : Int) * 2) = (S : Int) := by rw [IntKind.wrap_i64]; omega
          go_wp2
          go_loopg [7, 8] N (fun g3 va vb wr => ∃ (t A b : Nat) (e : Array Rw), va = .int .i64 A ∧ vb = .int .i64 b ∧ A + S = b ∧ A ≤ N ∧ N - A ≤ g3 ∧ e.size = N ∧ RowBox wr g e ∧ Below B w wr ∧ Hid (t * S = A) ∧ Hid (Keep d e 0 N) ∧ Hid (Lo S t e) ∧ Hid (Hi s (2 * t) N e))
          case atStart => exact ⟨0, 0, S, e, by go_num, by go_num, Nat.zero_add _, Nat.zero_le _, by omega, hes, hR, hb', Nat.zero_mul _, HK, lo_none _ _, HH⟩
          case round =>
            obtain ⟨t, A, b, e, rfl, rfl, hAb, hAN, hgk3, hes, hR, hb', HA, HK, HL, HH⟩ := hrel
            have HA2 := hideIt (show t * (2 * s) = A by rw [hS]; exact HA.out)
            obtain ⟨M, hM⟩ : ∃ M, A + s = M := ⟨_, rfl⟩
            have w4 : IntKind.i64.wrap ((A : Int) + (s : Int)) = (M : Int) := by rw [IntKind.wrap_i64]; omega
            by_cases hlt : b ≤ N
            · have hlti : (b : Int) ≤ (N : Int) := by omega
              obtain ⟨b2, hb2⟩ : ∃ b2, b + S = b2 := ⟨_, rfl⟩
              have w5 : IntKind.i64.wrap ((b : Int) + (S : Int)) = (b2 : Int) := by rw [IntKind.wrap_i64]; omega
              have q1 := hi_part HA2.out HH.out (b := A + s) (by omega) (by omega) (by omega)
              have q2 := hi_next HA2.out HH.out (b := b) (by omega) (by omega) hlt
              rw [hM] at q1 q2
              have cS := sym_does B g cap hB (b - A) A M b e wr (Nat.le_refl _) hR (by omega) (by omega) (by omega) (by omega) q1 q2
              unfold SymDoes at cS
              rw [hes] at cS
              clear q1 q2
              go_wp2_with (first | (go_at_call 80; refine cS.mono ?_; rintro z v2 ⟨rfl, e2, ⟨hR2, hB2⟩, hm2⟩) | fail)
              go_roundg (N - b)
              case measure => omega
              case rel =>
                exact ⟨t + 1, b, b2, e2, rfl, rfl, hb2, hlt, Nat.le_refl _, hm2.size.trans hes, hR2, hb'.trans hB2, (by show (t + 1) * S = b; rw [Nat.succ_mul, HA.out]; exact hAb), kept HK.out hm2 (by omega) hlt, lo_step HA.out hAb HL.out hm2,
                  hi_step HA2.out (by omega) HH.out hm2⟩
            · have hlti : ¬ (b : Int) ≤ (N : Int) := by omega
              by_cases hmn : M < N
              · have hmni : (M : Int) < (N : Int) := by omega
                have q1 := hi_part HA2.out HH.out (b := A + s) (by omega) (by omega) (by omega)
                have q2 := hi_next HA2.out HH.out (b := N) (by omega) (by omega) (Nat.le_refl _)
                rw [hM] at q1 q2
                have cS := sym_does B g cap hB (N - A) A M N e wr (Nat.le_refl _) hR (by omega) (by omega) (by omega) (by omega) q1 q2
                unfold SymDoes at cS
                rw [hes] at cS
                clear q1 q2
                go_wp2_with (first | (go_at_call 80; refine cS.mono ?_; rintro z v2 ⟨rfl, e2, ⟨hR2, hB2⟩, hm2⟩) | fail)
                go_roundg (N - S)
                case measure => omega
                case rel => exact ⟨S, e2, by go_num, by omega, Nat.le_refl _, by omega, hm2.size.trans hes, hR2, hb'.trans hB2, kept HK.out hm2 hAN (Nat.le_refl _), lo_end HA.out hAN (by omega) HL.out hm2⟩
              · have hmni : ¬ (M : Int) < (N : Int) := by omega
                have q1 := hi_part HA2.out HH.out (b := N) hAN (by omega) (Nat.le_refl _)
                have HH2 := hideIt (lo_end HA.out hAN (by omega) HL.out (Mg.none q1))
                clear q1
                go_wp2_with fail
                go_roundg (N - S)
                case measure => omega
                case rel => exact ⟨S, e, by go_num, by omega, Nat.le_refl _, by omega, hes, hR, hb', HK, HH2⟩
        · have hlsi : ¬ (s : Int) < (N : Int) := by omega
          go_wp2
          go_end0
          exact ⟨rfl, e, ⟨hR, hb'⟩, HK.out, hi_all HH.out (by omega)⟩
set_option maxRecDepth 100000 in
theorem sortstable_any (B g cap : Nat) (d : Array Rw) (w : World) (h : RowBox w g d) (hB : B ≤ g) (hs : d.size ≤ 1000000000) :
    Calls Tryd.prog 41 #[.slice (some ⟨g, 0, none⟩) d.size cap, .func (.func 42) #[] #[]] w fun e w' => e = .returned (.tuple #[]) ∧
      ∃ e', Ran B g w e' w' ∧ Mg d e' 0 d.size := by
  have cS := stable_any B g cap d w h hB hs
  obtain ⟨N, hN⟩ : ∃ N, d.size = N := ⟨_, rfl⟩
  rw [hN] at cS ⊢
  go_enter Tryd.func41, Tryd.ntmps41
  go_wp2_with (first | (go_at_call 64; refine cS.mono ?_; rintro z v2 ⟨rfl, e2, ⟨hR2, hB2⟩, hm2⟩) | fail)
  go_end0
  exact ⟨rfl, e2, ⟨hR2, hB2⟩, hm2⟩
end Go.Proofs.YtfnbehijnmbhjaaDoor
