/- Several of my texts, laid as one. -/
import Derived.Test.YtngofpdpangajaaDoorR1Bytes
import Derived.Test.YtngofpdpangajaaDoorU1Lex
import Derived.Test.YtngofpdpangajaaDoorU7Salt
import Derived.Test.YtngofpdpangajaaDoorM5Ref
/-
  paymasterref01.Bytes under the name of the text that it makes.
-/
namespace Go.Proofs.YtngofpdpangajaaDoor
set_option linter.unusedVariables false
set_option linter.unusedSimpArgs false
set_option maxRecDepth 10000
open Go.RowKit

theorem rubytes_any (h l : Int) (hh : Word h) (hl : Word l) (w : World) : Calls Tryd.prog 89 #[.agg #[.int .u64 h, .int .u64 l]] w (Tells (.string (textOf h l)) w.heap.size w) := rbytes_any h l hh hl w
end Go.Proofs.YtngofpdpangajaaDoor
/-
  paymasterref07's salts and first slots, walked: Salt, PadSalt, Pad, First.
-/
namespace Go.Proofs.YtngofpdpangajaaDoor
set_option linter.unusedVariables false
set_option linter.unusedSimpArgs false
set_option maxRecDepth 10000
open Go.RowKit

set_option maxHeartbeats 1000000 in
theorem rsalt_any (seed id : ByteArray) (h1 : seed.size ≤ 100000) (h2 : id.size ≤ 100000) (w : World) : Calls Tryd.prog 46 #[.string seed, .string id] w (Tells (.string (saltB seed id)) w.heap.size w) := by
  unfold saltB
  obtain ⟨X, hX⟩ : ∃ X, (⟨#[3]⟩ : ByteArray) ++ id = X := ⟨_, rfl⟩
  have zX : X.size = 1 + id.size := by rw [← hX, ByteArray.size_append]; rfl
  have hc := adds_any ⟨#[3]⟩ id X hX (by decide) (by omega)
  have cF := fun u => rhfirst_any seed X (by omega) (by omega) 16 u
  rw [hX]
  generalize firB (macB seed X.data.toList) 16 = R at *
  clear hX
  go_enter Tryd.func46, Tryd.ntmps46
  go_wp2_with (first | (go_at_call 71; refine (cF _).mono ?_; rintro e w1 ⟨rfl, b1⟩))
  go_ret
  exact ⟨rfl, b1⟩

set_option maxHeartbeats 1000000 in
theorem rpadSalt_any (seed : ByteArray) (n : Int) (h1 : seed.size ≤ 100000) (hn : Word n) (w : World) : Calls Tryd.prog 75 #[.string seed, .int .u64 n] w (Tells (.string (padSaltB seed n)) w.heap.size w) := by
  unfold padSaltB
  have cB := fun u => rubytes_any 0 n word_zero hn u
  have zB := textOf_size 0 n
  generalize textOf 0 n = B at *
  have zE : (B.extract 8 16).size = 8 := by rw [ByteArray.size_extract, zB]; rfl
  obtain ⟨E, hE⟩ : ∃ E, B.extract 8 16 = E := ⟨_, rfl⟩
  rw [hE] at zE
  obtain ⟨X, hX⟩ : ∃ X, (⟨#[4]⟩ : ByteArray) ++ E = X := ⟨_, rfl⟩
  have zX : X.size = 9 := by rw [← hX, ByteArray.size_append, zE]; rfl
  have hc := adds_any ⟨#[4]⟩ E X hX (by decide) (by omega)
  have cF := fun u => rhfirst_any seed X (by omega) (by omega) 16 u
  rw [hE, hX]
  generalize firB (macB seed X.data.toList) 16 = R at *
  clear hX
  go_enter Tryd.func75, Tryd.ntmps75
  go_wp2_with (first
    | (go_at_call 89; refine (cB _).mono ?_; rintro e w2 ⟨rfl, b2⟩)
    | (go_at_call 71; refine (cF _).mono ?_; rintro e w3 ⟨rfl, b3⟩))
  go_ret
  exact ⟨rfl, chain b2 b3⟩

set_option maxHeartbeats 1000000 in
theorem rpad_any (seed : ByteArray) (n : Int) (h1 : seed.size ≤ 100000) (hn : Word n) (w : World) : Calls Tryd.prog 58 #[.string seed, .int .u64 n] w (Tells (padLf seed n).val w.heap.size w) := by
  have cP := fun u => rpadSalt_any seed n h1 hn u
  unfold padLf
  generalize padSaltB seed n = R at *
  have B0 := Box.made w 46 #[.bool false, .string ⟨#[]⟩, .string ⟨#[]⟩, .int .u64 0, .int .u64 0]
  have L0 : Below w.heap.size w (w.alloc (.cells #[.bool false, .string ⟨#[]⟩, .string ⟨#[]⟩, .int .u64 0, .int .u64 0] 46)) := by repeat (first | exact Below.refl _ _ | apply Below.drew | apply below_drewN | refine Below.alloc ?_ (by simp; try omega) _ | refine Below.setCell ?_ (by simp; try omega) _)
  go_enter Tryd.func58, Tryd.ntmps58
  go_upto_region 1 with fail
  change Code.wp _ _ _ _ (w.alloc (.cells #[.bool false, .string ⟨#[]⟩, .string ⟨#[]⟩, .int .u64 0, .int .u64 0] 46))
  generalize w.alloc (.cells #[.bool false, .string ⟨#[]⟩, .string ⟨#[]⟩, .int .u64 0, .int .u64 0] 46) = W at *
  go_wp2_with (first
    | (go_at_call 75; refine (cP _).mono ?_; rintro e w1 ⟨rfl, b1⟩
       have B1 := B0.call b1
       obtain ⟨⟨y0, y1, y2, y3, y4⟩, ⟨g0, g1, g2, g3, g4⟩, hin1⟩ := B1.five0))
  have BX := B1.put5 (.bool true) (.string ⟨#[]⟩) (.string R) (.int .u64 0) (.int .u64 0)
  have LX := below_put5 (g := w.heap.size) (chain L0 b1) (by omega) (.bool true) (.string ⟨#[]⟩) (.string R) (.int .u64 0) (.int .u64 0)
  generalize World.setCell (World.setCell (World.setCell (World.setCell (World.setCell w1 _ _) _ _) _ _) _ _) _ _ = X at *
  obtain ⟨⟨x0, x1, x2, x3, x4⟩, -, hgx⟩ := BX.five0
  exact bodyPost_ret (v := Lf.val ⟨true, ⟨#[]⟩, R, 0, 0⟩) (by simp [results, Tryd.results58, go_sem, Lf.val, x0, x1, x2, x3, x4]) rfl ⟨rfl, LX⟩

set_option maxHeartbeats 2000000 in
theorem rfirst7_any (seed id : ByteArray) (k : Int) (h1 : seed.size ≤ 100000) (h2 : id.size ≤ 100000) (w : World) : Calls Tryd.prog 45 #[.string seed, .string id, .int .i64 k] w (Tells (.int .u64 (firstN seed id k)) w.heap.size w) := by
  unfold firstN
  by_cases hk : 0 ≤ k ∧ k ≤ 63
  · rw [if_pos hk]
    obtain ⟨m, rfl⟩ := Int.eq_ofNat_of_zero_le hk.1
    have hm : ¬ ((m : Int) < 0) := by omega
    have hm2 : ¬ ((63 : Int) < (m : Int)) := by omega
    obtain ⟨X, hX⟩ : ∃ X, (⟨#[5]⟩ : ByteArray) ++ id = X := ⟨_, rfl⟩
    have zX : X.size = 1 + id.size := by rw [← hX, ByteArray.size_append]; rfl
    have hc := adds_any ⟨#[5]⟩ id X hX (by decide) (by omega)
    have cF := fun u => rhnumber_any seed X (by omega) (by omega) u
    have hR := macN_bd seed X.data.toList
    rw [hX]
    generalize macN seed X.data.toList = R at *
    have hP0 := pow_word m (by omega)
    rw [Int.toNat_natCast]
    obtain ⟨P, hP⟩ : ∃ P : Int, 2 ^ m = P := ⟨_, rfl⟩
    rw [hP] at hP0 ⊢
    have hw : IntKind.u64.wrap ((2 : Int) ^ m) = P := by rw [hP, IntKind.wrap_u64]; omega
    have hw2 : ¬ P = 0 := by omega
    have hr : R.tmod P = R % P := Int.tmod_eq_emod_of_nonneg hR.1
    obtain ⟨Q, hQ⟩ : ∃ Q : Int, R % P = Q := ⟨_, rfl⟩
    have hq : Word Q := by rw [← hQ]; exact ⟨Int.emod_nonneg _ hw2, Int.lt_trans (Int.emod_lt_of_pos _ hP0.1) hP0.2⟩
    have hwq : IntKind.u64.wrap Q = Q := by rw [IntKind.wrap_u64]; have := hq.1; have := hq.2; omega
    rw [hQ] at hr ⊢
    have HP := hideIt hP
    clear hX hP hQ
    go_enter Tryd.func45, Tryd.ntmps45
    go_wp2
    go_loopg [7, 8] m (fun gk p i wr => ∃ j : Nat, j ≤ m ∧ gk = m - j ∧ i = .int .i64 j ∧ p = .int .u64 ((2 : Int) ^ j) ∧ wr = w)
    case atStart => exact ⟨0, by omega, rfl, rfl, rfl, rfl⟩
    case round =>
      obtain ⟨j, hj, hg, rfl, rfl, rfl⟩ := hrel
      have HG := hideIt hg
      clear hg
      by_cases hlt : j < m
      · have hlti : (j : Int) < (m : Int) := by omega
        have hp1 := pow_word (j + 1) (by omega)
        have hp2 : (2 : Int) ^ (j + 1) = 2 * 2 ^ j := by rw [Int.pow_succ]; omega
        obtain ⟨B, hB⟩ : ∃ B : Int, 2 ^ j = B := ⟨_, rfl⟩
        obtain ⟨B2, hB2⟩ : ∃ B2 : Int, 2 ^ (j + 1) = B2 := ⟨_, rfl⟩
        rw [hB2] at hp1 hp2
        rw [hB] at hp2 ⊢
        have hwb : IntKind.u64.wrap (2 * B) = B2 := by rw [IntKind.wrap_u64]; omega
        have HB2 := hideIt hB2
        have h2 : 2 * B = B2 := hp2.symm
        clear hB hB2 hp2 hw hw2
        go_wp2
        go_roundg (m - (j + 1))
        case measure => have := HG.out; omega
        case rel => exact ⟨j + 1, by omega, rfl, by go_num, by rw [HB2.out], rfl⟩
      · have e : j = m := by omega
        subst e
        have hlti : ¬ (j : Int) < (j : Int) := by omega
        rw [HP.out]
        clear hw
        go_wp2_with (first | (go_at_call 70; refine (cF _).mono ?_; rintro e w1 ⟨rfl, b1⟩))
        go_ret
        exact ⟨rfl, b1⟩
  · rw [if_neg hk]
    by_cases h0 : k < 0
    · go_enter Tryd.func45, Tryd.ntmps45
      go_wp2
      go_ret
      exact ⟨rfl, Below.refl _ _⟩
    · have h3 : (63 : Int) < k := by omega
      go_enter Tryd.func45, Tryd.ntmps45
      go_wp2
      go_ret
      exact ⟨rfl, Below.refl _ _⟩
end Go.Proofs.YtngofpdpangajaaDoor
