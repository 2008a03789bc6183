/-
  paymasterref10's One and All, walked.
-/
import Derived.Test.YthindbmgnkohhaaDoorR10Row
import Derived.Test.YthindbmgnkohhaaDoorM9Ref
import Derived.Test.YthindbmgnkohhaaDoorU10All
import Derived.Test.YthindbmgnkohhaaDoorD9Back
namespace Go.Proofs.YthindbmgnkohhaaDoor
set_option linter.unusedVariables false
set_option linter.unusedSimpArgs false
set_option maxRecDepth 10000
open Go.RowKit Go.Lib

set_option maxRecDepth 100000 in
set_option maxHeartbeats 4000000 in
theorem rone_any (s : ByteArray) (hs : s.size ≤ 1000000) (w : World) :
    Calls Tryd.prog 27 #[.string s] w (Tells (.tuple #[(tell s.data.toList).1.val, .bool (tell s.data.toList).2.1, .int .i64 (tell s.data.toList).2.2]) w.heap.size w) := by
  have cW := fun u => rwrong_any s hs u
  have cP := fun u => rrowparse_any s hs u
  have H0 := (Has.start w).add 50 (rwB ⟨#[]⟩ 0 0)
  by_cases hw : wrongL s.data.toList = 0
  · rw [hw] at cW
    by_cases hk : kindL s.data.toList = 2
    · have et : tell s.data.toList = ((parR s.data.toList).1, decide ((parR s.data.toList).2 = 0), (parR s.data.toList).2) := by unfold tell; rw [if_neg (by omega)]
      rw [et]
      have hsz : 0 < s.size := by
        rw [← ba_size]
        cases h : s.data.toList with
        | nil => rw [h] at hk; cases hk
        | cons c r => simp
      obtain ⟨b, hbb⟩ : ∃ b, (s[0]'hsz) = b := ⟨_, rfl⟩
      have hbk := byte_at s 0 hsz
      rw [hbb] at hbk
      have hbn : (s[0]'hsz).toNat = b.toNat := by rw [hbb]
      have hb35 : ¬ b.toNat = 35 := fun h => by
        have h2 := u8_eq b 35 h (by decide)
        subst h2
        cases hl : s.data.toList with
        | nil => rw [hl] at hk; cases hk
        | cons c r =>
          rw [hl] at hbk hk
          have : c = 35 := by simpa using hbk
          subst this
          cases hk
      have hsi : ¬ ((s.size : Int) = 0) := by omega
      have hsb : ((s.size : Int) == 0) = false := beq_false_of_ne hsi
      have hsp : (0 : Int) < (s.size : Int) := by omega
      generalize b.toNat = n at *
      have hni : ¬ ((n : Int) = 35) := by omega
      have hnb : ((n : Int) == 35) = false := beq_false_of_ne hni
      clear hw hk et hbk hbb
      generalize parR s.data.toList = q at *
      obtain ⟨⟨i, h, l⟩, z⟩ := q
      simp only [Rw.val] at cP ⊢
      have hz : ((z : Int) == 0) = decide (z = 0) := by rw [Bool.eq_iff_iff]; simp
      generalize decide (z = 0) = zb at *
      go_enter Tryd.func27, Tryd.ntmps27
      go_upto_region 1 with fail
      change Code.wp _ _ _ _ (w.alloc (.cells (rwB ⟨#[]⟩ 0 0) 50))
      generalize w.alloc (.cells (rwB ⟨#[]⟩ 0 0) 50) = W at *
      go_upto_region 2 with (first
        | (go_at_call 50; refine (cW _).mono ?_; rintro e w1 ⟨rfl, j1⟩; have H1 := H0.call j1)
        | fail)
      obtain ⟨y0, y1, y2, g0, g1, g2, hin1⟩ := (H1.box 0).three
      clear y0 y1 y2 g0 g1 g2 hin1
      go_upto_region 7 with (first
        | (go_at_call 51; refine (cP _).mono ?_; rintro e w2 ⟨rfl, j2⟩; have H2 := H1.call j2)
        | fail)
      have H3 := H2.add 50 (rwB i h l)
      have hlt : w.heap.size < w2.heap.size := (H2.box 0).inside
      change Code.wp _ _ _ _ (w2.alloc (.cells (rwB i h l) 50))
      generalize w2.alloc (.cells (rwB i h l) 50) = W3 at *
      generalize w2.heap.size = g at *
      obtain ⟨y0, y1, y2, g0, g1, g2, hin1⟩ := (H3.box 1).three
      obtain ⟨z0, z1, z2, -, -, -, hin2⟩ := (H3.box 0).three
      go_wp2
      have BX := (H3.box 1).put3 (.string i) (.int .u64 h) (.int .u64 l)
      have LX := below_put3 (g := w.heap.size) H3.below (Nat.le_refl _) (.string i) (.int .u64 h) (.int .u64 l)
      generalize World.setCell (World.setCell (World.setCell _ _ _) _ _) _ _ = X at *
      obtain ⟨x0, x1, x2, -, -, -, hgx⟩ := BX.three
      exact bodyPost_ret (v := .tuple #[.agg #[.string i, .int .u64 h, .int .u64 l], .bool zb, .int .i64 z]) (by simp [results, Tryd.results27, go_sem, x0, x1, x2]) rfl ⟨rfl, LX⟩
    · have et : tell s.data.toList = (Rw.zero, false, 0) := by unfold tell; rw [if_pos (by omega), hw]
      rw [et]
      clear et cP
      by_cases h0 : s.size = 0
      · have hsi : ((s.size : Int) = 0) := by omega
        clear hw hk
        go_enter Tryd.func27, Tryd.ntmps27
        go_upto_region 1 with fail
        change Code.wp _ _ _ _ (w.alloc (.cells (rwB ⟨#[]⟩ 0 0) 50))
        generalize w.alloc (.cells (rwB ⟨#[]⟩ 0 0) 50) = W at *
        go_upto_region 2 with (first
          | (go_at_call 50; refine (cW _).mono ?_; rintro e w1 ⟨rfl, j1⟩; have H1 := H0.call j1)
          | fail)
        obtain ⟨y0, y1, y2, g0, g1, g2, hin1⟩ := (H1.box 0).three
        go_wp2
        have BX := (H1.box 0).put3 (.string ⟨#[]⟩) (.int .u64 0) (.int .u64 0)
        have LX := below_put3 (g := w.heap.size) H1.below (Nat.le_refl _) (.string ⟨#[]⟩) (.int .u64 0) (.int .u64 0)
        generalize World.setCell (World.setCell (World.setCell _ _ _) _ _) _ _ = X at *
        obtain ⟨x0, x1, x2, -, -, -, hgx⟩ := BX.three
        exact bodyPost_ret (v := .tuple #[Rw.zero.val, .bool false, .int .i64 0]) (by simp [results, Tryd.results27, go_sem, Rw.val, Rw.zero, x0, x1, x2]) rfl ⟨rfl, LX⟩
      · have hsz : 0 < s.size := by omega
        obtain ⟨b, hbb⟩ : ∃ b, (s[0]'hsz) = b := ⟨_, rfl⟩
        have hbk := byte_at s 0 hsz
        rw [hbb] at hbk
        have hb35 : b = 35 := by
          cases hl : s.data.toList with
          | nil => rw [hl] at hbk; cases hbk
          | cons c r =>
            rw [hl] at hbk hk
            have hc : c = b := by simpa using hbk
            subst hc
            by_cases hc : c = 35
            · exact hc
            · exact absurd (show kindL (c :: r) = 2 from if_neg hc) hk
        subst hb35
        have hbn : (s[0]'hsz).toNat = 35 := by rw [hbb]; rfl
        have hsi : ¬ ((s.size : Int) = 0) := by omega
        have hsb : ((s.size : Int) == 0) = false := beq_false_of_ne hsi
        have hsp : (0 : Int) < (s.size : Int) := by omega
        clear hw hk hbk hbb
        go_enter Tryd.func27, Tryd.ntmps27
        go_upto_region 1 with fail
        change Code.wp _ _ _ _ (w.alloc (.cells (rwB ⟨#[]⟩ 0 0) 50))
        generalize w.alloc (.cells (rwB ⟨#[]⟩ 0 0) 50) = W at *
        go_upto_region 2 with (first
          | (go_at_call 50; refine (cW _).mono ?_; rintro e w1 ⟨rfl, j1⟩; have H1 := H0.call j1)
          | fail)
        obtain ⟨y0, y1, y2, g0, g1, g2, hin1⟩ := (H1.box 0).three
        go_wp2
        have BX := (H1.box 0).put3 (.string ⟨#[]⟩) (.int .u64 0) (.int .u64 0)
        have LX := below_put3 (g := w.heap.size) H1.below (Nat.le_refl _) (.string ⟨#[]⟩) (.int .u64 0) (.int .u64 0)
        generalize World.setCell (World.setCell (World.setCell _ _ _) _ _) _ _ = X at *
        obtain ⟨x0, x1, x2, -, -, -, hgx⟩ := BX.three
        exact bodyPost_ret (v := .tuple #[Rw.zero.val, .bool false, .int .i64 0]) (by simp [results, Tryd.results27, go_sem, Rw.val, Rw.zero, x0, x1, x2]) rfl ⟨rfl, LX⟩
  · have et : tell s.data.toList = (Rw.zero, false, wrongL s.data.toList) := if_pos (Or.inl hw)
    rw [et]
    clear et cP
    generalize wrongL s.data.toList = A at *
    have hwi : ¬ ((A : Int) = 0) := by omega
    go_enter Tryd.func27, Tryd.ntmps27
    go_upto_region 1 with fail
    change Code.wp _ _ _ _ (w.alloc (.cells (rwB ⟨#[]⟩ 0 0) 50))
    generalize w.alloc (.cells (rwB ⟨#[]⟩ 0 0) 50) = W at *
    go_upto_region 2 with (first
      | (go_at_call 50; refine (cW _).mono ?_; rintro e w1 ⟨rfl, j1⟩; have H1 := H0.call j1)
      | fail)
    obtain ⟨y0, y1, y2, g0, g1, g2, hin1⟩ := (H1.box 0).three
    go_wp2
    have BX := (H1.box 0).put3 (.string ⟨#[]⟩) (.int .u64 0) (.int .u64 0)
    have LX := below_put3 (g := w.heap.size) H1.below (Nat.le_refl _) (.string ⟨#[]⟩) (.int .u64 0) (.int .u64 0)
    generalize World.setCell (World.setCell (World.setCell _ _ _) _ _) _ _ = X at *
    obtain ⟨x0, x1, x2, -, -, -, hgx⟩ := BX.three
    exact bodyPost_ret (v := .tuple #[Rw.zero.val, .bool false, .int .i64 A]) (by simp [results, Tryd.results27, go_sem, Rw.val, Rw.zero, x0, x1, x2]) rfl ⟨rfl, LX⟩

end Go.Proofs.YthindbmgnkohhaaDoor
