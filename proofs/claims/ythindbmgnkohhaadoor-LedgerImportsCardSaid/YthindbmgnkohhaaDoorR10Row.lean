/-
  paymasterref10's Parse, Text, One, walked.
-/
import Derived.Test.YthindbmgnkohhaaDoorM10Row
import Derived.Test.YthindbmgnkohhaaDoorM2Ref
import Derived.Test.YthindbmgnkohhaaDoorR7Id
import Derived.Test.YthindbmgnkohhaaDoorM9Ref
namespace Go.Proofs.YthindbmgnkohhaaDoor
set_option linter.unusedVariables false
set_option linter.unusedSimpArgs false
set_option maxRecDepth 10000
open Go.RowKit Go.Lib

theorem take_at {l : List UInt8} {k : Nat} {b : UInt8} (h : l[k]? = some b) : l.take (k + 1) = l.take k ++ [b] := by rw [List.take_add_one, h]; rfl
set_option maxRecDepth 100000 in
set_option maxHeartbeats 4000000 in
theorem rrowparse_any (s : ByteArray) (hs : s.size ≤ 1000000) (w : World) :
    Calls Tryd.prog 51 #[.string s] w (Tells (.tuple #[(parR s.data.toList).1.val, .int .i64 (parR s.data.toList).2]) w.heap.size w) := by
  have H0 := (Has.start w).add 50 (rwB ⟨#[]⟩ 0 0)
  obtain ⟨R, hR⟩ : ∃ R, parR s.data.toList = R := ⟨_, rfl⟩
  rw [hR]
  have HR := hideIt hR
  clear hR
  go_enter Tryd.func51, Tryd.ntmps51
  go_upto_region 1 with fail
  change Code.wp _ _ _ _ (w.alloc (.cells (rwB ⟨#[]⟩ 0 0) 50))
  generalize w.alloc (.cells (rwB ⟨#[]⟩ 0 0) 50) = W at *
  go_wp2
  go_loopg [4] s.size (fun gk i wr => ∃ k : Nat, k ≤ s.size ∧ gk = s.size - k ∧ i = .int .i64 k ∧ wr = W ∧ Hid ((32 : UInt8) ∉ s.data.toList.take k))
  case atStart => exact ⟨0, by omega, rfl, rfl, rfl, by simp [Hid]⟩
  case round =>
    obtain ⟨k, hk, hgk, rfl, rfl, hno⟩ := hrel
    have HG := hideIt hgk
    clear hgk
    have hkk : IntKind.i64.wrap ((k : Int) + 1) = ((k + 1 : Nat) : Int) := by rw [IntKind.wrap_i64]; omega
    obtain ⟨y0, y1, y2, g0, g1, g2, hin1⟩ := (H0.box 0).three
    by_cases hlt : k < s.size
    · have hlti : (k : Int) < (s.size : Int) := by omega
      have hbk := byte_at s k hlt
      obtain ⟨b, hbb⟩ : ∃ b, (s[k]'hlt) = b := ⟨_, rfl⟩
      rw [hbb] at hbk
      have hbn : (s[k]'hlt).toNat = b.toNat := by rw [hbb]
      by_cases h32 : b = 32
      · subst h32
        have hbn2 : (s[k]'hlt).toNat = 32 := hbn
        have hcut : cutL s.data.toList = some (s.data.toList.take k, s.data.toList.drop (k + 1)) := by
          refine (cutL_some _ _ _).2 ⟨?_, hno.out⟩
          have hkl : k < s.data.toList.length := by rw [ba_size]; exact hlt
          have e := List.drop_eq_getElem_cons hkl
          have e2 := List.getElem?_eq_getElem hkl
          rw [hbk] at e2
          injection e2 with e2
          rw [← e2] at e
          rw [← e, List.take_append_drop]
        have ex1 : s.extract 0 k = bA (s.data.toList.take k) := by rw [ext_mid]; simp
        have ex2 : s.extract (k + 1) s.size = bA (s.data.toList.drop (k + 1)) := bA_ext s (k + 1)
        obtain ⟨a, ha⟩ : ∃ a, s.data.toList.take k = a := ⟨_, rfl⟩
        obtain ⟨c, hc⟩ : ∃ c, s.data.toList.drop (k + 1) = c := ⟨_, rfl⟩
        rw [ha, hc] at hcut
        rw [ha] at ex1
        rw [hc] at ex2
        have hsz : a.length ≤ s.size ∧ c.length ≤ s.size := by rw [← ha, ← hc, List.length_take, List.length_drop, ba_size]; omega
        have cI := fun u => rmayId_any (bA a) (by rw [bA_size]; omega) u
        have cP := fun u => rparse_any (bA c) (by rw [bA_size]; omega) u
        simp only [bA_list] at cI
        unfold ParseTells at cP
        simp only [bA_list] at cP
        have hk1 : (k : Int) ≤ (s.size : Int) := by omega
        have hk2 : ((k + 1 : Nat) : Int) ≤ (s.size : Int) := by omega
        clear hno hbk hbb hbn ha hc hsz
        cases hi : isId a with
        | false =>
          have e := HR.out
          rw [parR_id hcut hi] at e
          subst e
          rw [hi] at cI
          clear HR hcut hi cP ex2
          go_wp2_with (first
            | (go_at_call 74; refine (cI _).mono ?_; rintro e w2 ⟨rfl, rfl⟩)
            | fail)
          have BX := (H0.box 0).put3 (.string ⟨#[]⟩) (.int .u64 0) (.int .u64 0)
          have LX := below_put3 (g := w.heap.size) H0.below (Nat.le_refl _) (.string ⟨#[]⟩) (.int .u64 0) (.int .u64 0)
          generalize World.setCell (World.setCell (World.setCell _ _ _) _ _) _ _ = X at *
          obtain ⟨x0, x1, x2, -, -, -, hgx⟩ := BX.three
          exact bodyPost_ret (v := .tuple #[Rw.zero.val, .int .i64 101]) (by simp [results, Tryd.results51, go_sem, Rw.val, Rw.zero, x0, x1, x2]) rfl ⟨rfl, LX⟩
        | true =>
          rw [hi] at cI
          by_cases hb : parE c = 0
          · have e := HR.out
            rw [parR_ok hcut hi hb] at e
            subst e
            rw [hb] at cP
            clear HR hcut hi hb y0 y1 y2 g0 g1 g2 hin1
            generalize parH c = ph at *
            generalize parL c = pl at *
            go_upto_region 10 with (first
              | (go_at_call 74; refine (cI _).mono ?_; rintro e w2 ⟨rfl, rfl⟩)
              | (go_at_call 75; refine (cP _).mono ?_; rintro e w3 ⟨rfl, j3⟩; have H3 := H0.call j3)
              | fail)
            have H4 := H3.add 45 #[.int .u64 ph, .int .u64 pl]
            have hlt2 : w.heap.size < w3.heap.size := (H3.box 0).inside
            obtain ⟨g, hg⟩ : ∃ g, w3.heap.size = g := ⟨_, rfl⟩
            rw [hg] at H4 hlt2 ⊢
            generalize w3.alloc _ = W4 at *
            have fct : ∀ u, Box u g 45 #[.int .u64 ph, .int .u64 pl] → u.cell? ⟨g, 0, none⟩ = some (.int .u64 ph) ∧ u.cell? ⟨g, 1, none⟩ = some (.int .u64 pl) ∧ g < u.heap.size := fun u h => ⟨h.read 0, h.read 1, h.inside⟩
            have f4 := fct _ (H4.drew.box 0)
            refine wp_region_held_drew (S := fun u => u.cell? ⟨g, 0, none⟩ = some (.int .u64 ph) ∧ u.cell? ⟨g, 1, none⟩ = some (.int .u64 pl) ∧ g < u.heap.size) (by kernel_rfl) f4 (fun hHeld => ?_)
            have H5 := H4.drew
            generalize W4.drew = w5 at *
            obtain ⟨y0, y1, y2, g0, g1, g2, hin1⟩ := (H5.box 1).three
            refine wpAnyH_take (i := 0) (v := ?_) rfl (by kernel_rfl) (by kernel_rfl) (by kernel_rfl) (fun _ _ _ h => h) (Or.inl ⟨by rfl, ?_⟩) (by assumption) ?_
            rotate_left 1
            · intro w hSw; (try dsimp only at hSw); go_simp; try with_reducible rfl
            try simp only [Act.put, List.getElem_toArray, List.getElem_cons_succ, List.getElem_cons_zero, List.setIfInBounds_toArray, List.set_cons_zero, List.set_cons_succ]
            refine wpAnyH_take (i := 1) (v := ?_) rfl (by kernel_rfl) (by kernel_rfl) (by kernel_rfl) (fun _ _ _ h => h) (Or.inl ⟨by rfl, ?_⟩) (by assumption) ?_
            rotate_left 1
            · intro w hSw; (try dsimp only at hSw); go_simp; try with_reducible rfl
            try simp only [Act.put, List.getElem_toArray, List.getElem_cons_succ, List.getElem_cons_zero, List.setIfInBounds_toArray, List.set_cons_zero, List.set_cons_succ]
            refine wpAnyH_take (i := 2) (v := ?_) rfl (by kernel_rfl) (by kernel_rfl) (by kernel_rfl) (fun _ _ _ h => h) (Or.inl ⟨by rfl, ?_⟩) (by assumption) ?_
            rotate_left 1
            · intro w hSw; (try dsimp only at hSw); go_simp; try with_reducible rfl
            try simp only [Act.put, List.getElem_toArray, List.getElem_cons_succ, List.getElem_cons_zero, List.setIfInBounds_toArray, List.set_cons_zero, List.set_cons_succ]
            refine wpAnyH_take (i := 3) (v := ?_) rfl (by kernel_rfl) (by kernel_rfl) (by kernel_rfl) (fun _ _ _ h => h) (Or.inl ⟨by rfl, ?_⟩) (by assumption) ?_
            rotate_left 1
            · intro w hSw; (try dsimp only at hSw); go_simp; try with_reducible rfl
            try simp only [Act.put, List.getElem_toArray, List.getElem_cons_succ, List.getElem_cons_zero, List.setIfInBounds_toArray, List.set_cons_zero, List.set_cons_succ]
            refine wpAnyH_take (i := 4) (v := ?_) rfl (by kernel_rfl) (by kernel_rfl) (by kernel_rfl) (fun _ _ _ h => h) (Or.inl ⟨by rfl, ?_⟩) (by assumption) ?_
            rotate_left 1
            · intro w hSw; (try dsimp only at hSw); go_simp; try with_reducible rfl
            try simp only [Act.put, List.getElem_toArray, List.getElem_cons_succ, List.getElem_cons_zero, List.setIfInBounds_toArray, List.set_cons_zero, List.set_cons_succ]
            refine wpAnyH_ready (rs := [5]) (by kernel_rfl) (by simp) (AllReadyH.cons rfl (fun K hK => ?_) AllReadyH.nil)
            go_simp
            have BX := (H5.box 1).put3 (.string (bA a)) (.int .u64 ph) (.int .u64 pl)
            have B6 := (((H5.box 0).apart (p := ⟨w.heap.size, 0, none⟩) (by dsimp only; omega) (.string (bA a))).apart (p := ⟨w.heap.size, 1, none⟩) (by dsimp only; omega) (.int .u64 ph)).apart (p := ⟨w.heap.size, 2, none⟩) (by dsimp only; omega) (.int .u64 pl)
            have LX := below_put3 (g := w.heap.size) H5.below (Nat.le_refl _) (.string (bA a)) (.int .u64 ph) (.int .u64 pl)
            generalize World.setCell (World.setCell (World.setCell _ _ _) _ _) _ _ = X at *
            have f6 := fct _ B6
            refine hK.out _ _ (f6) (fun hHeld => ?_)
            clear hK K
            try simp only [Act.put, List.getElem_toArray, List.getElem_cons_succ, List.getElem_cons_zero, List.setIfInBounds_toArray, List.set_cons_zero, List.set_cons_succ]
            refine wpAnyH_take (i := 6) (v := ?_) rfl (by kernel_rfl) (by kernel_rfl) (by kernel_rfl) (fun _ _ _ h => h) (Or.inl ⟨by rfl, ?_⟩) (by assumption) ?_
            rotate_left 1
            · intro w hSw; (try dsimp only at hSw); go_simp; try with_reducible rfl
            try simp only [Act.put, List.getElem_toArray, List.getElem_cons_succ, List.getElem_cons_zero, List.setIfInBounds_toArray, List.set_cons_zero, List.set_cons_succ]
            refine wpAnyH_done (by kernel_rfl) ?_ _
            go_wp2
            obtain ⟨x0, x1, x2, -, -, -, hgx⟩ := BX.three
            exact bodyPost_ret (v := .tuple #[Rw.val ⟨bA a, ph, pl⟩, .int .i64 0]) (by simp [results, Tryd.results51, go_sem, Rw.val, x0, x1, x2]) rfl ⟨rfl, LX⟩
          · have e := HR.out
            rw [parR_am hcut hi hb] at e
            subst e
            obtain ⟨pe, hpe⟩ : ∃ pe, parE c = pe := ⟨_, rfl⟩
            rw [hpe] at hb cP
            clear HR hcut hi hpe y0 y1 y2 g0 g1 g2 hin1
            generalize parH c = ph at *
            generalize parL c = pl at *
            go_upto_region 8 with (first
              | (go_at_call 74; refine (cI _).mono ?_; rintro e w2 ⟨rfl, rfl⟩)
              | (go_at_call 75; refine (cP _).mono ?_; rintro e w3 ⟨rfl, j3⟩; have H3 := H0.call j3)
              | fail)
            have H4 := H3.past (.cells #[.int .u64 ph, .int .u64 pl] 45)
            generalize w3.alloc _ = W4 at *
            obtain ⟨y0, y1, y2, g0, g1, g2, hin1⟩ := (H4.box 0).three
            go_wp2
            have BX := (H4.box 0).put3 (.string ⟨#[]⟩) (.int .u64 0) (.int .u64 0)
            have LX := below_put3 (g := w.heap.size) H4.below (Nat.le_refl _) (.string ⟨#[]⟩) (.int .u64 0) (.int .u64 0)
            generalize World.setCell (World.setCell (World.setCell _ _ _) _ _) _ _ = X at *
            obtain ⟨x0, x1, x2, -, -, -, hgx⟩ := BX.three
            exact bodyPost_ret (v := .tuple #[Rw.zero.val, .int .i64 102]) (by simp [results, Tryd.results51, go_sem, Rw.val, Rw.zero, x0, x1, x2]) rfl ⟨rfl, LX⟩
      · have hn32 : ¬ (b.toNat = 32) := fun h => h32 (u8_eq b 32 h (by decide))
        have hno2 : (32 : UInt8) ∉ s.data.toList.take (k + 1) := by
          rw [take_at hbk, List.mem_append, List.mem_singleton]
          rintro (h | h)
          · exact hno.out h
          · exact h32 h.symm
        have HN := hideIt hno2
        generalize b.toNat = n at *
        have hn32i : ¬ ((n : Int) = 32) := by omega
        have hn32b : ((n : Int) == 32) = false := beq_false_of_ne hn32i
        clear hno hbk hbb hno2 h32
        go_wp2
        go_roundg (s.size - (k + 1))
        case measure => have := HG.out; omega
        case rel => exact ⟨k + 1, by omega, rfl, by go_num, rfl, HN⟩
    · have e : k = s.size := by omega
      subst e
      have hcut : cutL s.data.toList = none := by
        rw [cutL_none]
        have := hno.out
        rw [List.take_of_length_le (by rw [ba_size]; omega)] at this
        exact this
      have e := HR.out
      rw [parR_none hcut] at e
      subst e
      clear HR hcut hno
      go_wp2
      have BX := (H0.box 0).put3 (.string ⟨#[]⟩) (.int .u64 0) (.int .u64 0)
      have LX := below_put3 (g := w.heap.size) H0.below (Nat.le_refl _) (.string ⟨#[]⟩) (.int .u64 0) (.int .u64 0)
      generalize World.setCell (World.setCell (World.setCell _ _ _) _ _) _ _ = X at *
      obtain ⟨x0, x1, x2, -, -, -, hgx⟩ := BX.three
      exact bodyPost_ret (v := .tuple #[Rw.zero.val, .int .i64 100]) (by simp [results, Tryd.results51, go_sem, Rw.val, Rw.zero, x0, x1, x2]) rfl ⟨rfl, LX⟩
end Go.Proofs.YthindbmgnkohhaaDoor
