/-
  paymasterref10's One and All, walked.
-/
import Derived.Test.YtfnbehijnmbhjaaDoorR10Row
import Derived.Test.YtfnbehijnmbhjaaDoorM9Ref
import Derived.Test.YtfnbehijnmbhjaaDoorU10All
import Derived.Test.YtfnbehijnmbhjaaDoorD9Back
namespace Go.Proofs.YtfnbehijnmbhjaaDoor
set_option linter.unusedVariables false
set_option linter.unusedSimpArgs false
set_option maxRecDepth 10000
open Go.RowKit Go.Lib

set_option maxRecDepth 100000 in
set_option maxHeartbeats 4000000 in
theorem rone_any (s : ByteArray) (hs : s.size ≤ 1000000) (w : World) :
    Calls Tryd.prog 36 #[.string s] w (Tells (.tuple #[(tell s.data.toList).1.val, .bool (tell s.data.toList).2.1, .int .i64 (tell s.data.toList).2.2]) w.heap.size w) := by
  have cW := fun u => rwrong_any s hs u
  have cP := fun u => rrowparse_any s hs u
  have H0 := (Has.start w).add 26 (rwB ⟨#[]⟩ 0 0)
  by_cases hw : wrongL s.data.toList = 0
  · rw [hw] at cW
    by_cases hk : kindL s.data.toList = 2
    · have et : tell s.data.toList = ((parR s.data.toList).1, decide ((parR s.data.toList).2 = 0), (parR s.data.toList).2) := by unfold tell; rw [if_neg (by omega)]
      rw [et]
      have hsz : 0 < s.size := by
        rw [← ba_size]
        cases h : s.data.toList with
        | nil => rw [h] at hk; cases hk
        | cons c r => simp
      obtain ⟨b, hbb⟩ : ∃ b, (s[0]'hsz) = b := ⟨_, rfl⟩
      have hbk := byte_at s 0 hsz
      rw [hbb] at hbk
      have hbn : (s[0]'hsz).toNat = b.toNat := by rw [hbb]
      have hb35 : ¬ b.toNat = 35 := fun h => by
        have h2 := u8_eq b 35 h (by decide)
        subst h2
        cases hl : s.data.toList with
        | nil => rw [hl] at hk; cases hk
        | cons c r =>
          rw [hl] at hbk hk
          have : c = 35 := by simpa using hbk
          subst this
          cases hk
      have hsi : ¬ ((s.size : Int) = 0) := by omega
      have hsb : ((s.size : Int) == 0) = false := beq_false_of_ne hsi
      have hsp : (0 : Int) < (s.size : Int) := by omega
      generalize b.toNat = n at *
      have hni : ¬ ((n : Int) = 35) := by omega
      have hnb : ((n : Int) == 35) = false := beq_false_of_ne hni
      clear hw hk et hbk hbb
      generalize parR s.data.toList = q at *
      obtain ⟨⟨i, h, l⟩, z⟩ := q
      simp only [Rw.val] at cP ⊢
      have hz : ((z : Int) == 0) = decide (z = 0) := by rw [Bool.eq_iff_iff]; simp
      generalize decide (z = 0) = zb at *
      go_enter Tryd.func36, Tryd.ntmps36
      go_upto_region 1 with fail
      change Code.wp _ _ _ _ (w.alloc (.cells (rwB ⟨#[]⟩ 0 0) 26))
      generalize w.alloc (.cells (rwB ⟨#[]⟩ 0 0) 26) = W at *
      go_upto_region 2 with (first
        | (go_at_call 61; refine (cW _).mono ?_; rintro e w1 ⟨rfl, j1⟩; have H1 := H0.call j1)
        | fail)
      obtain ⟨y0, y1, y2, g0, g1, g2, hin1⟩ := (H1.box 0).three
      clear y0 y1 y2 g0 g1 g2 hin1
      go_upto_region 7 with (first
        | (go_at_call 11; refine (cP _).mono ?_; rintro e w2 ⟨rfl, j2⟩; have H2 := H1.call j2)
        | fail)
      have H3 := H2.add 26 (rwB i h l)
      have hlt : w.heap.size < w2.heap.size := (H2.box 0).inside
      change Code.wp _ _ _ _ (w2.alloc (.cells (rwB i h l) 26))
      generalize w2.alloc (.cells (rwB i h l) 26) = W3 at *
      generalize w2.heap.size = g at *
      obtain ⟨y0, y1, y2, g0, g1, g2, hin1⟩ := (H3.box 1).three
      obtain ⟨z0, z1, z2, -, -, -, hin2⟩ := (H3.box 0).three
      go_wp2
      have BX := (H3.box 1).put3 (.string i) (.int .u64 h) (.int .u64 l)
      have LX := below_put3 (g := w.heap.size) H3.below (Nat.le_refl _) (.string i) (.int .u64 h) (.int .u64 l)
      generalize World.setCell (World.setCell (World.setCell _ _ _) _ _) _ _ = X at *
      obtain ⟨x0, x1, x2, -, -, -, hgx⟩ := BX.three
      exact bodyPost_ret (v := .tuple #[.agg #[.string i, .int .u64 h, .int .u64 l], .bool zb, .int .i64 z]) (by simp [results, Tryd.results36, go_sem, x0, x1, x2]) rfl ⟨rfl, LX⟩
    · have et : tell s.data.toList = (Rw.zero, false, 0) := by unfold tell; rw [if_pos (by omega), hw]
      rw [et]
      clear et cP
      by_cases h0 : s.size = 0
      · have hsi : ((s.size : Int) = 0) := by omega
        clear hw hk
        go_enter Tryd.func36, Tryd.ntmps36
        go_upto_region 1 with fail
        change Code.wp _ _ _ _ (w.alloc (.cells (rwB ⟨#[]⟩ 0 0) 26))
        generalize w.alloc (.cells (rwB ⟨#[]⟩ 0 0) 26) = W at *
        go_upto_region 2 with (first
          | (go_at_call 61; refine (cW _).mono ?_; rintro e w1 ⟨rfl, j1⟩; have H1 := H0.call j1)
          | fail)
        obtain ⟨y0, y1, y2, g0, g1, g2, hin1⟩ := (H1.box 0).three
        go_wp2
        have BX := (H1.box 0).put3 (.string ⟨#[]⟩) (.int .u64 0) (.int .u64 0)
        have LX := below_put3 (g := w.heap.size) H1.below (Nat.le_refl _) (.string ⟨#[]⟩) (.int .u64 0) (.int .u64 0)
        generalize World.setCell (World.setCell (World.setCell _ _ _) _ _) _ _ = X at *
        obtain ⟨x0, x1, x2, -, -, -, hgx⟩ := BX.three
        exact bodyPost_ret (v := .tuple #[Rw.zero.val, .bool false, .int .i64 0]) (by simp [results, Tryd.results36, go_sem, Rw.val, Rw.zero, x0, x1, x2]) rfl ⟨rfl, LX⟩
      · have hsz : 0 < s.size := by omega
        obtain ⟨b, hbb⟩ : ∃ b, (s[0]'hsz) = b := ⟨_, rfl⟩
        have hbk := byte_at s 0 hsz
        rw [hbb] at hbk
        have hb35 : b = 35 := by
          cases hl : s.data.toList with
          | nil => rw [hl] at hbk; cases hbk
          | cons c r =>
            rw [hl] at hbk hk
            have hc : c = b := by simpa using hbk
            subst hc
            by_cases hc : c = 35
            · exact hc
            · exact absurd (show kindL (c :: r) = 2 from if_neg hc) hk
        subst hb35
        have hbn : (s[0]'hsz).toNat = 35 := by rw [hbb]; rfl
        have hsi : ¬ ((s.size : Int) = 0) := by omega
        have hsb : ((s.size : Int) == 0) = false := beq_false_of_ne hsi
        have hsp : (0 : Int) < (s.size : Int) := by omega
        clear hw hk hbk hbb
        go_enter Tryd.func36, Tryd.ntmps36
        go_upto_region 1 with fail
        change Code.wp _ _ _ _ (w.alloc (.cells (rwB ⟨#[]⟩ 0 0) 26))
        generalize w.alloc (.cells (rwB ⟨#[]⟩ 0 0) 26) = W at *
        go_upto_region 2 with (first
          | (go_at_call 61; refine (cW _).mono ?_; rintro e w1 ⟨rfl, j1⟩; have H1 := H0.call j1)
          | fail)
        obtain ⟨y0, y1, y2, g0, g1, g2, hin1⟩ := (H1.box 0).three
        go_wp2
        have BX := (H1.box 0).put3 (.string ⟨#[]⟩) (.int .u64 0) (.int .u64 0)
        have LX := below_put3 (g := w.heap.size) H1.below (Nat.le_refl _) (.string ⟨#[]⟩) (.int .u64 0) (.int .u64 0)
        generalize World.setCell (World.setCell (World.setCell _ _ _) _ _) _ _ = X at *
        obtain ⟨x0, x1, x2, -, -, -, hgx⟩ := BX.three
        exact bodyPost_ret (v := .tuple #[Rw.zero.val, .bool false, .int .i64 0]) (by simp [results, Tryd.results36, go_sem, Rw.val, Rw.zero, x0, x1, x2]) rfl ⟨rfl, LX⟩
  · have et : tell s.data.toList = (Rw.zero, false, wrongL s.data.toList) := if_pos (Or.inl hw)
    rw [et]
    clear et cP
    generalize wrongL s.data.toList = A at *
    have hwi : ¬ ((A : Int) = 0) := by omega
    go_enter Tryd.func36, Tryd.ntmps36
    go_upto_region 1 with fail
    change Code.wp _ _ _ _ (w.alloc (.cells (rwB ⟨#[]⟩ 0 0) 26))
    generalize w.alloc (.cells (rwB ⟨#[]⟩ 0 0) 26) = W at *
    go_upto_region 2 with (first
      | (go_at_call 61; refine (cW _).mono ?_; rintro e w1 ⟨rfl, j1⟩; have H1 := H0.call j1)
      | fail)
    obtain ⟨y0, y1, y2, g0, g1, g2, hin1⟩ := (H1.box 0).three
    go_wp2
    have BX := (H1.box 0).put3 (.string ⟨#[]⟩) (.int .u64 0) (.int .u64 0)
    have LX := below_put3 (g := w.heap.size) H1.below (Nat.le_refl _) (.string ⟨#[]⟩) (.int .u64 0) (.int .u64 0)
    generalize World.setCell (World.setCell (World.setCell _ _ _) _ _) _ _ = X at *
    obtain ⟨x0, x1, x2, -, -, -, hgx⟩ := BX.three
    exact bodyPost_ret (v := .tuple #[Rw.zero.val, .bool false, .int .i64 A]) (by simp [results, Tryd.results36, go_sem, Rw.val, Rw.zero, x0, x1, x2]) rfl ⟨rfl, LX⟩

set_option maxRecDepth 100000 in
set_option maxHeartbeats 8000000 in
theorem rrowall_any (s : ByteArray) (hs : s.size ≤ 1000000) (w : World) :
    Calls Tryd.prog 16 #[.string s] w fun e W => ∃ v, e = .returned (.tuple #[v, .int .i64 (errF (linesL s.data.toList)).1, .int .i64 (errF (linesL s.data.toList)).2]) ∧
      W.ownsRow w.heap.size 26 3 v (allRows (linesL s.data.toList)).length (rowCs (allRows (linesL s.data.toList))) ∧ Below w.heap.size w W := by
  obtain ⟨i0, hi, hz0, hz1, hz2⟩ := info_parts info_row
  obtain ⟨A, hA⟩ : ∃ A, linesL s.data.toList = A := ⟨_, rfl⟩
  rw [hA]
  have HA := hideIt hA
  clear hA
  have cS := fun u => rsplit_any s hs u
  have hmem := split_mem s.data.toList
  have hne := split_ne s.data.toList
  unfold linesL at HA
  have hln := split_len s.data.toList
  have hcl := List.count_le_length (l := s.data.toList) (a := (10 : UInt8))
  rw [ba_size] at hmem hcl
  generalize splitL s.data.toList = l at *
  have hpos : 0 < l.length := List.length_pos_iff.2 hne
  have hll : l.length ≤ 1000001 := by omega
  have HM := hideIt hmem
  clear hmem hne hln hcl
  go_enter Tryd.func16, Tryd.ntmps16
  go_upto_region 4 with (first | (go_at_call 35; refine (cS _).mono ?_; rintro e w1 ⟨v, rfl, hO, b1⟩; obtain ⟨g, cap, rfl, hg, hgl, -, -, hcell, -⟩ := own_row hO hpos))
  go_wp2
  go_loopg [6, 7, 8, 9, 10] l.length (fun gk v i a b e wr => ∃ k : Nat, k ≤ l.length ∧ gk = l.length - k ∧ i = .int .i64 k ∧ wr.ownsRow w1.heap.size 26 3 v (rowsF (numb 1 (l.take k))).length (rowCs (rowsF (numb 1 (l.take k)))) ∧ Below w1.heap.size w1 wr ∧ Hid (AllTell (numb 1 (l.take k))))
  case atStart => exact ⟨0, by omega, rfl, rfl, World.ownsRow_nil _ _ _ _, Below.refl _ _, fun x hx => by simp [numb] at hx⟩
  case round =>
    obtain ⟨k, hk, hgk, rfl, hown, hb, hid⟩ := hrel
    have HG := hideIt hgk
    clear hgk
    have hkk : IntKind.i64.wrap ((k : Int) + 1) = ((k + 1 : Nat) : Int) := by rw [IntKind.wrap_i64]; omega
    by_cases hlt : k < l.length
    · obtain ⟨x, hx⟩ : ∃ x, l[k]? = some x := ⟨_, List.getElem?_eq_getElem hlt⟩
      have hsn : numb 1 (l.take (k + 1)) = numb 1 (l.take k) ++ [(k + 1, x)] := by
        rw [List.take_add_one, hx]
        show numb 1 (l.take k ++ [x]) = _
        rw [numb_app]
        show _ ++ [(1 + (l.take k).length, x)] = _
        rw [List.length_take, Nat.min_eq_left (by omega), Nat.add_comm 1]
      have hal : A = numb 1 (l.take k) ++ (k + 1, x) :: numb (k + 2) (l.drop (k + 1)) := by
        rw [← HA.out]
        conv => lhs; rw [← List.take_append_drop (k + 1) l, numb_app, hsn, List.append_assoc]
        rw [List.length_take, Nat.min_eq_left (by omega), show 1 + (k + 1) = k + 2 by omega]
        rfl
      have hxs : (bA x).size ≤ 1000000 := by rw [bA_size]; have := HM.out x (List.mem_of_getElem? hx); omega
      have cO := fun u => rone_any (bA x) hxs u
      rw [bA_list] at cO
      have hc1 : w1.cell? ⟨g, k, none⟩ = some (.string (bA x)) := hcell k _ (by unfold strCs; rw [List.getElem?_map, hx]; rfl)
      have hc2 : wr.cell? ⟨g, k, none⟩ = some (.string (bA x)) := (hb.cell (p := ⟨g, k, none⟩) hgl).trans hc1
      have hgr : g < wr.heap.size := Nat.lt_of_lt_of_le hgl hb.size
      have hlti : (k : Int) < (l.length : Int) := by omega
      have hlen : (rowsF (numb 1 (l.take k))).length ≤ 1000001 := by
        have h1 := rowsF_len (numb 1 (l.take k))
        rw [numb_len, List.length_take] at h1
        omega
      have hml : (rowsF (numb 1 (l.take k))).length + 1 ≤ maxLen := by unfold maxLen; omega
      have hpl : ((rowsF (numb 1 (l.take k))).length + 1) * 32 ≤ 140737488355328 := by omega
      have htl := tell_is x
      obtain ⟨q, hqt⟩ : ∃ q, tell x = q := ⟨_, rfl⟩
      rw [hqt] at cO htl
      have HQ := hideIt hqt
      obtain ⟨⟨i, h, l'⟩, is, er⟩ := q
      simp only [Rw.val] at cO htl
      have HS := hideIt hsn
      have HAL := hideIt hal
      clear hqt hx hc1 hxs hlen hsn hal hcell
      by_cases her : er = 0
      · subst her
        cases is with
        | true =>
          go_upto_region 7 with (first | (go_at_call 36; refine (cO _).mono ?_; rintro e w2 ⟨rfl, j2⟩))
          have B3 := Box.made w2 26 #[.string i, .int .u64 h, .int .u64 l']
          have L3 := chain j2 ((Below.refl w2.heap.size w2).alloc (Nat.le_refl _) (.cells #[.string i, .int .u64 h, .int .u64 l'] 26))
          have hown3 := own_below hown L3
          have hb3 := chain hb L3
          generalize w2.heap.size = g3 at *
          generalize w2.alloc _ = W3 at *
          obtain ⟨n0, n1, n2, -, -, -, nin⟩ := B3.three
          go_wp2_with (first
            | (at_builtin; refine wpList_append_own (w := W3.alloc (.cells #[.string i, .int .u64 h, .int .u64 l'] 26)) rfl _ _ 41 rfl w1.heap.size 26 i0 (.agg #[.string ⟨#[]⟩, .int .u64 0, .int .u64 0]) 3 32 Tryd.underlying41 hi hz0 hz1 hz2 rfl (by decide) _ _ _ rfl (hown3.alloc _) ⟨W3.heap.size, 0, none⟩ 1 1 (Rw.cells ⟨i, h, l'⟩) rfl rfl (cells_new4 _ _ _) (cells_one _) hml hpl (by have := hb3.size; simp; omega) ?_; intro v' w4 hown' hgrow _))
          have q3 : Below w1.heap.size w1 w4 := (chainA hb3 _).grown hgrow (by have := hb3.size; simp; omega) (fun k hk => (hown3.lt k hk).1)
          have e2 : rowsF (numb 1 (l.take (k + 1))) = rowsF (numb 1 (l.take k)) ++ [⟨i, h, l'⟩] := by
            rw [HS.out, rowsF_snoc]
            show _ ++ (if (tell x).2.1 = true then [(tell x).1] else []) = _
            rw [HQ.out]
            rfl
          go_roundg (l.length - (k + 1))
          case measure => have := HG.out; omega
          case rel => exact ⟨k + 1, by omega, rfl, by go_num, by rw [e2, rowCs_snoc, List.length_append]; exact hown', q3, by rw [HS.out]; exact hid.out.snoc (by show (tell x).2.2 = 0; rw [HQ.out])⟩
        | false =>
          go_wp2_with (first | (go_at_call 36; refine (cO _).mono ?_; rintro e w2 ⟨rfl, j2⟩))
          have L3 := chain j2 ((Below.refl w2.heap.size w2).alloc (Nat.le_refl _) (.cells #[.string i, .int .u64 h, .int .u64 l'] 26))
          have e2 : rowsF (numb 1 (l.take (k + 1))) = rowsF (numb 1 (l.take k)) := by
            rw [HS.out, rowsF_snoc]
            show _ ++ (if (tell x).2.1 = true then [(tell x).1] else []) = _
            rw [HQ.out]
            exact List.append_nil _
          go_roundg (l.length - (k + 1))
          case measure => have := HG.out; omega
          case rel => exact ⟨k + 1, by omega, rfl, by go_num, by rw [e2]; exact own_below hown L3, chain hb L3, by rw [HS.out]; exact hid.out.snoc (by show (tell x).2.2 = 0; rw [HQ.out])⟩
      · have heri : ¬ ((er : Int) = 0) := by omega
        have hf : errF A = (k + 1, er) := by
          rw [HAL.out]
          have := errF_hit (numb 1 (l.take k)) (numb (k + 2) (l.drop (k + 1))) (k + 1, x) hid.out (by show (tell x).2.2 ≠ 0; rw [HQ.out]; exact her)
          rw [this]
          show (k + 1, (tell x).2.2) = _
          rw [HQ.out]
        have hr : allRows A = [] := by unfold allRows; rw [hf, if_neg her]
        clear HAL HA
        go_wp2_with (first | (go_at_call 36; refine (cO _).mono ?_; rintro e w2 ⟨rfl, j2⟩))
        have L3 := chain j2 ((Below.refl w2.heap.size w2).alloc (Nat.le_refl _) (.cells #[.string i, .int .u64 h, .int .u64 l'] 26))
        go_ret3
        exact ⟨.slice none 0 0, by rw [hf]; rfl, by rw [hr]; exact World.ownsRow_nil _ _ _ _, chain b1 (chain hb L3)⟩
    · have e : k = l.length := by omega
      subst e
      rw [List.take_length] at hown hid
      have hid2 := hid.out
      rw [HA.out] at hown hid2
      have hf : errF A = (0, 0) := by have := errF_good A [] hid2; rw [List.append_nil] at this; exact this
      have hr : allRows A = rowsF A := by unfold allRows; rw [hf]; rfl
      clear hid hid2
      go_wp2
      go_ret3
      exact ⟨_, by rw [hf]; rfl, by rw [hr]; exact own_lower hown b1.size, chain b1 hb⟩
end Go.Proofs.YtfnbehijnmbhjaaDoor
