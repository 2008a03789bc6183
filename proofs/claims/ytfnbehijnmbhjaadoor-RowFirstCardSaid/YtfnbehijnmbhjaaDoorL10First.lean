/-
  The law RowFirst: of a text the first line with which something is wrong is told, whatever comes behind; without it, and those like it, there are the other lines' rows.
  Conditions: utf8's two tables hold what their texts lay (tied by the card; one is the form's constant).
-/
import Derived.Test.YtfnbehijnmbhjaaDoorU10Awake
import Derived.Test.YtfnbehijnmbhjaaDoorD10First
import Derived.Test.YtfnbehijnmbhjaaDoorU10All
import Derived.Test.YtfnbehijnmbhjaaDoorM9Ref
import Derived.Test.YtfnbehijnmbhjaaDoorS10Same
import Derived.Test.YtfnbehijnmbhjaaDoorW10Laid
import Derived.ChangeMaps
namespace Go.Proofs.YtfnbehijnmbhjaaDoor
set_option linter.unusedVariables false
set_option linter.unusedSimpArgs false
set_option maxRecDepth 10000
open Go.ChangeShapes Go.WideShapes Go.ChangeAt Go.RowKit

/-- Two rows of unlike cells lie apart. -/
theorem rows_apart {W : World} {n m s1 s2 k1 k2 : Nat} {t1 t2 : TypeId} {v1 v2 : Value} {xs ys : List Value} (h1 : W.ownsRow n t1 s1 v1 k1 xs) (h2 : W.ownsRow m t2 s2 v2 k2 ys) (ht : t1 ≠ t2) : v1.ownBlock = none ∨ v1.ownBlock ≠ v2.ownBlock := by
  rcases h1.2 with ⟨e, _⟩ | ⟨g, cap, cur, rfl, _, hgb, _⟩
  · exact .inl (by rw [e]; rfl)
  · right
    rcases h2.2 with ⟨rfl, _⟩ | ⟨g', cap', cur', rfl, _, hgb', _⟩
    · simp [Value.ownBlock]
    · intro e
      have : g = g' := by simpa [Value.ownBlock] using e
      subst this
      rw [hgb] at hgb'
      injection hgb' with e1
      injection e1 with e2 e3
      exact ht e3
set_option maxHeartbeats 2000000 in
theorem rfirst_long (s : ByteArray) (h : 2000 < s.size) (w : World) (hT : TabU w) : Calls Tryd.prog 9 #[.string s] w (Tells (.bool true) w.heap.size w) := by
  have cA := fun u hu => awake10_any u hu
  have hi : (2000 : Int) < (s.size : Int) := by omega
  go_enter Tryd.func9, Tryd.ntmps9
  go_wp2_with (first
    | (go_at_call 23; refine (cA _ hT).mono ?_; rintro e w1 ⟨rfl, j1⟩)
    | fail)
  go_ret
  exact ⟨rfl, j1⟩

set_option maxRecDepth 100000 in
set_option maxHeartbeats 8000000 in
theorem rfirst_short (s : ByteArray) (h : s.size ≤ 2000) (w : World) (hT : TabU w) : Calls Tryd.prog 9 #[.string s] w (Tells (.bool true) w.heap.size w) := by
  obtain ⟨i0, hi, hz0, hz1, hz2⟩ := info_parts info_row
  obtain ⟨i1, hi1, hy0, hy1, hy2⟩ := info_parts info_str
  have cA := fun u hu => awake10_any u hu
  have cL := fun u => all_any s (by omega) u
  have cB := fun u hu => rowall_any s (by omega) u hu
  have hsi : ¬ (2000 : Int) < (s.size : Int) := by omega
  have hne := split_ne s.data.toList
  have h10 := split_no s.data.toList
  have hln := split_len s.data.toList
  have hcl := List.count_le_length (l := s.data.toList) (a := (10 : UInt8))
  have hjl := good_len _ hne
  have hmem := split_mem s.data.toList
  rw [join_split, ba_size] at hjl
  rw [ba_size] at hcl
  simp only [ba_size] at hmem
  have hgt := good_tells _ h10
  have hg10 : ∀ x ∈ goodL (splitL s.data.toList), (10 : UInt8) ∉ x := fun x hx => h10 x ((List.mem_filter.1 hx).1)
  unfold linesL at cL cB
  generalize splitL s.data.toList = l at *
  have hpos : 0 < l.length := List.length_pos_iff.2 hne
  have hll : l.length ≤ 2001 := by omega
  have HM := hideIt hmem
  have HGT := hideIt hgt
  have HJL := hideIt hjl
  have HG10 := hideIt hg10
  clear hne h10 hln hcl hmem hgt hjl hg10
  go_enter Tryd.func9, Tryd.ntmps9
  go_upto_region 10 with (first
    | (go_at_call 23; refine (cA _ hT).mono ?_; rintro e w1 ⟨rfl, j1⟩)
    | (go_at_call 25; refine (cL _).mono ?_; rintro e w2 ⟨v, rfl, hv, j2⟩)
    | fail)
  obtain ⟨g, cap, rfl, hgb, hgi, hcell⟩ := hv
  rw [numb_len]
  have hT2 := hT.call (chain j1 j2)
  have hB0 := chain j1 j2
  clear cA cL
  go_wp2
  go_loopg [3, 4, 5, 6, 8, 9, 10, 11] l.length (fun gk v r f o i p a b wr => ∃ k : Nat, k ≤ l.length ∧ gk = l.length - k ∧ i = .int .i64 k ∧ f = .int .i64 (errF (numb 1 (l.take k))).1 ∧ o = .int .i64 (errF (numb 1 (l.take k))).2 ∧
    wr.ownsRow w2.heap.size 9 1 v (goodL (l.take k)).length (strCs (goodL (l.take k))) ∧ wr.ownsRow w2.heap.size 26 3 r (rowsL (l.take k)).length (rowCs (rowsL (l.take k))) ∧ Below w2.heap.size w2 wr)
  case atStart => exact ⟨0, by omega, rfl, rfl, rfl, rfl, World.ownsRow_nil _ _ _ _, World.ownsRow_nil _ _ _ _, Below.refl _ _⟩
  case round =>
    obtain ⟨k, hk, hgk, rfl, rfl, rfl, hs, hr, hb⟩ := hrel
    have HG := hideIt hgk
    clear hgk
    have hkk : IntKind.i64.wrap ((k : Int) + 1) = ((k + 1 : Nat) : Int) := by rw [IntKind.wrap_i64]; omega
    by_cases hlt : k < l.length
    · obtain ⟨x, hx⟩ : ∃ x, l[k]? = some x := ⟨_, List.getElem?_eq_getElem hlt⟩
      have hxn : (numb 1 l)[k]? = some (k + 1, x) := by rw [numb_at, hx, Nat.add_comm 1 k]; rfl
      have hxs : (bA x).size ≤ 1000000 := by rw [bA_size]; have := HM.out x (List.mem_of_getElem? hx); omega
      obtain ⟨y0, y1, y2, y3⟩ := hcell k _ hxn
      have z0 := (hb.cell (p := ⟨g, k * 4, none⟩) hgi).trans y0
      have z1 := (hb.cell (p := ⟨g, k * 4 + 1, none⟩) hgi).trans y1
      have z2 := (hb.cell (p := ⟨g, k * 4 + 2, none⟩) hgi).trans y2
      have z3 := (hb.cell (p := ⟨g, k * 4 + 3, none⟩) hgi).trans y3
      have hgr : g < wr.heap.size := Nat.lt_of_lt_of_le hgi hb.size
      have hlti : (k : Int) < (l.length : Int) := by omega
      have cO := fun u hu => rowof_any ((k + 1 : Nat) : Int) (bA x) (kindL x) (wrongL x) hxs u hu
      simp only [bA_list, ofR_tell] at cO
      have htl := tell_is x
      have e1 : errF (numb 1 (l.take (k + 1))) = if (errF (numb 1 (l.take k))).2 = 0 then (if (tell x).2.2 = 0 then (0, 0) else (k + 1, (tell x).2.2)) else errF (numb 1 (l.take k)) := by
        rw [numb_take l k x hx, errF_snoc]
      have hzero := errF_zero 1 (Nat.le_refl _) (l.take k)
      have e2 : goodL (l.take (k + 1)) = goodL (l.take k) ++ if (tell x).2.2 = 0 then [x] else [] := by
        rw [List.take_add_one, hx]; exact goodL_snoc _ _
      have e3 : rowsL (l.take (k + 1)) = rowsL (l.take k) ++ if (tell x).2.1 = true then [(tell x).1] else [] := by
        rw [List.take_add_one, hx]; exact rowsL_snoc _ _
      have hl1 : (goodL (l.take k)).length ≤ 2001 := by
        have h1 : (goodL (l.take k)).length ≤ (l.take k).length := List.length_filter_le _ _
        rw [List.length_take] at h1
        omega
      have hl2 : (rowsL (l.take k)).length ≤ 2001 := by
        have h1 := rowsF_len (numb 1 (l.take k))
        rw [rowsF_L, numb_len, List.length_take] at h1
        omega
      obtain ⟨q, hqt⟩ : ∃ q, tell x = q := ⟨_, rfl⟩
      rw [hqt] at cO htl e1 e2 e3
      obtain ⟨⟨i, hh, l'⟩, is, er⟩ := q
      simp only [Rw.val] at cO htl
      simp only at e1 e2 e3
      have HE1 := hideIt e1
      have HE2 := hideIt e2
      have HE3 := hideIt e3
      have hTr := hT.call (chain hB0 hb)
      have hm1 : (goodL (l.take k)).length + 1 ≤ maxLen := by unfold maxLen; omega
      have hp1 : ((goodL (l.take k)).length + 1) * 16 ≤ 140737488355328 := by omega
      have hm2 : (rowsL (l.take k)).length + 1 ≤ maxLen := by unfold maxLen; omega
      have hp2 : ((rowsL (l.take k)).length + 1) * 32 ≤ 140737488355328 := by omega
      obtain ⟨E1, hE1⟩ : ∃ E1, (errF (numb 1 (l.take k))).1 = E1 := ⟨_, rfl⟩
      obtain ⟨E2, hE2⟩ : ∃ E2, (errF (numb 1 (l.take k))).2 = E2 := ⟨_, rfl⟩
      have hE12 : errF (numb 1 (l.take k)) = (E1, E2) := by rw [← hE1, ← hE2]
      rw [hE12] at hzero
      rw [hE1, hE2]
      have HE12 := hideIt hE12
      simp only at hzero
      clear hqt hx hxs hxn y0 y1 y2 y3 e1 e2 e3 hl1 hl2 hE1 hE2 hE12 hcell
      go_upto_region 14 with (first
        | (go_at_call 14; refine (cO _ hTr).mono ?_; rintro e w3 ⟨rfl, j3⟩)
        | fail)
      have B4 := Box.made w3 26 (rwB i hh l')
      have L4 := chain j3 ((Below.refl w3.heap.size w3).alloc (Nat.le_refl _) (.cells (rwB i hh l') 26))
      have hs4 := own_below hs L4
      have hr4 := own_below hr L4
      have hb4 := chain hb L4
      have x1 := (L4.cell (p := ⟨g, k * 4 + 1, none⟩) hgr).trans z1
      have hg4 : g < (w3.alloc (.cells (rwB i hh l') 26)).heap.size := Nat.lt_of_lt_of_le hgr L4.size
      change Code.wp _ _ _ _ (w3.alloc (.cells (rwB i hh l') 26))
      clear z0 z1 z2 z3 hs hr hb L4 j3 cO hTr
      generalize w3.heap.size = g3 at *
      generalize w3.alloc _ = W4 at *
      by_cases her : er = 0
      · subst her
        have ee : errF (numb 1 (l.take (k + 1))) = (E1, E2) := by
          rw [HE1.out, HE12.out]
          by_cases h0 : E2 = 0
          · have h1 := hzero.2 h0
            rw [if_pos (show (E1, E2).2 = 0 from h0), if_pos rfl, h0, h1]
          · rw [if_neg (show ¬ (E1, E2).2 = 0 from h0)]
        have eg : goodL (l.take (k + 1)) = goodL (l.take k) ++ [x] := HE2.out
        have HEE := hideIt ee
        have HEG := hideIt eg
        clear ee eg HE1
        go_upto_region 18 with (first
          | (at_builtin; refine wpList_append_own (w := W4.alloc (.cells #[.string (bA x)] 9)) rfl _ _ 59 rfl w2.heap.size 9 i1 (.string ⟨#[]⟩) 1 16 Tryd.underlying59 hi1 hy0 hy1 hy2 rfl (by decide) _ _ _ rfl (hs4.alloc _) ⟨W4.heap.size, 0, none⟩ 1 1 [.string (bA x)] rfl rfl (one_new _ _ _) (by simp [Value.oneCell']) hm1 hp1 (by have := hb4.size; simp; omega) ?_; intro v5 w5 hown5 hgrow5 _)
          | fail)
        have hb5 : Below w2.heap.size w2 w5 := (chainA hb4 _).grown hgrow5 (by have := hb4.size; simp; omega) (fun k hk => (hs4.lt k hk).1)
        have B5 := (B4.past _).grown hgrow5 (box_not_row B4 (by decide) hs4)
        have hr5 := (hr4.alloc (.cells #[.string (bA x)] 9)).kept hgrow5 (rows_apart hr4 hs4 (by decide))
        have hs5 : w5.ownsRow w2.heap.size 9 1 v5 (goodL (l.take (k + 1))).length (strCs (goodL (l.take (k + 1)))) := by
          have e1 : strCs (goodL (l.take (k + 1))) = strCs (goodL (l.take k)) ++ [.string (bA x)] := by rw [HEG.out]; simp [strCs]
          rw [e1, HEG.out, List.length_append]
          exact hown5
        obtain ⟨n0, n1, n2, -, -, -, nin⟩ := B5.three
        clear hgrow5 hown5 hs4 hr4 B4 x1 hg4
        cases is with
        | true =>
          have er2 : rowsL (l.take (k + 1)) = rowsL (l.take k) ++ [⟨i, hh, l'⟩] := HE3.out
          have HER := hideIt er2
          clear er2
          go_wp2_with (first
            | (at_builtin; refine wpList_append_own (w := w5.alloc (.cells #[.string i, .int .u64 hh, .int .u64 l'] 26)) rfl _ _ 41 rfl w2.heap.size 26 i0 (.agg #[.string ⟨#[]⟩, .int .u64 0, .int .u64 0]) 3 32 Tryd.underlying41 hi hz0 hz1 hz2 rfl (by decide) _ _ _ rfl (hr5.alloc _) ⟨w5.heap.size, 0, none⟩ 1 1 (Rw.cells ⟨i, hh, l'⟩) rfl rfl (cells_new4 _ _ _) (cells_one _) hm2 hp2 (by have := hb5.size; simp; omega) ?_; intro v6 w6 hown6 hgrow6 _)
            | fail)
          have hb6 : Below w2.heap.size w2 w6 := (chainA hb5 _).grown hgrow6 (by have := hb5.size; simp; omega) (fun k hk => (hr5.lt k hk).1)
          have hs6 := (hs5.alloc (.cells #[.string i, .int .u64 hh, .int .u64 l'] 26)).kept hgrow6 (rows_apart hs5 hr5 (by decide))
          go_roundg (l.length - (k + 1))
          case measure => have := HG.out; omega
          case rel => exact ⟨k + 1, by omega, rfl, by go_num, by rw [HEE.out], by rw [HEE.out], hs6, by rw [HER.out, rowCs_snoc, List.length_append]; exact hown6, hb6⟩
        | false =>
          have er2 : rowsL (l.take (k + 1)) = rowsL (l.take k) := HE3.out.trans (List.append_nil _)
          have HER := hideIt er2
          clear er2
          go_wp2
          go_roundg (l.length - (k + 1))
          case measure => have := HG.out; omega
          case rel => exact ⟨k + 1, by omega, rfl, by go_num, by rw [HEE.out], by rw [HEE.out], hs5, by rw [HER.out]; exact hr5, hb5⟩
      · obtain rfl : is = false := by
          cases is with
          | false => rfl
          | true => exact absurd (htl rfl) her
        have heri : ¬ ((er : Int) = 0) := by omega
        have eg : goodL (l.take (k + 1)) = goodL (l.take k) := by rw [HE2.out, if_neg her, List.append_nil]
        have er2 : rowsL (l.take (k + 1)) = rowsL (l.take k) := HE3.out.trans (List.append_nil _)
        have HEG := hideIt eg
        have HER := hideIt er2
        clear eg er2 x1
        by_cases h1 : E1 = 0
        · have h2 := hzero.1 h1
          subst h1 h2
          have ee : errF (numb 1 (l.take (k + 1))) = (k + 1, er) := by
            rw [HE1.out, HE12.out, if_pos rfl, if_neg her]
          have HEE := hideIt ee
          clear ee HE1
          go_wp2
          go_roundg (l.length - (k + 1))
          case measure => have := HG.out; omega
          case rel => exact ⟨k + 1, by omega, rfl, by go_num, by rw [HEE.out]; go_num, by rw [HEE.out], by rw [HEG.out]; exact hs4, by rw [HER.out]; exact hr4, hb4⟩
        · have h2 : ¬ E2 = 0 := fun h => h1 (hzero.2 h)
          have h1i : ¬ ((E1 : Int) = 0) := by omega
          have h1b : ((E1 : Int) == 0) = false := beq_false_of_ne h1i
          have ee : errF (numb 1 (l.take (k + 1))) = (E1, E2) := by
            rw [HE1.out, HE12.out, if_neg (show ¬ (E1, E2).2 = 0 from h2)]
          have HEE := hideIt ee
          clear ee HE1
          go_wp2
          go_roundg (l.length - (k + 1))
          case measure => have := HG.out; omega
          case rel => exact ⟨k + 1, by omega, rfl, by go_num, by rw [HEE.out], by rw [HEE.out], by rw [HEG.out]; exact hs4, by rw [HER.out]; exact hr4, hb4⟩
    · have e : k = l.length := by omega
      subst e
      rw [List.take_length] at hs hr ⊢
      obtain ⟨hgt1, hgt2⟩ := HGT.out
      have hjl := HJL.out
      have hg10 := HG10.out
      have hs' : wr.ownsRow w2.heap.size 9 1 u3 ((goodL l).map bA).length (((goodL l).map bA).map Value.string) := by
        rw [List.length_map, List.map_map]
        exact hs
      obtain ⟨A3, c3, rfl, hS3⟩ := own_texts hs'
      obtain ⟨A4, c4, rfl, -, hR4⟩ := rows_of_own hr
      have hlen2 : (rowsL l).length ≤ 1000000000 := by
        have h1 := rowsF_len (numb 1 l)
        rw [rowsF_L, numb_len] at h1
        omega
      have cJ := fun u hu => join_any A3 c3 ((goodL l).map bA) (by rw [List.length_map]; have : (goodL l).length ≤ l.length := List.length_filter_le _ _; omega) (by rw [joinB_map]; omega) u hu
      simp only [any10_of (goodL l) hg10, joinB_map] at cJ
      obtain ⟨J, hJ⟩ : ∃ J, bA (joinL (goodL l)) = J := ⟨_, rfl⟩
      have hJs : J.size ≤ 1000000 := by rw [← hJ, bA_size]; omega
      have cR := fun u hu => rowall_any J hJs u hu
      have hJl : J.data.toList = joinL (goodL l) := by rw [← hJ, bA_list]
      rw [hJl, hgt1, hgt2] at cR
      have cJ2 : ∀ u, StrRow u u.heap.size A3 ((goodL l).map bA) → Calls Tryd.prog 26 #[.slice A3 ((goodL l).map bA).length c3] u (Tells (.tuple #[.string J, .int .i64 0]) u.heap.size u) := fun u hu => by
        have := cJ u hu
        rw [hJ] at this
        exact this
      have hE : (errF (numb 1 l)).2 ≠ 0 → (allRows (numb 1 l)).length = 0 := fun h => by unfold allRows; rw [if_neg h]; rfl
      generalize (goodL l).map bA = gl at *
      generalize rowsL l = rl at *
      generalize allRows (numb 1 l) = al at *
      obtain ⟨E1, hE1⟩ : ∃ E1, (errF (numb 1 l)).1 = E1 := ⟨_, rfl⟩
      obtain ⟨E2, hE2⟩ : ∃ E2, (errF (numb 1 l)).2 = E2 := ⟨_, rfl⟩
      rw [hE1, hE2] at cB
      rw [hE2] at hE
      rw [hE1, hE2]
      clear HGT HJL HG10 HM hgt1 hgt2 hjl hg10 hs hs' hJ hJl hE1 hE2 cJ hr hcell
      have hTr := hT.call (chain hB0 hb)
      go_upto_region 21 with (first
        | (go_at_call 15; refine (cB _ hTr).mono ?_; rintro e w3 ⟨v3, rfl, hO3, j3⟩
           obtain ⟨A5, c5, rfl, -, -⟩ := rows_of_own hO3)
        | fail)
      have hb3 := chain hb j3
      have hT3 := hT.call (chain hB0 hb3)
      have hS4 := (hS3.call j3).more j3.size
      have hR5 := (hR4.call j3).more j3.size
      clear hO3 hS3 hR4 hb hTr
      by_cases h2 : E2 = 0
      · subst h2
        go_wp2_with (first
          | (go_at_call 26; refine (cJ2 _ hS4).mono ?_; rintro e w4 ⟨rfl, j4⟩; have hT4 := hT3.call j4)
          | (go_at_call 15; refine (cR _ hT4).mono ?_; rintro e w5 ⟨v5, rfl, hO5, j5⟩
             obtain ⟨A6, c6, rfl, -, hR6⟩ := rows_of_own hO5
             have hR7 := (((hR5.call j4).more j4.size).call j5).more j5.size)
          | (go_at_call 17; refine (rsame_any A6 A4 c6 c4 rl hlen2 w5 hR6 hR7).mono ?_; rintro e w6 ⟨rfl, j6⟩)
          | fail)
        go_ret
        exact ⟨rfl, chain hB0 (chain hb3 (chain j4 (chain j5 j6)))⟩
      · have h2i : ¬ ((E2 : Int) = 0) := by omega
        have hal := hE h2
        have hali : (al.length : Int) = 0 := by omega
        go_wp2_with (first
          | (go_at_call 26; refine (cJ2 _ hS4).mono ?_; rintro e w4 ⟨rfl, j4⟩; have hT4 := hT3.call j4)
          | (go_at_call 15; refine (cR _ hT4).mono ?_; rintro e w5 ⟨v5, rfl, hO5, j5⟩
             obtain ⟨A6, c6, rfl, -, hR6⟩ := rows_of_own hO5
             have hR7 := (((hR5.call j4).more j4.size).call j5).more j5.size)
          | (go_at_call 17; refine (rsame_any A6 A4 c6 c4 rl hlen2 w5 hR6 hR7).mono ?_; rintro e w6 ⟨rfl, j6⟩)
          | fail)
        go_ret
        exact ⟨rfl, chain hB0 (chain hb3 (chain j4 (chain j5 j6)))⟩

theorem rowFirst_core (H : Type) (enc : TypeId × Value → H) (W : World) (base : Nat) (args : Array Value) (ds gs : List (DataW H)) (before : List MemPlace)
    (hval : ∀ (j : Nat) t v, Tryd.f9.params[j]? = some t → args[j]? = some v → Value.okWide Tryd.prog W .any base t v)
    (hW : DataW.Whole enc Tryd.prog Tryd.f9.params.toList Rows.rowFirstSpec.vars false W args.toList ds gs before) (hT : TabU W) :
    gs = [] ∧ ds.length = 1 ∧ Calls Tryd.prog 9 args W (Tells (.bool true) W.heap.size W) := by
  obtain ⟨p, q, hA, hV, -, -, -⟩ := hW
  obtain ⟨rfl, rfl⟩ := trodVars_none hV
  have hA : DataW.TrodAll enc Tryd.prog W 0 (fun _ => true) true Tryd.f9.params.toList args.toList ds p := hA
  rw [Tryd.params9] at hA hval
  obtain ⟨v0, vs0, d0, ds0, p0, ps0, e0, rfl, -, h0, hA⟩ := trodAll_cons hA
  obtain ⟨rfl, rfl, rfl⟩ := trodAll_nil hA
  obtain rfl : args = #[v0] := Array.ext' e0
  obtain ⟨s, rfl, rfl, rfl, z5⟩ := Go.ChangeMaps.open_string Tryd.underlying9 (hval 0 9 v0 rfl rfl) h0
  refine ⟨rfl, rfl, ?_⟩
  by_cases h : 2000 < s.size
  · exact rfirst_long s h W hT
  · exact rfirst_short s (by omega) W hT

set_option maxRecDepth 100000 in
theorem rowFirst_lifted (os : Os) (started : os.Started) (H : Type) (enc : TypeId × Value → H) :
    ReturnsInHanded {} Tryd.checked os 9 .any (fun w args => (Rows.rowFirstSpec.pre enc Tryd.prog Tryd.f9 [] false w args ∧ laidMetH Tryd.prog laidU w) ∧ sizedMet enc Tryd.prog Tryd.f9 (OpenSpec.ofChange Rows.rowFirstSpec) false w args)
      (Rows.rowFirstSpec.post enc Tryd.prog Tryd.f9 false true false false) := by
  refine returnsInHanded_of_change_and (C := Tryd.checked) (X := fun w _ => laidMetH Tryd.prog laidU w) (fun _ _ _ hh h => h.of_heap hh) own_knob started (by kernel_rfl) Tryd.func9
    (ChangeSpec.witness_shaped (enc := enc) (C := Tryd.checked) (os := os) (X := fun w _ => laidMetH Tryd.prog laidU w) false (World.laidAll Tryd.prog os laidU) #[.string ⟨#[]⟩] 8 (World.laidAll_os _ _ _) (World.shaped_of_ZipB (by kernel_rfl) (by kernel_rfl)) (by kernel_rfl) (by kernel_rfl) (by kernel_rfl) (met_U os _)) ?_
  intro W base args ds gs before hval0 hW _ hwt hL _
  have hval : ∀ (j : Nat) t v, Tryd.f9.params[j]? = some t → args[j]? = some v → Value.okWide Tryd.prog W .any base t v := hval0
  obtain ⟨hg, hlen, hc⟩ := rowFirst_core H enc W base args ds gs before hval hW (tab_of_laidU hL)
  subst hg
  have hr : (Tryd.f9.params.toList.all fun t => Tryd.prog.readableRec t && decide (t < Tryd.prog.types.size)) = true := by kernel_rfl
  have hread : ∀ t ∈ Tryd.f9.params.toList, Tryd.prog.readableRec t = true ∧ t < Tryd.prog.types.size := fun t ht => by
    have h := List.all_eq_true.1 hr t ht
    rw [Bool.and_eq_true, decide_eq_true_eq] at h
    exact h
  refine hc.mono fun e W' ⟨he, hb⟩ => ?_
  subst he
  match ds, hlen with
  | [d0], _ => exact ⟨_, rfl, law_post laid_out Tryd.underlying4 rfl hread rfl hW rfl rfl rfl hb⟩

theorem rowFirst_holds : Rows.RowFirstSaid :=
  OpenClaim.holds_of_wide 9 Tryd.f9 rfl rfl rfl rfl rfl rfl rfl ⟨rfl, rfl, rfl, rfl, rfl⟩ rfl rfl rfl rfl rfl (by kernel_rfl) Tryd.func9 (by kernel_rfl)
    (of_decide_eq_true (by kernel_rfl)) (by unfold Func.isWrapper; first | (rw [if_pos (by decide +kernel)]; kernel_rfl) | (rw [if_neg (by decide +kernel)]; exact ⟨rfl, rfl⟩))
    (fun os started H enc _ => rowFirst_lifted os started H enc)

theorem rowFirst_card : Rows.RowFirstCardSaid :=
  Claim7.holds_tied_plain_at .later [] [.data, .pinned] true _ false
    rowFirst_holds (fun _ h => by cases h) (by kernel_rfl) (fun _ h => by cases h) rowFirst_row_tie rfl ⟨rfl, rfl⟩ (by kernel_rfl) rfl
    (fun f fn hf hfn => by
      obtain rfl : f = 9 := Option.some.inj ((show Tryd.prog.funcNamed "paymaster/paymasterlaw10.RowFirst" = some 9 by kernel_rfl).symm.trans hf) |>.symm
      obtain rfl : fn = Tryd.f9 := (Option.some.inj (Tryd.func9.symm.trans hfn)).symm
      exact ⟨by kernel_rfl, fun j t ht => by
        have hm : t ∈ Tryd.f9.params.toList := by simpa using Array.mem_of_getElem? ht
        have hall : (Tryd.f9.params.toList.all fun u => !Tryd.prog.wantsStandIn u) = true := by kernel_rfl
        exact (show Tryd.prog.wantsStandIn t = false by simpa using List.all_eq_true.1 hall t hm)⟩)
    (by kernel_rfl)

end Go.Proofs.YtfnbehijnmbhjaaDoor
