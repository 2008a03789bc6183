/-
  paymasterref11.Import, walked: line by line, put behind.
-/
import Derived.Test.YthindbmgnkohhaaDoorR11Put
import Derived.Test.YthindbmgnkohhaaDoorR10All
import Derived.Test.YthindbmgnkohhaaDoorU11Imp
namespace Go.Proofs.YthindbmgnkohhaaDoor
set_option linter.unusedVariables false
set_option linter.unusedSimpArgs false
set_option maxRecDepth 10000
open Go.RowKit Go.Sort

set_option maxRecDepth 100000 in
set_option maxHeartbeats 2000000 in
theorem rimport_height (s : ByteArray) (h : Int) (hh : ¬ (0 ≤ h ∧ h ≤ 10)) (w : World) : Calls Tryd.prog 9 #[.string s, .int .i64 h] w (Tells (.tuple #[.slice none 0 0, .int .i64 0, .int .i64 120]) w.heap.size w) := by
  by_cases h0 : h < 0
  · go_enter Tryd.func9, Tryd.ntmps9
    go_wp2
    go_ret3
    exact ⟨rfl, Below.refl _ _⟩
  · have h1 : 10 < h := by omega
    go_enter Tryd.func9, Tryd.ntmps9
    go_wp2
    go_ret3
    exact ⟨rfl, Below.refl _ _⟩
/-- What is told of a text by the document's own. -/
def RImpV (b : Nat) (w : World) (v : Value) (R : List Rw × Nat × Nat) : Prop := (R.2.2 = 0 ∧ ∃ ys, Sd R.1 ys ∧ ys.length = R.1.length ∧ w.ownsRow b 50 3 v ys.length (rowCs ys)) ∨ (R.2.2 ≠ 0 ∧ v = .slice none 0 0)
set_option maxRecDepth 100000 in
set_option maxHeartbeats 8000000 in
theorem rimport_any (s : ByteArray) (hs : s.size ≤ 65536) (h : Nat) (hh : h ≤ 10) (w : World) :
    Calls Tryd.prog 9 #[.string s, .int .i64 (h : Int)] w fun e w' => ∃ v, e = .returned (.tuple #[v, .int .i64 ((impF (2 ^ h) [] 0 (splitL s.data.toList)).2.1 : Int), .int .i64 ((impF (2 ^ h) [] 0 (splitL s.data.toList)).2.2 : Int)]) ∧
      Below w.heap.size w w' ∧ RImpV w.heap.size w' v (impF (2 ^ h) [] 0 (splitL s.data.toList)) := by
  have cS := fun u => rsplit_any s (by omega) u
  have hne := split_ne s.data.toList
  obtain ⟨ls, hls⟩ : ∃ ls, splitL s.data.toList = ls := ⟨_, rfl⟩
  have hsl : ls.length ≤ 65537 := by
    have h1 := splitL_count s.data.toList
    have h2 : s.data.toList.count 10 ≤ s.data.toList.length := List.count_le_length
    have h3 : s.data.toList.length = s.size := (Lib.size_eq s).symm
    rw [hls] at h1
    omega
  have hxl : ∀ x ∈ ls, x.length ≤ 65536 := fun x hx => by
    have h1 := split_long s.data.toList x (hls ▸ hx)
    have h3 : s.data.toList.length = s.size := (Lib.size_eq s).symm
    omega
  obtain ⟨R, hR⟩ : ∃ R, impF (2 ^ h) [] 0 ls = R := ⟨_, rfl⟩
  rw [hls] at cS hne ⊢
  rw [hR]
  have hpos : 0 < ls.length := List.length_pos_iff.2 hne
  have HL := hideIt hxl
  have HR := hideIt hR
  clear hls hxl hR hne
  obtain ⟨n, hn⟩ : ∃ n, ls.length = n := ⟨_, rfl⟩
  have hn0 := hn
  rw [hn] at cS hsl hpos
  have HLN := hideIt hn
  clear hn hn0
  have hsi : ¬ (65536 : Int) < (s.size : Int) := by omega
  have hh0 : ¬ ((h : Int) < 0) := by omega
  have hh1 : ¬ (10 < (h : Int)) := by omega
  go_enter Tryd.func9, Tryd.ntmps9
  go_upto_region 6 with (first
    | (go_at_call 26; refine (cS _).mono ?_; rintro e w1 ⟨v, rfl, hO, b1⟩; obtain ⟨g, cap, rfl, hg, hgl, -, -, hcell, -⟩ := own_row hO hpos)
    | fail)
  have hb1 := b1.size
  have HC := hideIt hcell
  clear cS hO hcell
  go_wp2
  go_loopg [8, 9] n (fun gk v8 i wr => ∃ (k : Nat) (acc : List Rw), k ≤ n ∧ n - k ≤ gk ∧ i = .int .i64 (k : Int) ∧ Hid (impF (2 ^ h) acc k (ls.drop k) = R) ∧ Hid (GoodL (2 ^ h) acc) ∧ Hid (∀ x ∈ acc, x.ok) ∧ wr.ownsRow w1.heap.size 50 3 v8 acc.length (rowCs acc) ∧ Below w1.heap.size w1 wr)
  case atStart => exact ⟨0, [], Nat.zero_le _, Nat.le_refl _, rfl, HR, good_nil _, fun x hx => (by cases hx), World.ownsRow_nil _ _ _ _, Below.refl _ _⟩
  case round =>
    obtain ⟨k, acc, hkn, hgk, rfl, HI, HG, HA, O, L⟩ := hrel
    have HGK := hideIt hgk
    clear hgk
    by_cases hlt : k < n
    · have hlti : (k : Int) < (n : Int) := by omega
      obtain ⟨x, hx⟩ : ∃ x, ls[k]? = some x := ⟨_, List.getElem?_eq_getElem (by have := HLN.out; omega)⟩
      have p0 : wr.cell? ⟨g, k, none⟩ = some (.string (bA x)) := (L.cell (p := ⟨g, k, none⟩) hgl).trans (HC.out k _ (by simp [strCs, hx]))
      have hxz := HL.out x (List.mem_of_getElem? hx)
      have cO := fun u => rone_any (bA x) (by simp [bA, ByteArray.size]; omega) u
      rw [show (bA x).data.toList = x by simp [bA]] at cO
      have hLs := L.size
      have p1 : g < wr.heap.size := by omega
      have hdrop : ls.drop k = x :: ls.drop (k + 1) := by
        obtain ⟨hl, he⟩ := List.getElem?_eq_some_iff.1 hx
        rw [← he, List.getElem_cons_drop]
      have HI2 := HI.out
      rw [hdrop] at HI2
      have hacc : acc.length ≤ 1024 := Nat.le_trans HG.out.1 (Nat.pow_le_pow_right (by omega) hh : 2 ^ h ≤ 2 ^ 10)
      obtain ⟨y, hy⟩ : ∃ y, (tell x).1 = y := ⟨_, rfl⟩
      have hyo : y.ok := hy ▸ tell_ok x
      obtain ⟨E, hE⟩ : ∃ E, (tell x).2.2 = E := ⟨_, rfl⟩
      obtain ⟨q, hq⟩ : ∃ q, (tell x).2.1 = q := ⟨_, rfl⟩
      simp only [Rw.val, hy, hE, hq] at cO
      have HI3 := hideIt HI2
      clear hdrop HI2 hx
      go_upto_region 11 with (first
        | (go_at_call 27; refine (cO _).mono ?_; rintro e w3 ⟨rfl, j3⟩)
        | fail)
      have B3 := Box.made w3 50 #[.string y.id, .int .u64 y.h, .int .u64 y.l]
      have O := (own_below O j3).alloc (.cells #[.string y.id, .int .u64 y.h, .int .u64 y.l] 50)
      have L := chainA (L.trans (j3.mono hLs)) (.cells #[.string y.id, .int .u64 y.h, .int .u64 y.l] 50)
      change Code.wp _ _ _ _ (w3.alloc (.cells #[.string y.id, .int .u64 y.h, .int .u64 y.l] 50))
      generalize w3.alloc (.cells #[.string y.id, .int .u64 y.h, .int .u64 y.l] 50) = W3 at *
      have hLs := L.size
      clear p0 p1 cO
      by_cases hE0 : E = 0
      · rw [hE0]
        have hE1 := hE.trans hE0
        cases q with
        | false =>
          have HI4 := hideIt (show impF (2 ^ h) acc (k + 1) (ls.drop (k + 1)) = R by
            have e := HI3.out
            rw [impF_on (lineE_none hE1 hq), lineR_eq] at e
            have e1 : tellRows x = [] := by unfold tellRows; rw [hq]; rfl
            rw [e1, List.append_nil] at e
            exact e)
          clear hE hE0 hE1 hq
          go_wp2
          go_roundg (n - (k + 1))
          case measure => have := HGK.out; omega
          case rel => exact ⟨k + 1, acc, by omega, Nat.le_refl _, by go_num, HI4, HG, HA, O, L⟩
        | true =>
          obtain ⟨V, hV⟩ : ∃ V, putL (2 ^ h) acc y = V := ⟨_, rfl⟩
          have e2 := lineE_row (most := 2 ^ h) (acc := acc) hq
          rw [hy, hV] at e2
          have e3 := lineR_eq acc x
          have e1 : tellRows x = [y] := by unfold tellRows; rw [hq, if_pos rfl, hy]
          rw [e1] at e3
          have HE2 := hideIt e2
          have HE3 := hideIt e3
          have HV := hideIt hV
          obtain ⟨A3, c3, rfl, hA3, R3⟩ := rows_of_own O
          have cM := fun u => rmost_any h hh u
          obtain ⟨M, hM⟩ : ∃ M, 2 ^ h = M := ⟨_, rfl⟩
          have cP := fun u hu => rput_any A3 c3 acc HA.out (by omega) hA3 y hyo M u hu
          rw [hM] at cM
          rw [← hM, hV, hM] at cP
          have HM := hideIt hM
          have HA3 := hideIt hA3
          simp only [Rw.val] at cP
          clear hE hE0 hE1 hq e1 e2 e3 hV hM hA3
          have fact : ∀ u, Below W3.heap.size W3 u → (u.cell? ⟨w3.heap.size, 0, none⟩ = some (.string y.id) ∧ u.cell? ⟨w3.heap.size, 1, none⟩ = some (.int .u64 y.h) ∧ u.cell? ⟨w3.heap.size, 2, none⟩ = some (.int .u64 y.l)) := fun u hu => by
            obtain ⟨q0, q1, q2, -⟩ := (B3.call hu).three
            exact ⟨q0, q1, q2⟩
          have rowU : ∀ u, Below W3.heap.size W3 u → RwRow u u.heap.size A3 acc := fun u hu => (R3.call hu).more hu.size
          go_upto_region 14 with fail
          obtain ⟨q0, q1, q2, f0, f1, f2, hin3⟩ := B3.three
          obtain ⟨N3, hN3⟩ : ∃ N3, acc.length = N3 := ⟨_, rfl⟩
          rw [hN3] at cP ⊢
          have HN3 := hideIt hN3
          clear hN3
          go_cut [12] (fun s12 wx => s12 = .int .i64 (V : Int) ∧ Below W3.heap.size W3 wx)
          case first =>
            go_region_held3 (fun w' => Below W3.heap.size W3 w' ∧ (w'.cell? ⟨w3.heap.size, 0, none⟩ = some (.string y.id) ∧ w'.cell? ⟨w3.heap.size, 1, none⟩ = some (.int .u64 y.h) ∧ w'.cell? ⟨w3.heap.size, 2, none⟩ = some (.int .u64 y.l)))
              (first | exact ⟨(Below.refl _ _).drew, fact _ (Below.refl _ _).drew⟩ | (with_reducible assumption) | exact hl_drew fact (by assumption) | exact hl_call fact (by assumption) (by assumption) | fail)
              (first
                | (go_at_call 29; refine (cM _).mono ?_; rintro e w4 ⟨rfl, rfl⟩)
                | (go_at_call 28; refine (cP _ (rowU _ (hl_low (by assumption)))).mono ?_; rintro e w5 ⟨rfl, j5⟩)
                | fail)
            all_goals go_wp2
            all_goals go_meet
            all_goals exact ⟨rfl, hl_low (by assumption)⟩
          case rest =>
            obtain ⟨rfl, hb5⟩ := hcut
            have O := own_below O hb5
            have L := L.trans (hb5.mono hLs)
            have B5 := B3.call hb5
            generalize wc = W5 at *
            obtain ⟨q0, q1, q2, f0, f1, f2, hin3⟩ := B5.three
            have hLs := L.size
            by_cases hV0 : V = 0
            · have hvi : (V : Int) = 0 := by omega
              rw [hvi]
              obtain ⟨v', w', hr, O3, hg3, hl3⟩ := app_one W5 w1.heap.size _ _ _ O y (by have := HN3.out; omega) hLs
              have L3 : Below w1.heap.size w1 w' := (chainA L (.cells #[.string y.id, .int .u64 y.h, .int .u64 y.l] 50)).grown hg3 (by simp; omega) (fun j hj => (O.lt j hj).1)
              rw [HN3.out] at hr
              have HV0 := hideIt hV0
              clear hV0 hvi hg3 hl3
              go_wp2_with (first
                | (at_builtin; refine wpList_run rfl _ _ _ rfl _ _ rfl rfl v' w' hr ?_)
                | fail)
              go_roundg (n - (k + 1))
              case measure => have := HGK.out; omega
              case rel =>
                have e0 := HE2.out
                rw [HV0.out] at e0
                have hp : putL (2 ^ h) acc y = 0 := HV.out.trans HV0.out
                refine ⟨k + 1, acc ++ [y], by omega, Nat.le_refl _, by go_num, ?_, HG.out.snoc hp, fun z hz => ?_, by rw [List.length_append]; exact O3, L3⟩
                · have e1 := HI3.out
                  rw [impF_on e0, HE3.out] at e1
                  exact e1
                · rcases List.mem_append.1 hz with hz | hz
                  · exact HA.out z hz
                  · rw [List.mem_singleton.1 hz]
                    exact hyo
            · have HV0 := hideIt hV0
              have hvi : ¬ ((V : Int) = 0) := by omega
              have hvb : ((V : Int) == 0) = false := beq_false_of_ne hvi
              have wk : IntKind.i64.wrap ((k : Int) + 1) = ((k + 1 : Nat) : Int) := by rw [IntKind.wrap_i64]; omega
              clear hV0
              go_wp2
              go_ret3
              have e := HI3.out
              rw [impF_off (by rw [HE2.out]; exact HV0.out), HE2.out] at e
              exact ⟨.slice none 0 0, by rw [← e]; rfl, b1.trans (L.mono hb1), .inr ⟨by rw [← e]; exact HV0.out, rfl⟩⟩
      · have HI4 := hideIt (show ([], k + 1, E) = R by
          have e := HI3.out
          rw [impF_off (by rw [lineE_bad (by rw [hE]; exact hE0), hE]; exact hE0), lineE_bad (by rw [hE]; exact hE0), hE] at e
          exact e)
        have hEi : ¬ ((E : Int) = 0) := by omega
        have hEb : ((E : Int) == 0) = false := beq_false_of_ne hEi
        have HE0 := hideIt hE0
        have wk : IntKind.i64.wrap ((k : Int) + 1) = ((k + 1 : Nat) : Int) := by rw [IntKind.wrap_i64]; omega
        clear hE hE0 hq hy
        go_wp2
        go_ret3
        have e := HI4.out
        exact ⟨.slice none 0 0, by rw [← e]; rfl, b1.trans (L.mono hb1), .inr ⟨by rw [← e]; exact HE0.out, rfl⟩⟩
    · have e : k = n := by omega
      subst e
      obtain ⟨A1, c1, rfl, -, R1⟩ := rows_of_own O
      have hacc : acc.length ≤ 1024 := Nat.le_trans HG.out.1 (Nat.pow_le_pow_right (by omega) hh : 2 ^ h ≤ 2 ^ 10)
      have cS := rsortref_any A1 c1 acc (by omega) wr R1
      obtain ⟨m, hm⟩ : ∃ m, acc.length = m := ⟨_, rfl⟩
      rw [hm] at cS ⊢
      have HM := hideIt hm
      have hLs := L.size
      clear R1 O hm hacc
      go_wp2_with (first
        | (go_at_call 30; refine cS.mono ?_; rintro e w3 ⟨v3, rfl, ys, hy1, hy2, j3, hy3⟩)
        | fail)
      go_ret3
      have e := HI.out
      rw [List.drop_eq_nil_of_le (by have := HLN.out; omega)] at e
      rw [← e]
      exact ⟨v3, rfl, b1.trans ((L.trans (j3.mono hLs)).mono hb1), .inl ⟨rfl, ys, hy3, hy1.trans HM.out.symm, own_mono hy2 (by omega)⟩⟩
end Go.Proofs.YthindbmgnkohhaaDoor
