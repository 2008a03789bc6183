/-
  The law LedgerImports: the rows of any text as a ledger of any height, or the line, and what is wrong, are what the chapter says. Conditions: none.
-/
import Derived.Test.YthindbmgnkohhaaDoorR11Imp
import Derived.Test.YthindbmgnkohhaaDoorS10Same
import Derived.Test.YthindbmgnkohhaaDoorW10Laid
import Derived.Test.YthindbmgnkohhaaDoorM2Dec
import Derived.Room.AppendFits
import Derived.Laws.Concat
import Derived.ChangeMaps
namespace Go.Proofs.YthindbmgnkohhaaDoor
set_option linter.unusedVariables false
set_option linter.unusedSimpArgs false
set_option maxRecDepth 10000
open Go.ChangeShapes Go.WideShapes Go.ChangeAt Go.RowKit Go.Sort

set_option maxRecDepth 100000 in
set_option maxHeartbeats 2000000 in
theorem limp_big (s : ByteArray) (h : Int) (b : Bool) (hs : 4000 < s.size) (w : World) : Calls Tryd.prog 3 #[.string s, .int .i64 h, .bool b] w (Tells (.bool true) w.heap.size w) := by
  have hsi : (4000 : Int) < (s.size : Int) := by omega
  go_enter Tryd.func3, Tryd.ntmps3
  go_wp2
  go_ret
  exact ⟨rfl, Below.refl _ _⟩
/-- No more rows than a ledger may have. -/
theorem impF_len (most : Nat) : ∀ (ls : List (List UInt8)) (acc : List Rw) (n : Nat), GoodL most acc → GoodL most (impF most acc n ls).1
  | [], acc, n, h => h
  | x :: r, acc, n, h => by
    by_cases he : lineE most acc x = 0
    · rw [impF_on he]; exact impF_len most r _ _ (good_line h he)
    · rw [impF_off he]; exact good_nil most
set_option maxRecDepth 100000 in
set_option maxHeartbeats 4000000 in
theorem limp_short (s : ByteArray) (h : Nat) (hh : h ≤ 10) (hs : s.size ≤ 4000) (w : World) (hT : TabU w) : Calls Tryd.prog 3 #[.string s, .int .i64 (h : Int), .bool false] w (Tells (.bool true) w.heap.size w) := by
  have hsi : ¬ ((4000 : Int) < (s.size : Int)) := by omega
  have cI := fun u hu => import_any s (by omega) h hh u hu
  have cR := fun u => rimport_any s (by omega) h hh u
  have hg := impF_len (2 ^ h) (splitL s.data.toList) [] 0 (good_nil _)
  obtain ⟨R, hR⟩ : ∃ R, impF (2 ^ h) [] 0 (splitL s.data.toList) = R := ⟨_, rfl⟩
  rw [hR] at cI cR hg
  have HG := hideIt hg
  clear hR hg
  go_enter Tryd.func3, Tryd.ntmps3
  go_upto_region 13 with fail
  go_upto_region 14 with (first
    | (go_at_call 8; refine (cI _ hT).mono ?_; rintro e w3 ⟨v1, rfl, j1, V1⟩)
    | fail)
  go_upto_region 15 with (first
    | (go_at_call 9; refine (cR _).mono ?_; rintro e w4 ⟨v2, rfl, j2, V2⟩)
    | fail)
  have j12 := chain (Below.refl _ _) (chain j1 j2)
  have V1 := V1.call j2
  clear cI cR
  generalize (R.2.1 : Int) = Ra at *
  generalize (R.2.2 : Int) = Rb at *
  cases hE0 : decide (R.2.2 = 0) with
  | true =>
    have hE := of_decide_eq_true hE0
    rcases V1 with ⟨-, ys, S1⟩ | ⟨h1, -⟩
    · rcases V2 with ⟨-, zs, d2, l2, O2⟩ | ⟨h2, -⟩
      · have e1 := S1.2.1
        obtain rfl := d2.same S1.1
        obtain ⟨A1, rfl, R1⟩ := S1.row
        obtain ⟨A2, c2, rfl, -, R2⟩ := rows_of_own O2
        have hn : zs.length ≤ 1000000000 := by have h1 := HG.out.1; have h2 := pow_small hh; omega
        have cS := rsame_any A1 A2 zs.length c2 zs hn w4 R1 R2
        obtain ⟨N, hN⟩ : ∃ N, zs.length = N := ⟨_, rfl⟩
        rw [hN] at cS ⊢
        clear S1 R1 R2 O2 d2 hN hE hn e1 l2
        go_wp2_with (first
          | (go_at_call 10; refine cS.mono ?_; rintro e w5 ⟨rfl, j5⟩)
          | fail)
        go_ret
        exact ⟨rfl, chain j12 j5⟩
      · exact absurd hE h2
    · exact absurd hE h1
  | false =>
    have hE := of_decide_eq_false hE0
    rcases V1 with ⟨h1, -⟩ | ⟨-, rfl⟩
    · exact absurd h1 hE
    · rcases V2 with ⟨h2, -⟩ | ⟨-, rfl⟩
      · exact absurd h2 hE
      · have cS := fun u => rsame_any none none 0 0 [] (by decide) u (RwRow.nil _ _ _) (RwRow.nil _ _ _)
        simp only [List.length_nil] at cS
        clear hE
        go_wp2_with (first
          | (go_at_call 10; refine (cS _).mono ?_; rintro e w5 ⟨rfl, j5⟩)
          | fail)
        go_ret
        exact ⟨rfl, chain j12 j5⟩
set_option maxRecDepth 100000 in
set_option maxHeartbeats 4000000 in
theorem limp_off (s : ByteArray) (h : Int) (hh : ¬ (0 ≤ h ∧ h ≤ 10)) (hs : s.size ≤ 4000) (w : World) : Calls Tryd.prog 3 #[.string s, .int .i64 h, .bool false] w (Tells (.bool true) w.heap.size w) := by
  have hsi : ¬ ((4000 : Int) < (s.size : Int)) := by omega
  have cI := fun u => import_height s h hh u
  have cR := fun u => rimport_height s h hh u
  have cS := fun u => rsame_any none none 0 0 [] (by decide) u (RwRow.nil _ _ _) (RwRow.nil _ _ _)
  simp only [List.length_nil] at cS
  go_enter Tryd.func3, Tryd.ntmps3
  go_wp2_with (first
    | (go_at_call 8; refine (cI _).mono ?_; rintro e w3 ⟨rfl, j1⟩)
    | (go_at_call 9; refine (cR _).mono ?_; rintro e w4 ⟨rfl, j2⟩)
    | (go_at_call 10; refine (cS _).mono ?_; rintro e w5 ⟨rfl, j5⟩)
    | fail)
  go_ret
  exact ⟨rfl, chain (chain j1 j2) j5⟩
theorem infoB : (Tryd.prog.info? 5).map (fun i => (i.zero, i.size, i.bytes)) = some (some (.int .u8 0), 1, 1) := by kernel_rfl
theorem lies_own {w : World} {b g c : Nat} {l : List UInt8} (h : w.ownsRow b 5 1 (.slice (some ⟨g, 0, none⟩) l.length c) l.length (u8s l)) : Lies w g 0 l := fun i hi => by
  rw [Nat.zero_add]
  have h1 := h.cellAt i (by omega)
  rw [h1]
  simp [u8s, List.getD_eq_getElem?_getD, hi]
/-- The line that fills. -/
def fillS : ByteArray := ⟨(([35, 97, 97, 97, 97, 97, 97, 97, 97, 97, 97, 97, 97, 97, 97, 97, 97, 97, 97, 97, 97, 97, 97, 97, 97, 97, 97, 97, 97, 97, 97, 97, 97, 97, 97, 97, 97, 97] : List UInt8).append [97, 97, 97, 97, 97, 97, 97, 97, 97, 97, 97, 97, 97, 97, 97, 97, 97, 97, 97, 97, 97, 97, 97, 97, 97, 97, 97, 97, 97, 97, 97, 97, 97, 97, 97, 97, 97, 97, 10]).toArray⟩
theorem make_fill (u : World) : (Instr.makeSlice 22 (.int .i64 0) (.int .i64 70000)).run Tryd.prog u = .ok (.slice (some ⟨u.heap.size, 0, none⟩) 0 70000) (u.alloc (.cells (madeCells #[.int .u8 0] 70000) 5)) := by
  obtain ⟨i0, hi, hz0, hz1, hz2⟩ := info_parts infoB
  have h := run_make (P := Tryd.prog) u 22 5 i0 _ Tryd.underlying22 hi hz0 .i64 .i64 0 70000 (by omega) (by omega) (by rw [hz2]; omega) (by omega)
  rw [hz1] at h
  exact h
set_option maxRecDepth 100000 in
set_option maxHeartbeats 8000000 in
theorem limp_long (s : ByteArray) (h : Nat) (hh : h ≤ 10) (hs : s.size ≤ 4000) (w : World) (hT : TabU w) : Calls Tryd.prog 3 #[.string s, .int .i64 (h : Int), .bool true] w (Tells (.bool true) w.heap.size w) := by
  obtain ⟨i0, hi, hz0, hz1, hz2⟩ := info_parts infoB
  have hsi : ¬ ((4000 : Int) < (s.size : Int)) := by omega
  have cI := fun u hu => import_any s (by omega) h hh u hu
  have cR := fun u => rimport_any s (by omega) h hh u
  have hg := impF_len (2 ^ h) (splitL s.data.toList) [] 0 (good_nil _)
  obtain ⟨R, hR⟩ : ∃ R, impF (2 ^ h) [] 0 (splitL s.data.toList) = R := ⟨_, rfl⟩
  rw [hR] at cI cR hg
  have HG := hideIt hg
  clear hR hg
  have hmk := make_fill
  have hh0 : ¬ ((h : Int) < 0) := by omega
  have hh1 : ¬ (10 < (h : Int)) := by omega
  have hi2 : 0 ≤ (h : Int) ∧ (h : Int) ≤ 10 := by omega
  have HI2 := hideIt hi2
  clear hi2
  obtain ⟨cs, hcs⟩ : ∃ cs, madeCells #[.int .u8 0] 70000 = cs := ⟨_, rfl⟩
  have hcz : cs.size = 70000 := by rw [← hcs]; simp [madeCells]
  rw [hcs] at hmk
  have HCZ := hideIt hcz
  clear hcs hcz
  go_enter Tryd.func3, Tryd.ntmps3
  go_upto_region 4 with fail
  have O0 : (w.alloc (.cells cs 5)).ownsRow w.heap.size 5 1 (.slice (some ⟨w.heap.size, 0, none⟩) 0 70000) 0 [] :=
    ⟨rfl, .inr ⟨w.heap.size, 70000, cs, rfl, Nat.le_refl _, Box.made w _ cs, by omega, by unfold maxLen; omega, by rw [HCZ.out], rfl⟩⟩
  have L0 := chainA (Below.refl w.heap.size w) (.cells cs 5)
  have hfz : fillS.size = 77 := by decide +kernel
  go_wp2
  generalize w.alloc (.cells cs 5) = W0 at *
  go_loopg [7] 66000 (fun gk v wr => ∃ (l : List UInt8) (n : Nat), l.length = n ∧ n ≤ 65613 ∧ 66000 - n ≤ gk ∧ v = .slice (some ⟨w.heap.size, 0, none⟩) n 70000 ∧ wr.ownsRow w.heap.size 5 1 (.slice (some ⟨w.heap.size, 0, none⟩) n 70000) n (u8s l) ∧ Below w.heap.size w wr)
  case atStart => exact ⟨[], 0, rfl, by omega, by omega, rfl, O0, L0⟩
  obtain ⟨l, n, hln, hn1, hgk, rfl, O, hb⟩ := hrel
  have HLN := hideIt hln
  have HGK := hideIt hgk
  clear hln hgk O0 L0
  by_cases hlt : n ≤ 65536
  · have hlti : (n : Int) ≤ 65536 := by omega
    go_wp2_with (first
      | (at_builtin; refine Go.Lib.wpList_append_fits_string _ rfl _ _ 22 9 rfl w.heap.size 5 i0 Tryd.underlying22 Tryd.underlying9 hi hz1 (some ⟨w.heap.size, 0, none⟩) n 70000 (u8s l) rfl O fillS rfl (by omega) (by omega) ?_; intro w' O' hg')
      | fail)
    go_roundg (66000 - (n + 77))
    case measure => have := HGK.out; omega
    case rel =>
      rw [hfz] at O'
      refine ⟨l ++ fillS.data.toList, n + 77, ?_, by omega, Nat.le_refl _, rfl, ?_, hb.grown hg' hb.size (fun j hj => by injection hj with hj; exact Nat.le_of_eq hj)⟩
      · rw [List.length_append, HLN.out, ← Lib.size_eq, hfz]
      · have e : u8s (l ++ fillS.data.toList) = u8s l ++ Lib.strCells fillS := by simp [u8s, Lib.strCells]
        rw [e]
        exact O'
  have hlti : ¬ ((n : Int) ≤ 65536) := by omega
  have hconv : (convert 22 9 (.slice (some ⟨w.heap.size, 0, none⟩) n 70000)).run Tryd.prog wr = .ok (.string (str l)) wr := by
    have h1 := conv_lies (lies_own (l := l) (by rw [HLN.out]; exact O)) 70000
    rw [HLN.out] at h1
    exact h1
  have hcat : ∀ u : World, (Op.stringOp .add (str l) s).run Tryd.prog u = .ok (.string (str l ++ s)) u := fun u => run_string_add_sum u _ _ (by rw [str_size]; have := HLN.out; omega)
  clear O
  have cB := fun u => import_long (str l ++ s) (h : Int) HI2.out (by rw [ByteArray.size_append, str_size]; have := HLN.out; omega) u
  go_upto_region 13 with (first
    | (go_at_call 8; refine (cB _).mono ?_; rintro e w2 ⟨rfl, j2⟩)
    | fail)
  have jF := hb.trans (j2.mono hb.size)
  clear hconv hcat j2 hb cB
  go_upto_region 14 with (first
    | (go_at_call 8; refine (cI _ (hT.call jF)).mono ?_; rintro e w3 ⟨v1, rfl, j1, V1⟩)
    | fail)
  go_upto_region 15 with (first
    | (go_at_call 9; refine (cR _).mono ?_; rintro e w4 ⟨v2, rfl, j2, V2⟩)
    | fail)
  have j12 := chain jF (chain j1 j2)
  have V1 := V1.call j2
  clear cI cR
  generalize (R.2.1 : Int) = Ra at *
  generalize (R.2.2 : Int) = Rb at *
  cases hE0 : decide (R.2.2 = 0) with
  | true =>
    have hE := of_decide_eq_true hE0
    rcases V1 with ⟨-, ys, S1⟩ | ⟨h1, -⟩
    · rcases V2 with ⟨-, zs, d2, l2, O2⟩ | ⟨h2, -⟩
      · have e1 := S1.2.1
        obtain rfl := d2.same S1.1
        obtain ⟨A1, rfl, R1⟩ := S1.row
        obtain ⟨A2, c2, rfl, -, R2⟩ := rows_of_own O2
        have hn : zs.length ≤ 1000000000 := by have h1 := HG.out.1; have h2 := pow_small hh; omega
        have cS := rsame_any A1 A2 zs.length c2 zs hn w4 R1 R2
        obtain ⟨N, hN⟩ : ∃ N, zs.length = N := ⟨_, rfl⟩
        rw [hN] at cS ⊢
        clear S1 R1 R2 O2 d2 hN hE hn e1 l2
        go_wp2_with (first
          | (go_at_call 10; refine cS.mono ?_; rintro e w5 ⟨rfl, j5⟩)
          | fail)
        go_ret
        exact ⟨rfl, chain j12 j5⟩
      · exact absurd hE h2
    · exact absurd hE h1
  | false =>
    have hE := of_decide_eq_false hE0
    rcases V1 with ⟨h1, -⟩ | ⟨-, rfl⟩
    · exact absurd h1 hE
    · rcases V2 with ⟨h2, -⟩ | ⟨-, rfl⟩
      · exact absurd h2 hE
      · have cS := fun u => rsame_any none none 0 0 [] (by decide) u (RwRow.nil _ _ _) (RwRow.nil _ _ _)
        simp only [List.length_nil] at cS
        clear hE
        go_wp2_with (first
          | (go_at_call 10; refine (cS _).mono ?_; rintro e w5 ⟨rfl, j5⟩)
          | fail)
        go_ret
        exact ⟨rfl, chain j12 j5⟩
set_option maxRecDepth 100000 in
set_option maxHeartbeats 8000000 in
theorem limp_lost (s : ByteArray) (h : Int) (hh : ¬ (0 ≤ h ∧ h ≤ 10)) (hs : s.size ≤ 4000) (w : World) : Calls Tryd.prog 3 #[.string s, .int .i64 h, .bool true] w (Tells (.bool true) w.heap.size w) := by
  obtain ⟨i0, hi, hz0, hz1, hz2⟩ := info_parts infoB
  have hsi : ¬ ((4000 : Int) < (s.size : Int)) := by omega
  have cI := fun x u => import_height x h hh u
  have cR := fun u => rimport_height s h hh u
  have cS := fun u => rsame_any none none 0 0 [] (by decide) u (RwRow.nil _ _ _) (RwRow.nil _ _ _)
  simp only [List.length_nil] at cS
  have hmk := make_fill
  obtain ⟨cs, hcs⟩ : ∃ cs, madeCells #[.int .u8 0] 70000 = cs := ⟨_, rfl⟩
  have hcz : cs.size = 70000 := by rw [← hcs]; simp [madeCells]
  rw [hcs] at hmk
  have HCZ := hideIt hcz
  clear hcs hcz
  go_enter Tryd.func3, Tryd.ntmps3
  go_upto_region 4 with fail
  have O0 : (w.alloc (.cells cs 5)).ownsRow w.heap.size 5 1 (.slice (some ⟨w.heap.size, 0, none⟩) 0 70000) 0 [] :=
    ⟨rfl, .inr ⟨w.heap.size, 70000, cs, rfl, Nat.le_refl _, Box.made w _ cs, by omega, by unfold maxLen; omega, by rw [HCZ.out], rfl⟩⟩
  have L0 := chainA (Below.refl w.heap.size w) (.cells cs 5)
  have hfz : fillS.size = 77 := by decide +kernel
  go_wp2
  generalize w.alloc (.cells cs 5) = W0 at *
  go_loopg [7] 66000 (fun gk v wr => ∃ (l : List UInt8) (n : Nat), l.length = n ∧ n ≤ 65613 ∧ 66000 - n ≤ gk ∧ v = .slice (some ⟨w.heap.size, 0, none⟩) n 70000 ∧ wr.ownsRow w.heap.size 5 1 (.slice (some ⟨w.heap.size, 0, none⟩) n 70000) n (u8s l) ∧ Below w.heap.size w wr)
  case atStart => exact ⟨[], 0, rfl, by omega, by omega, rfl, O0, L0⟩
  obtain ⟨l, n, hln, hn1, hgk, rfl, O, hb⟩ := hrel
  have HLN := hideIt hln
  have HGK := hideIt hgk
  clear hln hgk O0 L0
  by_cases hlt : n ≤ 65536
  · have hlti : (n : Int) ≤ 65536 := by omega
    go_wp2_with (first
      | (at_builtin; refine Go.Lib.wpList_append_fits_string _ rfl _ _ 22 9 rfl w.heap.size 5 i0 Tryd.underlying22 Tryd.underlying9 hi hz1 (some ⟨w.heap.size, 0, none⟩) n 70000 (u8s l) rfl O fillS rfl (by omega) (by omega) ?_; intro w' O' hg')
      | fail)
    go_roundg (66000 - (n + 77))
    case measure => have := HGK.out; omega
    case rel =>
      rw [hfz] at O'
      refine ⟨l ++ fillS.data.toList, n + 77, ?_, by omega, Nat.le_refl _, rfl, ?_, hb.grown hg' hb.size (fun j hj => by injection hj with hj; exact Nat.le_of_eq hj)⟩
      · rw [List.length_append, HLN.out, ← Lib.size_eq, hfz]
      · have e : u8s (l ++ fillS.data.toList) = u8s l ++ Lib.strCells fillS := by simp [u8s, Lib.strCells]
        rw [e]
        exact O'
  have hlti : ¬ ((n : Int) ≤ 65536) := by omega
  have hconv : (convert 22 9 (.slice (some ⟨w.heap.size, 0, none⟩) n 70000)).run Tryd.prog wr = .ok (.string (str l)) wr := by
    have h1 := conv_lies (lies_own (l := l) (by rw [HLN.out]; exact O)) 70000
    rw [HLN.out] at h1
    exact h1
  have hcat : ∀ u : World, (Op.stringOp .add (str l) s).run Tryd.prog u = .ok (.string (str l ++ s)) u := fun u => run_string_add_sum u _ _ (by rw [str_size]; have := HLN.out; omega)
  clear O
  by_cases h0 : h < 0
  · go_wp2_with (first
      | (go_at_call_of 8 (Value.string (str l ++ s)); refine (cI _ _).mono ?_; rintro e w2 ⟨rfl, j1⟩; have J1 := hb.trans (j1.mono hb.size))
      | (go_at_call 8; refine (cI _ _).mono ?_; rintro e w3 ⟨rfl, j3⟩)
      | (go_at_call 9; refine (cR _).mono ?_; rintro e w4 ⟨rfl, j2⟩)
      | (go_at_call 10; refine (cS _).mono ?_; rintro e w5 ⟨rfl, j5⟩)
      | fail)
    go_ret
    exact ⟨rfl, chain J1 (chain (chain j3 j2) j5)⟩
  · have h1 : 10 < h := by omega
    go_wp2_with (first
      | (go_at_call_of 8 (Value.string (str l ++ s)); refine (cI _ _).mono ?_; rintro e w2 ⟨rfl, j1⟩; have J1 := hb.trans (j1.mono hb.size))
      | (go_at_call 8; refine (cI _ _).mono ?_; rintro e w3 ⟨rfl, j3⟩)
      | (go_at_call 9; refine (cR _).mono ?_; rintro e w4 ⟨rfl, j2⟩)
      | (go_at_call 10; refine (cS _).mono ?_; rintro e w5 ⟨rfl, j5⟩)
      | fail)
    go_ret
    exact ⟨rfl, chain J1 (chain (chain j3 j2) j5)⟩
theorem ledgerImports_core (H : Type) (enc : TypeId × Value → H) (W : World) (base : Nat) (args : Array Value) (ds gs : List (DataW H)) (before : List MemPlace)
    (hval : ∀ (j : Nat) t v, Tryd.f3.params[j]? = some t → args[j]? = some v → Value.okWide Tryd.prog W .any base t v)
    (hW : DataW.Whole enc Tryd.prog Tryd.f3.params.toList Rows.ledgerImportsSpec.vars false W args.toList ds gs before) (hT : TabU W) :
    gs = [] ∧ ds.length = 3 ∧ Calls Tryd.prog 3 args W (Tells (.bool true) W.heap.size W) := by
  obtain ⟨p, q, hA, hV, -, -, -⟩ := hW
  obtain ⟨rfl, rfl⟩ := trodVars_none hV
  have hA : DataW.TrodAll enc Tryd.prog W 0 (fun _ => true) true Tryd.f3.params.toList args.toList ds p := hA
  rw [Tryd.params3] at hA hval
  obtain ⟨v0, vs0, d0, ds0, p0, ps0, e0, rfl, -, h0, hA⟩ := trodAll_cons hA
  obtain ⟨v1, vs1, d1, ds1, p1, ps1, rfl, rfl, -, h1, hA⟩ := trodAll_cons hA
  obtain ⟨v2, vs2, d2, ds2, p2, ps2, rfl, rfl, -, h2, hA⟩ := trodAll_cons hA
  obtain ⟨rfl, rfl, rfl⟩ := trodAll_nil hA
  obtain rfl : args = #[v0, v1, v2] := Array.ext' e0
  obtain ⟨s, rfl, rfl, rfl, z5⟩ := Go.ChangeMaps.open_string Tryd.underlying9 (hval 0 9 v0 rfl rfl) h0
  obtain ⟨h, rfl⟩ := okWide_int Tryd.underlying3 (hval 1 3 v1 rfl rfl)
  obtain ⟨b, rfl⟩ := okWide_bool Tryd.underlying4 (hval 2 4 v2 rfl rfl)
  refine ⟨rfl, rfl, ?_⟩
  by_cases hb : 4000 < s.size
  · exact limp_big s h b hb W
  · by_cases hh : 0 ≤ h ∧ h ≤ 10
    · obtain ⟨k, rfl⟩ : ∃ k : Nat, h = (k : Int) := ⟨h.toNat, by omega⟩
      cases b with
      | true => exact limp_long s k (by omega) (by omega) W hT
      | false => exact limp_short s k (by omega) (by omega) W hT
    · cases b with
      | true => exact limp_lost s h hh (by omega) W
      | false => exact limp_off s h hh (by omega) W

set_option maxRecDepth 100000 in
theorem ledgerImports_lifted (os : Os) (started : os.Started) (H : Type) (enc : TypeId × Value → H) :
    ReturnsInHanded {} Tryd.checked os 3 .any (fun w args => (Rows.ledgerImportsSpec.pre enc Tryd.prog Tryd.f3 [] false w args ∧ laidMetH Tryd.prog laidU w) ∧ sizedMet enc Tryd.prog Tryd.f3 (OpenSpec.ofChange Rows.ledgerImportsSpec) false w args)
      (Rows.ledgerImportsSpec.post enc Tryd.prog Tryd.f3 false true false false) := by
  refine returnsInHanded_of_change_and (C := Tryd.checked) (X := fun w _ => laidMetH Tryd.prog laidU w) (fun _ _ _ hh h => h.of_heap hh) own_knob started (by kernel_rfl) Tryd.func3
    (ChangeSpec.witness_shaped (enc := enc) (C := Tryd.checked) (os := os) (X := fun w _ => laidMetH Tryd.prog laidU w) false (World.laidAll Tryd.prog os laidU) #[.string ⟨#[]⟩, .int .i64 0, .bool false] 8 (World.laidAll_os _ _ _) (World.shaped_of_ZipB (by kernel_rfl) (by kernel_rfl)) (by kernel_rfl) (by kernel_rfl) (by kernel_rfl) (met_U os _)) ?_
  intro W base args ds gs before hval0 hW _ hwt hL _
  have hval : ∀ (j : Nat) t v, Tryd.f3.params[j]? = some t → args[j]? = some v → Value.okWide Tryd.prog W .any base t v := hval0
  obtain ⟨hg, hlen, hc⟩ := ledgerImports_core H enc W base args ds gs before hval hW (tab_of_laidU hL)
  subst hg
  have hr : (Tryd.f3.params.toList.all fun t => Tryd.prog.readableRec t && decide (t < Tryd.prog.types.size)) = true := by kernel_rfl
  have hread : ∀ t ∈ Tryd.f3.params.toList, Tryd.prog.readableRec t = true ∧ t < Tryd.prog.types.size := fun t ht => by
    have h := List.all_eq_true.1 hr t ht
    rw [Bool.and_eq_true, decide_eq_true_eq] at h
    exact h
  refine hc.mono fun e W' ⟨he, hb⟩ => ?_
  subst he
  match ds, hlen with
  | [d0, d1, d2], _ => exact ⟨_, rfl, law_post laid_out Tryd.underlying4 rfl hread rfl hW rfl rfl rfl hb⟩

theorem ledgerImports_holds : Rows.LedgerImportsSaid :=
  OpenClaim.holds_of_wide 3 Tryd.f3 rfl rfl rfl rfl rfl rfl rfl ⟨rfl, rfl, rfl, rfl, rfl⟩ rfl rfl rfl rfl rfl (by kernel_rfl) Tryd.func3 (by kernel_rfl)
    (of_decide_eq_true (by kernel_rfl)) (by unfold Func.isWrapper; first | (rw [if_pos (by decide +kernel)]; kernel_rfl) | (rw [if_neg (by decide +kernel)]; exact ⟨rfl, rfl⟩))
    (fun os started H enc _ => ledgerImports_lifted os started H enc)

theorem ledgerImports_card : Rows.LedgerImportsCardSaid :=
  Claim7.holds_tied_plain_at .later [] [.data, .pinned] true _ false
    ledgerImports_holds (fun _ h => by cases h) (by kernel_rfl) (fun _ h => by cases h) ledgerImports_row_tie rfl ⟨rfl, rfl⟩ (by kernel_rfl) rfl
    (fun f fn hf hfn => by
      obtain rfl : f = 3 := Option.some.inj ((show Tryd.prog.funcNamed "paymaster/paymasterlaw11.LedgerImports" = some 3 by kernel_rfl).symm.trans hf) |>.symm
      obtain rfl : fn = Tryd.f3 := (Option.some.inj (Tryd.func3.symm.trans hfn)).symm
      exact ⟨by kernel_rfl, fun j t ht => by
        have hm : t ∈ Tryd.f3.params.toList := by simpa using Array.mem_of_getElem? ht
        have hall : (Tryd.f3.params.toList.all fun u => !Tryd.prog.wantsStandIn u) = true := by kernel_rfl
        exact (show Tryd.prog.wantsStandIn t = false by simpa using List.all_eq_true.1 hall t hm)⟩)
    (by kernel_rfl)

end Go.Proofs.YthindbmgnkohhaaDoor
