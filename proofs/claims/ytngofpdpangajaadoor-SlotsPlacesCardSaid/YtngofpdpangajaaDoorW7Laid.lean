/-
  From the rows' conditions on block's table of constants and on utf8's two tables to their cells; and a heap that meets each condition.
-/
import Derived.Test.YtngofpdpangajaaDoorU7Id
import Derived.Test.YtngofpdpangajaaDoorE7Same
import Derived.Test.YtngofpdpangajaaDoorM4Blk
import Derived.Test.YtngofpdpangajaaDoorW0Lift
import Derived.Test.YtngofpdpangajaaDoorTie
import Derived.Test.YtngofpdpangajaaDoorCards
import Derived.LaidMore
import Derived.Lay
import Derived.Lib.LaidTab
import Derived.Stop.Joined
import Derived.SevenTiedAt
namespace Go.Proofs.YtngofpdpangajaaDoor
set_option linter.unusedVariables false
set_option linter.unusedSimpArgs false
set_option maxRecDepth 10000
open Go.ChangeShapes Go.WideShapes Go.ChangeAt Go.RowKit Go.Lib

def laidC : List (String × DataW Unit) := [("paymaster/block.constants", Rows.laid_paymaster_block_constants)]
def laidU : List (String × DataW Unit) := [("unicode/utf8.acceptRanges", Rows.laid_unicode_utf8_acceptRanges), ("unicode/utf8.first", Rows.laid_unicode_utf8_first)]
def laidA : List (String × DataW Unit) := [("paymaster/block.constants", Rows.laid_paymaster_block_constants), ("unicode/utf8.acceptRanges", Rows.laid_unicode_utf8_acceptRanges), ("unicode/utf8.first", Rows.laid_unicode_utf8_first)]
theorem global_k7 : Tryd.prog.globalNamed "paymaster/block.constants" = some 3 := by kernel_rfl
theorem global_t7 : (Tryd.prog.globals[3]?).map (·.type) = some 158 := by kernel_rfl
def kI7 : List Int := ktab.map Int.ofNat
theorem kI7_len : kI7.length = 64 := by decide +kernel
theorem kI7_at : ∀ i, i < 64 → kI7.getD i 0 = iv (kB.getD i 0) := by decide +kernel
theorem const_tab : (Rows.laid_paymaster_block_constants : DataW Unit) = Lib.tabData .u32 kI7 := by kernel_rfl
theorem first_tab : Rows.laid_unicode_utf8_first = Lib.firstData := by kernel_rfl
theorem accept_tab : (Rows.laid_unicode_utf8_acceptRanges : DataW Unit) = Lib.acceptData := by kernel_rfl

theorem tab_of_head {W : World} {rest : List (String × DataW Unit)} (h : laidMet Tryd.prog (("paymaster/block.constants", Rows.laid_paymaster_block_constants) :: rest) W) : Tab W := by
  rw [const_tab] at h
  have hT := Lib.tabIs_of_head global_k7 global_t7 Tryd.underlying158 Tryd.underlying139 (by kernel_rfl) (by kernel_rfl) h
  have hc : ∀ i, i < 64 → W.cell? ⟨3, i, none⟩ = some (.int .u32 (iv (kB.getD i 0))) := fun i hi => by
    rw [← kI7_at i hi]; exact hT.cell global_k7 i (by rw [kI7_len]; exact hi)
  exact ⟨World.block_lt_of_cell? W ⟨3, 0, none⟩ (hc 0 (by decide)), hc⟩
theorem tabU_of_reads {W : World} (h3 : VarReads Tryd.prog W "unicode/utf8.first" Rows.laid_unicode_utf8_first) (h4 : VarReads Tryd.prog W "unicode/utf8.acceptRanges" Rows.laid_unicode_utf8_acceptRanges) : TabU W := by
  rw [first_tab] at h3
  rw [accept_tab] at h4
  have hU := utf8Tabs_of_readsT (U8Types.of196 laysValid) ⟨by kernel_rfl, by kernel_rfl, by kernel_rfl, by kernel_rfl, by kernel_rfl, by kernel_rfl, by kernel_rfl⟩ h3 h4
  exact ⟨⟨World.block_lt_of_cell? W ⟨_, 0, none⟩ (hU.1 0 (by decide)), World.block_lt_of_cell? W ⟨_, 2 * 0, none⟩ (hU.2 0 (by decide)).1⟩, hU⟩
theorem tab_of_laidC {W : World} (h : laidMetH Tryd.prog laidC W) : Tab W := by
  rw [MakeChecks.laidMetH_plain _ _ _ (by kernel_rfl)] at h
  exact tab_of_head h
theorem tab_of_laidU {W : World} (h : laidMetH Tryd.prog laidU W) : TabU W := by
  rw [MakeChecks.laidMetH_plain _ _ _ (by kernel_rfl)] at h
  exact tabU_of_reads (Lib.laidMet.reads h (.tail _ (.head _))) (Lib.laidMet.reads h (.head _))
theorem tab_of_laidA {W : World} (h : laidMetH Tryd.prog laidA W) : Tab W ∧ TabU W := by
  rw [MakeChecks.laidMetH_plain _ _ _ (by kernel_rfl)] at h
  exact ⟨tab_of_head h, tabU_of_reads (Lib.laidMet.reads h (.tail _ (.tail _ (.head _)))) (Lib.laidMet.reads h (.tail _ (.head _)))⟩
/-- Heaps that meet the conditions. -/
theorem met_C (os : Os) (args : Array Value) : laidMetH Tryd.prog laidC ((World.laidAll Tryd.prog os laidC).forCall (fun _ _ => 0) ⟨#[], args, []⟩).memory := by
  rw [MakeChecks.laidMetH_plain _ _ _ (by kernel_rfl)]
  exact laidMet_laidAll _ (by kernel_rfl) (by kernel_rfl)
theorem met_U (os : Os) (args : Array Value) : laidMetH Tryd.prog laidU ((World.laidAll Tryd.prog os laidU).forCall (fun _ _ => 0) ⟨#[], args, []⟩).memory := by
  rw [MakeChecks.laidMetH_plain _ _ _ (by kernel_rfl)]
  exact laidMet_laidAll _ (by kernel_rfl) (by kernel_rfl)
theorem met_A (os : Os) (args : Array Value) : laidMetH Tryd.prog laidA ((World.laidAll Tryd.prog os laidA).forCall (fun _ _ => 0) ⟨#[], args, []⟩).memory := by
  rw [MakeChecks.laidMetH_plain _ _ _ (by kernel_rfl)]
  exact laidMet_laidAll _ (by kernel_rfl) (by kernel_rfl)

/-- A leaf, opened. -/
theorem open_leaf {H : Type} {enc : TypeId × Value → H} {W : World} {base : Nat} {v : Value} {d : DataW H} {p : List MemPlace} (hval : Value.okWide Tryd.prog W .any base 46 v)
    (h : DataW.Trod enc Tryd.prog W 0 (fun _ => true) true 46 v d p) : ∃ x : Lf, v = x.val ∧ x.id.size ≤ 9223372036854775807 ∧ x.salt.size ≤ 9223372036854775807 ∧ Word x.h ∧ Word x.l := by
  obtain ⟨cs, rfl, hsz⟩ := okWide_struct Tryd.underlying46 hval
  have hsz5 : cs.size = 5 := hsz.trans (show Tryd.prog.cellsOf 46 = 5 by kernel_rfl)
  obtain ⟨c0, c1, c2, c3, c4, rfl⟩ : ∃ c0 c1 c2 c3 c4, cs = #[c0, c1, c2, c3, c4] := by
    obtain ⟨l⟩ := cs
    match l, hsz5 with
    | [c0, c1, c2, c3, c4], _ => exact ⟨c0, c1, c2, c3, c4, rfl⟩
  obtain ⟨fuel, hf⟩ := h
  obtain ⟨y0, y1, y2, y3, n, -, -, t0, t1, t2, t3⟩ := Go.Joins.trod_struct4 Tryd.underlying46 hf
  have o0 : Tryd.prog.cellsOf 34 = 1 := by kernel_rfl
  have o1 : Tryd.prog.cellsOf 36 = 2 := by kernel_rfl
  have o2 : Tryd.prog.cellsOf 4 = 1 := by kernel_rfl
  have o3 : Tryd.prog.cellsOf 9 = 1 := by kernel_rfl
  have t0' : DataW.trod enc Tryd.prog W 0 (fun _ => true) true n 4 [c0] = some y0 := by simpa [Value.cells, o2] using t0
  have t1' : DataW.trod enc Tryd.prog W 0 (fun _ => true) true n 9 [c1] = some y1 := by simpa [Value.cells, o3] using t1
  have t2' : DataW.trod enc Tryd.prog W 0 (fun _ => true) true n 9 [c2] = some y2 := by simpa [Value.cells, o3] using t2
  have t3' : DataW.trod enc Tryd.prog W 0 (fun _ => true) true n 36 [c3, c4] = some y3 := by simpa [Value.cells, o1] using t3
  obtain ⟨z0, z1, k, -, -, s0, s1⟩ := trod_struct2 Tryd.underlying36 t3'
  have s0' : DataW.trod enc Tryd.prog W 0 (fun _ => true) true k 34 [c3] = some z0 := by simpa [o0] using s0
  have s1' : DataW.trod enc Tryd.prog W 0 (fun _ => true) true k 34 [c4] = some z1 := by simpa [o0] using s1
  obtain ⟨b, eb, -⟩ := DataW.trod_bool Tryd.underlying4 t0'
  obtain ⟨i, ei, -, wi⟩ := DataW.trod_string Tryd.underlying9 t1'
  obtain ⟨s, es, -, ws⟩ := DataW.trod_string Tryd.underlying9 t2'
  obtain ⟨h, eh, -, wh⟩ := DataW.trod_int Tryd.underlying34 s0'
  obtain ⟨l, el, -, wl⟩ := DataW.trod_int Tryd.underlying34 s1'
  simp at eb ei es eh el
  subst eb ei es eh el
  exact ⟨⟨b, i, s, h, l⟩, rfl, wi, ws, word_of wh, word_of wl⟩
end Go.Proofs.YtngofpdpangajaaDoor
