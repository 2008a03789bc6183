/-
  From the rows' conditions on block's table of constants and on utf8's two tables to their cells; and a heap that meets each condition.
-/
import Derived.Test.YtjndabnegmecmaaDoorU7Id
import Derived.Test.YtjndabnegmecmaaDoorE7Same
import Derived.Test.YtjndabnegmecmaaDoorM4Blk
import Derived.Test.YtjndabnegmecmaaDoorW0Lift
import Derived.Test.YtjndabnegmecmaaDoorTie
import Derived.Test.YtjndabnegmecmaaDoorCards
import Derived.LaidMore
import Derived.Lay
import Derived.Lib.LaidTab
import Derived.Stop.Joined
import Derived.SevenTiedAt
namespace Go.Proofs.YtjndabnegmecmaaDoor
set_option linter.unusedVariables false
set_option linter.unusedSimpArgs false
set_option maxRecDepth 10000
open Go.ChangeShapes Go.WideShapes Go.ChangeAt Go.RowKit Go.Lib

def laidC : List (String × DataW Unit) := [("paymaster/block.constants", Rows.laid_paymaster_block_constants)]
def laidU : List (String × DataW Unit) := [("unicode/utf8.acceptRanges", Rows.laid_unicode_utf8_acceptRanges), ("unicode/utf8.first", Rows.laid_unicode_utf8_first)]
def laidA : List (String × DataW Unit) := [("paymaster/block.constants", Rows.laid_paymaster_block_constants), ("unicode/utf8.acceptRanges", Rows.laid_unicode_utf8_acceptRanges), ("unicode/utf8.first", Rows.laid_unicode_utf8_first)]
theorem global_k7 : Tryd.prog.globalNamed "paymaster/block.constants" = some 2 := by kernel_rfl
theorem global_t7 : (Tryd.prog.globals[2]?).map (·.type) = some 153 := by kernel_rfl
def kI7 : List Int := ktab.map Int.ofNat
theorem kI7_len : kI7.length = 64 := by decide +kernel
theorem kI7_at : ∀ i, i < 64 → kI7.getD i 0 = iv (kB.getD i 0) := by decide +kernel
theorem const_tab : (Rows.laid_paymaster_block_constants : DataW Unit) = Lib.tabData .u32 kI7 := by kernel_rfl
theorem first_tab : Rows.laid_unicode_utf8_first = Lib.firstData := by kernel_rfl
theorem accept_tab : (Rows.laid_unicode_utf8_acceptRanges : DataW Unit) = Lib.acceptData := by kernel_rfl

theorem tab_of_head {W : World} {rest : List (String × DataW Unit)} (h : laidMet Tryd.prog (("paymaster/block.constants", Rows.laid_paymaster_block_constants) :: rest) W) : Tab W := by
  rw [const_tab] at h
  have hT := Lib.tabIs_of_head global_k7 global_t7 Tryd.underlying153 Tryd.underlying123 (by kernel_rfl) (by kernel_rfl) h
  have hc : ∀ i, i < 64 → W.cell? ⟨2, i, none⟩ = some (.int .u32 (iv (kB.getD i 0))) := fun i hi => by
    rw [← kI7_at i hi]; exact hT.cell global_k7 i (by rw [kI7_len]; exact hi)
  exact ⟨World.block_lt_of_cell? W ⟨2, 0, none⟩ (hc 0 (by decide)), hc⟩
theorem tabU_of_reads {W : World} (h3 : VarReads Tryd.prog W "unicode/utf8.first" Rows.laid_unicode_utf8_first) (h4 : VarReads Tryd.prog W "unicode/utf8.acceptRanges" Rows.laid_unicode_utf8_acceptRanges) : TabU W := by
  rw [first_tab] at h3
  rw [accept_tab] at h4
  have hU := utf8Tabs_of_readsT (U8Types.of196 laysValid) ⟨by kernel_rfl, by kernel_rfl, by kernel_rfl, by kernel_rfl, by kernel_rfl, by kernel_rfl, by kernel_rfl⟩ h3 h4
  exact ⟨⟨World.block_lt_of_cell? W ⟨_, 0, none⟩ (hU.1 0 (by decide)), World.block_lt_of_cell? W ⟨_, 2 * 0, none⟩ (hU.2 0 (by decide)).1⟩, hU⟩
theorem tab_of_laidC {W : World} (h : laidMetH Tryd.prog laidC W) : Tab W := by
  rw [MakeChecks.laidMetH_plain _ _ _ (by kernel_rfl)] at h
  exact tab_of_head h
theorem tab_of_laidU {W : World} (h : laidMetH Tryd.prog laidU W) : TabU W := by
  rw [MakeChecks.laidMetH_plain _ _ _ (by kernel_rfl)] at h
  exact tabU_of_reads (Lib.laidMet.reads h (.tail _ (.head _))) (Lib.laidMet.reads h (.head _))
theorem tab_of_laidA {W : World} (h : laidMetH Tryd.prog laidA W) : Tab W ∧ TabU W := by
  rw [MakeChecks.laidMetH_plain _ _ _ (by kernel_rfl)] at h
  exact ⟨tab_of_head h, tabU_of_reads (Lib.laidMet.reads h (.tail _ (.tail _ (.head _)))) (Lib.laidMet.reads h (.tail _ (.head _)))⟩
/-- Heaps that meet the conditions. -/
theorem met_C (os : Os) (args : Array Value) : laidMetH Tryd.prog laidC ((World.laidAll Tryd.prog os laidC).forCall (fun _ _ => 0) ⟨#[], args, []⟩).memory := by
  rw [MakeChecks.laidMetH_plain _ _ _ (by kernel_rfl)]
  exact laidMet_laidAll _ (by kernel_rfl) (by kernel_rfl)
theorem met_U (os : Os) (args : Array Value) : laidMetH Tryd.prog laidU ((World.laidAll Tryd.prog os laidU).forCall (fun _ _ => 0) ⟨#[], args, []⟩).memory := by
  rw [MakeChecks.laidMetH_plain _ _ _ (by kernel_rfl)]
  exact laidMet_laidAll _ (by kernel_rfl) (by kernel_rfl)
theorem met_A (os : Os) (args : Array Value) : laidMetH Tryd.prog laidA ((World.laidAll Tryd.prog os laidA).forCall (fun _ _ => 0) ⟨#[], args, []⟩).memory := by
  rw [MakeChecks.laidMetH_plain _ _ _ (by kernel_rfl)]
  exact laidMet_laidAll _ (by kernel_rfl) (by kernel_rfl)

/-- A leaf, opened. -/
theorem open_leaf {H : Type} {enc : TypeId × Value → H} {W : World} {base : Nat} {v : Value} {d : DataW H} {p : List MemPlace} (hval : Value.okWide Tryd.prog W .any base 36 v)
    (h : DataW.Trod enc Tryd.prog W 0 (fun _ => true) true 36 v d p) : ∃ x : Lf, v = x.val ∧ x.id.size ≤ 9223372036854775807 ∧ x.salt.size ≤ 9223372036854775807 ∧ Word x.h ∧ Word x.l := by
  obtain ⟨cs, rfl, hsz⟩ := okWide_struct Tryd.underlying36 hval
  have hsz5 : cs.size = 5 := hsz.trans (show Tryd.prog.cellsOf 36 = 5 by kernel_rfl)
  obtain ⟨c0, c1, c2, c3, c4, rfl⟩ : ∃ c0 c1 c2 c3 c4, cs = #[c0, c1, c2, c3, c4] := by
    obtain ⟨l⟩ := cs
    match l, hsz5 with
    | [c0, c1, c2, c3, c4], _ => exact ⟨c0, c1, c2, c3, c4, rfl⟩
  obtain ⟨fuel, hf⟩ := h
  obtain ⟨y0, y1, y2, y3, n, -, -, t0, t1, t2, t3⟩ := Go.Joins.trod_struct4 Tryd.underlying36 hf
  have o0 : Tryd.prog.cellsOf 29 = 1 := by kernel_rfl
  have o1 : Tryd.prog.cellsOf 31 = 2 := by kernel_rfl
  have o2 : Tryd.prog.cellsOf 4 = 1 := by kernel_rfl
  have o3 : Tryd.prog.cellsOf 9 = 1 := by kernel_rfl
  have t0' : DataW.trod enc Tryd.prog W 0 (fun _ => true) true n 4 [c0] = some y0 := by simpa [Value.cells, o2] using t0
  have t1' : DataW.trod enc Tryd.prog W 0 (fun _ => true) true n 9 [c1] = some y1 := by simpa [Value.cells, o3] using t1
  have t2' : DataW.trod enc Tryd.prog W 0 (fun _ => true) true n 9 [c2] = some y2 := by simpa [Value.cells, o3] using t2
  have t3' : DataW.trod enc Tryd.prog W 0 (fun _ => true) true n 31 [c3, c4] = some y3 := by simpa [Value.cells, o1] using t3
  obtain ⟨z0, z1, k, -, -, s0, s1⟩ := trod_struct2 Tryd.underlying31 t3'
  have s0' : DataW.trod enc Tryd.prog W 0 (fun _ => true) true k 29 [c3] = some z0 := by simpa [o0] using s0
  have s1' : DataW.trod enc Tryd.prog W 0 (fun _ => true) true k 29 [c4] = some z1 := by simpa [o0] using s1
  obtain ⟨b, eb, -⟩ := DataW.trod_bool Tryd.underlying4 t0'
  obtain ⟨i, ei, -, wi⟩ := DataW.trod_string Tryd.underlying9 t1'
  obtain ⟨s, es, -, ws⟩ := DataW.trod_string Tryd.underlying9 t2'
  obtain ⟨h, eh, -, wh⟩ := DataW.trod_int Tryd.underlying29 s0'
  obtain ⟨l, el, -, wl⟩ := DataW.trod_int Tryd.underlying29 s1'
  simp at eb ei es eh el
  subst eb ei es eh el
  exact ⟨⟨b, i, s, h, l⟩, rfl, wi, ws, word_of wh, word_of wl⟩
theorem node_cells {H : Type} {enc : TypeId × Value → H} {W : World} {fuel : Nat} {cs : List Value} {y : DataW H × List MemPlace} (hh : DataW.trod enc Tryd.prog W 0 (fun _ => true) true fuel 46 cs = some y) :
    ∃ x : Nd, cs = [.string x.hash, .int .u64 x.h, .int .u64 x.l] ∧ x.hash.size ≤ 9223372036854775807 ∧ Word x.h ∧ Word x.l := by
  obtain ⟨y0, y1, n, -, hl, t0, t1⟩ := trod_struct2 Tryd.underlying46 hh
  have h3 : cs.length = 3 := hl.trans (show Tryd.prog.cellsOf 46 = 3 by kernel_rfl)
  obtain ⟨c0, c1, c2, rfl⟩ : ∃ c0 c1 c2, cs = [c0, c1, c2] := by
    match cs, h3 with
    | [c0, c1, c2], _ => exact ⟨c0, c1, c2, rfl⟩
  have o0 : Tryd.prog.cellsOf 29 = 1 := by kernel_rfl
  have o1 : Tryd.prog.cellsOf 31 = 2 := by kernel_rfl
  have o3 : Tryd.prog.cellsOf 9 = 1 := by kernel_rfl
  have t0' : DataW.trod enc Tryd.prog W 0 (fun _ => true) true n 9 [c0] = some y0 := by simpa [Value.cells, o3] using t0
  have t1' : DataW.trod enc Tryd.prog W 0 (fun _ => true) true n 31 [c1, c2] = some y1 := by simpa [Value.cells, o1] using t1
  obtain ⟨z0, z1, k, -, -, s0, s1⟩ := trod_struct2 Tryd.underlying31 t1'
  have s0' : DataW.trod enc Tryd.prog W 0 (fun _ => true) true k 29 [c1] = some z0 := by simpa [o0] using s0
  have s1' : DataW.trod enc Tryd.prog W 0 (fun _ => true) true k 29 [c2] = some z1 := by simpa [o0] using s1
  obtain ⟨s, es, -, ws⟩ := DataW.trod_string Tryd.underlying9 t0'
  obtain ⟨h, eh, -, wh⟩ := DataW.trod_int Tryd.underlying29 s0'
  obtain ⟨l, el, -, wl⟩ := DataW.trod_int Tryd.underlying29 s1'
  simp at es eh el
  subst es eh el
  exact ⟨⟨s, h, l⟩, rfl, ws, word_of wh, word_of wl⟩
/-- A node, opened. -/
theorem open_node {H : Type} {enc : TypeId × Value → H} {W : World} {base : Nat} {v : Value} {d : DataW H} {p : List MemPlace} (hval : Value.okWide Tryd.prog W .any base 46 v)
    (h : DataW.Trod enc Tryd.prog W 0 (fun _ => true) true 46 v d p) : ∃ x : Nd, v = x.val ∧ x.hash.size ≤ 9223372036854775807 ∧ Word x.h ∧ Word x.l := by
  obtain ⟨cs, rfl, hsz⟩ := okWide_struct Tryd.underlying46 hval
  obtain ⟨fuel, hf⟩ := h
  obtain ⟨x, hx, h1, h2, h3⟩ := node_cells hf
  refine ⟨x, ?_, h1, h2, h3⟩
  have e : cs.toList = [.string x.hash, .int .u64 x.h, .int .u64 x.l] := hx
  obtain rfl : cs = #[.string x.hash, .int .u64 x.h, .int .u64 x.l] := Array.ext' e
  rfl
end Go.Proofs.YtjndabnegmecmaaDoor
