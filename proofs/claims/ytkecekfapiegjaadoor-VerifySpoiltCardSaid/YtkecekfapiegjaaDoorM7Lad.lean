/- Several of my texts, laid as one. -/
import Derived.Test.YtkecekfapiegjaaDoorM4Blk
import Derived.Test.YtkecekfapiegjaaDoorW0Lift
import Derived.Test.YtkecekfapiegjaaDoorTie
import Derived.Test.YtkecekfapiegjaaDoorCards
import Derived.LaidMore
import Derived.Lib.LaidTab
import Derived.Stop.Joined
import Derived.SevenTiedAt
import Derived.Test.YtkecekfapiegjaaDoorU7Id
import Derived.Test.YtkecekfapiegjaaDoorM7Wrd
import Derived.Lay
/-
  From the row's condition on block's table of constants to its cells; and the door's own heap meets the condition.
-/
namespace Go.Proofs.YtkecekfapiegjaaDoor
set_option linter.unusedVariables false
set_option linter.unusedSimpArgs false
set_option maxRecDepth 10000
open Go.ChangeShapes Go.WideShapes Go.ChangeAt Go.RowKit

def laidK : List (String × DataW Unit) := [("paymaster/block.constants", Rows.laid_paymaster_block_constants)]
theorem global_k : Tryd.prog.globalNamed "paymaster/block.constants" = some 2 := by kernel_rfl
theorem global_t : (Tryd.prog.globals[2]?).map (·.type) = some 178 := by kernel_rfl
def kI : List Int := ktab.map Int.ofNat
theorem kI_len : kI.length = 64 := by decide +kernel
theorem kI_at : ∀ i, i < 64 → kI.getD i 0 = iv (kB.getD i 0) := by decide +kernel
theorem laid_tab : laidK = [("paymaster/block.constants", Lib.tabData .u32 kI)] := by kernel_rfl
theorem tab_of_laid {W : World} (h : laidMetH Tryd.prog laidK W) : Tab W := by
  rw [MakeChecks.laidMetH_plain _ _ _ (by kernel_rfl), laid_tab] at h
  have hT := Lib.tabIs_of_head global_k global_t Tryd.underlying178 Tryd.underlying140 (by kernel_rfl) (by kernel_rfl) h
  have hc : ∀ i, i < 64 → W.cell? ⟨2, i, none⟩ = some (.int .u32 (iv (kB.getD i 0))) := fun i hi => by
    rw [← kI_at i hi]; exact hT.cell global_k i (by rw [kI_len]; exact hi)
  exact ⟨World.block_lt_of_cell? W ⟨2, 0, none⟩ (hc 0 (by decide)), hc⟩
/-- The door's own heap meets the condition. -/
theorem door_met (os : Os) (args : Array Value) : laidMetH Tryd.prog laidK ((World.doorLaid Tryd.prog 14 os).forCall (fun _ _ => 0) ⟨#[], args, []⟩).memory :=
  laidMetH_of_parts3 (fuel := 8) (laidMet_of_run' 8 (by kernel_rfl) (by kernel_rfl)) (by kernel_rfl) (by kernel_rfl)

theorem okWide_arr {P : Program} {w : World} {r : Reach} {base n : Nat} {t e : TypeId} {v : Value} (ht : P.underlying t = some (.array n e)) (h : Value.okWide P w r base t v) : ∃ cs, v = .agg cs ∧ cs.size = P.cellsOf t := by
  simp only [Value.okWide, ht] at h
  obtain ⟨cs, h1, h2, _⟩ := h
  exact ⟨cs, h1, h2⟩
theorem iv_of_wf {k : Int} (h : (Lit.int .u32 k).wf = true) : ∃ x : B32, k = iv x := by
  simp [Lit.wf, IntKind.min, IntKind.max, IntKind.signed, IntKind.bits] at h
  exact iv_of (by omega) (by omega)
/-- A word, opened. -/
theorem open_u32 {H : Type} {enc : TypeId × Value → H} {W : World} {base : Nat} {v : Value} {d : DataW H} {p : List MemPlace} (hval : Value.okWide Tryd.prog W .any base 140 v)
    (h : DataW.Trod enc Tryd.prog W 0 (fun _ => true) true 140 v d p) : ∃ x : B32, v = .int .u32 (iv x) := by
  obtain ⟨n, rfl, -, -, hb⟩ := open_int Tryd.underlying140 hval h
  obtain ⟨x, rfl⟩ := iv_of_wf (k := n) (by simpa using hb)
  exact ⟨x, rfl⟩
/-- A state, opened. -/
theorem open_st {H : Type} {enc : TypeId × Value → H} {W : World} {base : Nat} {v : Value} {d : DataW H} {p : List MemPlace} (hval : Value.okWide Tryd.prog W .any base 142 v)
    (h : DataW.Trod enc Tryd.prog W 0 (fun _ => true) true 142 v d p) : ∃ s : St, v = .agg #[.int .u32 (iv s.a), .int .u32 (iv s.b), .int .u32 (iv s.c), .int .u32 (iv s.d), .int .u32 (iv s.e), .int .u32 (iv s.f), .int .u32 (iv s.g), .int .u32 (iv s.h)] := by
  obtain ⟨cs, rfl, hsz⟩ := okWide_arr Tryd.underlying142 hval
  have hsz8 : cs.size = 8 := hsz
  obtain ⟨fuel, hf⟩ := h
  obtain ⟨xs, m, -, -, -, hxl, hel⟩ := DataW.trod_array Tryd.underlying142 hf
  have c1 : Tryd.prog.cellsOf 140 = 1 := by kernel_rfl
  have one : ∀ i, i < 8 → ∃ x : B32, cs[i]? = some (.int .u32 (iv x)) := fun i hi => by
    have hi2 := hel i hi
    rw [c1, Nat.mul_one] at hi2
    obtain ⟨b, hb⟩ : ∃ b, xs[i]? = some b := ⟨_, List.getElem?_eq_getElem (by omega)⟩
    rw [hb] at hi2
    obtain ⟨k, e0, -, w0⟩ := DataW.trod_int Tryd.underlying140 hi2
    obtain ⟨x, rfl⟩ := iv_of_wf w0
    refine ⟨x, ?_⟩
    have h1 := congrArg (·[0]?) e0
    simpa [Value.cells, List.getElem?_take, List.getElem?_drop] using h1
  obtain ⟨a, ha⟩ := one 0 (by decide)
  obtain ⟨b, hb⟩ := one 1 (by decide)
  obtain ⟨c, hc⟩ := one 2 (by decide)
  obtain ⟨d, hd⟩ := one 3 (by decide)
  obtain ⟨e, he⟩ := one 4 (by decide)
  obtain ⟨f, hf'⟩ := one 5 (by decide)
  obtain ⟨g, hg⟩ := one 6 (by decide)
  obtain ⟨i, hi⟩ := one 7 (by decide)
  refine ⟨⟨a, b, c, d, e, f, g, i⟩, ?_⟩
  congr 1
  apply Array.ext_getElem?
  intro j
  by_cases hj : j < 8
  · match j, hj with
    | 0, _ => exact ha
    | 1, _ => exact hb
    | 2, _ => exact hc
    | 3, _ => exact hd
    | 4, _ => exact he
    | 5, _ => exact hf'
    | 6, _ => exact hg
    | 7, _ => exact hi
  · rw [Array.getElem?_eq_none (by omega), Array.getElem?_eq_none (by simp; omega)]
end Go.Proofs.YtkecekfapiegjaaDoor
/-
  From the rows' conditions on block's table of constants and on utf8's two tables to their cells; and a heap that meets each condition.
-/
namespace Go.Proofs.YtkecekfapiegjaaDoor
set_option linter.unusedVariables false
set_option linter.unusedSimpArgs false
set_option maxRecDepth 10000
open Go.ChangeShapes Go.WideShapes Go.ChangeAt Go.RowKit Go.Lib

def laidC : List (String × DataW Unit) := [("paymaster/block.constants", Rows.laid_paymaster_block_constants)]
def laidU : List (String × DataW Unit) := [("unicode/utf8.acceptRanges", Rows.laid_unicode_utf8_acceptRanges), ("unicode/utf8.first", Rows.laid_unicode_utf8_first)]
def laidA : List (String × DataW Unit) := [("paymaster/block.constants", Rows.laid_paymaster_block_constants), ("unicode/utf8.acceptRanges", Rows.laid_unicode_utf8_acceptRanges), ("unicode/utf8.first", Rows.laid_unicode_utf8_first)]
theorem global_k7 : Tryd.prog.globalNamed "paymaster/block.constants" = some 2 := by kernel_rfl
theorem global_t7 : (Tryd.prog.globals[2]?).map (·.type) = some 178 := by kernel_rfl
def kI7 : List Int := ktab.map Int.ofNat
theorem kI7_len : kI7.length = 64 := by decide +kernel
theorem kI7_at : ∀ i, i < 64 → kI7.getD i 0 = iv (kB.getD i 0) := by decide +kernel
theorem const_tab : (Rows.laid_paymaster_block_constants : DataW Unit) = Lib.tabData .u32 kI7 := by kernel_rfl
theorem first_tab : Rows.laid_unicode_utf8_first = Lib.firstData := by kernel_rfl
theorem accept_tab : (Rows.laid_unicode_utf8_acceptRanges : DataW Unit) = Lib.acceptData := by kernel_rfl

theorem tab_of_head {W : World} {rest : List (String × DataW Unit)} (h : laidMet Tryd.prog (("paymaster/block.constants", Rows.laid_paymaster_block_constants) :: rest) W) : Tab W := by
  rw [const_tab] at h
  have hT := Lib.tabIs_of_head global_k7 global_t7 Tryd.underlying178 Tryd.underlying140 (by kernel_rfl) (by kernel_rfl) h
  have hc : ∀ i, i < 64 → W.cell? ⟨2, i, none⟩ = some (.int .u32 (iv (kB.getD i 0))) := fun i hi => by
    rw [← kI7_at i hi]; exact hT.cell global_k7 i (by rw [kI7_len]; exact hi)
  exact ⟨World.block_lt_of_cell? W ⟨2, 0, none⟩ (hc 0 (by decide)), hc⟩
theorem tabU_of_reads {W : World} (h3 : VarReads Tryd.prog W "unicode/utf8.first" Rows.laid_unicode_utf8_first) (h4 : VarReads Tryd.prog W "unicode/utf8.acceptRanges" Rows.laid_unicode_utf8_acceptRanges) : TabU W := by
  rw [first_tab] at h3
  rw [accept_tab] at h4
  have hU := utf8Tabs_of_readsT (U8Types.of196 laysValid) ⟨by kernel_rfl, by kernel_rfl, by kernel_rfl, by kernel_rfl, by kernel_rfl, by kernel_rfl, by kernel_rfl⟩ h3 h4
  exact ⟨⟨World.block_lt_of_cell? W ⟨_, 0, none⟩ (hU.1 0 (by decide)), World.block_lt_of_cell? W ⟨_, 2 * 0, none⟩ (hU.2 0 (by decide)).1⟩, hU⟩
theorem tab_of_laidC {W : World} (h : laidMetH Tryd.prog laidC W) : Tab W := by
  rw [MakeChecks.laidMetH_plain _ _ _ (by kernel_rfl)] at h
  exact tab_of_head h
theorem tab_of_laidU {W : World} (h : laidMetH Tryd.prog laidU W) : TabU W := by
  rw [MakeChecks.laidMetH_plain _ _ _ (by kernel_rfl)] at h
  exact tabU_of_reads (Lib.laidMet.reads h (.tail _ (.head _))) (Lib.laidMet.reads h (.head _))
theorem tab_of_laidA {W : World} (h : laidMetH Tryd.prog laidA W) : Tab W ∧ TabU W := by
  rw [MakeChecks.laidMetH_plain _ _ _ (by kernel_rfl)] at h
  exact ⟨tab_of_head h, tabU_of_reads (Lib.laidMet.reads h (.tail _ (.tail _ (.head _)))) (Lib.laidMet.reads h (.tail _ (.head _)))⟩
/-- Heaps that meet the conditions. -/
theorem met_C (os : Os) (args : Array Value) : laidMetH Tryd.prog laidC ((World.laidAll Tryd.prog os laidC).forCall (fun _ _ => 0) ⟨#[], args, []⟩).memory := by
  rw [MakeChecks.laidMetH_plain _ _ _ (by kernel_rfl)]
  exact laidMet_laidAll _ (by kernel_rfl) (by kernel_rfl)
theorem met_U (os : Os) (args : Array Value) : laidMetH Tryd.prog laidU ((World.laidAll Tryd.prog os laidU).forCall (fun _ _ => 0) ⟨#[], args, []⟩).memory := by
  rw [MakeChecks.laidMetH_plain _ _ _ (by kernel_rfl)]
  exact laidMet_laidAll _ (by kernel_rfl) (by kernel_rfl)
theorem met_A (os : Os) (args : Array Value) : laidMetH Tryd.prog laidA ((World.laidAll Tryd.prog os laidA).forCall (fun _ _ => 0) ⟨#[], args, []⟩).memory := by
  rw [MakeChecks.laidMetH_plain _ _ _ (by kernel_rfl)]
  exact laidMet_laidAll _ (by kernel_rfl) (by kernel_rfl)

/-- A leaf, opened. -/
theorem open_leaf {H : Type} {enc : TypeId × Value → H} {W : World} {base : Nat} {v : Value} {d : DataW H} {p : List MemPlace} (hval : Value.okWide Tryd.prog W .any base 34 v)
    (h : DataW.Trod enc Tryd.prog W 0 (fun _ => true) true 34 v d p) : ∃ x : Lf, v = x.val ∧ x.id.size ≤ 9223372036854775807 ∧ x.salt.size ≤ 9223372036854775807 ∧ Word x.h ∧ Word x.l := by
  obtain ⟨cs, rfl, hsz⟩ := okWide_struct Tryd.underlying34 hval
  have hsz5 : cs.size = 5 := hsz.trans (show Tryd.prog.cellsOf 34 = 5 by kernel_rfl)
  obtain ⟨c0, c1, c2, c3, c4, rfl⟩ : ∃ c0 c1 c2 c3 c4, cs = #[c0, c1, c2, c3, c4] := by
    obtain ⟨l⟩ := cs
    match l, hsz5 with
    | [c0, c1, c2, c3, c4], _ => exact ⟨c0, c1, c2, c3, c4, rfl⟩
  obtain ⟨fuel, hf⟩ := h
  obtain ⟨y0, y1, y2, y3, n, -, -, t0, t1, t2, t3⟩ := Go.Joins.trod_struct4 Tryd.underlying34 hf
  have o0 : Tryd.prog.cellsOf 22 = 1 := by kernel_rfl
  have o1 : Tryd.prog.cellsOf 24 = 2 := by kernel_rfl
  have o2 : Tryd.prog.cellsOf 4 = 1 := by kernel_rfl
  have o3 : Tryd.prog.cellsOf 9 = 1 := by kernel_rfl
  have t0' : DataW.trod enc Tryd.prog W 0 (fun _ => true) true n 4 [c0] = some y0 := by simpa [Value.cells, o2] using t0
  have t1' : DataW.trod enc Tryd.prog W 0 (fun _ => true) true n 9 [c1] = some y1 := by simpa [Value.cells, o3] using t1
  have t2' : DataW.trod enc Tryd.prog W 0 (fun _ => true) true n 9 [c2] = some y2 := by simpa [Value.cells, o3] using t2
  have t3' : DataW.trod enc Tryd.prog W 0 (fun _ => true) true n 24 [c3, c4] = some y3 := by simpa [Value.cells, o1] using t3
  obtain ⟨z0, z1, k, -, -, s0, s1⟩ := trod_struct2 Tryd.underlying24 t3'
  have s0' : DataW.trod enc Tryd.prog W 0 (fun _ => true) true k 22 [c3] = some z0 := by simpa [o0] using s0
  have s1' : DataW.trod enc Tryd.prog W 0 (fun _ => true) true k 22 [c4] = some z1 := by simpa [o0] using s1
  obtain ⟨b, eb, -⟩ := DataW.trod_bool Tryd.underlying4 t0'
  obtain ⟨i, ei, -, wi⟩ := DataW.trod_string Tryd.underlying9 t1'
  obtain ⟨s, es, -, ws⟩ := DataW.trod_string Tryd.underlying9 t2'
  obtain ⟨h, eh, -, wh⟩ := DataW.trod_int Tryd.underlying22 s0'
  obtain ⟨l, el, -, wl⟩ := DataW.trod_int Tryd.underlying22 s1'
  simp at eb ei es eh el
  subst eb ei es eh el
  exact ⟨⟨b, i, s, h, l⟩, rfl, wi, ws, word_of wh, word_of wl⟩
theorem node_cells {H : Type} {enc : TypeId × Value → H} {W : World} {fuel : Nat} {cs : List Value} {y : DataW H × List MemPlace} (hh : DataW.trod enc Tryd.prog W 0 (fun _ => true) true fuel 49 cs = some y) :
    ∃ x : Nd, cs = [.string x.hash, .int .u64 x.h, .int .u64 x.l] ∧ x.hash.size ≤ 9223372036854775807 ∧ Word x.h ∧ Word x.l := by
  obtain ⟨y0, y1, n, -, hl, t0, t1⟩ := trod_struct2 Tryd.underlying49 hh
  have h3 : cs.length = 3 := hl.trans (show Tryd.prog.cellsOf 49 = 3 by kernel_rfl)
  obtain ⟨c0, c1, c2, rfl⟩ : ∃ c0 c1 c2, cs = [c0, c1, c2] := by
    match cs, h3 with
    | [c0, c1, c2], _ => exact ⟨c0, c1, c2, rfl⟩
  have o0 : Tryd.prog.cellsOf 22 = 1 := by kernel_rfl
  have o1 : Tryd.prog.cellsOf 24 = 2 := by kernel_rfl
  have o3 : Tryd.prog.cellsOf 9 = 1 := by kernel_rfl
  have t0' : DataW.trod enc Tryd.prog W 0 (fun _ => true) true n 9 [c0] = some y0 := by simpa [Value.cells, o3] using t0
  have t1' : DataW.trod enc Tryd.prog W 0 (fun _ => true) true n 24 [c1, c2] = some y1 := by simpa [Value.cells, o1] using t1
  obtain ⟨z0, z1, k, -, -, s0, s1⟩ := trod_struct2 Tryd.underlying24 t1'
  have s0' : DataW.trod enc Tryd.prog W 0 (fun _ => true) true k 22 [c1] = some z0 := by simpa [o0] using s0
  have s1' : DataW.trod enc Tryd.prog W 0 (fun _ => true) true k 22 [c2] = some z1 := by simpa [o0] using s1
  obtain ⟨s, es, -, ws⟩ := DataW.trod_string Tryd.underlying9 t0'
  obtain ⟨h, eh, -, wh⟩ := DataW.trod_int Tryd.underlying22 s0'
  obtain ⟨l, el, -, wl⟩ := DataW.trod_int Tryd.underlying22 s1'
  simp at es eh el
  subst es eh el
  exact ⟨⟨s, h, l⟩, rfl, ws, word_of wh, word_of wl⟩
/-- A node, opened. -/
theorem open_node {H : Type} {enc : TypeId × Value → H} {W : World} {base : Nat} {v : Value} {d : DataW H} {p : List MemPlace} (hval : Value.okWide Tryd.prog W .any base 49 v)
    (h : DataW.Trod enc Tryd.prog W 0 (fun _ => true) true 49 v d p) : ∃ x : Nd, v = x.val ∧ x.hash.size ≤ 9223372036854775807 ∧ Word x.h ∧ Word x.l := by
  obtain ⟨cs, rfl, hsz⟩ := okWide_struct Tryd.underlying49 hval
  obtain ⟨fuel, hf⟩ := h
  obtain ⟨x, hx, h1, h2, h3⟩ := node_cells hf
  refine ⟨x, ?_, h1, h2, h3⟩
  have e : cs.toList = [.string x.hash, .int .u64 x.h, .int .u64 x.l] := hx
  obtain rfl : cs = #[.string x.hash, .int .u64 x.h, .int .u64 x.l] := Array.ext' e
  rfl
end Go.Proofs.YtkecekfapiegjaaDoor
