/-
  From the row's condition on block's table of constants to its cells; and the door's own heap meets the condition.
-/
import Derived.Test.YtjbaeiifamendaaDoorM4Blk
import Derived.Test.YtjbaeiifamendaaDoorW0Lift
import Derived.Test.YtjbaeiifamendaaDoorTie
import Derived.Test.YtjbaeiifamendaaDoorCards
import Derived.LaidMore
import Derived.Lib.LaidTab
import Derived.Stop.Joined
import Derived.SevenTiedAt
namespace Go.Proofs.YtjbaeiifamendaaDoor
set_option linter.unusedVariables false
set_option linter.unusedSimpArgs false
set_option maxRecDepth 10000
open Go.ChangeShapes Go.WideShapes Go.ChangeAt Go.RowKit

def laidK : List (String × DataW Unit) := [("paymaster/block.constants", Rows.laid_paymaster_block_constants)]
theorem global_k : Tryd.prog.globalNamed "paymaster/block.constants" = some 0 := by kernel_rfl
theorem global_t : (Tryd.prog.globals[0]?).map (·.type) = some 93 := by kernel_rfl
def kI : List Int := ktab.map Int.ofNat
theorem kI_len : kI.length = 64 := by decide +kernel
theorem kI_at : ∀ i, i < 64 → kI.getD i 0 = iv (kB.getD i 0) := by decide +kernel
theorem laid_tab : laidK = [("paymaster/block.constants", Lib.tabData .u32 kI)] := by kernel_rfl
theorem tab_of_laid {W : World} (h : laidMetH Tryd.prog laidK W) : Tab W := by
  rw [MakeChecks.laidMetH_plain _ _ _ (by kernel_rfl), laid_tab] at h
  have hT := Lib.tabIs_of_head global_k global_t Tryd.underlying93 Tryd.underlying72 (by kernel_rfl) (by kernel_rfl) h
  have hc : ∀ i, i < 64 → W.cell? ⟨0, i, none⟩ = some (.int .u32 (iv (kB.getD i 0))) := fun i hi => by
    rw [← kI_at i hi]; exact hT.cell global_k i (by rw [kI_len]; exact hi)
  exact ⟨World.block_lt_of_cell? W ⟨0, 0, none⟩ (hc 0 (by decide)), hc⟩
/-- The door's own heap meets the condition. -/
theorem door_met (os : Os) (args : Array Value) : laidMetH Tryd.prog laidK ((World.doorLaid Tryd.prog 14 os).forCall (fun _ _ => 0) ⟨#[], args, []⟩).memory :=
  laidMetH_of_parts3 (fuel := 8) (laidMet_of_run' 8 (by kernel_rfl) (by kernel_rfl)) (by kernel_rfl) (by kernel_rfl)

theorem okWide_arr {P : Program} {w : World} {r : Reach} {base n : Nat} {t e : TypeId} {v : Value} (ht : P.underlying t = some (.array n e)) (h : Value.okWide P w r base t v) : ∃ cs, v = .agg cs ∧ cs.size = P.cellsOf t := by
  simp only [Value.okWide, ht] at h
  obtain ⟨cs, h1, h2, _⟩ := h
  exact ⟨cs, h1, h2⟩
theorem iv_of_wf {k : Int} (h : (Lit.int .u32 k).wf = true) : ∃ x : B32, k = iv x := by
  simp [Lit.wf, IntKind.min, IntKind.max, IntKind.signed, IntKind.bits] at h
  exact iv_of (by omega) (by omega)
/-- A word, opened. -/
theorem open_u32 {H : Type} {enc : TypeId × Value → H} {W : World} {base : Nat} {v : Value} {d : DataW H} {p : List MemPlace} (hval : Value.okWide Tryd.prog W .any base 72 v)
    (h : DataW.Trod enc Tryd.prog W 0 (fun _ => true) true 72 v d p) : ∃ x : B32, v = .int .u32 (iv x) := by
  obtain ⟨n, rfl, -, -, hb⟩ := open_int Tryd.underlying72 hval h
  obtain ⟨x, rfl⟩ := iv_of_wf (k := n) (by simpa using hb)
  exact ⟨x, rfl⟩
/-- A state, opened. -/
theorem open_st {H : Type} {enc : TypeId × Value → H} {W : World} {base : Nat} {v : Value} {d : DataW H} {p : List MemPlace} (hval : Value.okWide Tryd.prog W .any base 96 v)
    (h : DataW.Trod enc Tryd.prog W 0 (fun _ => true) true 96 v d p) : ∃ s : St, v = .agg #[.int .u32 (iv s.a), .int .u32 (iv s.b), .int .u32 (iv s.c), .int .u32 (iv s.d), .int .u32 (iv s.e), .int .u32 (iv s.f), .int .u32 (iv s.g), .int .u32 (iv s.h)] := by
  obtain ⟨cs, rfl, hsz⟩ := okWide_arr Tryd.underlying96 hval
  have hsz8 : cs.size = 8 := hsz
  obtain ⟨fuel, hf⟩ := h
  obtain ⟨xs, m, -, -, -, hxl, hel⟩ := DataW.trod_array Tryd.underlying96 hf
  have c1 : Tryd.prog.cellsOf 72 = 1 := by kernel_rfl
  have one : ∀ i, i < 8 → ∃ x : B32, cs[i]? = some (.int .u32 (iv x)) := fun i hi => by
    have hi2 := hel i hi
    rw [c1, Nat.mul_one] at hi2
    obtain ⟨b, hb⟩ : ∃ b, xs[i]? = some b := ⟨_, List.getElem?_eq_getElem (by omega)⟩
    rw [hb] at hi2
    obtain ⟨k, e0, -, w0⟩ := DataW.trod_int Tryd.underlying72 hi2
    obtain ⟨x, rfl⟩ := iv_of_wf w0
    refine ⟨x, ?_⟩
    have h1 := congrArg (·[0]?) e0
    simpa [Value.cells, List.getElem?_take, List.getElem?_drop] using h1
  obtain ⟨a, ha⟩ := one 0 (by decide)
  obtain ⟨b, hb⟩ := one 1 (by decide)
  obtain ⟨c, hc⟩ := one 2 (by decide)
  obtain ⟨d, hd⟩ := one 3 (by decide)
  obtain ⟨e, he⟩ := one 4 (by decide)
  obtain ⟨f, hf'⟩ := one 5 (by decide)
  obtain ⟨g, hg⟩ := one 6 (by decide)
  obtain ⟨i, hi⟩ := one 7 (by decide)
  refine ⟨⟨a, b, c, d, e, f, g, i⟩, ?_⟩
  congr 1
  apply Array.ext_getElem?
  intro j
  by_cases hj : j < 8
  · match j, hj with
    | 0, _ => exact ha
    | 1, _ => exact hb
    | 2, _ => exact hc
    | 3, _ => exact hd
    | 4, _ => exact he
    | 5, _ => exact hf'
    | 6, _ => exact hg
    | 7, _ => exact hi
  · rw [Array.getElem?_eq_none (by omega), Array.getElem?_eq_none (by simp; omega)]
end Go.Proofs.YtjbaeiifamendaaDoor
