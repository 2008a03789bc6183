/-
  paymasterlaw04.same, walked, where two rows are the same words.
-/
import Derived.Test.YtkpkncgcbghlcaaDoorD4Words
import Derived.Test.YtkpkncgcbghlcaaDoorW1Has
import Derived.Test.YtkpkncgcbghlcaaDoorRows
import Derived.WalkKit
import Derived.WalkSpells
import Derived.StillTactics
import Derived.Laws.Pointers
import Derived.RowKit3
import Derived.Outline
import Derived.BigQuiet
import Derived.Deep.QuietTactic
import Derived.LoopTactic
import Derived.Deep.LoopGhost
import Derived.IntWalk
namespace Go.Proofs.YtkpkncgcbghlcaaDoor
set_option linter.unusedVariables false
set_option linter.unusedSimpArgs false
open Go.RowKit

/-- Words read from a place on. -/
def ReadsAt (w : World) (g o : Nat) (l : List B32) : Prop := ∀ j, j < l.length → w.cell? ⟨g, o + j, none⟩ = some (.int .u32 (iv (l.getD j 0)))

set_option maxHeartbeats 2000000 in
theorem same_yes (g o c g' o' c' n : Nat) (l : List B32) (hn : l.length = n) (hm : n ≤ 1000) (w : World) (h1 : ReadsAt w g o l) (h2 : ReadsAt w g' o' l) :
    Calls Tryd.prog 23 #[.slice (some ⟨g, o, none⟩) n c, .slice (some ⟨g', o', none⟩) n c'] w fun e w' => e = .returned (.bool true) ∧ ∃ q, w' = w.drewN q := by
  go_enter Tryd.func23, Tryd.ntmps23
  go_wp2
  go_loopg [5] n (fun gk i wr => ∃ j : Nat, j ≤ n ∧ gk = n - j ∧ i = .int .i64 j ∧ ∃ q, wr = w.drewN q)
  case atStart => exact ⟨0, by omega, rfl, rfl, 0, rfl⟩
  case round =>
    obtain ⟨j, hj, hgk, rfl, q, rfl⟩ := hrel
    have HG := hideIt hgk
    clear hgk
    by_cases hlt : j < n
    · have r1 := h1 j (by omega)
      have r2 := h2 j (by omega)
      clear h1 h2
      generalize l.getD j 0 = x at *
      have b1 : (j : Int) < (n : Int) := by omega
      go_wp2
      go_quiet (fail)
      go_wp2
      all_goals
        go_roundg (n - (j + 1))
        case measure => have := HG.out; omega
        case rel => exact ⟨j + 1, by omega, rfl, by go_num, _, rfl⟩
    · have e : j = n := by omega
      subst e
      clear h1 h2
      go_wp2
      go_ret
      exact ⟨rfl, q, rfl⟩

theorem same_nil (w : World) : Calls Tryd.prog 23 #[.slice none 0 0, .slice none 0 0] w fun e w' => e = .returned (.bool true) ∧ w = w' := by
  go_enter Tryd.func23, Tryd.ntmps23
  go_wp2
  go_loopg [5] 0 (fun gk i wr => i = .int .i64 0 ∧ wr = w)
  case atStart => exact ⟨rfl, rfl⟩
  case round =>
    obtain ⟨rfl, rfl⟩ := hrel
    go_wp2
    go_ret
    exact ⟨rfl, rfl⟩
end Go.Proofs.YtkpkncgcbghlcaaDoor
