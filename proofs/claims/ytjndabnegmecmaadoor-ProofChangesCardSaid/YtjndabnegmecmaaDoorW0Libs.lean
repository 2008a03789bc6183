/-
  The library's texts that walks on rows use, put together. No program is named here.
-/
import Derived.Test.YtjndabnegmecmaaDoorRows
import Derived.Test.YtjndabnegmecmaaDoorW0Words
import Derived.WalkKit
import Derived.WalkSpells
import Derived.WalkMore
import Derived.StillTactics
import Derived.RowKit3
import Derived.Outline
import Derived.BigQuiet
import Derived.Deep.QuietTactic
import Derived.LoopTactic
import Derived.Deep.RegionWith
import Derived.Deep.LoopGhost
import Derived.Deep.RegionHeld3
import Derived.Deep.DeepCutAuto
import Derived.Deep.CutRange
import Derived.Deep.AppendLies
import Derived.Laws.Strings
import Derived.Laws.Strings3
import Derived.Laws.Externs
import Derived.Laws.RangeAny
import Derived.Lib.Bytealg
import Derived.Lib.Walk
import Derived.Lib.Strings
import Derived.Lib.Slices
namespace Go.Proofs.YtjndabnegmecmaaDoor
set_option linter.unusedVariables false
set_option linter.unusedSimpArgs false
set_option maxRecDepth 10000
open Go.RowKit

theorem cells_new4 (W : World) (t : TypeId) (cs : List Value) : ∀ j u, cs[j]? = some u → (W.alloc (.cells cs.toArray t)).cell? ((⟨W.heap.size, 0, none⟩ : Addr).add j) = some u := fun j u hu => by
  have e1 : (⟨W.heap.size, 0, none⟩ : Addr).add j = ⟨W.heap.size, j, none⟩ := by simp [Addr.add]; exact fun hj => hj.symm
  rw [e1, (Box.made W t cs.toArray).read j]
  simpa using hu
theorem cells_newN (W : World) (n : Nat) (hn : W.heap.size = n) (t : TypeId) (cs : List Value) : ∀ j u, cs[j]? = some u → (W.alloc (.cells cs.toArray t)).cell? ((⟨n, 0, none⟩ : Addr).add j) = some u := by
  subst hn
  exact cells_new4 W t cs
end Go.Proofs.YtjndabnegmecmaaDoor
