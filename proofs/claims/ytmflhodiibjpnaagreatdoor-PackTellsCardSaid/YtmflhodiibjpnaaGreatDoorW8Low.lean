/-
  All but some blocks are as they were: what was made behind them may turn; rows of the call's own.
-/
import Derived.Test.YtmflhodiibjpnaaGreatDoorW0Off
namespace Go.Proofs.YtmflhodiibjpnaaGreatDoor
set_option linter.unusedVariables false
set_option linter.unusedSimpArgs false
set_option maxRecDepth 10000
open Go.RowKit

theorem Off.low {S : Nat → Prop} {w W w' : World} (h : Off S w W) (L : Below w.heap.size W w') : Off S w w' :=
  ⟨L.os.trans h.os, L.tape.trans h.tape, L.output.trans h.output, Nat.le_trans h.size L.size, fun k hk hne => (L.block k hk).trans (h.block k hk hne)⟩
section
variable {w w' : World} {g : Nat}
/-- A row of the call's own, behind what is read. -/
theorem own_off {base n size : Nat} {e : TypeId} {v : Value} {xs : List Value} (h : w.ownsRow base e size v n xs) (k : Off (One g) w w') (hg : g < base) : w'.ownsRow base e size v n xs := by
  refine ⟨h.1, ?_⟩
  rcases h.2 with h2 | ⟨g', cap, cur, hv, hg', hh, hr⟩
  · exact .inl h2
  · exact .inr ⟨g', cap, cur, hv, hg', (k.block g' (Array.getElem?_eq_some_iff.1 hh).1 (fun e => by have : g' = g := e; omega)).trans hh, hr⟩
end
end Go.Proofs.YtmflhodiibjpnaaGreatDoor
