/-
  Package lines' Runes, walked: a row of the call's own that holds the text's runes.
-/
import Derived.Test.YthindbmgnkohhaaDoorM9Lin
import Derived.Lib.OthersKept
import Derived.Maps.AppendAt
namespace Go.Proofs.YthindbmgnkohhaaDoor
set_option linter.unusedVariables false
set_option linter.unusedSimpArgs false
set_option maxRecDepth 10000
open Go.RowKit Go.Lib

theorem info_rune : (Tryd.prog.info? 21).map (fun i => (i.zero, i.size, i.bytes)) = some (some (.int .i32 0), 1, 4) := by kernel_rfl
def runeCs (l : List Nat) : List Value := l.map fun (c : Nat) => Value.int .i32 (c : Int)
/-- What is told of a text's runes. -/
def RunesAre (b : Nat) (A : Option (List Nat)) (v : Value) (err : Int) (W : World) : Prop := match A with
  | none => v = .slice none 0 0 ∧ err = 90
  | some r => err = 0 ∧ W.ownsRow b 21 1 v r.length (runeCs r)
theorem own_iterAt {w : World} {base size k : Nat} {e : TypeId} {v : Value} {n : Nat} {xs : List Value} (h : w.ownsRow base e size v n xs) (hk : k < base) (s : ByteArray) (pos : Nat) : (w.iterAt k s pos).ownsRow base e size v n xs := by
  refine ⟨h.1, ?_⟩
  rcases h.2 with h2 | ⟨g, cap, cur, hv, hg, hh, r⟩
  · exact .inl h2
  · exact .inr ⟨g, cap, cur, hv, hg, (iterAt_other w k g s pos (by omega)).trans hh, r⟩
theorem own_block {w : World} {base size : Nat} {e : TypeId} {v : Value} {n : Nat} {xs : List Value} (h : w.ownsRow base e size v n xs) (k : Nat) (hk : k < base) : some k ≠ v.ownBlock := by
  intro he
  have := (h.lt k he.symm).1
  omega
theorem one_new (W : World) (t : TypeId) (u : Value) : ∀ j x, [u][j]? = some x → (W.alloc (.cells #[u] t)).cell? ((⟨W.heap.size, 0, none⟩ : Addr).add j) = some x := fun j x hx => by
  have e1 : (⟨W.heap.size, 0, none⟩ : Addr).add j = ⟨W.heap.size, j, none⟩ := by simp [Addr.add]; exact fun hj => hj.symm
  rw [e1, (Box.made W t #[u]).read j]
  simpa using hx

theorem iterPos_at {w : World} {k p : Nat} {s : ByteArray} (h : w.heap[k]? = some (.stringIter s p)) : w.iterPos k = p := by simp [World.iterPos, h]

end Go.Proofs.YthindbmgnkohhaaDoor
