/-
  My own words on memory for octet: all but some blocks are as they were; bytes in a block; the type of a block.
-/
import Derived.Test.YtkecekfapiegjaaDoorM0Wrd
import Derived.Test.YtkecekfapiegjaaDoorM13Dec
namespace Go.Proofs.YtkecekfapiegjaaDoor
set_option linter.unusedVariables false
set_option linter.unusedSimpArgs false
set_option maxRecDepth 10000
open Go.RowKit

/-- The type of a block's cells. -/
def TyAt (w : World) (a : Nat) (t : TypeId) : Prop := ∃ cs fr, w.heap[a]? = some (.cells cs t fr)
section
variable {w w' : World} {a : Nat} {t : TypeId}
theorem TyAt.inside (h : TyAt w a t) : a < w.heap.size := by obtain ⟨cs, fr, h⟩ := h; exact (Array.getElem?_eq_some_iff.1 h).1
theorem TyAt.keep (h : TyAt w a t) (e : w'.heap[a]? = w.heap[a]?) : TyAt w' a t := by obtain ⟨cs, fr, h⟩ := h; exact ⟨cs, fr, e.trans h⟩
theorem TyAt.ne {g : Nat} {u : TypeId} {cs : Array Value} (h : TyAt w a t) (hb : Box w g u cs) (htu : t ≠ u) : a ≠ g := by
  rintro rfl
  obtain ⟨cs2, fr, h⟩ := h
  unfold Box at hb
  rw [h] at hb
  injection hb with hb
  injection hb with h1 h2 h3
  exact htu h2
end
/-- Bytes that lie in a block from a place on. -/
def BytesA (w : World) (a o : Nat) (l : List UInt8) : Prop := ∀ i, i < l.length → w.cell? ⟨a, o + i, none⟩ = some (.int .u8 ((l.getD i 0).toNat : Int))
section
variable {w w' : World} {a o : Nat} {l : List UInt8}
theorem BytesA.keep (h : BytesA w a o l) (e : w'.heap[a]? = w.heap[a]?) : BytesA w' a o l := fun i hi => (World.cell?_of_block (w := w) e).trans (h i hi)
theorem BytesA.take (h : BytesA w a o l) (n : Nat) : BytesA w a o (l.take n) := fun i hi => by
  rw [List.length_take] at hi
  rw [h i (by omega), List.getD_eq_getElem?_getD, List.getD_eq_getElem?_getD, List.getElem?_take_of_lt (by omega)]
theorem BytesA.drop (h : BytesA w a o l) (n : Nat) : BytesA w a (o + n) (l.drop n) := fun i hi => by
  rw [List.length_drop] at hi
  rw [Nat.add_assoc, h (n + i) (by omega), List.getD_eq_getElem?_getD, List.getD_eq_getElem?_getD, List.getElem?_drop]
theorem BytesA.first {c : UInt8} {r : List UInt8} (h : BytesA w a o (c :: r)) : w.cell? ⟨a, o, none⟩ = some (.int .u8 (c.toNat : Int)) := h 0 (by simp)
end
theorem bytesA_made (w : World) (e : TypeId) (s : ByteArray) (cap : Nat) (fr : Nat × Nat) : BytesA (w.drew.alloc (.cells (bytesRow s cap) e fr)) w.heap.size 0 s.data.toList := by
  intro i hi
  have hi2 : i < s.data.size := by simpa using hi
  have hb : (w.drew.alloc (.cells (bytesRow s cap) e fr)).heap[w.heap.size]? = some (.cells (bytesRow s cap) e fr) := by
    show (w.heap.push _)[w.heap.size]? = _
    simp
  rw [Nat.zero_add, cell_of_row _ _ _ _ _ _ hb]
  unfold bytesRow
  rw [Array.getElem?_append_left (by rw [Array.size_map]; exact hi2)]
  simp [List.getD_eq_getElem?_getD]
  exact ⟨_, Array.getElem?_eq_getElem hi2, by rw [Array.getElem?_eq_getElem hi2]; rfl⟩
theorem tyAt_made (w : World) (e : TypeId) (cs : Array Value) (fr : Nat × Nat) : TyAt (w.drew.alloc (.cells cs e fr)) w.heap.size e := ⟨cs, fr, by
  show (w.heap.push _)[w.heap.size]? = _
  simp⟩
/-- What a call tells that turns nothing at all. -/
def Still (v : Value) (w : World) (e : Ending) (w' : World) : Prop := e = .returned v ∧ w = w'
theorem BytesA.conv {w : World} {a o : Nat} {l : List UInt8} (h : BytesA w a o l) (n cap : Nat) (hn : l.length = n) : (convert 135 9 (.slice (some ⟨a, o, none⟩) n cap)).run Tryd.prog w = .ok (.string (ofL l)) w := by
  have e : ofL l = strOfNums (l.map fun c => (c.toNat : Int)) := by
    refine oext ?_
    rw [ofL_list, strOfNums_data, List.map_map]
    have : (fun n : Int => UInt8.ofNat n.toNat) ∘ (fun c : UInt8 => (c.toNat : Int)) = id := by
      funext c
      simp
    rw [this, List.map_id]
  rw [e]
  exact run_convert_bytes_arg (P := Tryd.prog) w 135 5 Tryd.underlying135 Tryd.underlying5 a o n cap _ (by rw [List.length_map]; exact hn) (fun i hi => by
    have hi2 : i < l.length := by omega
    rw [h i hi2, List.getD_eq_getElem?_getD, List.getD_eq_getElem?_getD, List.getElem?_map, List.getElem?_eq_getElem hi2]; rfl) 9 Tryd.underlying9
/-- One byte as a text. -/
theorem conv_one (c : UInt8) (w : World) (e : TypeId) (x : Int) (hx : x = (c.toNat : Int)) : (convert 135 9 (.slice (some ⟨w.heap.size, 0, none⟩) 1 1)).run Tryd.prog (w.alloc (.cells #[.int .u8 x] e)) = .ok (.string (ofL [c])) (w.alloc (.cells #[.int .u8 x] e)) := by
  subst hx
  exact BytesA.conv (l := [c]) (fun i hi => by
    have : i = 0 := by simp at hi; omega
    subst this
    exact (Box.made w e #[.int .u8 (c.toNat : Int)]).read 0) 1 1 rfl
end Go.Proofs.YtkecekfapiegjaaDoor
