/-
  My own words on memory for octet: all but some blocks are as they were; bytes in a block; the type of a block.
-/
import Derived.Test.YtakhdhbalmcohaaDoorW1Has
import Derived.Test.YtakhdhbalmcohaaDoorD8Oct
namespace Go.Proofs.YtakhdhbalmcohaaDoor
set_option linter.unusedVariables false
set_option linter.unusedSimpArgs false
set_option maxRecDepth 10000
open Go.RowKit

/-- Of what was there nothing has turned but the blocks in S. -/
structure Off (S : Nat → Prop) (w w' : World) : Prop where
  os : w'.os = w.os
  tape : w'.tape = w.tape
  output : w'.output = w.output
  size : w.heap.size ≤ w'.heap.size
  block : ∀ k, k < w.heap.size → ¬ S k → w'.heap[k]? = w.heap[k]?
section
variable {S T : Nat → Prop} {w W w' : World}
theorem Off.refl (S : Nat → Prop) (w : World) : Off S w w := ⟨rfl, rfl, rfl, Nat.le_refl _, fun _ _ _ => rfl⟩
theorem Off.call (h : Off S w W) (hb : Below W.heap.size W w') : Off S w w' :=
  ⟨hb.os.trans h.os, hb.tape.trans h.tape, hb.output.trans h.output, Nat.le_trans h.size hb.size, fun k hk hne => (hb.block k (Nat.lt_of_lt_of_le hk h.size)).trans (h.block k hk hne)⟩
theorem Off.past (h : Off S w W) (o : Obj) : Off S w (W.alloc o) := h.call ((Below.refl _ W).alloc (Nat.le_refl _) o)
theorem Off.drew (h : Off S w W) : Off S w W.drew := ⟨h.os, h.tape, h.output, h.size, h.block⟩
theorem Off.drewN (h : Off S w W) (n : Nat) : Off S w (W.drewN n) := ⟨h.os, h.tape, h.output, h.size, h.block⟩
theorem Off.set_ (h : Off S w W) {p : Addr} (hp : S p.block ∨ w.heap.size ≤ p.block) (v : Value) : Off S w (W.setCell p v) :=
  ⟨h.os, h.tape, h.output, by simpa [World.setCell] using h.size, fun k hk hne => (Below.heap_setCell W p v k (by rintro rfl; rcases hp with hp | hp; exact hne hp; omega)).trans (h.block k hk hne)⟩
theorem Off.trans (h : Off S w W) (k : Off S W w') : Off S w w' :=
  ⟨k.os.trans h.os, k.tape.trans h.tape, k.output.trans h.output, Nat.le_trans h.size k.size, fun i hi hne => (k.block i (Nat.lt_of_lt_of_le hi h.size) hne).trans (h.block i hi hne)⟩
/-- What is turned behind it: what S lists, or what was made since. -/
theorem Off.behind (h : Off S w W) (k : Off T W w') (hT : ∀ i, T i → S i ∨ w.heap.size ≤ i) : Off S w w' :=
  ⟨k.os.trans h.os, k.tape.trans h.tape, k.output.trans h.output, Nat.le_trans h.size k.size, fun i hi hne => (k.block i (Nat.lt_of_lt_of_le hi h.size) (fun ht => by rcases hT i ht with h | h; exact hne h; omega)).trans (h.block i hi hne)⟩
theorem Off.mono (h : Off S w W) (hS : ∀ i, S i → T i) : Off T w W := ⟨h.os, h.tape, h.output, h.size, fun k hk hne => h.block k hk (fun hs => hne (hS k hs))⟩
theorem Off.below {B : Nat} (h : Off S w w') (hB : ∀ i, S i → B ≤ i) (hw : B ≤ w.heap.size) : Below B w w' :=
  ⟨h.os, h.tape, h.output, h.size, fun k hk => h.block k (by omega) (fun hs => by have := hB k hs; omega)⟩
theorem Off.of {S : Nat → Prop} (hb : Below w.heap.size w w') : Off S w w' := (Off.refl S w).call hb
theorem Off.box {b : Nat} {t : TypeId} {cs : Array Value} (h : Off S w w') (hx : Box w b t cs) (hne : ¬ S b) : Box w' b t cs := (h.block b hx.inside hne).trans hx
end
/-- Only one block has turned. -/
abbrev One (g : Nat) : Nat → Prop := fun i => i = g
theorem Has.off {S : Nat → Prop} {w W w' : World} {l : List Blk} (h : Has w l W) (k : Off S W w') (hS : ∀ i, S i → w.heap.size ≤ i) (hl : ∀ x ∈ l, ¬ S x.1) : Has w l w' :=
  ⟨fun x hx => k.box (h.1 x hx) (hl x hx), h.2.trans (k.below hS h.2.size)⟩

/-- The type of a block's cells. -/
def TyAt (w : World) (a : Nat) (t : TypeId) : Prop := ∃ cs fr, w.heap[a]? = some (.cells cs t fr)
section
variable {w w' : World} {a : Nat} {t : TypeId}
theorem TyAt.inside (h : TyAt w a t) : a < w.heap.size := by obtain ⟨cs, fr, h⟩ := h; exact (Array.getElem?_eq_some_iff.1 h).1
theorem TyAt.keep (h : TyAt w a t) (e : w'.heap[a]? = w.heap[a]?) : TyAt w' a t := by obtain ⟨cs, fr, h⟩ := h; exact ⟨cs, fr, e.trans h⟩
theorem TyAt.ne {g : Nat} {u : TypeId} {cs : Array Value} (h : TyAt w a t) (hb : Box w g u cs) (htu : t ≠ u) : a ≠ g := by
  rintro rfl
  obtain ⟨cs2, fr, h⟩ := h
  unfold Box at hb
  rw [h] at hb
  injection hb with hb
  injection hb with h1 h2 h3
  exact htu h2
end
/-- Bytes that lie in a block from a place on. -/
def BytesA (w : World) (a o : Nat) (l : List UInt8) : Prop := ∀ i, i < l.length → w.cell? ⟨a, o + i, none⟩ = some (.int .u8 ((l.getD i 0).toNat : Int))
section
variable {w w' : World} {a o : Nat} {l : List UInt8}
theorem BytesA.keep (h : BytesA w a o l) (e : w'.heap[a]? = w.heap[a]?) : BytesA w' a o l := fun i hi => (World.cell?_of_block (w := w) e).trans (h i hi)
theorem BytesA.take (h : BytesA w a o l) (n : Nat) : BytesA w a o (l.take n) := fun i hi => by
  rw [List.length_take] at hi
  rw [h i (by omega), List.getD_eq_getElem?_getD, List.getD_eq_getElem?_getD, List.getElem?_take_of_lt (by omega)]
theorem BytesA.drop (h : BytesA w a o l) (n : Nat) : BytesA w a (o + n) (l.drop n) := fun i hi => by
  rw [List.length_drop] at hi
  rw [Nat.add_assoc, h (n + i) (by omega), List.getD_eq_getElem?_getD, List.getD_eq_getElem?_getD, List.getElem?_drop]
theorem BytesA.first {c : UInt8} {r : List UInt8} (h : BytesA w a o (c :: r)) : w.cell? ⟨a, o, none⟩ = some (.int .u8 (c.toNat : Int)) := h 0 (by simp)
end
theorem bytesA_made (w : World) (e : TypeId) (s : ByteArray) (cap : Nat) (fr : Nat × Nat) : BytesA (w.drew.alloc (.cells (bytesRow s cap) e fr)) w.heap.size 0 s.data.toList := by
  intro i hi
  have hi2 : i < s.data.size := by simpa using hi
  have hb : (w.drew.alloc (.cells (bytesRow s cap) e fr)).heap[w.heap.size]? = some (.cells (bytesRow s cap) e fr) := by
    show (w.heap.push _)[w.heap.size]? = _
    simp
  rw [Nat.zero_add, cell_of_row _ _ _ _ _ _ hb]
  unfold bytesRow
  rw [Array.getElem?_append_left (by rw [Array.size_map]; exact hi2)]
  simp [List.getD_eq_getElem?_getD]
  exact ⟨_, Array.getElem?_eq_getElem hi2, by rw [Array.getElem?_eq_getElem hi2]; rfl⟩
theorem tyAt_made (w : World) (e : TypeId) (cs : Array Value) (fr : Nat × Nat) : TyAt (w.drew.alloc (.cells cs e fr)) w.heap.size e := ⟨cs, fr, by
  show (w.heap.push _)[w.heap.size]? = _
  simp⟩
/-- What a call tells that turns nothing at all. -/
def Still (v : Value) (w : World) (e : Ending) (w' : World) : Prop := e = .returned v ∧ w = w'
theorem BytesA.conv {w : World} {a o : Nat} {l : List UInt8} (h : BytesA w a o l) (n cap : Nat) (hn : l.length = n) : (convert 28 9 (.slice (some ⟨a, o, none⟩) n cap)).run Tryd.prog w = .ok (.string (ofL l)) w := by
  have e : ofL l = strOfNums (l.map fun c => (c.toNat : Int)) := by
    refine oext ?_
    rw [ofL_list, strOfNums_data, List.map_map]
    have : (fun n : Int => UInt8.ofNat n.toNat) ∘ (fun c : UInt8 => (c.toNat : Int)) = id := by
      funext c
      simp
    rw [this, List.map_id]
  rw [e]
  exact run_convert_bytes_arg (P := Tryd.prog) w 28 5 Tryd.underlying28 Tryd.underlying5 a o n cap _ (by rw [List.length_map]; exact hn) (fun i hi => by
    have hi2 : i < l.length := by omega
    rw [h i hi2, List.getD_eq_getElem?_getD, List.getD_eq_getElem?_getD, List.getElem?_map, List.getElem?_eq_getElem hi2]; rfl) 9 Tryd.underlying9
end Go.Proofs.YtakhdhbalmcohaaDoor
