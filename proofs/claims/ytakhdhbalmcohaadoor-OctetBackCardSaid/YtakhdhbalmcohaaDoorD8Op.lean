/-
  Plain words: what is told of what was read as a kind, by way of octet's own calls.
-/
import Derived.Test.YtakhdhbalmcohaaDoorU8Read
namespace Go.Proofs.YtakhdhbalmcohaaDoor
set_option linter.unusedVariables false
set_option linter.unusedSimpArgs false
set_option maxRecDepth 10000
open Go.RowKit Go.Shelf

/-- What is told of what was read as a kind. -/
def opR (k m : Nat) (st : Option (List UInt8)) := st.bind (rdK (k % 5) m)
def vOf (r : Option (Vl × List UInt8)) : Vl := match r with | none => Vl.zero | some x => x.1
theorem bind_map {α β : Type} (st : Option (List UInt8)) (f : List UInt8 → Option α) (g : α → β) : (st.bind fun l => (f l).map g) = (st.bind f).map g := by cases st <;> rfl
theorem nxt_map {α β : Type} (r : Option (α × List UInt8)) (g : α → β) : nxt (r.map fun x => (g x.1, x.2)) = nxt r := by cases r <;> rfl
theorem opR_0 {k m : Nat} (h : k % 5 = 0) (st : Option (List UInt8)) : vOf (opR k m st) = ⟨0, bV (opB st), []⟩ ∧ nxt (opR k m st) = nxt (opB st) := by
  have e : opR k m st = (opB st).map fun x => ((⟨0, (x.1.toNat : Int), []⟩ : Vl), x.2) := by unfold opR; rw [h]; exact bind_map st rByte _
  rw [e]
  cases opB st <;> exact ⟨rfl, rfl⟩
theorem opR_1 {k m : Nat} (h : k % 5 = 1) (st : Option (List UInt8)) : vOf (opR k m st) = ⟨0, lV (opN 8 st), []⟩ ∧ nxt (opR k m st) = nxt (opN 8 st) := by
  have e : opR k m st = (opN 8 st).map fun x => ((⟨0, (beN x.1 : Int), []⟩ : Vl), x.2) := by unfold opR; rw [h]; exact bind_map st (rNum 8) _
  rw [e]
  cases hh : opN 8 st with
  | none => exact ⟨rfl, rfl⟩
  | some x =>
    have := loD_8 x.1 (opN_le hh)
    refine ⟨?_, rfl⟩
    show (⟨0, (beN x.1 : Int), []⟩ : Vl) = ⟨0, loD x.1, []⟩
    rw [this]
theorem opR_2 {k m : Nat} (h : k % 5 = 2) (st : Option (List UInt8)) : vOf (opR k m st) = ⟨hV (opN 16 st), lV (opN 16 st), []⟩ ∧ nxt (opR k m st) = nxt (opN 16 st) := by
  have e : opR k m st = (opN 16 st).map fun x => ((⟨hiD x.1, loD x.1, []⟩ : Vl), x.2) := by unfold opR; rw [h]; exact bind_map st (rNum 16) _
  rw [e]
  cases opN 16 st <;> exact ⟨rfl, rfl⟩
theorem opR_3 {k m : Nat} (h : k % 5 = 3) (st : Option (List UInt8)) : vOf (opR k m st) = ⟨0, if fV (opF st) then 1 else 0, []⟩ ∧ nxt (opR k m st) = nxt (opF st) := by
  have e : opR k m st = (opF st).map fun x => ((⟨0, if x.1 then 1 else 0, []⟩ : Vl), x.2) := by unfold opR; rw [h]; exact bind_map st rFlag _
  rw [e]
  cases opF st <;> exact ⟨rfl, rfl⟩
theorem opR_4 {k m : Nat} (h : k % 5 = 4) (st : Option (List UInt8)) : (vOf (opR k m st)).h = 0 ∧ (vOf (opR k m st)).l = 0 ∧ ofL (vOf (opR k m st)).s = tV (opT m st) ∧ nxt (opR k m st) = nxt (opT m st) := by
  have e : opR k m st = (opT m st).map fun x => ((⟨0, 0, x.1⟩ : Vl), x.2) := by
    unfold opR
    rw [h, show rdK 4 m = fun l => (rText m l).map fun x => ((⟨0, 0, x.1⟩ : Vl), x.2) from funext fun l => rdK_4 4 m l (Nat.le_refl _)]
    exact bind_map st (rText m) _
  rw [e]
  cases opT m st <;> exact ⟨rfl, rfl, rfl, rfl⟩
end Go.Proofs.YtakhdhbalmcohaaDoor
