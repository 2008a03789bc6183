/-
  paymasterlaw08.awake, walked: the chapter's examples.
-/
import Derived.Test.YtakhdhbalmcohaaDoorT8Write
import Derived.Test.YtakhdhbalmcohaaDoorU8Read
import Derived.Test.YtakhdhbalmcohaaDoorE8Num
namespace Go.Proofs.YtakhdhbalmcohaaDoor
set_option linter.unusedVariables false
set_option linter.unusedSimpArgs false
set_option maxRecDepth 10000
open Go.RowKit Go.Shelf

theorem InS.other {w w' : World} {g b : Nat} {st st2 : Option (List UInt8)} (h : InS w g st) (h2 : InS w b st2) (k : Off (One b) w w') (hne : g ≠ b) : InS w' g st := by
  obtain ⟨cs, hb⟩ := h2.box
  exact h.off k hb hne (by decide)
theorem ThRow.three {w : World} {b : Nat} {t : TypeId} {x y z : Th} (h : Box w b t #[.int .u8 x.k, .int .u64 x.h, .int .u64 x.l, .string x.s, .int .i64 x.m, .int .u8 y.k, .int .u64 y.h, .int .u64 y.l, .string y.s, .int .i64 y.m, .int .u8 z.k, .int .u64 z.h, .int .u64 z.l, .string z.s, .int .i64 z.m]) : ThRow w w.heap.size (some ⟨b, 0, none⟩) [x, y, z] := fun i u hu => by
  have hi : i < 3 := (List.getElem?_eq_some_iff.1 hu).1
  have e5 : ∀ j, (⟨b, 0, none⟩ : Addr).add j = ⟨b, j, none⟩ := fun j => by simp [Addr.add]; exact fun hj => hj.symm
  refine ⟨_, rfl, h.inside, ?_⟩
  rw [e5]
  rcases (show i = 0 ∨ i = 1 ∨ i = 2 by omega) with rfl | rfl | rfl
  · injection hu with hu; subst hu
    exact ⟨h.read 0, h.read 1, h.read 2, h.read 3, h.read 4⟩
  · injection hu with hu; subst hu
    exact ⟨h.read 5, h.read 6, h.read 7, h.read 8, h.read 9⟩
  · injection hu with hu; subst hu
    exact ⟨h.read 10, h.read 11, h.read 12, h.read 13, h.read 14⟩
def aw1 : Th := ⟨1, 0, 300, ⟨#[]⟩, 0⟩
def aw2 : Th := ⟨1, 0, 0, ⟨#[]⟩, 0⟩
def aw3 : Th := ⟨4, 0, 0, ⟨#[97, 98]⟩, 0⟩
theorem aw_num : numL 0 300 = [1, 44] := by decide +kernel
theorem aw_nil : numL 0 0 = [] := by decide +kernel
theorem aw_two : numL 0 2 = [2] := by decide +kernel
theorem aw_all : allL [aw1, aw2, aw3] = [2, 1, 44, 0, 1, 2, 97, 98] := by
  have e1 : aw1.list = [2, 1, 44] := by rw [aw1.list_1 rfl]; show wideL 0 300 = _; unfold wideL; rw [aw_num]; rfl
  have e2 : aw2.list = [0] := by rw [aw2.list_1 rfl]; show wideL 0 0 = _; unfold wideL; rw [aw_nil]; rfl
  have e3 : aw3.list = [1, 2, 97, 98] := by rw [aw3.list_4 rfl]; show wideL 0 2 ++ [97, 98] = _; unfold wideL; rw [aw_two]; rfl
  show aw1.list ++ (aw2.list ++ (aw3.list ++ [])) = _
  rw [e1, e2, e3]
  rfl
theorem aw_wrote : wroteO [aw1, aw2, aw3] = some ⟨#[2, 1, 44, 0, 1, 2, 97, 98]⟩ := by
  rw [wroteO_all _ (by rw [aw_all]; show 8 ≤ _; omega), aw_all]
  rfl
theorem aw_ok : AllOk [aw1, aw2, aw3] := by
  intro x hx
  have hx : x = aw1 ∨ x = aw2 ∨ x = aw3 := by simpa using hx
  rcases hx with rfl | rfl | rfl
  · exact ⟨by decide, ⟨by decide, by decide⟩, ⟨by decide, by decide⟩, by decide, by decide, by decide⟩
  · exact ⟨by decide, ⟨by decide, by decide⟩, ⟨by decide, by decide⟩, by decide, by decide, by decide⟩
  · exact ⟨by decide, ⟨by decide, by decide⟩, ⟨by decide, by decide⟩, by decide, by decide, by decide⟩
theorem aw_size : ∀ x ∈ [aw1, aw2, aw3], x.s.size ≤ 4611686018427387903 := by
  intro x hx
  have hx : x = aw1 ∨ x = aw2 ∨ x = aw3 := by simpa using hx
  rcases hx with rfl | rfl | rfl <;> decide
theorem aw_i : opN 8 (some [1, 0]) = none := by decide +kernel
theorem aw_j : opN 8 (some [2, 1, 44, 1, 2, 97, 98]) = some ([1, 44], [1, 2, 97, 98]) := by decide +kernel
theorem aw_k : opT 2 (some [1, 2, 97, 98]) = some ([97, 98], []) := by decide +kernel
theorem aw_300 : lV (some ([1, 44], [1, 2, 97, 98])) = 300 := by decide +kernel

set_option maxHeartbeats 4000000 in
theorem awake8_any (w : World) : Calls Tryd.prog 24 #[] w (Tells (.bool true) w.heap.size w) := by
  have cO := fun u => of_any 300 u
  have cW := fun u b c hr => wrote_any (some ⟨b, 0, none⟩) c [aw1, aw2, aw3] aw_ok aw_size (by decide) u hr
  rw [aw_wrote] at cW
  simp only [dS, dE] at cW
  have cP := fun u => in_open ⟨#[1, 0]⟩ (by decide) u
  have cQ := fun u => in_open ⟨#[2, 1, 44, 1, 2, 97, 98]⟩ (by decide) u
  go_enter Tryd.func24, Tryd.ntmps24
  go_upto_region 2 with (first
    | (go_at_call 29; refine (cO _).mono ?_; rintro e w1 ⟨rfl, b1⟩)
    | (go_at_call 25; refine (cW _ _ _ (ThRow.three (x := aw1) (y := aw2) (z := aw3) (Box.made w1 37 _))).mono ?_; rintro e w2 ⟨rfl, b2⟩)
    | fail)
  have L2 : Below w.heap.size w w2 := (chainA b1 _).trans (b2.mono (by simp; have := b1.size; omega))
  clear cO cW b1 b2
  go_upto_region 3 with (first
    | (go_at_call 26; refine (cP _).mono ?_; rintro e w3 ⟨gi, rfl, hgi, I3, b3⟩)
    | fail)
  go_upto_region 6 with (first
    | (go_at_call 26; refine (cQ _).mono ?_; rintro e w4 ⟨gj, rfl, hgj, J4, b4⟩)
    | fail)
  have I4 := I3.call b4
  have hij : gi ≠ gj := by have := I3.inside; omega
  have L4 := chain (chain L2 b3) b4
  have gi0 : w.heap.size ≤ gi := Nat.le_trans L2.size hgi
  have gj0 : w.heap.size ≤ gj := Nat.le_trans (chain L2 b3).size hgj
  clear cP cQ b3 b4 I3 hgi hgj
  have cI := in_num w4 gi _ I4
  rw [show opN 8 (some (⟨#[1, 0]⟩ : ByteArray).data.toList) = none from aw_i] at cI
  go_upto_region 7 with (first
    | (go_at_call 17; refine cI.mono ?_; rintro e w5 ⟨rfl, I5, k5⟩)
    | fail)
  have J5 := J4.other I4 k5 (Ne.symm hij)
  have L5 : Below w.heap.size w w5 := L4.trans (k5.below (fun i hi => by have : i = gi := hi; omega) L4.size)
  have cJ := in_num w5 gj _ J5
  rw [show opN 8 (some (⟨#[2, 1, 44, 1, 2, 97, 98]⟩ : ByteArray).data.toList) = some ([1, 44], [1, 2, 97, 98]) from aw_j, aw_300] at cJ
  go_upto_region 8 with (first
    | (go_at_call 17; refine cJ.mono ?_; rintro e w6 ⟨rfl, J6, k6⟩)
    | fail)
  have I6 := I5.other J5 k6 hij
  have L6 : Below w.heap.size w w6 := L5.trans (k6.below (fun i hi => by have : i = gj := hi; omega) L5.size)
  have cT : Calls Tryd.prog 20 #[.pointer (some ⟨gj, 0, none⟩), .int .i64 2] w6 _ := in_text 2 (by decide) w6 gj _ J6
  rw [show opT 2 (nxt (some (([1, 44] : List UInt8), [1, 2, 97, 98]))) = some ([97, 98], []) from aw_k] at cT
  go_upto_region 9 with (first
    | (go_at_call 20; refine cT.mono ?_; rintro e w7 ⟨rfl, J7, k7⟩)
    | fail)
  have I7 := I6.other J6 k7 hij
  have L7 : Below w.heap.size w w7 := L6.trans (k7.below (fun i hi => by have : i = gj := hi; omega) L6.size)
  have c1 := in_spoilt w7 gi _ I7
  have c2 := in_close w7 gi _ I7
  have c3 := in_close w7 gj _ J7
  have e0 : lV none = 0 := rfl
  have et : tV (some (([97, 98] : List UInt8), [])) = ⟨#[97, 98]⟩ := rfl
  rw [show closeN (nxt (none : Option (List UInt8 × List UInt8))) = 80 from rfl] at c2
  rw [show closeN (nxt (some (([97, 98] : List UInt8), []))) = 0 from rfl] at c3
  rw [show (nxt (none : Option (List UInt8 × List UInt8))).isNone = true from rfl] at c1
  rw [e0, et]
  go_wp2_with (first
    | (go_at_call 21; refine c1.mono ?_; rintro e w8 ⟨rfl, rfl⟩)
    | (go_at_call_of 23 (Value.pointer (some ⟨gi, 0, none⟩)); refine c2.mono ?_; rintro e w8 ⟨rfl, rfl⟩)
    | (go_at_call_of 23 (Value.pointer (some ⟨gj, 0, none⟩)); refine c3.mono ?_; rintro e w8 ⟨rfl, rfl⟩))
  go_ret
  exact ⟨rfl, L7⟩
end Go.Proofs.YtakhdhbalmcohaaDoor
