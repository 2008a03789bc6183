/-
  A row of rows of the call's own, in its block; how two rows compare, walked.
-/
import Derived.Test.YthindbmgnkohhaaD10Sort
import Derived.Test.YthindbmgnkohhaaW0Libs
import Derived.Test.YthindbmgnkohhaaW1Has
import Derived.Deep.RegionHeld3
import Derived.Laws.Externs
namespace Go.Proofs.Ythindbmgnkohhaa
set_option linter.unusedVariables false
set_option linter.unusedSimpArgs false
set_option maxRecDepth 10000
open Go.RowKit Go.Sort

/-- Block g holds just these rows. -/
def RowBox (w : World) (g : Nat) (d : Array Rw) : Prop := Box w g 28 (rowCs d.toList).toArray
section
variable {w w' : World} {g : Nat} {d : Array Rw}
theorem RowBox.inside (h : RowBox w g d) : g < w.heap.size := Box.inside h
theorem RowBox.call (h : RowBox w g d) (hb : Below w.heap.size w w') : RowBox w' g d := Box.call h hb
theorem RowBox.past (h : RowBox w g d) (o : Obj) : RowBox (w.alloc o) g d := Box.past h o
theorem RowBox.draw (h : RowBox w g d) : RowBox w.drew g d := h
theorem RowBox.draws (h : RowBox w g d) (n : Nat) : RowBox (w.drewN n) g d := h
theorem RowBox.at (h : RowBox w g d) (i : Nat) (hi : i < d.size) (j : Nat) (hj : j < 3) : w.cell? ⟨g, i * 3 + j, none⟩ = d[i]!.cells[j]? := by
  rw [Box.read h]
  simp only [List.getElem?_toArray]
  refine rowCs_at d.toList i d[i]! ?_ j hj
  rw [Array.getElem?_toList, Array.getElem?_eq_getElem hi, getElem!_pos d i hi]
theorem RowBox.three (h : RowBox w g d) (i : Nat) (hi : i < d.size) :
    w.cell? ⟨g, i * 3, none⟩ = some (.string d[i]!.id) ∧ w.cell? ⟨g, i * 3 + 1, none⟩ = some (.int .u64 d[i]!.h) ∧ w.cell? ⟨g, i * 3 + 2, none⟩ = some (.int .u64 d[i]!.l) :=
  ⟨h.at i hi 0 (by omega), h.at i hi 1 (by omega), h.at i hi 2 (by omega)⟩
theorem RowBox.free (h : RowBox w g d) (i : Nat) : w.frozen? ⟨g, i, none⟩ = false := Box.free h i
end
theorem rowCs_set (l : List Rw) (i : Nat) (x : Rw) (hi : i < l.length) : (((rowCs l).set (i * 3) (.string x.id)).set (i * 3 + 1) (.int .u64 x.h)).set (i * 3 + 2) (.int .u64 x.l) = rowCs (l.set i x) := by
  induction l generalizing i with
  | nil => simp at hi
  | cons y r ih =>
    cases i with
    | zero => simp [rowCs, Rw.cells]
    | succ i =>
      have e : rowCs (y :: r) = y.cells ++ rowCs r := by simp [rowCs]
      have e2 : rowCs ((y :: r).set (i + 1) x) = y.cells ++ rowCs (r.set i x) := by simp [rowCs]
      have hl : y.cells.length = 3 := rfl
      rw [e, e2, ← ih i (by simpa using hi)]
      rw [List.set_append_right _ _ (by rw [hl]; omega), List.set_append_right _ _ (by rw [hl]; omega), List.set_append_right _ _ (by rw [hl]; omega), hl]
      rw [show (i + 1) * 3 - 3 = i * 3 by omega, show (i + 1) * 3 + 1 - 3 = i * 3 + 1 by omega, show (i + 1) * 3 + 2 - 3 = i * 3 + 2 by omega]
theorem RowBox.put {w : World} {g : Nat} {d : Array Rw} (h : RowBox w g d) (i : Nat) (x : Rw) (hi : i < d.size) :
    RowBox (((w.setCell ⟨g, i * 3, none⟩ (.string x.id)).setCell ⟨g, i * 3 + 1, none⟩ (.int .u64 x.h)).setCell ⟨g, i * 3 + 2, none⟩ (.int .u64 x.l)) g (d.setIfInBounds i x) := by
  have h1 := ((Box.wrote h (i * 3) (.string x.id)).wrote (i * 3 + 1) (.int .u64 x.h)).wrote (i * 3 + 2) (.int .u64 x.l)
  unfold RowBox
  rw [Array.toList_setIfInBounds, ← rowCs_set d.toList i x (by simpa using hi)]
  have e : ∀ l : List Value, ∀ k v, l.toArray.setIfInBounds k v = (l.set k v).toArray := fun l k v => by simp
  rw [e, e, e] at h1
  exact h1
theorem below_put {B : Nat} {w W : World} {g : Nat} (h : Below B w W) (hg : B ≤ g) (i : Nat) (x y z : Value) :
    Below B w (((W.setCell ⟨g, i * 3, none⟩ x).setCell ⟨g, i * 3 + 1, none⟩ y).setCell ⟨g, i * 3 + 2, none⟩ z) :=
  ((h.setCell (p := ⟨g, i * 3, none⟩) hg x).setCell (p := ⟨g, i * 3 + 1, none⟩) hg y).setCell (p := ⟨g, i * 3 + 2, none⟩) hg z

set_option maxHeartbeats 1000000 in
theorem cmpstr_any (a b : ByteArray) (w : World) : Calls Try.prog 19 #[.string a, .string b] w (Plain (.int .i64 (Lib.compareBytes a.data.toList b.data.toList)) w) := by
  go_enter Try.func19, Try.ntmps19
  go_wp2
  rw [run_callFunc_extern Try.func22 (by kernel_rfl) (by kernel_rfl) (by kernel_rfl) (e := Extern.BytealgCompare.compare) (by kernel_rfl), Lib.run_compareString]
  simp only [Result.andThen]
  rw [Oper.upon_value]
  go_wp2
  go_ret
  exact ⟨rfl, rfl⟩
set_option maxHeartbeats 1000000 in
theorem compare_any (a b : ByteArray) (w : World) : Calls Try.prog 17 #[.string a, .string b] w (Plain (.int .i64 (Lib.compareBytes a.data.toList b.data.toList)) w) := by
  have c := fun u => cmpstr_any a b u
  go_enter Try.func17, Try.ntmps17
  go_wp2_with (first | (go_at_call 19; refine (c _).mono ?_; rintro e w1 ⟨rfl, rfl⟩))
  go_ret
  exact ⟨rfl, rfl⟩
set_option maxHeartbeats 1000000 in
theorem cmp10_any (x y : Rw) (w : World) : Calls Try.prog 16 #[x.val, y.val] w fun e w' => e = .returned (.int .i64 (cfR x y)) ∧ w' = (w.alloc (.cells #[.string x.id, .int .u64 x.h, .int .u64 x.l] 28)).alloc (.cells #[.string y.id, .int .u64 y.h, .int .u64 y.l] 28) := by
  have c := fun u => compare_any x.id y.id u
  have ec : cfR x y = Lib.compareBytes x.id.data.toList y.id.data.toList := rfl
  rw [ec]
  generalize Lib.compareBytes x.id.data.toList y.id.data.toList = q at *
  obtain ⟨i, h, l⟩ := x
  obtain ⟨i', h', l'⟩ := y
  simp only [Rw.val] at c ⊢
  have H0 := ((Has.start w).add 28 #[.string i, .int .u64 h, .int .u64 l]).add 28 #[.string i', .int .u64 h', .int .u64 l']
  have hsz : (w.alloc (.cells #[.string i, .int .u64 h, .int .u64 l] 28)).heap.size = w.heap.size + 1 := by simp
  rw [hsz] at H0
  go_enter Try.func16, Try.ntmps16
  go_upto_region 1 with fail
  have HW := hideIt (rfl : (w.alloc (.cells #[.string i, .int .u64 h, .int .u64 l] 28)).alloc (.cells #[.string i', .int .u64 h', .int .u64 l'] 28) = (w.alloc (.cells #[.string i, .int .u64 h, .int .u64 l] 28)).alloc (.cells #[.string i', .int .u64 h', .int .u64 l'] 28))
  obtain ⟨y0, y1, y2, -, -, -, hin0⟩ := (H0.box 1).three
  obtain ⟨z0, z1, z2, -, -, -, hin1⟩ := (H0.box 0).three
  go_wp2_with (first | (go_at_call 17; refine (c _).mono ?_; rintro e w1 ⟨rfl, rfl⟩))
  go_ret
  exact ⟨rfl, rfl⟩

/-- What a run of the sort leaves: the block holds these rows now; nothing below has turned. -/
def Ran (B g : Nat) (w : World) (d : Array Rw) (W : World) : Prop := RowBox W g d ∧ Below B w W
theorem swp_size' (d : Array Rw) (i j : Nat) : (swp d i j).size = d.size := size_swp d i j

set_option maxRecDepth 100000 in
set_option maxHeartbeats 4000000 in
theorem swapRange_any (B g cap a b n : Nat) (d0 : Array Rw) (f : Value) (w : World) (h : RowBox w g d0) (hB : B ≤ g) (ha : a + n ≤ b) (hb : b + n ≤ d0.size) (hs : d0.size ≤ 1000000000) :
    Calls Try.prog 24 #[.slice (some ⟨g, 0, none⟩) d0.size cap, .int .i64 a, .int .i64 b, .int .i64 n, f] w fun e w' => e = .returned (.tuple #[]) ∧
      ∃ d, Ran B g w d w' ∧ d.size = d0.size ∧ ∀ x, d[x]! = if a ≤ x ∧ x < a + n then d0[x - a + b]! else if b ≤ x ∧ x < b + n then d0[x - b + a]! else d0[x]! := by
  obtain ⟨N, hN⟩ : ∃ N, d0.size = N := ⟨_, rfl⟩
  rw [hN]
  go_enter Try.func24, Try.ntmps24
  go_wp2
  go_loopg [10] n (fun gk i wr => ∃ (k : Nat) (d : Array Rw), k ≤ n ∧ gk = n - k ∧ i = .int .i64 k ∧ RowBox wr g d ∧ Below B w wr ∧ d.size = N ∧ Hid (∀ x, d[x]! = if a ≤ x ∧ x < a + k then d0[x - a + b]! else if b ≤ x ∧ x < b + k then d0[x - b + a]! else d0[x]!))
  case atStart => exact ⟨0, d0, by omega, rfl, rfl, h, Below.refl _ _, hN, fun x => by rw [if_neg (by omega), if_neg (by omega)]⟩
  case round =>
    obtain ⟨k, d, hk, hgk, rfl, hR, hb', hds, hspec⟩ := hrel
    have HG := hideIt hgk
    clear hgk
    by_cases hlt : k < n
    · have hlti : (k : Int) < (n : Int) := by omega
      have w1 : IntKind.i64.wrap ((a : Int) + (k : Int)) = ((a + k : Nat) : Int) := by rw [IntKind.wrap_i64]; omega
      have w2 : IntKind.i64.wrap ((b : Int) + (k : Int)) = ((b + k : Nat) : Int) := by rw [IntKind.wrap_i64]; omega
      obtain ⟨I, hI⟩ : ∃ I, a + k = I := ⟨_, rfl⟩
      obtain ⟨J, hJ⟩ : ∃ J, b + k = J := ⟨_, rfl⟩
      rw [hI] at w1
      rw [hJ] at w2
      have i1 : (I : Int) < (N : Int) := by omega
      have j1 : (J : Int) < (N : Int) := by omega
      go_upto_region 3 with fail
      have hRZ := hR.draw
      have hBZ := hb'.drew
      have hin := hRZ.inside
      refine wp_region_held_drew (S := fun u => g < u.heap.size) (by kernel_rfl) hin (fun hHeld => ?_)
      generalize wr.drew = Z at *
      obtain ⟨Z1, hZ1⟩ : ∃ Z1, ((Z.setCell ⟨g, I * 3, none⟩ (.string d[J]!.id)).setCell ⟨g, I * 3 + 1, none⟩ (.int .u64 d[J]!.h)).setCell ⟨g, I * 3 + 2, none⟩ (.int .u64 d[J]!.l) = Z1 := ⟨_, rfl⟩
      have hR1 : RowBox Z1 g (d.setIfInBounds I d[J]!) := by rw [← hZ1]; exact hRZ.put I d[J]! (by omega)
      have hB1 : Below B w Z1 := by rw [← hZ1]; exact below_put hBZ hB I _ _ _
      obtain ⟨Z2, hZ2⟩ : ∃ Z2, ((Z1.setCell ⟨g, J * 3, none⟩ (.string d[I]!.id)).setCell ⟨g, J * 3 + 1, none⟩ (.int .u64 d[I]!.h)).setCell ⟨g, J * 3 + 2, none⟩ (.int .u64 d[I]!.l) = Z2 := ⟨_, rfl⟩
      have hR2 : RowBox Z2 g (swp d I J) := by rw [← hZ2]; exact hR1.put J d[I]! (by rw [Array.size_setIfInBounds]; omega)
      have hB2 : Below B w Z2 := by rw [← hZ2]; exact below_put hB1 hB J _ _ _
      obtain ⟨p0, p1, p2⟩ := hRZ.three I (by omega)
      obtain ⟨q0, q1, q2⟩ := hRZ.three J (by omega)
      have hsp : ∀ x, (swp d I J)[x]! = if a ≤ x ∧ x < a + (k + 1) then d0[x - a + b]! else if b ≤ x ∧ x < b + (k + 1) then d0[x - b + a]! else d0[x]! := fun x => by
        have hx := hspec.out
        by_cases h1 : x = I
        · rw [h1, swp_left _ _ _ (by omega) (by omega), hx J, if_neg (by omega), if_neg (by omega), if_pos (by omega)]
          congr 1; omega
        · by_cases h2 : x = J
          · rw [h2, swp_right _ _ _ (by omega), hx I, if_neg (by omega), if_neg (by omega), if_neg (by omega), if_pos (by omega)]
            congr 1; omega
          · rw [swp_other _ _ _ _ h1 h2, hx x]
            by_cases c1 : a ≤ x ∧ x < a + k
            · rw [if_pos c1, if_pos (show a ≤ x ∧ x < a + (k + 1) by omega)]
            · rw [if_neg c1, if_neg (show ¬ (a ≤ x ∧ x < a + (k + 1)) by omega)]
              by_cases c2 : b ≤ x ∧ x < b + k
              · rw [if_pos c2, if_pos (show b ≤ x ∧ x < b + (k + 1) by omega)]
              · rw [if_neg c2, if_neg (show ¬ (b ≤ x ∧ x < b + (k + 1)) by omega)]
      have HSP := hideIt hsp
      clear hsp hspec
      refine wpAnyH_take (i := 0) (v := ?_) rfl (by kernel_rfl) (by kernel_rfl) (by kernel_rfl) (fun _ _ _ h => h) (Or.inl ⟨by rfl, ?_⟩) (by assumption) ?_
      rotate_left 1
      · intro w hSw; (try dsimp only at hSw); go_simp; try with_reducible rfl
      try simp only [Act.put, List.getElem_toArray, List.getElem_cons_succ, List.getElem_cons_zero, List.setIfInBounds_toArray, List.set_cons_zero, List.set_cons_succ]
      refine wpAnyH_take (i := 1) (v := ?_) rfl (by kernel_rfl) (by kernel_rfl) (by kernel_rfl) (fun _ _ _ h => h) (Or.inl ⟨by rfl, ?_⟩) (by assumption) ?_
      rotate_left 1
      · intro w hSw; (try dsimp only at hSw); go_simp; try with_reducible rfl
      try simp only [Act.put, List.getElem_toArray, List.getElem_cons_succ, List.getElem_cons_zero, List.setIfInBounds_toArray, List.set_cons_zero, List.set_cons_succ]
      refine wpAnyH_take (i := 2) (v := ?_) rfl (by kernel_rfl) (by kernel_rfl) (by kernel_rfl) (fun _ _ _ h => h) (Or.inl ⟨by rfl, ?_⟩) (by assumption) ?_
      rotate_left 1
      · intro w hSw; (try dsimp only at hSw); go_simp; try with_reducible rfl
      try simp only [Act.put, List.getElem_toArray, List.getElem_cons_succ, List.getElem_cons_zero, List.setIfInBounds_toArray, List.set_cons_zero, List.set_cons_succ]
      refine wpAnyH_take (i := 3) (v := ?_) rfl (by kernel_rfl) (by kernel_rfl) (by kernel_rfl) (fun _ _ _ h => h) (Or.inl ⟨by rfl, ?_⟩) (by assumption) ?_
      rotate_left 1
      · intro w hSw; (try dsimp only at hSw); go_simp; try with_reducible rfl
      try simp only [Act.put, List.getElem_toArray, List.getElem_cons_succ, List.getElem_cons_zero, List.setIfInBounds_toArray, List.set_cons_zero, List.set_cons_succ]
      refine wpAnyH_take (i := 4) (v := ?_) rfl (by kernel_rfl) (by kernel_rfl) (by kernel_rfl) (fun _ _ _ h => h) (Or.inl ⟨by rfl, ?_⟩) (by assumption) ?_
      rotate_left 1
      · intro w hSw; (try dsimp only at hSw); go_simp; try with_reducible rfl
      try simp only [Act.put, List.getElem_toArray, List.getElem_cons_succ, List.getElem_cons_zero, List.setIfInBounds_toArray, List.set_cons_zero, List.set_cons_succ]
      refine wpAnyH_take (i := 5) (v := ?_) rfl (by kernel_rfl) (by kernel_rfl) (by kernel_rfl) (fun _ _ _ h => h) (Or.inl ⟨by rfl, ?_⟩) (by assumption) ?_
      rotate_left 1
      · intro w hSw; (try dsimp only at hSw); go_simp; try with_reducible rfl
      try simp only [Act.put, List.getElem_toArray, List.getElem_cons_succ, List.getElem_cons_zero, List.setIfInBounds_toArray, List.set_cons_zero, List.set_cons_succ]
      refine wpAnyH_take (i := 6) (v := ?_) rfl (by kernel_rfl) (by kernel_rfl) (by kernel_rfl) (fun _ _ _ h => h) (Or.inl ⟨by rfl, ?_⟩) (by assumption) ?_
      rotate_left 1
      · intro w hSw; (try dsimp only at hSw); go_simp; try with_reducible rfl
      try simp only [Act.put, List.getElem_toArray, List.getElem_cons_succ, List.getElem_cons_zero, List.setIfInBounds_toArray, List.set_cons_zero, List.set_cons_succ]
      refine wpAnyH_take (i := 7) (v := ?_) rfl (by kernel_rfl) (by kernel_rfl) (by kernel_rfl) (fun _ _ _ h => h) (Or.inl ⟨by rfl, ?_⟩) (by assumption) ?_
      rotate_left 1
      · intro w hSw; (try dsimp only at hSw); go_simp; try with_reducible rfl
      try simp only [Act.put, List.getElem_toArray, List.getElem_cons_succ, List.getElem_cons_zero, List.setIfInBounds_toArray, List.set_cons_zero, List.set_cons_succ]
      refine wpAnyH_take (i := 8) (v := ?_) rfl (by kernel_rfl) (by kernel_rfl) (by kernel_rfl) (fun _ _ _ h => h) (Or.inl ⟨by rfl, ?_⟩) (by assumption) ?_
      rotate_left 1
      · intro w hSw; (try dsimp only at hSw); go_simp; try with_reducible rfl
      try simp only [Act.put, List.getElem_toArray, List.getElem_cons_succ, List.getElem_cons_zero, List.setIfInBounds_toArray, List.set_cons_zero, List.set_cons_succ]
      refine wpAnyH_take (i := 9) (v := ?_) rfl (by kernel_rfl) (by kernel_rfl) (by kernel_rfl) (fun _ _ _ h => h) (Or.inl ⟨by rfl, ?_⟩) (by assumption) ?_
      rotate_left 1
      · intro w hSw; (try dsimp only at hSw); go_simp; try with_reducible rfl
      try simp only [Act.put, List.getElem_toArray, List.getElem_cons_succ, List.getElem_cons_zero, List.setIfInBounds_toArray, List.set_cons_zero, List.set_cons_succ]
      refine wpAnyH_take (i := 10) (v := ?_) rfl (by kernel_rfl) (by kernel_rfl) (by kernel_rfl) (fun _ _ _ h => h) (Or.inl ⟨by rfl, ?_⟩) (by assumption) ?_
      rotate_left 1
      · intro w hSw; (try dsimp only at hSw); go_simp; try with_reducible rfl
      try simp only [Act.put, List.getElem_toArray, List.getElem_cons_succ, List.getElem_cons_zero, List.setIfInBounds_toArray, List.set_cons_zero, List.set_cons_succ]
      refine wpAnyH_take (i := 11) (v := ?_) rfl (by kernel_rfl) (by kernel_rfl) (by kernel_rfl) (fun _ _ _ h => h) (Or.inl ⟨by rfl, ?_⟩) (by assumption) ?_
      rotate_left 1
      · intro w hSw; (try dsimp only at hSw); go_simp; try with_reducible rfl
      try simp only [Act.put, List.getElem_toArray, List.getElem_cons_succ, List.getElem_cons_zero, List.setIfInBounds_toArray, List.set_cons_zero, List.set_cons_succ]
      refine wpAnyH_take (i := 12) (v := ?_) rfl (by kernel_rfl) (by kernel_rfl) (by kernel_rfl) (fun _ _ _ h => h) (Or.inl ⟨by rfl, ?_⟩) (by assumption) ?_
      rotate_left 1
      · intro w hSw; (try dsimp only at hSw); go_simp; try with_reducible rfl
      try simp only [Act.put, List.getElem_toArray, List.getElem_cons_succ, List.getElem_cons_zero, List.setIfInBounds_toArray, List.set_cons_zero, List.set_cons_succ]
      refine wpAnyH_take (i := 14) (v := ?_) rfl (by kernel_rfl) (by kernel_rfl) (by kernel_rfl) (fun _ _ _ h => h) (Or.inl ⟨by rfl, ?_⟩) (by assumption) ?_
      rotate_left 1
      · intro w hSw; (try dsimp only at hSw); go_simp; try with_reducible rfl
      try simp only [Act.put, List.getElem_toArray, List.getElem_cons_succ, List.getElem_cons_zero, List.setIfInBounds_toArray, List.set_cons_zero, List.set_cons_succ]
      refine wpAnyH_take (i := 15) (v := ?_) rfl (by kernel_rfl) (by kernel_rfl) (by kernel_rfl) (fun _ _ _ h => h) (Or.inl ⟨by rfl, ?_⟩) (by assumption) ?_
      rotate_left 1
      · intro w hSw; (try dsimp only at hSw); go_simp; try with_reducible rfl
      try simp only [Act.put, List.getElem_toArray, List.getElem_cons_succ, List.getElem_cons_zero, List.setIfInBounds_toArray, List.set_cons_zero, List.set_cons_succ]
      refine wpAnyH_take (i := 16) (v := ?_) rfl (by kernel_rfl) (by kernel_rfl) (by kernel_rfl) (fun _ _ _ h => h) (Or.inl ⟨by rfl, ?_⟩) (by assumption) ?_
      rotate_left 1
      · intro w hSw; (try dsimp only at hSw); go_simp; try with_reducible rfl
      try simp only [Act.put, List.getElem_toArray, List.getElem_cons_succ, List.getElem_cons_zero, List.setIfInBounds_toArray, List.set_cons_zero, List.set_cons_succ]
      refine wpAnyH_take (i := 17) (v := ?_) rfl (by kernel_rfl) (by kernel_rfl) (by kernel_rfl) (fun _ _ _ h => h) (Or.inl ⟨by rfl, ?_⟩) (by assumption) ?_
      rotate_left 1
      · intro w hSw; (try dsimp only at hSw); go_simp; try with_reducible rfl
      try simp only [Act.put, List.getElem_toArray, List.getElem_cons_succ, List.getElem_cons_zero, List.setIfInBounds_toArray, List.set_cons_zero, List.set_cons_succ]
      refine wpAnyH_take (i := 18) (v := ?_) rfl (by kernel_rfl) (by kernel_rfl) (by kernel_rfl) (fun _ _ _ h => h) (Or.inl ⟨by rfl, ?_⟩) (by assumption) ?_
      rotate_left 1
      · intro w hSw; (try dsimp only at hSw); go_simp; try with_reducible rfl
      try simp only [Act.put, List.getElem_toArray, List.getElem_cons_succ, List.getElem_cons_zero, List.setIfInBounds_toArray, List.set_cons_zero, List.set_cons_succ]
      refine wpAnyH_ready (rs := [13, 19]) (by kernel_rfl) (by simp) (AllReadyH.cons rfl (fun K hK => ?_) (AllReadyH.cons rfl (fun K hK => ?_) AllReadyH.nil))
      · go_simp
        refine hK.out _ _ (hRZ.inside) (fun hHeld => ?_)
        clear hK K
        try simp only [Act.put, List.getElem_toArray, List.getElem_cons_succ, List.getElem_cons_zero, List.setIfInBounds_toArray, List.set_cons_zero, List.set_cons_succ]
        refine wpAnyH_ready (rs := [19]) (by kernel_rfl) (by simp) (AllReadyH.cons rfl (fun K hK => ?_) AllReadyH.nil)
        go_simp
        refine hK.out _ _ (hRZ.inside) (fun hHeld => ?_)
        clear hK K
        try simp only [Act.put, List.getElem_toArray, List.getElem_cons_succ, List.getElem_cons_zero, List.setIfInBounds_toArray, List.set_cons_zero, List.set_cons_succ]
        clear p0 p1 p2 q0 q1 q2
        refine wpAnyH_take (i := 20) (v := ?_) rfl (by kernel_rfl) (by kernel_rfl) (by kernel_rfl) (fun _ _ _ h => h) (Or.inl ⟨by rfl, ?_⟩) (by assumption) ?_
        rotate_left 1
        · intro w hSw; (try dsimp only at hSw); go_simp; try with_reducible rfl
        try simp only [Act.put, List.getElem_toArray, List.getElem_cons_succ, List.getElem_cons_zero, List.setIfInBounds_toArray, List.set_cons_zero, List.set_cons_succ]
        obtain ⟨v0, v1, v2⟩ := hRZ.three I (by omega)
        have u0 := hRZ.free (I * 3)
        have u1 := hRZ.free (I * 3 + 1)
        have u2 := hRZ.free (I * 3 + 2)
        refine wpAnyH_ready (rs := [21]) (by kernel_rfl) (by simp) (AllReadyH.cons rfl (fun K hK => ?_) AllReadyH.nil)
        go_simp
        try rw [hZ1]
        refine hK.out _ _ (hR1.inside) (fun hHeld => ?_)
        clear hK K
        try simp only [Act.put, List.getElem_toArray, List.getElem_cons_succ, List.getElem_cons_zero, List.setIfInBounds_toArray, List.set_cons_zero, List.set_cons_succ]
        clear v0 v1 v2 u0 u1 u2
        refine wpAnyH_take (i := 22) (v := ?_) rfl (by kernel_rfl) (by kernel_rfl) (by kernel_rfl) (fun _ _ _ h => h) (Or.inl ⟨by rfl, ?_⟩) (by assumption) ?_
        rotate_left 1
        · intro w hSw; (try dsimp only at hSw); go_simp; try with_reducible rfl
        try simp only [Act.put, List.getElem_toArray, List.getElem_cons_succ, List.getElem_cons_zero, List.setIfInBounds_toArray, List.set_cons_zero, List.set_cons_succ]
        obtain ⟨v0, v1, v2⟩ := hR1.three J (by rw [Array.size_setIfInBounds]; omega)
        have u0 := hR1.free (J * 3)
        have u1 := hR1.free (J * 3 + 1)
        have u2 := hR1.free (J * 3 + 2)
        have hin1 := hR1.inside
        refine wpAnyH_ready (rs := [23]) (by kernel_rfl) (by simp) (AllReadyH.cons rfl (fun K hK => ?_) AllReadyH.nil)
        go_simp
        try rw [hZ2]
        refine hK.out _ _ (hR2.inside) (fun hHeld => ?_)
        clear hK K
        try simp only [Act.put, List.getElem_toArray, List.getElem_cons_succ, List.getElem_cons_zero, List.setIfInBounds_toArray, List.set_cons_zero, List.set_cons_succ]
        refine wpAnyH_done (by kernel_rfl) ?_ _
        go_wp2
        go_roundg (n - (k + 1))
        case measure => have := HG.out; omega
        case rel => exact ⟨k + 1, swp d I J, by omega, rfl, by go_num, hR2, hB2, by rw [size_swp]; exact hds, HSP⟩
      · go_simp
        refine hK.out _ _ (hRZ.inside) (fun hHeld => ?_)
        clear hK K
        try simp only [Act.put, List.getElem_toArray, List.getElem_cons_succ, List.getElem_cons_zero, List.setIfInBounds_toArray, List.set_cons_zero, List.set_cons_succ]
        refine wpAnyH_ready (rs := [13]) (by kernel_rfl) (by simp) (AllReadyH.cons rfl (fun K hK => ?_) AllReadyH.nil)
        go_simp
        refine hK.out _ _ (hRZ.inside) (fun hHeld => ?_)
        clear hK K
        try simp only [Act.put, List.getElem_toArray, List.getElem_cons_succ, List.getElem_cons_zero, List.setIfInBounds_toArray, List.set_cons_zero, List.set_cons_succ]
        clear p0 p1 p2 q0 q1 q2
        refine wpAnyH_take (i := 20) (v := ?_) rfl (by kernel_rfl) (by kernel_rfl) (by kernel_rfl) (fun _ _ _ h => h) (Or.inl ⟨by rfl, ?_⟩) (by assumption) ?_
        rotate_left 1
        · intro w hSw; (try dsimp only at hSw); go_simp; try with_reducible rfl
        try simp only [Act.put, List.getElem_toArray, List.getElem_cons_succ, List.getElem_cons_zero, List.setIfInBounds_toArray, List.set_cons_zero, List.set_cons_succ]
        obtain ⟨v0, v1, v2⟩ := hRZ.three I (by omega)
        have u0 := hRZ.free (I * 3)
        have u1 := hRZ.free (I * 3 + 1)
        have u2 := hRZ.free (I * 3 + 2)
        refine wpAnyH_ready (rs := [21]) (by kernel_rfl) (by simp) (AllReadyH.cons rfl (fun K hK => ?_) AllReadyH.nil)
        go_simp
        try rw [hZ1]
        refine hK.out _ _ (hR1.inside) (fun hHeld => ?_)
        clear hK K
        try simp only [Act.put, List.getElem_toArray, List.getElem_cons_succ, List.getElem_cons_zero, List.setIfInBounds_toArray, List.set_cons_zero, List.set_cons_succ]
        clear v0 v1 v2 u0 u1 u2
        refine wpAnyH_take (i := 22) (v := ?_) rfl (by kernel_rfl) (by kernel_rfl) (by kernel_rfl) (fun _ _ _ h => h) (Or.inl ⟨by rfl, ?_⟩) (by assumption) ?_
        rotate_left 1
        · intro w hSw; (try dsimp only at hSw); go_simp; try with_reducible rfl
        try simp only [Act.put, List.getElem_toArray, List.getElem_cons_succ, List.getElem_cons_zero, List.setIfInBounds_toArray, List.set_cons_zero, List.set_cons_succ]
        obtain ⟨v0, v1, v2⟩ := hR1.three J (by rw [Array.size_setIfInBounds]; omega)
        have u0 := hR1.free (J * 3)
        have u1 := hR1.free (J * 3 + 1)
        have u2 := hR1.free (J * 3 + 2)
        have hin1 := hR1.inside
        refine wpAnyH_ready (rs := [23]) (by kernel_rfl) (by simp) (AllReadyH.cons rfl (fun K hK => ?_) AllReadyH.nil)
        go_simp
        try rw [hZ2]
        refine hK.out _ _ (hR2.inside) (fun hHeld => ?_)
        clear hK K
        try simp only [Act.put, List.getElem_toArray, List.getElem_cons_succ, List.getElem_cons_zero, List.setIfInBounds_toArray, List.set_cons_zero, List.set_cons_succ]
        refine wpAnyH_done (by kernel_rfl) ?_ _
        go_wp2
        go_roundg (n - (k + 1))
        case measure => have := HG.out; omega
        case rel => exact ⟨k + 1, swp d I J, by omega, rfl, by go_num, hR2, hB2, by rw [size_swp]; exact hds, HSP⟩
    · have e : k = n := by omega
      subst e
      go_wp2
      go_end0
      exact ⟨rfl, d, ⟨hR, hb'⟩, hds, hspec.out⟩
end Go.Proofs.Ythindbmgnkohhaa
