/- Several of my texts, laid as one. -/
import Derived.Test.YtngofpdpangajaaDoorD10Sort
import Derived.Test.YtngofpdpangajaaDoorW0Libs
import Derived.Test.YtngofpdpangajaaDoorW1Has
import Derived.Deep.RegionHeld3
import Derived.Laws.Externs
import Derived.Shelf.SlSortCmp.QuietGrown
/-
  A row of rows of the call's own, in its block; how two rows compare, walked.
-/
namespace Go.Proofs.YtngofpdpangajaaDoor
set_option linter.unusedVariables false
set_option linter.unusedSimpArgs false
set_option maxRecDepth 10000
open Go.RowKit Go.Sort

/-- Block g holds just these rows. -/
def RowBox (w : World) (g : Nat) (d : Array Rw) : Prop := Box w g 59 (rowCs d.toList).toArray
section
variable {w w' : World} {g : Nat} {d : Array Rw}
theorem RowBox.inside (h : RowBox w g d) : g < w.heap.size := Box.inside h
theorem RowBox.call (h : RowBox w g d) (hb : Below w.heap.size w w') : RowBox w' g d := Box.call h hb
theorem RowBox.past (h : RowBox w g d) (o : Obj) : RowBox (w.alloc o) g d := Box.past h o
theorem RowBox.draw (h : RowBox w g d) : RowBox w.drew g d := h
theorem RowBox.draws (h : RowBox w g d) (n : Nat) : RowBox (w.drewN n) g d := h
theorem RowBox.at (h : RowBox w g d) (i : Nat) (hi : i < d.size) (j : Nat) (hj : j < 3) : w.cell? ⟨g, i * 3 + j, none⟩ = d[i]!.cells[j]? := by
  rw [Box.read h]
  simp only [List.getElem?_toArray]
  refine rowCs_at d.toList i d[i]! ?_ j hj
  rw [Array.getElem?_toList, Array.getElem?_eq_getElem hi, getElem!_pos d i hi]
theorem RowBox.three (h : RowBox w g d) (i : Nat) (hi : i < d.size) :
    w.cell? ⟨g, i * 3, none⟩ = some (.string d[i]!.id) ∧ w.cell? ⟨g, i * 3 + 1, none⟩ = some (.int .u64 d[i]!.h) ∧ w.cell? ⟨g, i * 3 + 2, none⟩ = some (.int .u64 d[i]!.l) :=
  ⟨h.at i hi 0 (by omega), h.at i hi 1 (by omega), h.at i hi 2 (by omega)⟩
theorem RowBox.free (h : RowBox w g d) (i : Nat) : w.frozen? ⟨g, i, none⟩ = false := Box.free h i
end
theorem rowCs_set (l : List Rw) (i : Nat) (x : Rw) (hi : i < l.length) : (((rowCs l).set (i * 3) (.string x.id)).set (i * 3 + 1) (.int .u64 x.h)).set (i * 3 + 2) (.int .u64 x.l) = rowCs (l.set i x) := by
  induction l generalizing i with
  | nil => simp at hi
  | cons y r ih =>
    cases i with
    | zero => simp [rowCs, Rw.cells]
    | succ i =>
      have e : rowCs (y :: r) = y.cells ++ rowCs r := by simp [rowCs]
      have e2 : rowCs ((y :: r).set (i + 1) x) = y.cells ++ rowCs (r.set i x) := by simp [rowCs]
      have hl : y.cells.length = 3 := rfl
      rw [e, e2, ← ih i (by simpa using hi)]
      rw [List.set_append_right _ _ (by rw [hl]; omega), List.set_append_right _ _ (by rw [hl]; omega), List.set_append_right _ _ (by rw [hl]; omega), hl]
      rw [show (i + 1) * 3 - 3 = i * 3 by omega, show (i + 1) * 3 + 1 - 3 = i * 3 + 1 by omega, show (i + 1) * 3 + 2 - 3 = i * 3 + 2 by omega]
theorem RowBox.put {w : World} {g : Nat} {d : Array Rw} (h : RowBox w g d) (i : Nat) (x : Rw) (hi : i < d.size) :
    RowBox (((w.setCell ⟨g, i * 3, none⟩ (.string x.id)).setCell ⟨g, i * 3 + 1, none⟩ (.int .u64 x.h)).setCell ⟨g, i * 3 + 2, none⟩ (.int .u64 x.l)) g (d.setIfInBounds i x) := by
  have h1 := ((Box.wrote h (i * 3) (.string x.id)).wrote (i * 3 + 1) (.int .u64 x.h)).wrote (i * 3 + 2) (.int .u64 x.l)
  unfold RowBox
  rw [Array.toList_setIfInBounds, ← rowCs_set d.toList i x (by simpa using hi)]
  have e : ∀ l : List Value, ∀ k v, l.toArray.setIfInBounds k v = (l.set k v).toArray := fun l k v => by simp
  rw [e, e, e] at h1
  exact h1
theorem below_put {B : Nat} {w W : World} {g : Nat} (h : Below B w W) (hg : B ≤ g) (i : Nat) (x y z : Value) :
    Below B w (((W.setCell ⟨g, i * 3, none⟩ x).setCell ⟨g, i * 3 + 1, none⟩ y).setCell ⟨g, i * 3 + 2, none⟩ z) :=
  ((h.setCell (p := ⟨g, i * 3, none⟩) hg x).setCell (p := ⟨g, i * 3 + 1, none⟩) hg y).setCell (p := ⟨g, i * 3 + 2, none⟩) hg z

set_option maxHeartbeats 1000000 in
theorem cmpstr_any (a b : ByteArray) (w : World) : Calls Tryd.prog 86 #[.string a, .string b] w (Plain (.int .i64 (Lib.compareBytes a.data.toList b.data.toList)) w) := by
  go_enter Tryd.func86, Tryd.ntmps86
  go_wp2
  rw [run_callFunc_extern Tryd.func98 (by kernel_rfl) (by kernel_rfl) (by kernel_rfl) (e := Extern.BytealgCompare.compare) (by kernel_rfl), Lib.run_compareString]
  simp only [Result.andThen]
  rw [Oper.upon_value]
  go_wp2
  go_ret
  exact ⟨rfl, rfl⟩
set_option maxHeartbeats 1000000 in
theorem compare_any (a b : ByteArray) (w : World) : Calls Tryd.prog 68 #[.string a, .string b] w (Plain (.int .i64 (Lib.compareBytes a.data.toList b.data.toList)) w) := by
  have c := fun u => cmpstr_any a b u
  go_enter Tryd.func68, Tryd.ntmps68
  go_wp2_with (first | (go_at_call 86; refine (c _).mono ?_; rintro e w1 ⟨rfl, rfl⟩))
  go_ret
  exact ⟨rfl, rfl⟩
set_option maxHeartbeats 1000000 in
theorem cmp10_any (x y : Rw) (w : World) : Calls Tryd.prog 67 #[x.val, y.val] w fun e w' => e = .returned (.int .i64 (cfR x y)) ∧ w' = (w.alloc (.cells #[.string x.id, .int .u64 x.h, .int .u64 x.l] 59)).alloc (.cells #[.string y.id, .int .u64 y.h, .int .u64 y.l] 59) := by
  have c := fun u => compare_any x.id y.id u
  have ec : cfR x y = Lib.compareBytes x.id.data.toList y.id.data.toList := rfl
  rw [ec]
  generalize Lib.compareBytes x.id.data.toList y.id.data.toList = q at *
  obtain ⟨i, h, l⟩ := x
  obtain ⟨i', h', l'⟩ := y
  simp only [Rw.val] at c ⊢
  have H0 := ((Has.start w).add 59 #[.string i, .int .u64 h, .int .u64 l]).add 59 #[.string i', .int .u64 h', .int .u64 l']
  have hsz : (w.alloc (.cells #[.string i, .int .u64 h, .int .u64 l] 59)).heap.size = w.heap.size + 1 := by simp
  rw [hsz] at H0
  go_enter Tryd.func67, Tryd.ntmps67
  go_upto_region 1 with fail
  have HW := hideIt (rfl : (w.alloc (.cells #[.string i, .int .u64 h, .int .u64 l] 59)).alloc (.cells #[.string i', .int .u64 h', .int .u64 l'] 59) = (w.alloc (.cells #[.string i, .int .u64 h, .int .u64 l] 59)).alloc (.cells #[.string i', .int .u64 h', .int .u64 l'] 59))
  obtain ⟨y0, y1, y2, -, -, -, hin0⟩ := (H0.box 1).three
  obtain ⟨z0, z1, z2, -, -, -, hin1⟩ := (H0.box 0).three
  go_wp2_with (first | (go_at_call 68; refine (c _).mono ?_; rintro e w1 ⟨rfl, rfl⟩))
  go_ret
  exact ⟨rfl, rfl⟩

/-- What a run of the sort leaves: the block holds these rows now; nothing below has turned. -/
def Ran (B g : Nat) (w : World) (d : Array Rw) (W : World) : Prop := RowBox W g d ∧ Below B w W
theorem swp_size' (d : Array Rw) (i j : Nat) : (swp d i j).size = d.size := size_swp d i j

set_option maxRecDepth 100000 in
set_option maxHeartbeats 4000000 in
theorem swapRange_any (B g cap a b n : Nat) (d0 : Array Rw) (f : Value) (w : World) (h : RowBox w g d0) (hB : B ≤ g) (ha : a + n ≤ b) (hb : b + n ≤ d0.size) (hs : d0.size ≤ 1000000000) :
    Calls Tryd.prog 121 #[.slice (some ⟨g, 0, none⟩) d0.size cap, .int .i64 a, .int .i64 b, .int .i64 n, f] w fun e w' => e = .returned (.tuple #[]) ∧
      ∃ d, Ran B g w d w' ∧ d.size = d0.size ∧ ∀ x, d[x]! = if a ≤ x ∧ x < a + n then d0[x - a + b]! else if b ≤ x ∧ x < b + n then d0[x - b + a]! else d0[x]! := by
  obtain ⟨N, hN⟩ : ∃ N, d0.size = N := ⟨_, rfl⟩
  rw [hN]
  go_enter Tryd.func121, Tryd.ntmps121
  go_wp2
  go_loopg [10] n (fun gk i wr => ∃ (k : Nat) (d : Array Rw), k ≤ n ∧ gk = n - k ∧ i = .int .i64 k ∧ RowBox wr g d ∧ Below B w wr ∧ d.size = N ∧ Hid (∀ x, d[x]! = if a ≤ x ∧ x < a + k then d0[x - a + b]! else if b ≤ x ∧ x < b + k then d0[x - b + a]! else d0[x]!))
  case atStart => exact ⟨0, d0, by omega, rfl, rfl, h, Below.refl _ _, hN, fun x => by rw [if_neg (by omega), if_neg (by omega)]⟩
  case round =>
    obtain ⟨k, d, hk, hgk, rfl, hR, hb', hds, hspec⟩ := hrel
    have HG := hideIt hgk
    clear hgk
    by_cases hlt : k < n
    · have hlti : (k : Int) < (n : Int) := by omega
      have w1 : IntKind.i64.wrap ((a : Int) + (k : Int)) = ((a + k : Nat) : Int) := by rw [IntKind.wrap_i64]; omega
      have w2 : IntKind.i64.wrap ((b : Int) + (k : Int)) = ((b + k : Nat) : Int) := by rw [IntKind.wrap_i64]; omega
      obtain ⟨I, hI⟩ : ∃ I, a + k = I := ⟨_, rfl⟩
      obtain ⟨J, hJ⟩ : ∃ J, b + k = J := ⟨_, rfl⟩
      rw [hI] at w1
      rw [hJ] at w2
      have i1 : (I : Int) < (N : Int) := by omega
      have j1 : (J : Int) < (N : Int) := by omega
      go_upto_region 3 with fail
      have hRZ := hR.draw
      have hBZ := hb'.drew
      have hin := hRZ.inside
      refine wp_region_held_drew (S := fun u => g < u.heap.size) (by kernel_rfl) hin (fun hHeld => ?_)
      generalize wr.drew = Z at *
      obtain ⟨Z1, hZ1⟩ : ∃ Z1, ((Z.setCell ⟨g, I * 3, none⟩ (.string d[J]!.id)).setCell ⟨g, I * 3 + 1, none⟩ (.int .u64 d[J]!.h)).setCell ⟨g, I * 3 + 2, none⟩ (.int .u64 d[J]!.l) = Z1 := ⟨_, rfl⟩
      have hR1 : RowBox Z1 g (d.setIfInBounds I d[J]!) := by rw [← hZ1]; exact hRZ.put I d[J]! (by omega)
      have hB1 : Below B w Z1 := by rw [← hZ1]; exact below_put hBZ hB I _ _ _
      obtain ⟨Z2, hZ2⟩ : ∃ Z2, ((Z1.setCell ⟨g, J * 3, none⟩ (.string d[I]!.id)).setCell ⟨g, J * 3 + 1, none⟩ (.int .u64 d[I]!.h)).setCell ⟨g, J * 3 + 2, none⟩ (.int .u64 d[I]!.l) = Z2 := ⟨_, rfl⟩
      have hR2 : RowBox Z2 g (swp d I J) := by rw [← hZ2]; exact hR1.put J d[I]! (by rw [Array.size_setIfInBounds]; omega)
      have hB2 : Below B w Z2 := by rw [← hZ2]; exact below_put hB1 hB J _ _ _
      obtain ⟨p0, p1, p2⟩ := hRZ.three I (by omega)
      obtain ⟨q0, q1, q2⟩ := hRZ.three J (by omega)
      have hsp : ∀ x, (swp d I J)[x]! = if a ≤ x ∧ x < a + (k + 1) then d0[x - a + b]! else if b ≤ x ∧ x < b + (k + 1) then d0[x - b + a]! else d0[x]! := fun x => by
        have hx := hspec.out
        by_cases h1 : x = I
        · rw [h1, swp_left _ _ _ (by omega) (by omega), hx J, if_neg (by omega), if_neg (by omega), if_pos (by omega)]
          congr 1; omega
        · by_cases h2 : x = J
          · rw [h2, swp_right _ _ _ (by omega), hx I, if_neg (by omega), if_neg (by omega), if_neg (by omega), if_pos (by omega)]
            congr 1; omega
          · rw [swp_other _ _ _ _ h1 h2, hx x]
            by_cases c1 : a ≤ x ∧ x < a + k
            · rw [if_pos c1, if_pos (show a ≤ x ∧ x < a + (k + 1) by omega)]
            · rw [if_neg c1, if_neg (show ¬ (a ≤ x ∧ x < a + (k + 1)) by omega)]
              by_cases c2 : b ≤ x ∧ x < b + k
              · rw [if_pos c2, if_pos (show b ≤ x ∧ x < b + (k + 1) by omega)]
              · rw [if_neg c2, if_neg (show ¬ (b ≤ x ∧ x < b + (k + 1)) by omega)]
      have HSP := hideIt hsp
      clear hsp hspec
      refine wpAnyH_take (i := 0) (v := ?_) rfl (by kernel_rfl) (by kernel_rfl) (by kernel_rfl) (fun _ _ _ h => h) (Or.inl ⟨by rfl, ?_⟩) (by assumption) ?_
      rotate_left 1
      · intro w hSw; (try dsimp only at hSw); go_simp; try with_reducible rfl
      try simp only [Act.put, List.getElem_toArray, List.getElem_cons_succ, List.getElem_cons_zero, List.setIfInBounds_toArray, List.set_cons_zero, List.set_cons_succ]
      refine wpAnyH_take (i := 1) (v := ?_) rfl (by kernel_rfl) (by kernel_rfl) (by kernel_rfl) (fun _ _ _ h => h) (Or.inl ⟨by rfl, ?_⟩) (by assumption) ?_
      rotate_left 1
      · intro w hSw; (try dsimp only at hSw); go_simp; try with_reducible rfl
      try simp only [Act.put, List.getElem_toArray, List.getElem_cons_succ, List.getElem_cons_zero, List.setIfInBounds_toArray, List.set_cons_zero, List.set_cons_succ]
      refine wpAnyH_take (i := 2) (v := ?_) rfl (by kernel_rfl) (by kernel_rfl) (by kernel_rfl) (fun _ _ _ h => h) (Or.inl ⟨by rfl, ?_⟩) (by assumption) ?_
      rotate_left 1
      · intro w hSw; (try dsimp only at hSw); go_simp; try with_reducible rfl
      try simp only [Act.put, List.getElem_toArray, List.getElem_cons_succ, List.getElem_cons_zero, List.setIfInBounds_toArray, List.set_cons_zero, List.set_cons_succ]
      refine wpAnyH_take (i := 3) (v := ?_) rfl (by kernel_rfl) (by kernel_rfl) (by kernel_rfl) (fun _ _ _ h => h) (Or.inl ⟨by rfl, ?_⟩) (by assumption) ?_
      rotate_left 1
      · intro w hSw; (try dsimp only at hSw); go_simp; try with_reducible rfl
      try simp only [Act.put, List.getElem_toArray, List.getElem_cons_succ, List.getElem_cons_zero, List.setIfInBounds_toArray, List.set_cons_zero, List.set_cons_succ]
      refine wpAnyH_take (i := 4) (v := ?_) rfl (by kernel_rfl) (by kernel_rfl) (by kernel_rfl) (fun _ _ _ h => h) (Or.inl ⟨by rfl, ?_⟩) (by assumption) ?_
      rotate_left 1
      · intro w hSw; (try dsimp only at hSw); go_simp; try with_reducible rfl
      try simp only [Act.put, List.getElem_toArray, List.getElem_cons_succ, List.getElem_cons_zero, List.setIfInBounds_toArray, List.set_cons_zero, List.set_cons_succ]
      refine wpAnyH_take (i := 5) (v := ?_) rfl (by kernel_rfl) (by kernel_rfl) (by kernel_rfl) (fun _ _ _ h => h) (Or.inl ⟨by rfl, ?_⟩) (by assumption) ?_
      rotate_left 1
      · intro w hSw; (try dsimp only at hSw); go_simp; try with_reducible rfl
      try simp only [Act.put, List.getElem_toArray, List.getElem_cons_succ, List.getElem_cons_zero, List.setIfInBounds_toArray, List.set_cons_zero, List.set_cons_succ]
      refine wpAnyH_take (i := 6) (v := ?_) rfl (by kernel_rfl) (by kernel_rfl) (by kernel_rfl) (fun _ _ _ h => h) (Or.inl ⟨by rfl, ?_⟩) (by assumption) ?_
      rotate_left 1
      · intro w hSw; (try dsimp only at hSw); go_simp; try with_reducible rfl
      try simp only [Act.put, List.getElem_toArray, List.getElem_cons_succ, List.getElem_cons_zero, List.setIfInBounds_toArray, List.set_cons_zero, List.set_cons_succ]
      refine wpAnyH_take (i := 7) (v := ?_) rfl (by kernel_rfl) (by kernel_rfl) (by kernel_rfl) (fun _ _ _ h => h) (Or.inl ⟨by rfl, ?_⟩) (by assumption) ?_
      rotate_left 1
      · intro w hSw; (try dsimp only at hSw); go_simp; try with_reducible rfl
      try simp only [Act.put, List.getElem_toArray, List.getElem_cons_succ, List.getElem_cons_zero, List.setIfInBounds_toArray, List.set_cons_zero, List.set_cons_succ]
      refine wpAnyH_take (i := 8) (v := ?_) rfl (by kernel_rfl) (by kernel_rfl) (by kernel_rfl) (fun _ _ _ h => h) (Or.inl ⟨by rfl, ?_⟩) (by assumption) ?_
      rotate_left 1
      · intro w hSw; (try dsimp only at hSw); go_simp; try with_reducible rfl
      try simp only [Act.put, List.getElem_toArray, List.getElem_cons_succ, List.getElem_cons_zero, List.setIfInBounds_toArray, List.set_cons_zero, List.set_cons_succ]
      refine wpAnyH_take (i := 9) (v := ?_) rfl (by kernel_rfl) (by kernel_rfl) (by kernel_rfl) (fun _ _ _ h => h) (Or.inl ⟨by rfl, ?_⟩) (by assumption) ?_
      rotate_left 1
      · intro w hSw; (try dsimp only at hSw); go_simp; try with_reducible rfl
      try simp only [Act.put, List.getElem_toArray, List.getElem_cons_succ, List.getElem_cons_zero, List.setIfInBounds_toArray, List.set_cons_zero, List.set_cons_succ]
      refine wpAnyH_take (i := 10) (v := ?_) rfl (by kernel_rfl) (by kernel_rfl) (by kernel_rfl) (fun _ _ _ h => h) (Or.inl ⟨by rfl, ?_⟩) (by assumption) ?_
      rotate_left 1
      · intro w hSw; (try dsimp only at hSw); go_simp; try with_reducible rfl
      try simp only [Act.put, List.getElem_toArray, List.getElem_cons_succ, List.getElem_cons_zero, List.setIfInBounds_toArray, List.set_cons_zero, List.set_cons_succ]
      refine wpAnyH_take (i := 11) (v := ?_) rfl (by kernel_rfl) (by kernel_rfl) (by kernel_rfl) (fun _ _ _ h => h) (Or.inl ⟨by rfl, ?_⟩) (by assumption) ?_
      rotate_left 1
      · intro w hSw; (try dsimp only at hSw); go_simp; try with_reducible rfl
      try simp only [Act.put, List.getElem_toArray, List.getElem_cons_succ, List.getElem_cons_zero, List.setIfInBounds_toArray, List.set_cons_zero, List.set_cons_succ]
      refine wpAnyH_take (i := 12) (v := ?_) rfl (by kernel_rfl) (by kernel_rfl) (by kernel_rfl) (fun _ _ _ h => h) (Or.inl ⟨by rfl, ?_⟩) (by assumption) ?_
      rotate_left 1
      · intro w hSw; (try dsimp only at hSw); go_simp; try with_reducible rfl
      try simp only [Act.put, List.getElem_toArray, List.getElem_cons_succ, List.getElem_cons_zero, List.setIfInBounds_toArray, List.set_cons_zero, List.set_cons_succ]
      refine wpAnyH_take (i := 14) (v := ?_) rfl (by kernel_rfl) (by kernel_rfl) (by kernel_rfl) (fun _ _ _ h => h) (Or.inl ⟨by rfl, ?_⟩) (by assumption) ?_
      rotate_left 1
      · intro w hSw; (try dsimp only at hSw); go_simp; try with_reducible rfl
      try simp only [Act.put, List.getElem_toArray, List.getElem_cons_succ, List.getElem_cons_zero, List.setIfInBounds_toArray, List.set_cons_zero, List.set_cons_succ]
      refine wpAnyH_take (i := 15) (v := ?_) rfl (by kernel_rfl) (by kernel_rfl) (by kernel_rfl) (fun _ _ _ h => h) (Or.inl ⟨by rfl, ?_⟩) (by assumption) ?_
      rotate_left 1
      · intro w hSw; (try dsimp only at hSw); go_simp; try with_reducible rfl
      try simp only [Act.put, List.getElem_toArray, List.getElem_cons_succ, List.getElem_cons_zero, List.setIfInBounds_toArray, List.set_cons_zero, List.set_cons_succ]
      refine wpAnyH_take (i := 16) (v := ?_) rfl (by kernel_rfl) (by kernel_rfl) (by kernel_rfl) (fun _ _ _ h => h) (Or.inl ⟨by rfl, ?_⟩) (by assumption) ?_
      rotate_left 1
      · intro w hSw; (try dsimp only at hSw); go_simp; try with_reducible rfl
      try simp only [Act.put, List.getElem_toArray, List.getElem_cons_succ, List.getElem_cons_zero, List.setIfInBounds_toArray, List.set_cons_zero, List.set_cons_succ]
      refine wpAnyH_take (i := 17) (v := ?_) rfl (by kernel_rfl) (by kernel_rfl) (by kernel_rfl) (fun _ _ _ h => h) (Or.inl ⟨by rfl, ?_⟩) (by assumption) ?_
      rotate_left 1
      · intro w hSw; (try dsimp only at hSw); go_simp; try with_reducible rfl
      try simp only [Act.put, List.getElem_toArray, List.getElem_cons_succ, List.getElem_cons_zero, List.setIfInBounds_toArray, List.set_cons_zero, List.set_cons_succ]
      refine wpAnyH_take (i := 18) (v := ?_) rfl (by kernel_rfl) (by kernel_rfl) (by kernel_rfl) (fun _ _ _ h => h) (Or.inl ⟨by rfl, ?_⟩) (by assumption) ?_
      rotate_left 1
      · intro w hSw; (try dsimp only at hSw); go_simp; try with_reducible rfl
      try simp only [Act.put, List.getElem_toArray, List.getElem_cons_succ, List.getElem_cons_zero, List.setIfInBounds_toArray, List.set_cons_zero, List.set_cons_succ]
      refine wpAnyH_ready (rs := [13, 19]) (by kernel_rfl) (by simp) (AllReadyH.cons rfl (fun K hK => ?_) (AllReadyH.cons rfl (fun K hK => ?_) AllReadyH.nil))
      · go_simp
        refine hK.out _ _ (hRZ.inside) (fun hHeld => ?_)
        clear hK K
        try simp only [Act.put, List.getElem_toArray, List.getElem_cons_succ, List.getElem_cons_zero, List.setIfInBounds_toArray, List.set_cons_zero, List.set_cons_succ]
        refine wpAnyH_ready (rs := [19]) (by kernel_rfl) (by simp) (AllReadyH.cons rfl (fun K hK => ?_) AllReadyH.nil)
        go_simp
        refine hK.out _ _ (hRZ.inside) (fun hHeld => ?_)
        clear hK K
        try simp only [Act.put, List.getElem_toArray, List.getElem_cons_succ, List.getElem_cons_zero, List.setIfInBounds_toArray, List.set_cons_zero, List.set_cons_succ]
        clear p0 p1 p2 q0 q1 q2
        refine wpAnyH_take (i := 20) (v := ?_) rfl (by kernel_rfl) (by kernel_rfl) (by kernel_rfl) (fun _ _ _ h => h) (Or.inl ⟨by rfl, ?_⟩) (by assumption) ?_
        rotate_left 1
        · intro w hSw; (try dsimp only at hSw); go_simp; try with_reducible rfl
        try simp only [Act.put, List.getElem_toArray, List.getElem_cons_succ, List.getElem_cons_zero, List.setIfInBounds_toArray, List.set_cons_zero, List.set_cons_succ]
        obtain ⟨v0, v1, v2⟩ := hRZ.three I (by omega)
        have u0 := hRZ.free (I * 3)
        have u1 := hRZ.free (I * 3 + 1)
        have u2 := hRZ.free (I * 3 + 2)
        refine wpAnyH_ready (rs := [21]) (by kernel_rfl) (by simp) (AllReadyH.cons rfl (fun K hK => ?_) AllReadyH.nil)
        go_simp
        try rw [hZ1]
        refine hK.out _ _ (hR1.inside) (fun hHeld => ?_)
        clear hK K
        try simp only [Act.put, List.getElem_toArray, List.getElem_cons_succ, List.getElem_cons_zero, List.setIfInBounds_toArray, List.set_cons_zero, List.set_cons_succ]
        clear v0 v1 v2 u0 u1 u2
        refine wpAnyH_take (i := 22) (v := ?_) rfl (by kernel_rfl) (by kernel_rfl) (by kernel_rfl) (fun _ _ _ h => h) (Or.inl ⟨by rfl, ?_⟩) (by assumption) ?_
        rotate_left 1
        · intro w hSw; (try dsimp only at hSw); go_simp; try with_reducible rfl
        try simp only [Act.put, List.getElem_toArray, List.getElem_cons_succ, List.getElem_cons_zero, List.setIfInBounds_toArray, List.set_cons_zero, List.set_cons_succ]
        obtain ⟨v0, v1, v2⟩ := hR1.three J (by rw [Array.size_setIfInBounds]; omega)
        have u0 := hR1.free (J * 3)
        have u1 := hR1.free (J * 3 + 1)
        have u2 := hR1.free (J * 3 + 2)
        have hin1 := hR1.inside
        refine wpAnyH_ready (rs := [23]) (by kernel_rfl) (by simp) (AllReadyH.cons rfl (fun K hK => ?_) AllReadyH.nil)
        go_simp
        try rw [hZ2]
        refine hK.out _ _ (hR2.inside) (fun hHeld => ?_)
        clear hK K
        try simp only [Act.put, List.getElem_toArray, List.getElem_cons_succ, List.getElem_cons_zero, List.setIfInBounds_toArray, List.set_cons_zero, List.set_cons_succ]
        refine wpAnyH_done (by kernel_rfl) ?_ _
        go_wp2
        go_roundg (n - (k + 1))
        case measure => have := HG.out; omega
        case rel => exact ⟨k + 1, swp d I J, by omega, rfl, by go_num, hR2, hB2, by rw [size_swp]; exact hds, HSP⟩
      · go_simp
        refine hK.out _ _ (hRZ.inside) (fun hHeld => ?_)
        clear hK K
        try simp only [Act.put, List.getElem_toArray, List.getElem_cons_succ, List.getElem_cons_zero, List.setIfInBounds_toArray, List.set_cons_zero, List.set_cons_succ]
        refine wpAnyH_ready (rs := [13]) (by kernel_rfl) (by simp) (AllReadyH.cons rfl (fun K hK => ?_) AllReadyH.nil)
        go_simp
        refine hK.out _ _ (hRZ.inside) (fun hHeld => ?_)
        clear hK K
        try simp only [Act.put, List.getElem_toArray, List.getElem_cons_succ, List.getElem_cons_zero, List.setIfInBounds_toArray, List.set_cons_zero, List.set_cons_succ]
        clear p0 p1 p2 q0 q1 q2
        refine wpAnyH_take (i := 20) (v := ?_) rfl (by kernel_rfl) (by kernel_rfl) (by kernel_rfl) (fun _ _ _ h => h) (Or.inl ⟨by rfl, ?_⟩) (by assumption) ?_
        rotate_left 1
        · intro w hSw; (try dsimp only at hSw); go_simp; try with_reducible rfl
        try simp only [Act.put, List.getElem_toArray, List.getElem_cons_succ, List.getElem_cons_zero, List.setIfInBounds_toArray, List.set_cons_zero, List.set_cons_succ]
        obtain ⟨v0, v1, v2⟩ := hRZ.three I (by omega)
        have u0 := hRZ.free (I * 3)
        have u1 := hRZ.free (I * 3 + 1)
        have u2 := hRZ.free (I * 3 + 2)
        refine wpAnyH_ready (rs := [21]) (by kernel_rfl) (by simp) (AllReadyH.cons rfl (fun K hK => ?_) AllReadyH.nil)
        go_simp
        try rw [hZ1]
        refine hK.out _ _ (hR1.inside) (fun hHeld => ?_)
        clear hK K
        try simp only [Act.put, List.getElem_toArray, List.getElem_cons_succ, List.getElem_cons_zero, List.setIfInBounds_toArray, List.set_cons_zero, List.set_cons_succ]
        clear v0 v1 v2 u0 u1 u2
        refine wpAnyH_take (i := 22) (v := ?_) rfl (by kernel_rfl) (by kernel_rfl) (by kernel_rfl) (fun _ _ _ h => h) (Or.inl ⟨by rfl, ?_⟩) (by assumption) ?_
        rotate_left 1
        · intro w hSw; (try dsimp only at hSw); go_simp; try with_reducible rfl
        try simp only [Act.put, List.getElem_toArray, List.getElem_cons_succ, List.getElem_cons_zero, List.setIfInBounds_toArray, List.set_cons_zero, List.set_cons_succ]
        obtain ⟨v0, v1, v2⟩ := hR1.three J (by rw [Array.size_setIfInBounds]; omega)
        have u0 := hR1.free (J * 3)
        have u1 := hR1.free (J * 3 + 1)
        have u2 := hR1.free (J * 3 + 2)
        have hin1 := hR1.inside
        refine wpAnyH_ready (rs := [23]) (by kernel_rfl) (by simp) (AllReadyH.cons rfl (fun K hK => ?_) AllReadyH.nil)
        go_simp
        try rw [hZ2]
        refine hK.out _ _ (hR2.inside) (fun hHeld => ?_)
        clear hK K
        try simp only [Act.put, List.getElem_toArray, List.getElem_cons_succ, List.getElem_cons_zero, List.setIfInBounds_toArray, List.set_cons_zero, List.set_cons_succ]
        refine wpAnyH_done (by kernel_rfl) ?_ _
        go_wp2
        go_roundg (n - (k + 1))
        case measure => have := HG.out; omega
        case rel => exact ⟨k + 1, swp d I J, by omega, rfl, by go_num, hR2, hB2, by rw [size_swp]; exact hds, HSP⟩
    · have e : k = n := by omega
      subst e
      go_wp2
      go_end0
      exact ⟨rfl, d, ⟨hR, hb'⟩, hds, hspec.out⟩
end Go.Proofs.YtngofpdpangajaaDoor
/-
  slices' rotateCmpFunc at rows, walked.
-/
namespace Go.Proofs.YtngofpdpangajaaDoor
set_option linter.unusedVariables false
set_option linter.unusedSimpArgs false
set_option maxRecDepth 10000
open Go.RowKit Go.Sort

set_option maxRecDepth 100000 in
set_option maxHeartbeats 4000000 in
theorem rotate_any (B g cap a m b : Nat) (d0 : Array Rw) (f : Value) (w : World) (h : RowBox w g d0) (hB : B ≤ g) (ham : a < m) (hmb : m < b) (hb : b ≤ d0.size) (hs : d0.size ≤ 1000000000) :
    Calls Tryd.prog 109 #[.slice (some ⟨g, 0, none⟩) d0.size cap, .int .i64 a, .int .i64 m, .int .i64 b, f] w fun e w' => e = .returned (.tuple #[]) ∧
      ∃ d, Ran B g w d w' ∧ d.size = d0.size ∧ ∀ x, d[x]! = if a ≤ x ∧ x < a + (b - m) then d0[x - a + m]! else if a + (b - m) ≤ x ∧ x < b then d0[x - (b - m)]! else d0[x]! := by
  obtain ⟨N, hN⟩ : ∃ N, d0.size = N := ⟨_, rfl⟩
  obtain ⟨T, hT⟩ : ∃ T : Nat → Rw, T = fun x => if a ≤ x ∧ x < a + (b - m) then d0[x - a + m]! else if a + (b - m) ≤ x ∧ x < b then d0[x - (b - m)]! else d0[x]! := ⟨_, rfl⟩
  have w1 : IntKind.i64.wrap ((m : Int) - (a : Int)) = ((m - a : Nat) : Int) := by rw [IntKind.wrap_i64]; omega
  have w2 : IntKind.i64.wrap ((b : Int) - (m : Int)) = ((b - m : Nat) : Int) := by rw [IntKind.wrap_i64]; omega
  have hst : ∀ x, (x < m - (m - a) ∨ m + (b - m) ≤ x → d0[x]! = T x) ∧ (m - (m - a) ≤ x ∧ x < m - (m - a) + (b - m) → T x = d0[x + (m - a)]!) ∧ (m - (m - a) + (b - m) ≤ x ∧ x < m + (b - m) → T x = d0[x - (b - m)]!) := fun x => by
    rw [hT]
    refine ⟨fun k => ?_, fun k => ?_, fun k => ?_⟩
    · simp only
      rw [if_neg (by omega), if_neg (by omega)]
    · simp only
      rw [if_pos (by omega)]
      congr 1; omega
    · simp only
      rw [if_neg (by omega), if_pos (by omega)]
  have hfin : ∀ d : Array Rw, (∀ x, d[x]! = T x) → ∀ x, d[x]! = if a ≤ x ∧ x < a + (b - m) then d0[x - a + m]! else if a + (b - m) ≤ x ∧ x < b then d0[x - (b - m)]! else d0[x]! := fun d hd x => by rw [hd x, hT]
  have HF := hideIt hfin
  have HS := hideIt hst
  rw [hN]
  clear hT hfin hst
  go_enter Tryd.func109, Tryd.ntmps109
  go_wp2
  go_loopg [10, 11] (b - a) (fun gk i j wr => ∃ (p q : Nat) (d : Array Rw), 1 ≤ p ∧ 1 ≤ q ∧ p ≤ m - a ∧ q ≤ b - m ∧ p + q ≤ gk ∧ i = .int .i64 p ∧ j = .int .i64 q ∧ RowBox wr g d ∧ Below B w wr ∧ d.size = N ∧
    Hid (∀ x, (x < m - p ∨ m + q ≤ x → d[x]! = T x) ∧ (m - p ≤ x ∧ x < m - p + q → T x = d[x + p]!) ∧ (m - p + q ≤ x ∧ x < m + q → T x = d[x - q]!)))
  case atStart => exact ⟨m - a, b - m, d0, by omega, by omega, Nat.le_refl _, Nat.le_refl _, by omega, by go_num, by go_num, h, Below.refl _ _, hN, HS⟩
  case round =>
    obtain ⟨p, q, d, hp, hq, hpm, hqm, hgk, rfl, rfl, hR, hb', hds, hspec⟩ := hrel
    have c1 := fun (a' b' n' : Nat) (h1 : a' + n' ≤ b') (h2 : b' + n' ≤ d.size) => swapRange_any B g cap a' b' n' d f wr hR hB h1 h2 (by omega)
    rw [hds] at c1
    have w3 : IntKind.i64.wrap ((m : Int) - (p : Int)) = ((m - p : Nat) : Int) := by rw [IntKind.wrap_i64]; omega
    by_cases hpq : p = q
    · subst hpq
      have cS := c1 (m - p) m p (by omega) (by omega)
      go_wp2_with (first
        | (go_at_call 121; refine cS.mono ?_; rintro e v2 ⟨rfl, d2, ⟨hR2, hB2⟩, hd2, hsp⟩)
        | fail)
      go_end0
      refine ⟨rfl, d2, ⟨hR2, hb'.trans hB2⟩, by omega, HF.out d2 fun x => ?_⟩
      obtain ⟨s1, s2, s3⟩ := hspec.out x
      rw [hsp x]
      by_cases k1 : m - p ≤ x ∧ x < m - p + p
      · rw [if_pos k1, s2 k1]
        congr 1; omega
      · rw [if_neg k1]
        by_cases k2 : m ≤ x ∧ x < m + p
        · rw [if_pos k2, s3 (by omega)]
          congr 1; omega
        · rw [if_neg k2]
          exact s1 (by omega)
    · have hpqi : ¬ ((p : Int) = (q : Int)) := by omega
      have hpqb : ((p : Int) == (q : Int)) = false := beq_false_of_ne hpqi
      by_cases hlt : q < p
      · have hlti : (q : Int) < (p : Int) := by omega
        have w4 : IntKind.i64.wrap ((p : Int) - (q : Int)) = ((p - q : Nat) : Int) := by rw [IntKind.wrap_i64]; omega
        have cS := c1 (m - p) m q (by omega) (by omega)
        go_wp2_with (first
          | (go_at_call 121; refine cS.mono ?_; rintro e v2 ⟨rfl, d2, ⟨hR2, hB2⟩, hd2, hsp⟩)
          | fail)
        go_roundg (p - q + q)
        case measure => omega
        case rel =>
          refine ⟨p - q, q, d2, by omega, by omega, by omega, by omega, by omega, by go_num, rfl, hR2, hb'.trans hB2, by omega, ?_⟩
          show ∀ x, _
          intro x
          have o := hspec.out
          refine ⟨fun k => ?_, fun k => ?_, fun k => ?_⟩
          · rw [hsp x]
            by_cases k1 : m - p ≤ x ∧ x < m - p + q
            · rw [if_pos k1, (o x).2.1 (by omega)]
              congr 1; omega
            · rw [if_neg k1]
              by_cases k2 : m ≤ x ∧ x < m + q
              · omega
              · rw [if_neg k2]
                exact (o x).1 (by omega)
          · rw [hsp (x + (p - q)), (o x).2.2 (by omega)]
            rw [if_neg (by omega), if_pos (by omega)]
            congr 1; omega
          · rw [hsp (x - q), (o x).2.2 (by omega)]
            rw [if_neg (by omega), if_neg (by omega)]
      · have hlti : ¬ (q : Int) < (p : Int) := by omega
        have w4 : IntKind.i64.wrap ((q : Int) - (p : Int)) = ((q - p : Nat) : Int) := by rw [IntKind.wrap_i64]; omega
        obtain ⟨MQ, hMQ⟩ : ∃ MQ, m + q = MQ := ⟨_, rfl⟩
        obtain ⟨R, hRR⟩ : ∃ R, m + q - p = R := ⟨_, rfl⟩
        obtain ⟨S, hSS⟩ : ∃ S, m - p = S := ⟨_, rfl⟩
        have w5 : IntKind.i64.wrap ((m : Int) + (q : Int)) = (MQ : Int) := by rw [IntKind.wrap_i64]; omega
        have w6 : IntKind.i64.wrap ((MQ : Int) - (p : Int)) = (R : Int) := by rw [IntKind.wrap_i64]; omega
        have cS := c1 S R p (by omega) (by omega)
        rw [hSS] at w3
        have HMQ := hideIt hMQ
        have HRR := hideIt hRR
        have HSS := hideIt hSS
        clear hMQ hRR hSS
        go_wp2_with (first
          | (go_at_call 121; refine cS.mono ?_; rintro e v2 ⟨rfl, d2, ⟨hR2, hB2⟩, hd2, hsp⟩)
          | fail)
        go_roundg (p + (q - p))
        case measure => omega
        case rel =>
          have hMQ := HMQ.out
          have hRR := HRR.out
          have hSS := HSS.out
          refine ⟨p, q - p, d2, by omega, by omega, by omega, by omega, by omega, rfl, by go_num, hR2, hb'.trans hB2, by omega, ?_⟩
          show ∀ x, _
          intro x
          have o := hspec.out
          refine ⟨fun k => ?_, fun k => ?_, fun k => ?_⟩
          · rw [hsp x]
            by_cases k1 : S ≤ x ∧ x < S + p
            · omega
            · rw [if_neg k1]
              by_cases k2 : R ≤ x ∧ x < R + p
              · rw [if_pos k2, (o x).2.2 (by omega)]
                congr 1; omega
              · rw [if_neg k2]
                exact (o x).1 (by omega)
          · rw [hsp (x + p), (o x).2.1 (by omega)]
            rw [if_neg (by omega), if_neg (by omega)]
          · rw [hsp (x - (q - p)), (o x).2.1 (by omega)]
            rw [if_pos (by omega)]
            congr 1; omega
end Go.Proofs.YtngofpdpangajaaDoor
/-
  slices' insertionSortCmpFunc at rows, by their Ids, walked.
-/
namespace Go.Proofs.YtngofpdpangajaaDoor
set_option linter.unusedVariables false
set_option linter.unusedSimpArgs false
set_option maxRecDepth 10000
open Go.RowKit Go.Sort

theorem below_grow {B : Nat} {a w : World} (h : Below B a w) (hB : B ≤ w.heap.size) (n : Nat) (os : Array Obj) : Below B a (grow (w.drewN n) os) :=
  ⟨h.os, h.tape, h.output, by rw [size_grow]; exact Nat.le_trans h.size (Nat.le_add_right _ _), fun k hk => by
    rw [heap_grow_old (w.drewN n) os (show k < w.heap.size by omega)]
    exact h.block k hk⟩
theorem RowBox.grown {w : World} {g : Nat} {d : Array Rw} (h : RowBox w g d) (n : Nat) (os : Array Obj) : RowBox (grow (w.drewN n) os) g d := by
  have hi := h.inside
  show (grow (w.drewN n) os).heap[g]? = _
  rw [heap_grow_old (w.drewN n) os (show g < w.heap.size from hi)]
  exact h
/-- What a comparison reads, and what it tells, in whatever world that draws and new blocks have made. -/
theorem cmp10_grown (x y : Rw) (W : World) (n : Nat) (os : Array Obj) : Calls Tryd.prog 67 #[x.val, y.val] (grow (W.drewN n) os) fun e w' => e = .returned (.int .i64 (cfR x y)) ∧ ∃ q os', w' = grow ((grow (W.drewN n) os).drewN q) os' :=
  (cmp10_any x y _).mono fun e w' h => by
    obtain ⟨h1, h2⟩ := h
    subst h2
    exact ⟨h1, 0, _, by rw [alloc_eq_grow, alloc_eq_grow, grow_grow]; rfl⟩
set_option maxRecDepth 100000 in
set_option maxHeartbeats 4000000 in
theorem insert_any (B g cap a b : Nat) (d0 : Array Rw) (w : World) (h : RowBox w g d0) (hB : B ≤ g) (hab : a ≤ b) (hb : b ≤ d0.size) (hs : d0.size ≤ 1000000000) :
    Calls Tryd.prog 96 #[.slice (some ⟨g, 0, none⟩) d0.size cap, .int .i64 a, .int .i64 b, .func (.func 67) #[] #[]] w fun e w' => e = .returned (.tuple #[]) ∧
      Ran B g w (Sort.insertionSort ltR d0 a b) w' := by
  obtain ⟨N, hN⟩ : ∃ N, d0.size = N := ⟨_, rfl⟩
  rw [hN]
  go_enter Tryd.func96, Tryd.ntmps96
  go_wp2
  go_loopg [8] (b - a) (fun gk vi wr => ∃ (i : Nat) (d : Array Rw), vi = .int .i64 i ∧ a < i ∧ i ≤ b + 1 ∧ b + 1 - i ≤ gk + 1 ∧ d.size = N ∧ RowBox wr g d ∧ Below B w wr ∧ Hid (insOuter ltR a b i d = insOuter ltR a b (a + 1) d0))
  case atStart => exact ⟨a + 1, d0, by go_num, by omega, by omega, by omega, hN, h, Below.refl _ _, rfl⟩
  case round =>
    obtain ⟨i, di, rfl, hai, hib, hgk, hdi, hRi, hbi, HO⟩ := hrel
    by_cases hlt : i < b
    · have hlti : (i : Int) < (b : Int) := by omega
      go_wp2
      go_loopg [9] i (fun g2 vj wr => ∃ (j : Nat) (d : Array Rw), vj = .int .i64 j ∧ a ≤ j ∧ j ≤ i ∧ j ≤ g2 ∧ d.size = N ∧ RowBox wr g d ∧ Below B w wr ∧ Hid (insInner ltR a j d = insInner ltR a i di))
      case atStart => exact ⟨i, di, rfl, by omega, Nat.le_refl _, Nat.le_refl _, hdi, hRi, hbi, rfl⟩
      case round =>
        obtain ⟨j, d, rfl, haj, hji, hg2, hds, hR, hb', HI⟩ := hrel
        have out : (j ≤ a ∨ ltR d[j]! d[j - 1]! = false) → insOuter ltR a b (i + 1) d = insOuter ltR a b (a + 1) d0 := fun hs => by
          rw [← HO.out, insOuter_go _ _ _ _ _ hlt, ← HI.out, insInner_stop _ _ _ _ hs]
        have OUT := hideIt out
        clear out
        by_cases hja : a < j
        · have hjai : (a : Int) < (j : Int) := by omega
          obtain ⟨J, hJ⟩ : ∃ J, j - 1 = J := ⟨_, rfl⟩
          have w3 : IntKind.i64.wrap ((j : Int) - 1) = (J : Int) := by rw [IntKind.wrap_i64]; omega
          have j1 : (j : Int) < (N : Int) := by omega
          have j2 : (J : Int) < (N : Int) := by omega
          have hBs : B ≤ wr.heap.size := by have := hR.inside; omega
          have hmx : Tryd.prog.follows .mixedOrders = true := by kernel_rfl
          have hRg := fun n os => RowBox.grown hR n os
          have hbg := fun n os => below_grow hb' hBs n os
          have L0 : ∀ n os, (grow (wr.drewN n) os).cell? ⟨g, j * 3, none⟩ = some (.string d[j]!.id) := fun n os => ((hRg n os).three j (by omega)).1
          have L1 : ∀ n os, (grow (wr.drewN n) os).cell? ⟨g, j * 3 + 1, none⟩ = some (.int .u64 d[j]!.h) := fun n os => ((hRg n os).three j (by omega)).2.1
          have L2 : ∀ n os, (grow (wr.drewN n) os).cell? ⟨g, j * 3 + 2, none⟩ = some (.int .u64 d[j]!.l) := fun n os => ((hRg n os).three j (by omega)).2.2
          have M0 : ∀ n os, (grow (wr.drewN n) os).cell? ⟨g, J * 3, none⟩ = some (.string d[J]!.id) := fun n os => ((hRg n os).three J (by omega)).1
          have M1 : ∀ n os, (grow (wr.drewN n) os).cell? ⟨g, J * 3 + 1, none⟩ = some (.int .u64 d[J]!.h) := fun n os => ((hRg n os).three J (by omega)).2.1
          have M2 : ∀ n os, (grow (wr.drewN n) os).cell? ⟨g, J * 3 + 2, none⟩ = some (.int .u64 d[J]!.l) := fun n os => ((hRg n os).three J (by omega)).2.2
          have hcg := fun n os => cmp10_grown d[j]! d[J]! wr n os
          simp only [Rw.val] at hcg
          have hlt0 : ltR d[j]! d[J]! = decide (cfR d[j]! d[J]! < 0) := rfl
          obtain ⟨C, hC⟩ : ∃ C, cfR d[j]! d[J]! = C := ⟨_, rfl⟩
          rw [hC] at hlt0 hcg
          have HLT := hideIt hlt0
          clear hC hlt0
          have HJ := hideIt hJ
          clear hJ
          by_cases hc : C < 0
          · go_wp2_with fail
            go_quiet_grown (first | (go_at_call 67; refine Calls.grown_of (hcg _ _)))
            go_wp2_with fail
            have hR3 := hRg nq osq
            have hb3 := hbg nq osq
            have hJ := HJ.out
            clear L0 L1 L2 M0 M1 M2 hcg hRg hbg
            generalize grow (wr.drewN nq) osq = wq at *
            have hin_ : insInner ltR a J (swp d j J) = insInner ltR a i di := by
              have h1 := insInner_go ltR a j d hja (by rw [hJ, HLT.out]; exact decide_eq_true hc)
              rw [hJ] at h1
              rw [← HI.out, h1]
            have HIN := hideIt hin_
            clear hin_
            have hRZ := RowBox.draw hR3
            have hBZ := Below.drew hb3
            have hin := hRZ.inside
            refine wp_region_held_drew (S := fun u => g < u.heap.size) (by kernel_rfl) hin (fun hHeld => ?_)
            generalize World.drew wq = Z at *
            obtain ⟨Z1, hZ1⟩ : ∃ Z1, ((Z.setCell ⟨g, j * 3, none⟩ (.string d[J]!.id)).setCell ⟨g, j * 3 + 1, none⟩ (.int .u64 d[J]!.h)).setCell ⟨g, j * 3 + 2, none⟩ (.int .u64 d[J]!.l) = Z1 := ⟨_, rfl⟩
            have hR1 : RowBox Z1 g (d.setIfInBounds j d[J]!) := by rw [← hZ1]; exact hRZ.put j d[J]! (by omega)
            have hB1 : Below B w Z1 := by rw [← hZ1]; exact below_put hBZ hB j _ _ _
            obtain ⟨Z2, hZ2⟩ : ∃ Z2, ((Z1.setCell ⟨g, J * 3, none⟩ (.string d[j]!.id)).setCell ⟨g, J * 3 + 1, none⟩ (.int .u64 d[j]!.h)).setCell ⟨g, J * 3 + 2, none⟩ (.int .u64 d[j]!.l) = Z2 := ⟨_, rfl⟩
            have hR2 : RowBox Z2 g (swp d j J) := by rw [← hZ2]; exact hR1.put J d[j]! (by rw [Array.size_setIfInBounds]; omega)
            have hB2 : Below B w Z2 := by rw [← hZ2]; exact below_put hB1 hB J _ _ _
            obtain ⟨p0, p1, p2⟩ := hRZ.three j (by omega)
            obtain ⟨q0, q1, q2⟩ := hRZ.three J (by omega)
            refine wpAnyH_take (i := 0) (v := ?_) rfl (by kernel_rfl) (by kernel_rfl) (by kernel_rfl) (fun _ _ _ h => h) (Or.inl ⟨by rfl, ?_⟩) (by assumption) ?_
            rotate_left 1
            · intro w hSw; (try dsimp only at hSw); go_simp; try with_reducible rfl
            try simp only [Act.put, List.getElem_toArray, List.getElem_cons_succ, List.getElem_cons_zero, List.setIfInBounds_toArray, List.set_cons_zero, List.set_cons_succ]
            refine wpAnyH_take (i := 1) (v := ?_) rfl (by kernel_rfl) (by kernel_rfl) (by kernel_rfl) (fun _ _ _ h => h) (Or.inl ⟨by rfl, ?_⟩) (by assumption) ?_
            rotate_left 1
            · intro w hSw; (try dsimp only at hSw); go_simp; try with_reducible rfl
            try simp only [Act.put, List.getElem_toArray, List.getElem_cons_succ, List.getElem_cons_zero, List.setIfInBounds_toArray, List.set_cons_zero, List.set_cons_succ]
            refine wpAnyH_take (i := 2) (v := ?_) rfl (by kernel_rfl) (by kernel_rfl) (by kernel_rfl) (fun _ _ _ h => h) (Or.inl ⟨by rfl, ?_⟩) (by assumption) ?_
            rotate_left 1
            · intro w hSw; (try dsimp only at hSw); go_simp; try with_reducible rfl
            try simp only [Act.put, List.getElem_toArray, List.getElem_cons_succ, List.getElem_cons_zero, List.setIfInBounds_toArray, List.set_cons_zero, List.set_cons_succ]
            refine wpAnyH_take (i := 3) (v := ?_) rfl (by kernel_rfl) (by kernel_rfl) (by kernel_rfl) (fun _ _ _ h => h) (Or.inl ⟨by rfl, ?_⟩) (by assumption) ?_
            rotate_left 1
            · intro w hSw; (try dsimp only at hSw); go_simp; try with_reducible rfl
            try simp only [Act.put, List.getElem_toArray, List.getElem_cons_succ, List.getElem_cons_zero, List.setIfInBounds_toArray, List.set_cons_zero, List.set_cons_succ]
            refine wpAnyH_take (i := 4) (v := ?_) rfl (by kernel_rfl) (by kernel_rfl) (by kernel_rfl) (fun _ _ _ h => h) (Or.inl ⟨by rfl, ?_⟩) (by assumption) ?_
            rotate_left 1
            · intro w hSw; (try dsimp only at hSw); go_simp; try with_reducible rfl
            try simp only [Act.put, List.getElem_toArray, List.getElem_cons_succ, List.getElem_cons_zero, List.setIfInBounds_toArray, List.set_cons_zero, List.set_cons_succ]
            refine wpAnyH_take (i := 5) (v := ?_) rfl (by kernel_rfl) (by kernel_rfl) (by kernel_rfl) (fun _ _ _ h => h) (Or.inl ⟨by rfl, ?_⟩) (by assumption) ?_
            rotate_left 1
            · intro w hSw; (try dsimp only at hSw); go_simp; try with_reducible rfl
            try simp only [Act.put, List.getElem_toArray, List.getElem_cons_succ, List.getElem_cons_zero, List.setIfInBounds_toArray, List.set_cons_zero, List.set_cons_succ]
            refine wpAnyH_take (i := 6) (v := ?_) rfl (by kernel_rfl) (by kernel_rfl) (by kernel_rfl) (fun _ _ _ h => h) (Or.inl ⟨by rfl, ?_⟩) (by assumption) ?_
            rotate_left 1
            · intro w hSw; (try dsimp only at hSw); go_simp; try with_reducible rfl
            try simp only [Act.put, List.getElem_toArray, List.getElem_cons_succ, List.getElem_cons_zero, List.setIfInBounds_toArray, List.set_cons_zero, List.set_cons_succ]
            refine wpAnyH_take (i := 7) (v := ?_) rfl (by kernel_rfl) (by kernel_rfl) (by kernel_rfl) (fun _ _ _ h => h) (Or.inl ⟨by rfl, ?_⟩) (by assumption) ?_
            rotate_left 1
            · intro w hSw; (try dsimp only at hSw); go_simp; try with_reducible rfl
            try simp only [Act.put, List.getElem_toArray, List.getElem_cons_succ, List.getElem_cons_zero, List.setIfInBounds_toArray, List.set_cons_zero, List.set_cons_succ]
            refine wpAnyH_take (i := 8) (v := ?_) rfl (by kernel_rfl) (by kernel_rfl) (by kernel_rfl) (fun _ _ _ h => h) (Or.inl ⟨by rfl, ?_⟩) (by assumption) ?_
            rotate_left 1
            · intro w hSw; (try dsimp only at hSw); go_simp; try with_reducible rfl
            try simp only [Act.put, List.getElem_toArray, List.getElem_cons_succ, List.getElem_cons_zero, List.setIfInBounds_toArray, List.set_cons_zero, List.set_cons_succ]
            refine wpAnyH_take (i := 10) (v := ?_) rfl (by kernel_rfl) (by kernel_rfl) (by kernel_rfl) (fun _ _ _ h => h) (Or.inl ⟨by rfl, ?_⟩) (by assumption) ?_
            rotate_left 1
            · intro w hSw; (try dsimp only at hSw); go_simp; try with_reducible rfl
            try simp only [Act.put, List.getElem_toArray, List.getElem_cons_succ, List.getElem_cons_zero, List.setIfInBounds_toArray, List.set_cons_zero, List.set_cons_succ]
            refine wpAnyH_take (i := 11) (v := ?_) rfl (by kernel_rfl) (by kernel_rfl) (by kernel_rfl) (fun _ _ _ h => h) (Or.inl ⟨by rfl, ?_⟩) (by assumption) ?_
            rotate_left 1
            · intro w hSw; (try dsimp only at hSw); go_simp; try with_reducible rfl
            try simp only [Act.put, List.getElem_toArray, List.getElem_cons_succ, List.getElem_cons_zero, List.setIfInBounds_toArray, List.set_cons_zero, List.set_cons_succ]
            refine wpAnyH_take (i := 12) (v := ?_) rfl (by kernel_rfl) (by kernel_rfl) (by kernel_rfl) (fun _ _ _ h => h) (Or.inl ⟨by rfl, ?_⟩) (by assumption) ?_
            rotate_left 1
            · intro w hSw; (try dsimp only at hSw); go_simp; try with_reducible rfl
            try simp only [Act.put, List.getElem_toArray, List.getElem_cons_succ, List.getElem_cons_zero, List.setIfInBounds_toArray, List.set_cons_zero, List.set_cons_succ]
            refine wpAnyH_ready (rs := [9, 13]) (by kernel_rfl) (by simp) (AllReadyH.cons rfl (fun K hK => ?_) (AllReadyH.cons rfl (fun K hK => ?_) AllReadyH.nil))
            · go_simp
              refine hK.out _ _ (hRZ.inside) (fun hHeld => ?_)
              clear hK K
              try simp only [Act.put, List.getElem_toArray, List.getElem_cons_succ, List.getElem_cons_zero, List.setIfInBounds_toArray, List.set_cons_zero, List.set_cons_succ]
              refine wpAnyH_ready (rs := [13]) (by kernel_rfl) (by simp) (AllReadyH.cons rfl (fun K hK => ?_) AllReadyH.nil)
              go_simp
              refine hK.out _ _ (hRZ.inside) (fun hHeld => ?_)
              clear hK K
              try simp only [Act.put, List.getElem_toArray, List.getElem_cons_succ, List.getElem_cons_zero, List.setIfInBounds_toArray, List.set_cons_zero, List.set_cons_succ]
              clear p0 p1 p2 q0 q1 q2
              refine wpAnyH_take (i := 14) (v := ?_) rfl (by kernel_rfl) (by kernel_rfl) (by kernel_rfl) (fun _ _ _ h => h) (Or.inl ⟨by rfl, ?_⟩) (by assumption) ?_
              rotate_left 1
              · intro w hSw; (try dsimp only at hSw); go_simp; try with_reducible rfl
              try simp only [Act.put, List.getElem_toArray, List.getElem_cons_succ, List.getElem_cons_zero, List.setIfInBounds_toArray, List.set_cons_zero, List.set_cons_succ]
              obtain ⟨v0, v1, v2⟩ := hRZ.three j (by omega)
              have u0 := hRZ.free (j * 3)
              have u1 := hRZ.free (j * 3 + 1)
              have u2 := hRZ.free (j * 3 + 2)
              refine wpAnyH_ready (rs := [15]) (by kernel_rfl) (by simp) (AllReadyH.cons rfl (fun K hK => ?_) AllReadyH.nil)
              go_simp
              try rw [hZ1]
              refine hK.out _ _ (hR1.inside) (fun hHeld => ?_)
              clear hK K
              try simp only [Act.put, List.getElem_toArray, List.getElem_cons_succ, List.getElem_cons_zero, List.setIfInBounds_toArray, List.set_cons_zero, List.set_cons_succ]
              clear v0 v1 v2 u0 u1 u2
              refine wpAnyH_take (i := 16) (v := ?_) rfl (by kernel_rfl) (by kernel_rfl) (by kernel_rfl) (fun _ _ _ h => h) (Or.inl ⟨by rfl, ?_⟩) (by assumption) ?_
              rotate_left 1
              · intro w hSw; (try dsimp only at hSw); go_simp; try with_reducible rfl
              try simp only [Act.put, List.getElem_toArray, List.getElem_cons_succ, List.getElem_cons_zero, List.setIfInBounds_toArray, List.set_cons_zero, List.set_cons_succ]
              obtain ⟨v0, v1, v2⟩ := hR1.three J (by rw [Array.size_setIfInBounds]; omega)
              have u0 := hR1.free (J * 3)
              have u1 := hR1.free (J * 3 + 1)
              have u2 := hR1.free (J * 3 + 2)
              have hin1 := hR1.inside
              refine wpAnyH_ready (rs := [17]) (by kernel_rfl) (by simp) (AllReadyH.cons rfl (fun K hK => ?_) AllReadyH.nil)
              go_simp
              try rw [hZ2]
              refine hK.out _ _ (hR2.inside) (fun hHeld => ?_)
              clear hK K
              try simp only [Act.put, List.getElem_toArray, List.getElem_cons_succ, List.getElem_cons_zero, List.setIfInBounds_toArray, List.set_cons_zero, List.set_cons_succ]
              refine wpAnyH_done (by kernel_rfl) ?_ _
              go_wp2
              go_roundg J
              case measure => omega
              case rel => exact ⟨J, swp d j J, by go_num, by omega, by omega, Nat.le_refl _, by rw [size_swp]; exact hds, hR2, hB2, HIN⟩
            · go_simp
              refine hK.out _ _ (hRZ.inside) (fun hHeld => ?_)
              clear hK K
              try simp only [Act.put, List.getElem_toArray, List.getElem_cons_succ, List.getElem_cons_zero, List.setIfInBounds_toArray, List.set_cons_zero, List.set_cons_succ]
              refine wpAnyH_ready (rs := [9]) (by kernel_rfl) (by simp) (AllReadyH.cons rfl (fun K hK => ?_) AllReadyH.nil)
              go_simp
              refine hK.out _ _ (hRZ.inside) (fun hHeld => ?_)
              clear hK K
              try simp only [Act.put, List.getElem_toArray, List.getElem_cons_succ, List.getElem_cons_zero, List.setIfInBounds_toArray, List.set_cons_zero, List.set_cons_succ]
              clear p0 p1 p2 q0 q1 q2
              refine wpAnyH_take (i := 14) (v := ?_) rfl (by kernel_rfl) (by kernel_rfl) (by kernel_rfl) (fun _ _ _ h => h) (Or.inl ⟨by rfl, ?_⟩) (by assumption) ?_
              rotate_left 1
              · intro w hSw; (try dsimp only at hSw); go_simp; try with_reducible rfl
              try simp only [Act.put, List.getElem_toArray, List.getElem_cons_succ, List.getElem_cons_zero, List.setIfInBounds_toArray, List.set_cons_zero, List.set_cons_succ]
              obtain ⟨v0, v1, v2⟩ := hRZ.three j (by omega)
              have u0 := hRZ.free (j * 3)
              have u1 := hRZ.free (j * 3 + 1)
              have u2 := hRZ.free (j * 3 + 2)
              refine wpAnyH_ready (rs := [15]) (by kernel_rfl) (by simp) (AllReadyH.cons rfl (fun K hK => ?_) AllReadyH.nil)
              go_simp
              try rw [hZ1]
              refine hK.out _ _ (hR1.inside) (fun hHeld => ?_)
              clear hK K
              try simp only [Act.put, List.getElem_toArray, List.getElem_cons_succ, List.getElem_cons_zero, List.setIfInBounds_toArray, List.set_cons_zero, List.set_cons_succ]
              clear v0 v1 v2 u0 u1 u2
              refine wpAnyH_take (i := 16) (v := ?_) rfl (by kernel_rfl) (by kernel_rfl) (by kernel_rfl) (fun _ _ _ h => h) (Or.inl ⟨by rfl, ?_⟩) (by assumption) ?_
              rotate_left 1
              · intro w hSw; (try dsimp only at hSw); go_simp; try with_reducible rfl
              try simp only [Act.put, List.getElem_toArray, List.getElem_cons_succ, List.getElem_cons_zero, List.setIfInBounds_toArray, List.set_cons_zero, List.set_cons_succ]
              obtain ⟨v0, v1, v2⟩ := hR1.three J (by rw [Array.size_setIfInBounds]; omega)
              have u0 := hR1.free (J * 3)
              have u1 := hR1.free (J * 3 + 1)
              have u2 := hR1.free (J * 3 + 2)
              have hin1 := hR1.inside
              refine wpAnyH_ready (rs := [17]) (by kernel_rfl) (by simp) (AllReadyH.cons rfl (fun K hK => ?_) AllReadyH.nil)
              go_simp
              try rw [hZ2]
              refine hK.out _ _ (hR2.inside) (fun hHeld => ?_)
              clear hK K
              try simp only [Act.put, List.getElem_toArray, List.getElem_cons_succ, List.getElem_cons_zero, List.setIfInBounds_toArray, List.set_cons_zero, List.set_cons_succ]
              refine wpAnyH_done (by kernel_rfl) ?_ _
              go_wp2
              go_roundg J
              case measure => omega
              case rel => exact ⟨J, swp d j J, by go_num, by omega, by omega, Nat.le_refl _, by rw [size_swp]; exact hds, hR2, hB2, HIN⟩
          · go_wp2_with fail
            go_quiet_grown (first | (go_at_call 67; refine Calls.grown_of (hcg _ _)))
            go_wp2
            go_roundg (b - (i + 1))
            case measure => omega
            case rel => exact ⟨i + 1, d, by go_num, by omega, by omega, by omega, hds, hRg nq osq, hbg nq osq, OUT.out (Or.inr (by rw [HJ.out, HLT.out]; exact decide_eq_false (by omega)))⟩
        · have hjai : decide ((j : Int) > (a : Int)) = false := decide_eq_false (by omega)
          have hjai' : ¬ (a : Int) < (j : Int) := by omega
          go_wp2_with fail
          go_quiet (fail)
          go_wp2
          go_roundg (b - (i + 1))
          case measure => omega
          case rel => exact ⟨i + 1, d, by go_num, by omega, by omega, by omega, hds, hR, below_drewN hb' _, OUT.out (Or.inl (by omega))⟩
    · have hlti : ¬ (i : Int) < (b : Int) := by omega
      go_wp2
      go_end0
      have e : Sort.insertionSort ltR d0 a b = di := by unfold Sort.insertionSort; rw [← HO.out, insOuter_stop _ _ _ _ _ hlt]
      exact ⟨rfl, by rw [e]; exact ⟨hRi, hbi⟩⟩
end Go.Proofs.YtngofpdpangajaaDoor
