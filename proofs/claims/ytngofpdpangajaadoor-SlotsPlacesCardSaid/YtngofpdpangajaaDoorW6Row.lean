/-
  My own words on rows of bytes, cell by cell: of whatever block, be its end marked or not; an append to such a row.
-/
import Derived.Test.YtngofpdpangajaaDoorM5Sha
import Derived.Deep.AppendSrc
namespace Go.Proofs.YtngofpdpangajaaDoor
set_option linter.unusedVariables false
set_option linter.unusedSimpArgs false
set_option maxRecDepth 10000
open Go.RowKit

/-- A row of the call's own: its bytes are l, each of its places may be written. -/
structure RowS (w : World) (base g n cap : Nat) (l : List Int) : Prop where
  above : base ≤ g
  len : l.length = n
  room : n ≤ cap
  most : cap ≤ maxLen
  there : ∀ i, i < cap → (w.cell? ⟨g, i, none⟩).isSome = true ∧ w.frozen? ⟨g, i, none⟩ = false
  at_ : ∀ i, i < n → w.cell? ⟨g, i, none⟩ = some (.int .u8 (l.getD i 0))
  inside : g < w.heap.size
section
variable {w w' : World} {base g n cap : Nat} {l : List Int}
theorem RowS.call (h : RowS w base g n cap l) (hb : Below w.heap.size w w') : RowS w' base g n cap l :=
  have e : ∀ i, w'.cell? ⟨g, i, none⟩ = w.cell? ⟨g, i, none⟩ ∧ w'.frozen? ⟨g, i, none⟩ = w.frozen? ⟨g, i, none⟩ := fun i => ⟨World.cell?_of_block (hb.block g h.inside), World.frozen?_of_block (hb.block g h.inside)⟩
  ⟨h.above, h.len, h.room, h.most, fun i hi => by rw [(e i).1, (e i).2]; exact h.there i hi, fun i hi => by rw [(e i).1]; exact h.at_ i hi, Nat.lt_of_lt_of_le h.inside hb.size⟩
theorem RowS.past (h : RowS w base g n cap l) (o : Obj) : RowS (w.alloc o) base g n cap l := h.call ((Below.refl _ w).alloc (Nat.le_refl _) o)
theorem RowS.but {b : Nat} (h : RowS w base g n cap l) (hb : But b w w') (hne : g ≠ b) : RowS w' base g n cap l :=
  have e : ∀ i, w'.cell? ⟨g, i, none⟩ = w.cell? ⟨g, i, none⟩ ∧ w'.frozen? ⟨g, i, none⟩ = w.frozen? ⟨g, i, none⟩ := fun i => ⟨World.cell?_of_block (hb.block g h.inside hne), World.frozen?_of_block (hb.block g h.inside hne)⟩
  ⟨h.above, h.len, h.room, h.most, fun i hi => by rw [(e i).1, (e i).2]; exact h.there i hi, fun i hi => by rw [(e i).1]; exact h.at_ i hi, Nat.lt_of_lt_of_le h.inside hb.size⟩
theorem RowS.row (h : RowS w base g n cap l) : RowF w g l := fun i hi => ⟨h.at_ i (by rw [← h.len]; exact hi), (h.there i (Nat.lt_of_lt_of_le (by rw [← h.len]; exact hi) h.room)).2⟩
theorem RowS.conv (h : RowS w base g n cap l) : (convert 114 9 (.slice (some ⟨g, 0, none⟩) n cap)).run Tryd.prog w = .ok (.string (strOfNums l)) w :=
  h.row.conv Tryd.underlying114 Tryd.underlying5 Tryd.underlying9 n cap h.len
theorem RowS.set_ (h : RowS w base g n cap l) (i : Nat) (hi : i < n) (v : Int) : RowS (w.setCell ⟨g, i, none⟩ (.int .u8 v)) base g n cap (l.set i v) := by
  have hc := h.at_ i hi
  refine ⟨h.above, by rw [List.length_set]; exact h.len, h.room, h.most, fun j hj => ⟨?_, by simpa using (h.there j hj).2⟩, fun j hj => (h.row.set_ i (by rw [h.len]; exact hi) v j (by rw [List.length_set, h.len]; exact hj)).1, by simpa [World.setCell] using h.inside⟩
  by_cases e : j = i
  · subst e
    rw [World.cell?_setCell_same _ _ _ hc]; rfl
  · have hne : (⟨g, i, none⟩ : Addr) ≠ ⟨g, j, none⟩ := by simp <;> omega
    rw [World.cell?_setCell_other _ _ _ _ hne]
    exact (h.there j hj).1
end
theorem But.setCells {g : Nat} {w : World} : ∀ (vs : List Value) (o : Nat) (W : World), But g w W → But g w (W.setCells g o vs)
  | [], _, _, h => h
  | v :: r, o, W, h => But.setCells r (o + 1) _ (h.set_ o v)
/-- A text's bytes. -/
theorem rowS_bytes (w : World) (base : Nat) (hb : base ≤ w.heap.size) (s : ByteArray) (hs : s.size ≤ 1000000) :
    RowS (w.drew.alloc (.cells (bytesRow s (grownCap w s.size 0 5)) 5 ((bytesRow s (grownCap w s.size 0 5)).size, (bytesRow s (grownCap w s.size 0 5)).size + 1))) base w.heap.size s.size (grownCap w s.size 0 5) (nums s) := by
  have hr := row_of_bytes w 5 s
  have hge := grownCap_ge w s.size 0 5
  have hle := grownCap_le_maxLen w s.size 0 5 (by unfold maxLen; omega)
  generalize grownCap w s.size 0 5 = cap at *
  have hsz : (bytesRow s cap).size = cap := by unfold bytesRow; rw [Array.size_append, Array.size_map, Array.size_replicate]; have : s.data.size = s.size := rfl; omega
  have hbx : (w.drew.alloc (.cells (bytesRow s cap) 5 ((bytesRow s cap).size, (bytesRow s cap).size + 1))).heap[w.heap.size]? = some (.cells (bytesRow s cap) 5 ((bytesRow s cap).size, (bytesRow s cap).size + 1)) := by
    show (w.heap.push _)[w.heap.size]? = _
    simp
  refine ⟨hb, nums_len s, hge, hle, fun i hi => ⟨?_, ?_⟩, fun i hi => (hr i (by rw [nums_len]; exact hi)).1, (Array.getElem?_eq_some_iff.1 hbx).1⟩
  · rw [cell_of_row _ _ _ _ _ _ hbx, Array.getElem?_eq_getElem (by omega)]; rfl
  · unfold World.frozen?
    simp only [hbx]
    simp
    omega
theorem u8s_at (l : List Int) (i : Nat) (hi : i < l.length) : (u8s l)[i]? = some (.int .u8 (l.getD i 0)) := by
  simp [u8s, List.getD_eq_getElem?_getD, hi]

theorem row_append (w : World) (base g n cap : Nat) (l : List Int) (hR : RowS w base g n cap l) (h m c : Nat) (ys : List Int) (hl : ys.length = m) (hm : ∀ j, j < m → w.cell? ⟨h, j, none⟩ = some (.int .u8 (ys.getD j 0)))
    (hnm : n + m ≤ 1000000) (hbase : base ≤ w.heap.size) :
    ∃ g' cap' w', (∀ ty, (Builtin.append_ #[114, 114] ty #[.slice (some ⟨g, 0, none⟩) n cap, .slice (some ⟨h, 0, none⟩) m c]).run Tryd.prog w = .ok (.slice (some ⟨g', 0, none⟩) (n + m) cap') w') ∧
      RowS w' base g' (n + m) cap' (l ++ ys) ∧ But g w w' := by
  obtain ⟨i0, hi, hzi0, hzi1, hzi2⟩ := info_parts info_u8
  have add0 : ∀ (b j : Nat), (⟨b, 0, none⟩ : Addr).add j = ⟨b, j, none⟩ := fun b j => by simp [Addr.add]; exact fun hj => hj.symm
  have hsrc : Src Tryd.prog i0.size 114 (.slice (some ⟨h, 0, none⟩) m c) m (u8s ys) w := by
    rw [hzi1]
    refine Src.ofSlice w (e' := 5) Tryd.underlying114 ⟨h, 0, none⟩ m c (u8s ys) (by rw [u8s_len]; omega) (fun j u hu => ?_) (u8s_one ys)
    have hj : j < ys.length := by rw [← u8s_len]; exact (List.getElem?_eq_some_iff.1 hu).1
    rw [add0, hm j (by omega), ← hu, u8s_at ys j hj]
  by_cases hroom : n + m ≤ cap
  · refine ⟨g, cap, w.setCells g n (u8s ys), fun ty => ?_, ?_, But.setCells _ _ _ (But.refl g w)⟩
    · have hrun := run_append_room_src (P := Tryd.prog) w 114 114 ty 5 i0 Tryd.underlying114 hi g 0 n cap _ m (u8s ys) hsrc hroom
        (fun j hj => by rw [u8s_len] at hj; rw [hzi1, Nat.zero_add, Nat.mul_one]; exact (hR.there _ (by omega)).1) (fun j hj => by rw [u8s_len] at hj; rw [hzi1, Nat.zero_add, Nat.mul_one]; exact (hR.there _ (by omega)).2)
      rw [hzi1, Nat.zero_add, Nat.mul_one] at hrun
      exact hrun
    · have hin : ∀ j, j < m → (w.setCells g n (u8s ys)).cell? ⟨g, n + j, none⟩ = some (.int .u8 (ys.getD j 0)) := fun j hj => by
        have hj2 : j < (u8s ys).length := by rw [u8s_len]; omega
        rw [World.cell?_setCells_in g (u8s ys) n w (fun i hi => by rw [u8s_len] at hi; exact (hR.there _ (by omega)).1) j hj2]
        have := u8s_at ys j (by omega)
        rw [List.getElem?_eq_getElem hj2] at this
        exact this
      have hout : ∀ i, i < n ∨ n + m ≤ i → (w.setCells g n (u8s ys)).cell? ⟨g, i, none⟩ = w.cell? ⟨g, i, none⟩ := fun i hi =>
        World.cell?_setCells_out g (u8s ys) n w ⟨g, i, none⟩ (fun _ _ => by rw [u8s_len, hl]; exact hi)
      refine ⟨hR.above, by rw [List.length_append, hR.len, hl], hroom, hR.most, fun i hi => ⟨?_, by rw [World.frozen?_setCells]; exact (hR.there i hi).2⟩, fun i hi => ?_, Nat.lt_of_lt_of_le hR.inside (But.setCells (u8s ys) n w (But.refl g w)).size⟩
      · by_cases h1 : i < n ∨ n + m ≤ i
        · rw [hout i h1]; exact (hR.there i hi).1
        · have := hin (i - n) (by omega)
          rw [show n + (i - n) = i by omega] at this
          rw [this]; rfl
      · by_cases h1 : i < n
        · rw [hout i (.inl h1), hR.at_ i h1, List.getD_eq_getElem?_getD, List.getD_eq_getElem?_getD, List.getElem?_append_left (by rw [hR.len]; exact h1)]
        · have := hin (i - n) (by omega)
          rw [show n + (i - n) = i by omega] at this
          rw [this, List.getD_eq_getElem?_getD, List.getD_eq_getElem?_getD, List.getElem?_append_right (by rw [hR.len]; omega), hR.len]
  · have hold : (Builtin.firstCells i0.size n (.slice (some ⟨g, 0, none⟩) n cap)).run Tryd.prog w.drew = .ok (u8s l).toArray w.drew := by
      rw [hzi1]
      refine run_firstCells_some (P := Tryd.prog) w.drew 1 n ⟨g, 0, none⟩ n cap (u8s l) (by rw [u8s_len, hR.len]; omega) (fun j u hu => ?_)
      have hj : j < l.length := by rw [← u8s_len]; exact (List.getElem?_eq_some_iff.1 hu).1
      rw [add0]
      show w.cell? _ = _
      rw [hR.at_ j (by rw [← hR.len]; exact hj), ← hu, u8s_at l j hj]
    have hfit : Builtin.nextslicecap (n + m) cap * i0.bytes ≤ 281474976710656 := by rw [hzi2]; exact growslice_fits (by omega) (by omega)
    have hge := grownCap_ge w (n + m) cap 5
    have hle := grownCap_le_maxLen w (n + m) cap 5 (by unfold maxLen; omega)
    have hC : ((u8s l ++ u8s ys).toArray ++ Builtin.zeroCells (Value.int .u8 0).cells (grownCap w (n + m) cap 5 - (n + m))).size = grownCap w (n + m) cap 5 := by
      rw [Array.size_append, size_zeroCells, List.size_toArray, List.length_append, u8s_len, u8s_len, hR.len, hl]
      have : (Value.int .u8 0).cells.size = 1 := rfl
      rw [this]; omega
    have hbx := Box.made w.drew 5 ((u8s l ++ u8s ys).toArray ++ Builtin.zeroCells (Value.int .u8 0).cells (grownCap w (n + m) cap 5 - (n + m)))
    have hrun := fun ty => run_append_grow_src (P := Tryd.prog) w 114 114 ty 5 i0 (.int .u8 0) Tryd.underlying114 hi hzi0 (some ⟨g, 0, none⟩) n cap (u8s l) hold _ m (u8s ys) hsrc (by omega) (by omega) hfit
    refine ⟨w.heap.size, _, _, hrun, ⟨hbase, by rw [List.length_append, hR.len, hl], hge, hle, fun i hi => ⟨?_, hbx.free i⟩, fun i hi => ?_, by simp⟩, ((But.refl g w).drew).past _⟩
    · rw [show (w.heap.size : Nat) = w.drew.heap.size from rfl, hbx.read i, Array.getElem?_eq_getElem (by rw [hC]; exact hi)]; rfl
    · rw [show (w.heap.size : Nat) = w.drew.heap.size from rfl, hbx.read i, Array.getElem?_append_left (by rw [List.size_toArray, List.length_append, u8s_len, u8s_len, hR.len, hl]; exact hi), ← u8s_app, List.getElem?_toArray]
      exact u8s_at _ _ (by rw [List.length_append, hR.len, hl]; exact hi)
end Go.Proofs.YtngofpdpangajaaDoor
