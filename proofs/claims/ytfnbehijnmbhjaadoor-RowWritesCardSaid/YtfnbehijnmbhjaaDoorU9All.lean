/-
  Package lines' All, walked: slices.Collect and slices.AppendSeq over Each: a row of the call's own that holds the text's lines.
-/
import Derived.Test.YtfnbehijnmbhjaaDoorU9Each
import Derived.Maps.AppendAt
namespace Go.Proofs.YtfnbehijnmbhjaaDoor
set_option linter.unusedVariables false
set_option linter.unusedSimpArgs false
set_option maxRecDepth 10000
open Go.RowKit Go.Shelf
attribute [local go_sem] Oper.semAt_some

theorem info_line : (Tryd.prog.info? 38).map (fun i => (i.zero, i.size, i.bytes)) = some (some (.agg #[.int .i64 0, .string ⟨#[]⟩, .int .u8 0, .int .i64 0]), 4, 40) := by kernel_rfl
theorem box_own {β : Type} (B : Nat) (t : TypeId) (f : β → Array Value) : Own (fun s W => Box W B t (f s)) := fun s X Y row hs hg hrow =>
  hs.grown hg fun e => by
    obtain ⟨o, ho, hc⟩ := hrow B e.symm
    rw [show X.heap[B]? = _ from hs] at ho
    cases ho
    cases hc
/-- The cells of lines. -/
def lineCs (l : List (Nat × List UInt8)) : List Value := l.flatMap lineC
theorem lineCs_snoc (l : List (Nat × List UInt8)) (x : Nat × List UInt8) : lineCs (l ++ [x]) = lineCs l ++ lineC x := by simp [lineCs]
theorem lineCs_len (l : List (Nat × List UInt8)) : (lineCs l).length = l.length * 4 := by
  induction l with
  | nil => rfl
  | cons x r ih => simp only [lineCs, List.flatMap_cons, List.length_append] at *; rw [ih]; simp [lineC]; omega

theorem keeps_call {W W' : World} (hb : Below W.heap.size W W') : KeepsOthers W W' := ⟨hb.size, fun k o hk _ => (hb.block k (Array.getElem?_eq_some_iff.1 hk).1).trans hk⟩
theorem split_len (l : List UInt8) : (splitL l).length = l.count 10 + 1 := by
  induction l with
  | nil => rfl
  | cons c r ih =>
    rw [splitL]
    by_cases h : c = 10
    · subst h
      rw [if_pos rfl, List.length_cons, ih, List.count_cons_self]
    · rw [if_neg h, List.count_cons_of_ne h]
      cases hs : splitL r with
      | nil => rw [hs] at ih; simp at ih
      | cons x y => rw [hs] at ih; simpa using ih
/-- Between two rounds: the box holds a row of the lines that have come. -/
def Coll (w : World) (pre : List (Nat × List UInt8)) (W : World) : Prop :=
  (∃ v, Boxed W w.heap.size 55 v ∧ W.ownsRow w.heap.size 38 4 v pre.length (lineCs pre) ∧ True) ∧ Below w.heap.size w W
theorem Coll.call {w W W' : World} {pre : List (Nat × List UInt8)} (h : Coll w pre W) (hb : Below W.heap.size W W') : Coll w pre W' := by
  obtain ⟨⟨v, h1, h2, -⟩, h3⟩ := h
  exact ⟨⟨v, (hb.block _ h1.lt).trans h1, own_below h2 hb, trivial⟩, chain h3 hb⟩
theorem coll_own (w : World) (D : Nat) (hD : w.heap.size ≤ D) : OwnFrom D (Coll w) :=
  OwnFrom.and (Own.from (holdsRow_own w.heap.size w.heap.size 55 38 4 (fun pre => pre.length) lineCs (fun _ _ => True)) _) (ownFrom_below (Nat.le_refl _) hD)
theorem cells_new4 (W : World) (t : TypeId) (cs : List Value) : ∀ j u, cs[j]? = some u → (W.alloc (.cells cs.toArray t)).cell? ((⟨W.heap.size, 0, none⟩ : Addr).add j) = some u := fun j u hu => by
  have e1 : (⟨W.heap.size, 0, none⟩ : Addr).add j = ⟨W.heap.size, j, none⟩ := by simp [Addr.add]; exact fun hj => hj.symm
  rw [e1, (Box.made W t cs.toArray).read j]
  simpa using hu
theorem lineC_one (x : Nat × List UInt8) : ∀ u ∈ lineC x, u.oneCell' = true := by
  intro u hu
  simp only [lineC, List.mem_cons, List.not_mem_nil, or_false] at hu
  rcases hu with rfl | rfl | rfl | rfl <;> rfl

set_option maxRecDepth 100000 in
set_option maxHeartbeats 2000000 in
theorem appendSeq_any (B : Nat) (s : ByteArray) (hs : s.size ≤ 1000000) (w : World) (hB : w.cell? ⟨B, 0, none⟩ = some (.string s)) (hlB : B < w.heap.size) :
    Calls Tryd.prog 67 #[.slice none 0 0, .func (.func 59) #[] #[.pointer (some ⟨B, 0, none⟩)]] w fun e W =>
      ∃ v, e = .returned v ∧ W.ownsRow w.heap.size 38 4 v (linesL s.data.toList).length (lineCs (linesL s.data.toList)) ∧ Below w.heap.size w W := by
  obtain ⟨i0, hi, hz0, hz1, hz2⟩ := info_parts info_line
  obtain ⟨all, hall⟩ : ∃ all, linesL s.data.toList = all := ⟨_, rfl⟩
  have hseq := fun (n : Nat) (hn : 1 ≤ n) (W : World) (h1 : W.cell? ⟨B, 0, none⟩ = some (.string s)) (h2 : B < W.heap.size) => each_stops n hn B s (by omega) W h1 h2
  rw [hall] at hseq ⊢
  refine (callsIn_wide (n := 9)).1 (callsIn_of_wp_marks Tryd.func67 rfl trivial ?_ rfl)
  simp only [Tryd.ntmps67, List.size_toArray, List.length_cons, List.length_nil, Nat.reduceAdd, Nat.reduceSub, Array.replicate_succ, Array.replicate_zero, List.push_toArray, List.append_toArray, List.nil_append, List.cons_append]
  gi_wp2
  have bO := Boxed.new w 55 (.slice none 0 0)
  have hB0 : Below w.heap.size w (w.alloc (.cells #[.slice none 0 0] 55)) := (Below.refl _ w).alloc (Nat.le_refl _) _
  have hlen : all.length ≤ 1000001 := by
    have h1 := List.count_le_length (l := s.data.toList) (a := (10 : UInt8))
    rw [ba_size] at h1
    rw [← hall, linesL, numb_len, split_len]
    omega
  have HLEN := hideIt hlen
  clear hlen
  refine wpIn_rangeFunc_ownH (F := Fence.wide) (n := 9) rfl (by decide) (gf := 59) (lb := #[.pointer (some ⟨B, 0, none⟩)]) rfl trivial (enters_of Tryd.func59 (by kernel_rfl) rfl)
    (hseq 8 (by decide) _ ((hB0.cell (p := ⟨B, 0, none⟩) hlB).trans hB) (by simp; omega)) (fun _ _ => trivial)
    (fun W l o o' hl h _ _ => trivial) (Below.refl _ _) (fun _ => rfl)
    (Coll w) (fun _ _ _ => False) (coll_own w _ (by simp)) (fun _ _ _ _ _ hs _ _ => hs) ⟨⟨_, bO, World.ownsRow_nil _ _ _ _, trivial⟩, hB0⟩
    (fun x a' W => ∃ Bx, w.heap.size < Bx ∧ Box W Bx 38 #[.int .i64 x.1, .string (bA x.2), .int .u8 (kindL x.2), .int .i64 (wrongL x.2)] ∧
      a' = { tmps := #[.slice none 0 0, .func (.func 59) #[] #[.pointer (some ⟨B, 0, none⟩)], .pointer (some ⟨w.heap.size, 0, none⟩), undef, .slice none 0 0, .pointer (some ⟨Bx, 0, none⟩),
        .func (.func 59) #[] #[.pointer (some ⟨B, 0, none⟩)], lineV x, undef, undef, undef, undef, undef], defers := [] })
    ?hAx ?assign ?body ?done ?stop
  case hAx =>
    rintro x a' s W W' row ⟨Bx, h1, h2, h3⟩ hg hr
    exact ⟨Bx, h1, box_own (β := Unit) Bx _ (fun _ => _) () W W' row h2 hg (fun r e => (hr r e).2), h3⟩
  case assign =>
    rintro l pre ⟨k, t⟩ W K hI hK
    have hb : w.heap.size < W.heap.size := by obtain ⟨⟨v, h1, -⟩, -⟩ := hI; exact h1.lt
    simp only [lineV] at hK ⊢
    gi_wp2
    exact hK _ _ ((KeepsOthers.alloc _ _).from _) trivial (hI.call ((Below.refl _ W).alloc (Nat.le_refl _) _)) ⟨W.heap.size, hb, Box.made _ _ _, rfl⟩
  case body =>
    rintro l pre ⟨k, t⟩ a' W hl ⟨r, hr⟩ hI ⟨Bx, hBx, hbox, rfl⟩ hlt
    obtain ⟨⟨v, hv, hrow, -⟩, hB1⟩ := hI
    have hc := hv.cell
    have r0 : W.cell? ⟨Bx, 0, none⟩ = some (.int .i64 k) := hbox.read 0
    have r1 : W.cell? ⟨Bx, 1, none⟩ = some (.string (bA t)) := hbox.read 1
    have r2 : W.cell? ⟨Bx, 2, none⟩ = some (.int .u8 (kindL t)) := hbox.read 2
    have r3 : W.cell? ⟨Bx, 3, none⟩ = some (.int .i64 (wrongL t)) := hbox.read 3
    have hle := HLEN.out
    have hml : pre.length + 1 ≤ maxLen := by unfold maxLen; omega
    have hpl : (pre.length + 1) * 40 ≤ 140737488355328 := by omega
    gi_wp2_with (first | (gi_at_builtin; refine wpListIn_append_own _ rfl _ _ 55 rfl w.heap.size 38 i0 (.agg #[.int .i64 0, .string ⟨#[]⟩, .int .u8 0, .int .i64 0]) 4 40 Tryd.underlying55 hi hz0 hz1 hz2 rfl (by decide) _ _ _ rfl (hrow.alloc _) ⟨W.heap.size, 0, none⟩ 1 1 (lineC (k, t)) rfl rfl (cells_new4 _ _ _) (lineC_one _) hml hpl (by have := hB1.size; simp; omega) ?_; intro v' w1 hown' hgrow _; obtain ⟨g', cap', rfl⟩ := ownsRow_succ hown'; obtain ⟨hv1, hv2, hr2, hk2, hb2⟩ := hv.appended (by decide) hrow hB1.size (Nat.le_refl _) hown' hgrow; have hc1 := hv1.cell; have hf1 := hv1.frozen))
    exact ⟨hk2.from _, trivial, ⟨_, hv2, by rw [lineCs_snoc, List.length_append]; exact hr2, trivial⟩, hB1.trans hb2⟩
  case done =>
    rintro D ys W hD rfl ⟨⟨v, hv, hrow, -⟩, hB1⟩ hK
    have hc := hv.cell
    gi_wp2
    refine ⟨by simp, .inl ⟨_, _, rfl, run_takeDeferred hK, ?_⟩⟩
    exact ⟨_, results_tmp rfl _ _ _, v, rfl, ownsRow_putObj hrow _ hK rfl, hB1.trans (belowK_b (w := w) (Nat.le_refl _) W D _ _ (by simp at hD; omega) hK rfl rfl)⟩
  case stop =>
    rintro D c pre W _ _ h _
    exact h.elim
/-- What a row of lines is, where it lies in a world. -/
def LineRow (b : Nat) (W : World) (v : Value) (l : List (Nat × List UInt8)) : Prop := ∃ g cap, v = .slice (some ⟨g, 0, none⟩) l.length cap ∧ b ≤ g ∧ g < W.heap.size ∧
  (∀ i x, l[i]? = some x → W.cell? ⟨g, i * 4, none⟩ = some (.int .i64 x.1) ∧ W.cell? ⟨g, i * 4 + 1, none⟩ = some (.string (bA x.2)) ∧ W.cell? ⟨g, i * 4 + 2, none⟩ = some (.int .u8 (kindL x.2)) ∧ W.cell? ⟨g, i * 4 + 3, none⟩ = some (.int .i64 (wrongL x.2)))
theorem lineCs_at (l : List (Nat × List UInt8)) (i : Nat) (x : Nat × List UInt8) (h : l[i]? = some x) (j : Nat) (hj : j < 4) : (lineCs l)[i * 4 + j]? = (lineC x)[j]? := by
  induction l generalizing i with
  | nil => simp at h
  | cons y r ih =>
    cases i with
    | zero =>
      obtain rfl : y = x := by simpa using h
      simp only [lineCs, List.flatMap_cons]
      rw [List.getElem?_append_left (by simp [lineC]; omega)]
      simp
    | succ i =>
      simp only [lineCs, List.flatMap_cons]
      rw [List.getElem?_append_right (by simp [lineC]; omega)]
      have := ih i (by simpa using h)
      rw [← this]
      have e : (lineC y).length = 4 := rfl
      rw [e, show (i + 1) * 4 + j - 4 = i * 4 + j by omega]
      rfl
theorem row_of_own {b : Nat} {W : World} {v : Value} {l : List (Nat × List UInt8)} (h : W.ownsRow b 38 4 v l.length (lineCs l)) (hl : l ≠ []) : LineRow b W v l := by
  have hpos : 0 < l.length := List.length_pos_iff.2 hl
  rcases h.2 with ⟨_, h2⟩ | ⟨g, cap, cur, hv, hg, hh, hc, hm, hsz, hcur⟩
  · omega
  · refine ⟨g, cap, hv, hg, (Array.getElem?_eq_some_iff.1 hh).1, fun i x hx => ?_⟩
    have hil : i < l.length := (List.getElem?_eq_some_iff.1 hx).1
    have key : ∀ j, j < 4 → W.cell? ⟨g, i * 4 + j, none⟩ = (lineC x)[j]? := fun j hj => by
      rw [← lineCs_at l i x hx j hj, ← hcur, List.getElem?_take_of_lt (by omega)]
      rw [cell_of_row W g (i * 4 + j) cur _ _ hh]
      simp
    exact ⟨key 0 (by omega), key 1 (by omega), key 2 (by omega), key 3 (by omega)⟩
theorem LineRow.call {b : Nat} {W W' : World} {v : Value} {l : List (Nat × List UInt8)} (h : LineRow b W v l) (hb : Below W.heap.size W W') : LineRow b W' v l := by
  obtain ⟨g, cap, h1, h2, h3, h4⟩ := h
  exact ⟨g, cap, h1, h2, Nat.lt_of_lt_of_le h3 hb.size, fun i x hx => by
    obtain ⟨a, b, c, d⟩ := h4 i x hx
    exact ⟨(hb.cell (p := ⟨g, _, none⟩) h3).trans a, (hb.cell (p := ⟨g, _, none⟩) h3).trans b, (hb.cell (p := ⟨g, _, none⟩) h3).trans c, (hb.cell (p := ⟨g, _, none⟩) h3).trans d⟩⟩
theorem linesL_ne (l : List UInt8) : linesL l ≠ [] := by
  intro h
  have := congrArg List.length h
  rw [linesL, numb_len, split_len] at this
  simp at this

set_option maxHeartbeats 1000000 in
theorem all_any (s : ByteArray) (hs : s.size ≤ 1000000) (w : World) : Calls Tryd.prog 25 #[.string s] w fun e W => ∃ v, e = .returned v ∧ LineRow w.heap.size W v (linesL s.data.toList) ∧ Below w.heap.size w W := by
  have cE := fun u => each_any s u
  have cA := fun B u h1 h2 => appendSeq_any B s hs u h1 h2
  have cC : ∀ u B, u.cell? ⟨B, 0, none⟩ = some (.string s) → B < u.heap.size → Calls Tryd.prog 47 #[.func (.func 59) #[] #[.pointer (some ⟨B, 0, none⟩)]] u fun e W =>
      ∃ v, e = .returned v ∧ W.ownsRow u.heap.size 38 4 v (linesL s.data.toList).length (lineCs (linesL s.data.toList)) ∧ Below u.heap.size u W := by
    intro u B h1 h2
    go_enter Tryd.func47, Tryd.ntmps47
    go_wp2_with (first | (go_at_call 67; refine (cA B _ h1 h2).mono ?_; rintro e w1 ⟨v, rfl, hr, b1⟩))
    go_ret
    exact ⟨_, rfl, hr, b1⟩
  have b0 := (Below.refl w.heap.size w).alloc (Nat.le_refl _) (.cells #[.string s] 9)
  have bx := Box.made w 9 #[.string s]
  go_enter Tryd.func25, Tryd.ntmps25
  go_wp2_with (first
    | (go_at_call 34; refine (cE _).mono ?_; rintro e w1 ⟨rfl, rfl⟩)
    | (go_at_call 47; refine (cC _ _ (bx.read 0) bx.inside).mono ?_; rintro e w1 ⟨v, rfl, hr, b1⟩))
  go_ret
  exact ⟨_, rfl, row_of_own (own_lower hr (by simp)) (linesL_ne _), chain b0 b1⟩
end Go.Proofs.YtfnbehijnmbhjaaDoor
