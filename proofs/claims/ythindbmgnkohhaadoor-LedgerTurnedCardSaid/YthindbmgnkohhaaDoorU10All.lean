/-
  Package row's All, walked: over the lines, one by one, until one tells an error.
-/
import Derived.Test.YthindbmgnkohhaaDoorM10Row
import Derived.Test.YthindbmgnkohhaaDoorM9Lin
import Derived.Test.YthindbmgnkohhaaDoorW5Round
import Derived.Test.YthindbmgnkohhaaDoorT10Row
import Derived.WalkMore
namespace Go.Proofs.YthindbmgnkohhaaDoor
set_option linter.unusedVariables false
set_option linter.unusedSimpArgs false
set_option maxRecDepth 10000
open Go.RowKit Go.Shelf
attribute [local go_sem] Oper.semAt_some

theorem info_row : (Tryd.prog.info? 50).map (fun i => (i.zero, i.size, i.bytes)) = some (some (.agg #[.string ⟨#[]⟩, .int .u64 0, .int .u64 0]), 3, 32) := by kernel_rfl
theorem box_not_row {W : World} {g n₀ size k : Nat} {t e : TypeId} {cs : Array Value} {v : Value} {xs : List Value} (hb : Box W g t cs) (hte : t ≠ e) (hrow : W.ownsRow n₀ e size v k xs) : some g ≠ v.ownBlock := by
  rcases hrow.2 with ⟨rfl, _⟩ | ⟨g', cap, cur, rfl, _, hgb, _⟩
  · simp [Value.ownBlock]
  · intro e'
    have : g = g' := by simpa [Value.ownBlock] using e'
    subst this
    unfold Box at hb
    rw [hb] at hgb
    injection hgb with hgb
    injection hgb with h1 h2
    exact hte h2
/-- Between two rounds: the rows that have come, and the two results' cells. -/
def RowsIn (w : World) (pre : List (Nat × List UInt8)) (W : World) : Prop :=
  ((∃ v, Boxed W w.heap.size 23 v ∧ W.ownsRow w.heap.size 50 3 v (rowsF pre).length (rowCs (rowsF pre)) ∧ True) ∧ (Box W (w.heap.size + 1) 3 #[.int .i64 0] ∧ Box W (w.heap.size + 2) 24 #[.int .i64 0])) ∧ Below w.heap.size w W
theorem RowsIn.call {w W W' : World} {pre : List (Nat × List UInt8)} (h : RowsIn w pre W) (hb : Below W.heap.size W W') : RowsIn w pre W' := by
  obtain ⟨⟨⟨v, h1, h2, -⟩, h3, h4⟩, h5⟩ := h
  exact ⟨⟨⟨v, (hb.block _ h1.lt).trans h1, own_below h2 hb, trivial⟩, h3.call hb, h4.call hb⟩, chain h5 hb⟩
theorem rowsIn_own {β : Type} (w : World) (f : β → List (Nat × List UInt8)) (D : Nat) (hD : w.heap.size ≤ D) : OwnFrom D (fun s W => RowsIn w (f s) W) :=
  OwnFrom.and (OwnFrom.and (Own.from (holdsRow_own w.heap.size w.heap.size 23 50 3 (fun s => (rowsF (f s)).length) (fun s => rowCs (rowsF (f s))) (fun _ _ => True)) _)
    (OwnFrom.and (Own.from (box_own _ _ (fun _ => #[.int .i64 0])) _) (Own.from (box_own _ _ (fun _ => #[.int .i64 0])) _))) (ownFrom_below (Nat.le_refl _) hD)
theorem RowsIn.skip {w W : World} {pre : List (Nat × List UInt8)} {x : Nat × List UInt8} (h : RowsIn w pre W) (hx : (tell x.2).2.1 = false) : RowsIn w (pre ++ [x]) W := by
  unfold RowsIn at *
  rw [rowsF_snoc, hx, if_neg (by decide), List.append_nil]
  exact h
theorem map_snoc {α β : Type} (f : α → β) (l : List α) (x : α) : (l ++ [x]).map f = l.map f ++ [f x] := by rw [List.map_append]; rfl
/-- Behind the loop that was left: no rows, and what is wrong. -/
def Left3 (w : World) (a b : Nat) (W : World) : Prop :=
  (Box W w.heap.size 23 #[.slice none 0 0] ∧ (Box W (w.heap.size + 1) 3 #[.int .i64 a] ∧ Box W (w.heap.size + 2) 24 #[.int .i64 b])) ∧ Below w.heap.size w W
theorem left3_own {β : Type} (w : World) (a b : β → Nat) (D : Nat) (hD : w.heap.size ≤ D) : OwnFrom D (fun s W => Left3 w (a s) (b s) W) :=
  OwnFrom.and (OwnFrom.and (Own.from (box_own _ _ (fun _ => #[.slice none 0 0])) _)
    (OwnFrom.and (Own.from (box_own _ _ (fun s => #[.int .i64 (a s)])) _) (Own.from (box_own _ _ (fun s => #[.int .i64 (b s)])) _))) (ownFrom_below (Nat.le_refl _) hD)

def GoneOn (w : World) (n : Nat) (pre : List (LnOf n)) (W : World) : Prop := RowsIn w (pre.map (·.1)) W ∧ AllTell (pre.map (·.1))
theorem goneOn_own (w : World) (n D : Nat) (hD : w.heap.size ≤ D) : OwnFrom D (GoneOn w n) :=
  OwnFrom.and (rowsIn_own w (fun pre : List (LnOf n) => pre.map (·.1)) D hD) (fun _ _ _ _ hs _ _ => hs)
def LeftOff (w : World) (n : Nat) (c : Code) (pre : List (LnOf n)) (W : World) : Prop :=
  c = .exit 0 ∧ ∃ (q : List (LnOf n)) (x : LnOf n), pre = q ++ [x] ∧ AllTell (q.map (·.1)) ∧ (tell x.1.2).2.2 ≠ 0 ∧ Left3 w x.1.1 (tell x.1.2).2.2 W
theorem leftOff_own (w : World) (n D : Nat) (hD : w.heap.size ≤ D) (c : Code) : OwnFrom D (LeftOff w n c) := fun s' W W' row hs hg hr => by
  obtain ⟨hc, q, x, h1, h2, h3, h4⟩ := hs
  exact ⟨hc, q, x, h1, h2, h3, left3_own (β := Unit) w (fun _ => x.1.1) (fun _ => (tell x.1.2).2.2) D hD () W W' row h4 hg hr⟩
set_option maxRecDepth 100000 in
set_option maxHeartbeats 8000000 in
theorem rowall_any (s : ByteArray) (hs : s.size ≤ 1000000) (w : World) (hT : TabU w) :
    Calls Tryd.prog 19 #[.string s] w fun e W => ∃ v, e = .returned (.tuple #[v, .int .i64 (errF (linesL s.data.toList)).1, .int .i64 (errF (linesL s.data.toList)).2]) ∧
      W.ownsRow w.heap.size 50 3 v (allRows (linesL s.data.toList)).length (rowCs (allRows (linesL s.data.toList))) ∧ Below w.heap.size w W := by
  obtain ⟨i0, hi, hz0, hz1, hz2⟩ := info_parts info_row
  obtain ⟨all, hall⟩ : ∃ all, linesL s.data.toList = all := ⟨_, rfl⟩
  have hseq := fun (n : Nat) (hn : 1 ≤ n) (B : Nat) (W : World) (h1 : W.cell? ⟨B, 0, none⟩ = some (.string s)) (h2 : B < W.heap.size) => each_stopsB n hn B s (by omega) W h1 h2
  have cE := fun u => each_any s u
  have hlen : all.length ≤ 1000001 := by
    have h1 := List.count_le_length (l := s.data.toList) (a := (10 : UInt8))
    rw [ba_size] at h1
    rw [← hall, linesL, numb_len, split_len]
    omega
  have HLEN := hideIt hlen
  rw [hall] at hseq ⊢
  clear hall hlen
  refine (callsIn_wide (n := 9)).1 (callsIn_of_wp_marks Tryd.func19 rfl trivial ?_ rfl)
  simp only [Tryd.ntmps19, List.size_toArray, List.length_cons, List.length_nil, Nat.reduceAdd, Nat.reduceSub, Array.replicate_succ, Array.replicate_zero, List.push_toArray, List.append_toArray, List.nil_append, List.cons_append]
  refine wpIn_wide.2 ?_
  go_wp2
  go_step3
  go_wp2
  go_step3
  go_wp2_with (first
    | (go_at_call 36; refine (cE _).mono ?_; rintro e w1 ⟨rfl, rfl⟩))
  have T0 : RowsIn w [] (((w.alloc (.cells #[.slice none 0 0] 23)).alloc (.cells #[.int .i64 0] 3)).alloc (.cells #[.int .i64 0] 24)) := by
    have b1 := (Box.made (w.alloc (.cells #[.slice none 0 0] 23)) 3 #[.int .i64 0]).past (.cells #[.int .i64 0] 24)
    have b2 := Box.made ((w.alloc (.cells #[.slice none 0 0] 23)).alloc (.cells #[.int .i64 0] 3)) 24 #[.int .i64 0]
    rw [World.size_alloc] at b1
    rw [World.size_alloc, World.size_alloc] at b2
    exact ⟨⟨⟨.slice none 0 0, ((Box.made w 23 #[.slice none 0 0]).past _).past _, World.ownsRow_nil _ _ _ _, trivial⟩, b1, b2⟩, chainA (chainA (chainA (Below.refl _ _) _) _) _⟩
  have e1 : (((w.alloc (.cells #[.slice none 0 0] 23)).alloc (.cells #[.int .i64 0] 3)).alloc (.cells #[.int .i64 0] 24)).heap.size = w.heap.size + 3 := by simp
  generalize World.alloc (World.alloc (World.alloc w _) _) _ = V at *
  have T1 := T0.call ((Below.refl _ V).alloc (Nat.le_refl _) (.cells #[.string s] 9))
  have bx := Box.made V 9 #[.string s]
  have hYs : (V.alloc (.cells #[.string s] 9)).heap.size = V.heap.size + 1 := by simp
  rw [e1] at bx hYs
  clear T0
  generalize World.alloc V _ = Y at *
  refine (wpIn_wide (n := 9)).1 ?_
  refine wpIn_rangeFunc_ownH (F := Fence.wide) (n := 9) rfl (by decide) (gf := 56) (lb := #[.pointer (some ⟨w.heap.size + 3, 0, none⟩)]) rfl trivial (enters_of Tryd.func56 (by kernel_rfl) rfl)
    (hseq 8 (by decide) (w.heap.size + 3) Y (bx.read 0) bx.inside) (fun _ _ => trivial)
    (fun W l o o' hl h _ _ => trivial) (Below.refl _ _) (fun _ => rfl)
    (GoneOn w s.size) (LeftOff w s.size) (goneOn_own w s.size _ (by omega)) (leftOff_own w s.size _ (by omega))
    ⟨T1, fun x hx => by simp at hx⟩
    (fun x a' W => ∃ Bx, w.heap.size + 2 < Bx ∧ Box W Bx 82 (lnB x.1.1 (bA x.1.2) (kindL x.1.2) (wrongL x.1.2)) ∧
      a' = { tmps := #[.string s, undef, .slice none 0 0, .int .i64 0, .int .i64 0, .pointer (some ⟨w.heap.size, 0, none⟩), .pointer (some ⟨w.heap.size + 1, 0, none⟩), .pointer (some ⟨w.heap.size + 2, 0, none⟩), .pointer (some ⟨Bx, 0, none⟩), undef, undef, undef, .string s,
        .func (.func 56) #[] #[.pointer (some ⟨w.heap.size + 3, 0, none⟩)], lineV x.1, undef, undef, undef, undef, undef, undef, undef, undef, undef, undef, undef, undef, undef, undef, undef, undef, undef, undef, undef, undef, undef], defers := [] })
    ?hAx ?assign ?body ?done ?stop
  case hAx =>
    rintro x a' s W W' row ⟨Bx, h1, h2, h3⟩ hg hr
    exact ⟨Bx, h1, box_own (β := Unit) Bx _ (fun _ => _) () W W' row h2 hg (fun r e => (hr r e).2), h3⟩
  case assign =>
    rintro l pre ⟨⟨k, t⟩, hkt⟩ W K ⟨hI, hq⟩ hK
    have hb : w.heap.size + 2 < W.heap.size := hI.1.2.2.inside
    simp only [lineV] at hK ⊢
    gi_wp2
    exact hK _ _ ((KeepsOthers.alloc _ _).from _) trivial ⟨hI.call ((Below.refl _ W).alloc (Nat.le_refl _) _), hq⟩ ⟨W.heap.size, hb, Box.made _ _ _, rfl⟩
  case body =>
    rintro l pre ⟨⟨k, t⟩, hkt⟩ a' W hl ⟨r, hr⟩ ⟨hI, hq⟩ ⟨Bx, hBx, hbox, rfl⟩ hlt
    have hts : (bA t).size ≤ 1000000 := by rw [bA_size]; simp only at hkt; omega
    have cO := fun u hu => rowof_any k (bA t) (kindL t) (wrongL t) hts u hu
    simp only [bA_list, ofR_tell] at cO
    have r0 : W.cell? ⟨Bx, 0, none⟩ = some (.int .i64 k) := hbox.read 0
    have r1 : W.cell? ⟨Bx, 1, none⟩ = some (.string (bA t)) := hbox.read 1
    have r2 : W.cell? ⟨Bx, 2, none⟩ = some (.int .u8 (kindL t)) := hbox.read 2
    have r3 : W.cell? ⟨Bx, 3, none⟩ = some (.int .i64 (wrongL t)) := hbox.read 3
    have hbi := hbox.inside
    have hWT := hT.call hI.2
    have htl := tell_is t
    obtain ⟨q, hqt⟩ : ∃ q, tell t = q := ⟨_, rfl⟩
    rw [hqt] at cO htl
    have HQ := hideIt hqt
    obtain ⟨⟨i, h, l'⟩, is, er⟩ := q
    simp only [Rw.val] at cO htl
    simp only at hkt hlt
    clear hqt hts
    by_cases her : er = 0
    · subst her
      cases is with
      | true =>
        have hpl' : (rowsF (pre.map (·.1))).length + 1 ≤ 1000001 := by
          have h1 := rowsF_len (pre.map (·.1))
          rw [List.length_map] at h1
          have := HLEN.out
          omega
        have hml : (rowsF (pre.map (·.1))).length + 1 ≤ maxLen := by unfold maxLen; omega
        have hpl : ((rowsF (pre.map (·.1))).length + 1) * 32 ≤ 140737488355328 := by omega
        gi_wp2_with (first
          | (refine ⟨trivial, ?_⟩; gi_at_call 44; refine (CallsIn.inRound l (callsIn_wide.2 (cO _ hWT))).mono ?_; rintro e w1 ⟨rfl, j1⟩
             obtain ⟨⟨⟨v, hv, hrow, -⟩, b1, b2⟩, hB⟩ := hI.call j1
             have hvA := hv.alloc (.cells #[.string i, .int .u64 h, .int .u64 l'] 50)
             have hcA := hvA.cell
             have hrA := hrow.alloc (.cells #[.string i, .int .u64 h, .int .u64 l'] 50)
             obtain ⟨n0, n1, n2, -, -, -, nin⟩ := (Box.made w1 50 #[.string i, .int .u64 h, .int .u64 l']).three
             have hBA := chainA hB (.cells #[.string i, .int .u64 h, .int .u64 l'] 50)
             have hsA : (w1.alloc (.cells #[.string i, .int .u64 h, .int .u64 l'] 50)).heap.size = w1.heap.size + 1 := by simp)
          | (gi_at_builtin; refine wpListIn_append_own _ rfl _ _ 23 rfl w.heap.size 50 i0 (.agg #[.string ⟨#[]⟩, .int .u64 0, .int .u64 0]) 3 32 Tryd.underlying23 hi hz0 hz1 hz2 rfl (by decide) _ _ _ rfl (hrA.alloc _) ⟨w1.heap.size + 1, 0, none⟩ 1 1 (Rw.cells ⟨i, h, l'⟩) rfl rfl (cells_newN _ _ hsA _ _) (cells_one _) hml hpl (by have := hBA.size; simp; omega) ?_
             intro v' w2 hown' hgrow _
             obtain ⟨g', cap', rfl⟩ := ownsRow_succ hown'
             obtain ⟨hv1, hv2, hr2, hk2, hb2⟩ := hvA.appended (by decide) hrA hBA.size (Nat.le_refl _) hown' hgrow
             have hc1 := hv1.cell
             have hf1 := hv1.frozen))
        have x1 := b1.past (.cells #[.string i, .int .u64 h, .int .u64 l'] 50)
        have x2 := b2.past (.cells #[.string i, .int .u64 h, .int .u64 l'] 50)
        have y1 := ((x1.past _).grown hgrow (box_not_row x1 (by decide) hrA)).apart (p := ⟨w.heap.size, 0, none⟩) (by dsimp only; omega) (.slice (some ⟨g', 0, none⟩) ((rowsF (pre.map (·.1))).length + 1) cap')
        have y2 := ((x2.past _).grown hgrow (box_not_row x2 (by decide) hrA)).apart (p := ⟨w.heap.size, 0, none⟩) (by dsimp only; omega) (.slice (some ⟨g', 0, none⟩) ((rowsF (pre.map (·.1))).length + 1) cap')
        have e2 : rowsF ((pre ++ [⟨(k, t), hkt⟩] : List (LnOf s.size)).map (·.1)) = rowsF (pre.map (·.1)) ++ [⟨i, h, l'⟩] := by
          rw [map_snoc, rowsF_snoc]
          show _ ++ (if (tell t).2.1 = true then [(tell t).1] else []) = _
          rw [HQ.out]
          rfl
        refine ⟨(((keeps_call j1).trans (KeepsOthers.alloc _ _)).trans hk2).from _, trivial, ⟨⟨⟨_, hv2, ?_, trivial⟩, y1, y2⟩, hBA.trans hb2⟩, ?_⟩
        · rw [e2, rowCs_snoc, List.length_append]
          exact hr2
        · rw [map_snoc]
          exact hq.snoc (by show (tell t).2.2 = 0; rw [HQ.out])
      | false =>
        gi_wp2_with (first | (refine ⟨trivial, ?_⟩; gi_at_call 44; refine (CallsIn.inRound l (callsIn_wide.2 (cO _ hWT))).mono ?_; rintro e w1 ⟨rfl, j1⟩))
        refine ⟨((keeps_call j1).trans (KeepsOthers.alloc _ _)).from _, trivial, ?_, ?_⟩
        · rw [map_snoc]
          exact ((hI.call j1).call ((Below.refl _ _).alloc (Nat.le_refl _) _)).skip (by show (tell t).2.1 = false; rw [HQ.out])
        · rw [map_snoc]
          exact hq.snoc (by show (tell t).2.2 = 0; rw [HQ.out])
    · have heri : ¬ ((er : Int) = 0) := by omega
      have hmx : Tryd.prog.follows .mixedOrders = true := by kernel_rfl
      gi_wp2_with (first | (refine ⟨trivial, ?_⟩; gi_at_call 44; refine (CallsIn.inRound l (callsIn_wide.2 (cO _ hWT))).mono ?_; rintro e w1 ⟨rfl, j1⟩))
      have hIA := (hI.call j1).call ((Below.refl _ _).alloc (Nat.le_refl _) (.cells #[.string i, .int .u64 h, .int .u64 l'] 50))
      have hxA := (hbox.call j1).past (.cells #[.string i, .int .u64 h, .int .u64 l'] 50)
      have kA := (keeps_call j1).trans (KeepsOthers.alloc w1 (.cells #[.string i, .int .u64 h, .int .u64 l'] 50))
      clear r0 r1 r2 r3 cO hWT hI hbox
      generalize World.alloc w1 _ = X at *
      obtain ⟨⟨⟨v, hv, -, -⟩, b1, b2⟩, hB⟩ := hIA
      have bS : Box X w.heap.size 23 #[v] := hv
      have r0 : X.drew.cell? ⟨Bx, 0, none⟩ = some (.int .i64 k) := hxA.read 0
      have hbi2 : Bx < X.drew.heap.size := hxA.inside
      have c0 : X.drew.cell? ⟨w.heap.size, 0, none⟩ = some v := bS.read 0
      have c1 : X.drew.cell? ⟨w.heap.size + 1, 0, none⟩ = some (.int .i64 0) := b1.read 0
      have c2 : X.drew.cell? ⟨w.heap.size + 2, 0, none⟩ = some (.int .i64 0) := b2.read 0
      have f0 : X.drew.frozen? ⟨w.heap.size, 0, none⟩ = false := bS.free 0
      have f1 : X.drew.frozen? ⟨w.heap.size + 1, 0, none⟩ = false := b1.free 0
      have f2 : X.drew.frozen? ⟨w.heap.size + 2, 0, none⟩ = false := b2.free 0
      have hin0 : w.heap.size < X.drew.heap.size := bS.inside
      have hin1 : w.heap.size + 1 < X.drew.heap.size := b1.inside
      have hin2 : w.heap.size + 2 < X.drew.heap.size := b2.inside
      have kB := kA.trans (KeepsOthers.drew X)
      have bS' : Box X.drew w.heap.size 23 #[v] := bS
      have b1' : Box X.drew (w.heap.size + 1) 3 #[.int .i64 0] := b1
      have b2' : Box X.drew (w.heap.size + 2) 24 #[.int .i64 0] := b2
      have hx' : Box X.drew Bx 82 (lnB k (bA t) (kindL t) (wrongL t)) := hxA
      have hB' := hB.drew
      clear bS b1 b2 hxA hB kA
      refine region_round (S := fun u => u.cell? ⟨Bx, 0, none⟩ = some (.int .i64 k) ∧ Bx < u.heap.size) hmx (by kernel_rfl) (fun ⟨a, u, h⟩ => h) ⟨r0, hbi2⟩ (fun hHeld => ?_)
      generalize X.drew = Z at *
      obtain ⟨Z1, hZ1⟩ : ∃ Z1, Z.setCell ⟨w.heap.size, 0, none⟩ (.slice none 0 0) = Z1 := ⟨_, rfl⟩
      have s1 : Box Z1 w.heap.size 23 #[.slice none 0 0] := by rw [← hZ1]; exact bS'.wrote 0 _
      have s2 : Box Z1 (w.heap.size + 1) 3 #[.int .i64 0] := by rw [← hZ1]; exact b1'.apart (by dsimp only; omega) _
      have s3 : Box Z1 (w.heap.size + 2) 24 #[.int .i64 0] := by rw [← hZ1]; exact b2'.apart (by dsimp only; omega) _
      have s4 : Box Z1 Bx 82 (lnB k (bA t) (kindL t) (wrongL t)) := by rw [← hZ1]; exact hx'.apart (by dsimp only; omega) _
      have s5 : Below w.heap.size w Z1 := by rw [← hZ1]; exact hB'.setCell (Nat.le_refl _) _
      have s6 := kB.trans (KeepsOthers.setCell Z ⟨w.heap.size, 0, none⟩ (.slice none 0 0))
      rw [hZ1] at s6
      obtain ⟨Z2, hZ2⟩ : ∃ Z2, Z1.setCell ⟨w.heap.size + 1, 0, none⟩ (.int .i64 k) = Z2 := ⟨_, rfl⟩
      have t1 : Box Z2 w.heap.size 23 #[.slice none 0 0] := by rw [← hZ2]; exact s1.apart (by dsimp only; omega) _
      have t2 : Box Z2 (w.heap.size + 1) 3 #[.int .i64 k] := by rw [← hZ2]; exact s2.wrote 0 _
      have t3 : Box Z2 (w.heap.size + 2) 24 #[.int .i64 0] := by rw [← hZ2]; exact s3.apart (by dsimp only; omega) _
      have t4 : Box Z2 Bx 82 (lnB k (bA t) (kindL t) (wrongL t)) := by rw [← hZ2]; exact s4.apart (by dsimp only; omega) _
      have t5 : Below w.heap.size w Z2 := by rw [← hZ2]; exact s5.setCell (p := ⟨w.heap.size + 1, 0, none⟩) (by dsimp only; omega) _
      have t6 := s6.trans (KeepsOthers.setCell Z1 ⟨w.heap.size + 1, 0, none⟩ (.int .i64 k))
      rw [hZ2] at t6
      obtain ⟨Z3, hZ3⟩ : ∃ Z3, Z2.setCell ⟨w.heap.size + 2, 0, none⟩ (.int .i64 er) = Z3 := ⟨_, rfl⟩
      have u1 : Box Z3 w.heap.size 23 #[.slice none 0 0] := by rw [← hZ3]; exact t1.apart (by dsimp only; omega) _
      have u2 : Box Z3 (w.heap.size + 1) 3 #[.int .i64 k] := by rw [← hZ3]; exact t2.apart (by dsimp only; omega) _
      have u3 : Box Z3 (w.heap.size + 2) 24 #[.int .i64 er] := by rw [← hZ3]; exact t3.wrote 0 _
      have u4 : Box Z3 Bx 82 (lnB k (bA t) (kindL t) (wrongL t)) := by rw [← hZ3]; exact t4.apart (by dsimp only; omega) _
      have u5 : Below w.heap.size w Z3 := by rw [← hZ3]; exact t5.setCell (p := ⟨w.heap.size + 2, 0, none⟩) (by dsimp only; omega) _
      have u6 := t6.trans (KeepsOthers.setCell Z2 ⟨w.heap.size + 2, 0, none⟩ (.int .i64 er))
      rw [hZ3] at u6
      refine wpAnyH_take (i := 0) (v := ?_) rfl (by kernel_rfl) (by kernel_rfl) (by kernel_rfl) (fun _ _ _ h => h) (Or.inl ⟨by rfl, ?_⟩) (by assumption) ?_
      rotate_left 1
      · intro w hSw; (try dsimp only at hSw); go_simp; try with_reducible rfl
      try simp only [Act.put, List.getElem_toArray, List.getElem_cons_succ, List.getElem_cons_zero, List.setIfInBounds_toArray, List.set_cons_zero, List.set_cons_succ]
      refine wpAnyH_take (i := 1) (v := ?_) rfl (by kernel_rfl) (by kernel_rfl) (by kernel_rfl) (fun _ _ _ h => h) (Or.inl ⟨by rfl, ?_⟩) (by assumption) ?_
      rotate_left 1
      · intro w hSw; (try dsimp only at hSw); go_simp; try with_reducible rfl
      try simp only [Act.put, List.getElem_toArray, List.getElem_cons_succ, List.getElem_cons_zero, List.setIfInBounds_toArray, List.set_cons_zero, List.set_cons_succ]
      refine wpAnyH_take (i := 2) (v := ?_) rfl (by kernel_rfl) (by kernel_rfl) (by kernel_rfl) (fun _ _ _ h => h) (Or.inl ⟨by rfl, ?_⟩) (by assumption) ?_
      rotate_left 1
      · intro w hSw; (try dsimp only at hSw); go_simp; try with_reducible rfl
      try simp only [Act.put, List.getElem_toArray, List.getElem_cons_succ, List.getElem_cons_zero, List.setIfInBounds_toArray, List.set_cons_zero, List.set_cons_succ]
      refine wpAnyH_ready (rs := [3]) (by kernel_rfl) (by simp) (AllReadyH.cons rfl (fun K hK => ?_) AllReadyH.nil)
      go_simp
      refine hK.out _ _ (⟨s4.read 0, s4.inside⟩) (fun hHeld => ?_)
      clear hK K
      try simp only [Act.put, List.getElem_toArray, List.getElem_cons_succ, List.getElem_cons_zero, List.setIfInBounds_toArray, List.set_cons_zero, List.set_cons_succ]
      clear c0 c1 c2 f0 f1 f2 hin0 hin1 hin2
      have c1 : Z1.cell? ⟨w.heap.size + 1, 0, none⟩ = some (.int .i64 0) := s2.read 0
      have f1 : Z1.frozen? ⟨w.heap.size + 1, 0, none⟩ = false := s2.free 0
      have hin1 : w.heap.size + 1 < Z1.heap.size := s2.inside
      refine wpAnyH_ready (rs := [4]) (by kernel_rfl) (by simp) (AllReadyH.cons rfl (fun K hK => ?_) AllReadyH.nil)
      go_simp
      refine hK.out _ _ (⟨t4.read 0, t4.inside⟩) (fun hHeld => ?_)
      clear hK K
      try simp only [Act.put, List.getElem_toArray, List.getElem_cons_succ, List.getElem_cons_zero, List.setIfInBounds_toArray, List.set_cons_zero, List.set_cons_succ]
      have c2 : Z2.cell? ⟨w.heap.size + 2, 0, none⟩ = some (.int .i64 0) := t3.read 0
      have f2 : Z2.frozen? ⟨w.heap.size + 2, 0, none⟩ = false := t3.free 0
      have hin2 : w.heap.size + 2 < Z2.heap.size := t3.inside
      refine wpAnyH_ready (rs := [5]) (by kernel_rfl) (by simp) (AllReadyH.cons rfl (fun K hK => ?_) AllReadyH.nil)
      go_simp
      refine hK.out _ _ (⟨u4.read 0, u4.inside⟩) (fun hHeld => ?_)
      clear hK K
      try simp only [Act.put, List.getElem_toArray, List.getElem_cons_succ, List.getElem_cons_zero, List.setIfInBounds_toArray, List.set_cons_zero, List.set_cons_succ]
      refine wpAnyH_done (by kernel_rfl) ?_ _
      have u7 : Left3 w k er Z3 := ⟨⟨u1, u2, u3⟩, u5⟩
      have u8 : LeftOff w s.size (.exit 0) (pre ++ [⟨(k, t), hkt⟩]) Z3 := ⟨rfl, pre, ⟨(k, t), hkt⟩, rfl, hq, by show (tell t).2.2 ≠ 0; rw [HQ.out]; exact her, by show Left3 w k (tell t).2.2 Z3; rw [HQ.out]; exact u7⟩
      try dsimp only [Exit.inBlock, Exit.then]
      gi_wp2
      exact ⟨u6.from _, u8⟩
  case done =>
    rintro D xs W hD hxs ⟨hI, hq⟩ hK
    have hxs' : xs.map (·.1) = all := hxs
    rw [hxs'] at hI hq
    have hf : errF all = (0, 0) := by have := errF_good all [] hq; rw [List.append_nil] at this; exact this
    have hr : allRows all = rowsF all := by unfold allRows; rw [hf]; rfl
    obtain ⟨⟨⟨v, hv, hrow, -⟩, b1, b2⟩, hB⟩ := hI
    have c0 := hv.cell
    have c1 : W.cell? ⟨w.heap.size + 1, 0, none⟩ = some (.int .i64 0) := b1.read 0
    have c2 : W.cell? ⟨w.heap.size + 1 + 1, 0, none⟩ = some (.int .i64 0) := b2.read 0
    have i1 := b1.inside
    have i2 : w.heap.size + 1 + 1 < W.heap.size := b2.inside
    have i0' : w.heap.size < W.heap.size := by omega
    clear hxs hq
    try dsimp only [Exit.inBlock, Exit.then]
    go_wp2
    go_quiet (fail)
    go_wp2
    rw [Exit.noGoto_ret]
    have hKd : (W.drewN nq).heap[D]? = some (.deferred (some [])) := hK
    refine ⟨by simp, .inl ⟨_, _, rfl, run_takeDeferred hKd, ?_⟩⟩
    exact ⟨.tuple #[v, .int .i64 0, .int .i64 0], by simp [results, Tryd.results19, go_sem], v, by rw [hf]; rfl, by rw [hr]; exact ownsRow_putObj (own_draws hrow nq) _ hKd rfl, (below_drewN hB nq).trans (belowK_b (w := w) (Nat.le_refl _) (W.drewN nq) D _ _ (by omega) hKd rfl rfl)⟩
  case stop =>
    rintro D c pre W hD hSp ⟨rfl, q, x, rfl, hq, hx, hT⟩ hK
    obtain ⟨rest, hrest⟩ := hSp
    have hf : errF all = (x.1.1, (tell x.1.2).2.2) := by
      rw [← hrest, map_snoc, List.append_assoc]
      exact errF_hit _ rest _ hq hx
    have hr : allRows all = [] := by unfold allRows; rw [hf, if_neg hx]
    obtain ⟨⟨bS, b1, b2⟩, hB⟩ := hT
    have c0 : W.cell? ⟨w.heap.size, 0, none⟩ = some (.slice none 0 0) := bS.read 0
    have c1 : W.cell? ⟨w.heap.size + 1, 0, none⟩ = some (.int .i64 x.1.1) := b1.read 0
    have c2 : W.cell? ⟨w.heap.size + 1 + 1, 0, none⟩ = some (.int .i64 (tell x.1.2).2.2) := b2.read 0
    have i1 := b1.inside
    have i2 : w.heap.size + 1 + 1 < W.heap.size := b2.inside
    have i0' : w.heap.size < W.heap.size := by omega
    clear hrest
    gi_wp2
    try dsimp only [Exit.inBlock, Exit.then]
    go_wp2
    go_quiet (fail)
    go_wp2
    rw [Exit.noGoto_ret]
    have hKd : (W.drewN nq).heap[D]? = some (.deferred (some [])) := hK
    refine ⟨by simp, .inl ⟨_, _, rfl, run_takeDeferred hKd, ?_⟩⟩
    exact ⟨.tuple #[.slice none 0 0, .int .i64 x.1.1, .int .i64 (tell x.1.2).2.2], by simp [results, Tryd.results19, go_sem], .slice none 0 0, by rw [hf], by rw [hr]; exact World.ownsRow_nil _ _ _ _, (below_drewN hB nq).trans (belowK_b (w := w) (Nat.le_refl _) (W.drewN nq) D _ _ (by omega) hKd rfl rfl)⟩
end Go.Proofs.YthindbmgnkohhaaDoor
