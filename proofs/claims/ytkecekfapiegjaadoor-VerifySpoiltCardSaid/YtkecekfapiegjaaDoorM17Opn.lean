/- Several of my texts, laid as one. -/
import Derived.Test.YtkecekfapiegjaaDoorM16Law
import Derived.Test.YtkecekfapiegjaaDoorM13Nod
import Derived.Test.YtkecekfapiegjaaDoorM17Clm
/-
  Roots and rows of entries as arguments, opened; whether entries are more than are gone through.
-/
namespace Go.Proofs.YtkecekfapiegjaaDoor
set_option linter.unusedVariables false
set_option linter.unusedSimpArgs false
set_option maxRecDepth 10000
open Go.ChangeShapes Go.WideShapes Go.ChangeAt Go.RowKit

/-- A root that came in. -/
def RtP.fine17 (x : RtP) : Prop := x.hash.size ≤ 9223372036854775807 ∧ (Word x.h ∧ Word x.l) ∧ -9223372036854775808 ≤ x.n ∧ x.n < 9223372036854775808
theorem open_root17 {H : Type} {enc : TypeId × Value → H} {W : World} {base : Nat} {v : Value} {d : DataW H} {p : List MemPlace} (hval : Value.okWide Tryd.prog W .any base 26 v)
    (h : DataW.Trod enc Tryd.prog W 0 (fun _ => true) true 26 v d p) : ∃ x : RtP, v = x.val ∧ x.hash.size ≤ 9223372036854775807 ∧ (Word x.h ∧ Word x.l) ∧ -9223372036854775808 ≤ x.n ∧ x.n < 9223372036854775808 := by
  obtain ⟨cs, rfl, hsz⟩ := okWide_struct Tryd.underlying26 hval
  obtain ⟨fuel, hf⟩ := h
  obtain ⟨y0, y1, y2, n, -, hl, t0, t1, t2⟩ := Go.Deep.trod_struct3 Tryd.underlying26 hf
  have h4 : cs.toList.length = 4 := hl.trans (show Tryd.prog.cellsOf 26 = 4 by kernel_rfl)
  obtain ⟨c0, c1, c2, c3, hc⟩ : ∃ c0 c1 c2 c3, cs.toList = [c0, c1, c2, c3] := by
    match cs.toList, h4 with
    | [c0, c1, c2, c3], _ => exact ⟨c0, c1, c2, c3, rfl⟩
  have hcs : cs = #[c0, c1, c2, c3] := Array.ext' hc
  subst hcs
  have o0 : Tryd.prog.cellsOf 3 = 1 := by kernel_rfl
  have o1 : Tryd.prog.cellsOf 24 = 2 := by kernel_rfl
  have o3 : Tryd.prog.cellsOf 9 = 1 := by kernel_rfl
  have t0' : DataW.trod enc Tryd.prog W 0 (fun _ => true) true n 9 [c0] = some y0 := by simpa [Value.cells, o3] using t0
  have t1' : DataW.trod enc Tryd.prog W 0 (fun _ => true) true n 24 [c1, c2] = some y1 := by simpa [Value.cells, o1] using t1
  have t2' : DataW.trod enc Tryd.prog W 0 (fun _ => true) true n 3 [c3] = some y2 := by simpa [Value.cells, o0] using t2
  obtain ⟨s, es, -, ws⟩ := DataW.trod_string Tryd.underlying9 t0'
  obtain ⟨h, l, e2, w1, w2⟩ := wide_cells t1'
  obtain ⟨m, em, -, wm⟩ := DataW.trod_int Tryd.underlying3 t2'
  injection es with es
  injection e2 with e2 e3
  injection e3 with e3
  injection em with em
  subst es e2 e3 em
  refine ⟨⟨s, h, l, m⟩, rfl, ws, ⟨w1, w2⟩, ?_⟩
  simp [Lit.wf, IntKind.min, IntKind.max, IntKind.signed, IntKind.bits] at wm
  simp only
  omega

/-- Entries in a row, each with the row of its sides. -/
def EnsAt (W : World) (ms : List EnM) (S : Nat → List Nd) : Prop := ∀ (i : Nat) m, ms[i]? = some m → m.lf.fine15 ∧ Word m.pos ∧ m.n = (S i).length ∧ (S i).length ≤ 9223372036854775807 ∧ (∀ y ∈ S i, y.fine) ∧ ndS.Row W W.heap.size m.A (S i)
theorem EnsAt.on {W W' : World} {ms : List EnM} {S : Nat → List Nd} (h : EnsAt W ms S) (hb : Below W.heap.size W W') : EnsAt W' ms S := fun i m hm => by
  obtain ⟨h1, h2, h3, h4, h5, h6⟩ := h i m hm
  exact ⟨h1, h2, h3, h4, h5, h6.on hb⟩
section
variable {H : Type} {enc : TypeId × Value → H} {W : World}
theorem en_cells17 {fuel : Nat} {cs : List Value} {y : DataW H × List MemPlace} (hh : DataW.trod enc Tryd.prog W 0 (fun _ => true) true fuel 39 cs = some y) :
    ∃ m : EnM, cs = enS.cells m ∧ (m.lf.fine15 ∧ Word m.pos ∧ ∃ l : List Nd, m.n = l.length ∧ l.length ≤ 9223372036854775807 ∧ (∀ y ∈ l, y.fine) ∧ ndS.Row W W.heap.size m.A l) := by
  obtain ⟨y0, y1, n, -, hl, t0, t1⟩ := trod_struct2 Tryd.underlying39 hh
  have h4 : cs.length = 7 := hl.trans (show Tryd.prog.cellsOf 39 = 7 by kernel_rfl)
  obtain ⟨c0, c1, c2, c3, c4, c5, c6, rfl⟩ : ∃ c0 c1 c2 c3 c4 c5 c6, cs = [c0, c1, c2, c3, c4, c5, c6] := by
    match cs, h4 with
    | [c0, c1, c2, c3, c4, c5, c6], _ => exact ⟨c0, c1, c2, c3, c4, c5, c6, rfl⟩
  have o0 : Tryd.prog.cellsOf 22 = 1 := by kernel_rfl
  have o1 : Tryd.prog.cellsOf 34 = 5 := by kernel_rfl
  have o2 : Tryd.prog.cellsOf 37 = 2 := by kernel_rfl
  have o3 : Tryd.prog.cellsOf 35 = 1 := by kernel_rfl
  have t0' : DataW.trod enc Tryd.prog W 0 (fun _ => true) true n 34 [c0, c1, c2, c3, c4] = some y0 := by simpa [Value.cells, o1] using t0
  have t1' : DataW.trod enc Tryd.prog W 0 (fun _ => true) true n 37 [c5, c6] = some y1 := by simpa [Value.cells, o1, o2] using t1
  obtain ⟨z0, z1, k, -, -, s0, s1⟩ := trod_struct2 Tryd.underlying37 t1'
  have s0' : DataW.trod enc Tryd.prog W 0 (fun _ => true) true k 22 [c5] = some z0 := by simpa [o0] using s0
  have s1' : DataW.trod enc Tryd.prog W 0 (fun _ => true) true k 35 [c6] = some z1 := by simpa [o3] using s1
  obtain ⟨x, e0, w0⟩ := lf_cells15 t0'
  obtain ⟨q, e1, w1⟩ := num_cells s0'
  obtain ⟨A, c, xs, rfl, w2, w3, w4, w5⟩ := nds_in s1'
  injection e0 with e0 f0
  injection f0 with f0 f1
  injection f1 with f1 f2
  injection f2 with f2 f3
  injection f3 with f3 f4
  injection e1 with e1
  subst e0 f0 f1 f2 f3 e1
  exact ⟨⟨x, q, A, xs.length, c⟩, rfl, w0, w1, xs, rfl, w2, w4, w5⟩
theorem open_entries17 {base : Nat} {v : Value} {d : DataW H} {p : List MemPlace} (hval : Value.okWide Tryd.prog W .any base 27 v) (h : DataW.Trod enc Tryd.prog W 0 (fun _ => true) true 27 v d p) :
    ∃ (A : Option Addr) (c : Nat) (ms : List EnM) (S : Nat → List Nd), v = .slice A ms.length c ∧ ms.length ≤ 9223372036854775807 ∧ enS.Row W W.heap.size A ms ∧ EnsAt W ms S := by
  obtain ⟨a', len, cap, rfl⟩ := okWide_slice Tryd.underlying27 hval
  obtain ⟨fuel, hf⟩ := h
  have hf : DataW.trod enc Tryd.prog W 0 (fun _ => true) true fuel 27 [Value.slice a' len cap] = some (d, p) := hf
  obtain ⟨A, c, xs, e, h1, -, h3, h4⟩ := Sh.slice_in (S := enS) 27 39 Tryd.underlying27 (show Tryd.prog.cellsOf 39 = 7 by kernel_rfl) (fun _ _ _ h => en_cells17 h) hf
  obtain ⟨S, hS⟩ := Classical.axiomOfChoice (r := fun (i : Nat) (l : List Nd) => ∀ m, xs[i]? = some m → m.n = l.length ∧ l.length ≤ 9223372036854775807 ∧ (∀ y ∈ l, y.fine) ∧ ndS.Row W W.heap.size m.A l) (fun i => by
    cases hx : xs[i]? with
    | none => exact ⟨[], fun m hm => by cases hm⟩
    | some m =>
      obtain ⟨-, -, l, q⟩ := h3 m (List.mem_of_getElem? hx)
      exact ⟨l, fun m' hm => by injection hm with hm; subst hm; exact q⟩)
  refine ⟨A, c, xs, S, e, h1, h4, fun i m hm => ?_⟩
  obtain ⟨g1, g2, -⟩ := h3 m (List.mem_of_getElem? hm)
  exact ⟨g1, g2, hS i m hm⟩
end
theorem info_nd17 : (Tryd.prog.info? 49).map (fun i => (i.zero, i.size, i.bytes)) = some (some (.agg #[.string ⟨#[]⟩, .int .u64 0, .int .u64 0]), 3, 32) := by kernel_rfl
/-- A copy of nodes, appended to none. -/
theorem nd_copy17 (w : World) (A : Option Addr) (c : Nat) (xs : List Nd) (hm : xs.length ≤ 1000000) (hR : ndS.Row w w.heap.size A xs) :
    ∃ A' c' w', (∀ ty, (Builtin.append_ #[35, 35] ty #[.slice (some ⟨w.heap.size, 0, none⟩) 0 0, .slice A xs.length c]).run Tryd.prog (w.alloc (.cells #[] 49)) = .ok (.slice A' xs.length c') w') ∧
      SdAt w' w.heap.size A' xs ∧ Below w.heap.size w w' := by
  have L0 : Below w.heap.size w (w.alloc (.cells #[] 49)) := chainA (Below.refl _ _) _
  cases A with
  | none =>
    have e : xs = [] := hR.none_
    subst e
    obtain ⟨i0, hi, hz0, hz1, hz2⟩ := info_parts info_nd17
    exact ⟨some ⟨w.heap.size, 0, none⟩, 0, w.alloc (.cells #[] 49), fun ty => by simp [Builtin.append_, Builtin.lenOf, Builtin.firstCells, run_underlying Tryd.underlying35, sizeOf, typeInfo, hi, hz1, storeCells], Or.inl rfl, L0⟩
  | some ad =>
    have own0 : (w.alloc (.cells #[] 49)).ownsRow w.heap.size 49 3 (.slice (some ⟨w.heap.size, 0, none⟩) 0 0) 0 (ndS.flat []) :=
      ⟨rfl, .inr ⟨w.heap.size, 0, #[], rfl, Nat.le_refl _, Box.made w 49 #[], Nat.le_refl _, Nat.zero_le _, rfl, rfl⟩⟩
    obtain ⟨v', w', hr, h2, h3, -⟩ := ndE.app (w.alloc (.cells #[] 49)) w.heap.size _ 0 [] own0 ad xs.length c xs rfl ((hR.call L0).cells) (by omega) (by simp) (N := xs.length) (Nat.zero_add _)
    rw [List.nil_append] at h2
    obtain ⟨A2, c2, rfl, h5, -⟩ := SdAt.of_own h2
    exact ⟨A2, c2, w', hr, h5, L0.grown h3 (by simp) (fun j hj => by injection hj with hj; subst hj; exact Nat.le_refl _)⟩
end Go.Proofs.YtkecekfapiegjaaDoor
/-
  Package verify's All; the law's guard for entries.
-/
namespace Go.Proofs.YtkecekfapiegjaaDoor
set_option linter.unusedVariables false
set_option linter.unusedSimpArgs false
set_option maxRecDepth 10000
open Go.RowKit

/-- The first of so many values that isn't nought, and its place. -/
def FirstV (V : Nat → Int) (N k : Nat) (E : Int) : Prop := k ≤ N ∧ (∀ j, j < k → V j = 0) ∧ ((k = N ∧ E = 0) ∨ (k < N ∧ V k ≠ 0 ∧ E = V k))
theorem FirstV.once {V : Nat → Int} {N k k' : Nat} {E E' : Int} (h : FirstV V N k E) (h' : FirstV V N k' E') : k = k' ∧ E = E' := by
  obtain ⟨a1, a2, a3⟩ := h
  obtain ⟨b1, b2, b3⟩ := h'
  have e : k = k' := by
    rcases Nat.lt_trichotomy k k' with hlt | e | hlt
    · rcases a3 with ⟨c1, -⟩ | ⟨c1, c2, -⟩
      · omega
      · exact absurd (b2 k hlt) c2
    · exact e
    · rcases b3 with ⟨c1, -⟩ | ⟨c1, c2, -⟩
      · omega
      · exact absurd (a2 k' hlt) c2
  subst e
  refine ⟨rfl, ?_⟩
  rcases a3 with ⟨c1, c2⟩ | ⟨c1, c2, c3⟩ <;> rcases b3 with ⟨d1, d2⟩ | ⟨d1, d2, d3⟩
  · rw [c2, d2]
  · omega
  · omega
  · rw [c3, d3]
set_option maxRecDepth 100000 in
set_option maxHeartbeats 4000000 in
theorem all17_any (r : RtP) (A : Option Addr) (c : Nat) (ms : List EnM) (hl : ms.length ≤ 1000000000) (V : Nat → Int) (w : World) (hR : enS.Row w w.heap.size A ms)
    (hC : ∀ (i : Nat) m u, ms[i]? = some m → Below w.heap.size w u → Calls Tryd.prog 13 #[r.val, .agg (enV m.lf m.pos m.A m.n m.c)] u (Tells (.int .i64 (V i)) u.heap.size u)) :
    Calls Tryd.prog 14 #[r.val, .slice A ms.length c] w (fun e w' => Below w.heap.size w w' ∧ ∃ k E, e = .returned (.tuple #[.int .i64 (k : Nat), .int .i64 E]) ∧ FirstV V ms.length k E) := by
  obtain ⟨N, hN⟩ : ∃ N, ms.length = N := ⟨_, rfl⟩
  rw [hN] at hl ⊢
  have HN := hideIt hN
  clear hN
  obtain ⟨rs, rh', rl', rn⟩ := r
  obtain ⟨ge, hge⟩ : ∃ g, w.heap.size = g := ⟨_, rfl⟩
  have J0 := (Has.start w).addAt 26 (rtB rs rh' rl' rn) (g := ge) hge
  simp only [RtP.val] at hC
  show Calls _ _ #[.agg (rtB rs rh' rl' rn), _] _ _
  go_enter Tryd.func14, Tryd.ntmps14
  go_upto_region 1 with fail
  change Code.wp _ _ _ _ (w.alloc (.cells (rtB rs rh' rl' rn) 26))
  generalize w.alloc (.cells (rtB rs rh' rl' rn) 26) = W1 at *
  go_wp2
  go_loopg [11] N (fun gk i wr => ∃ k : Nat, k ≤ N ∧ N - k ≤ gk ∧ i = .int .i64 k ∧ (∀ j, j < k → V j = 0) ∧ Has w [(ge, 26, rtB rs rh' rl' rn)] wr)
  case atStart => exact ⟨0, Nat.zero_le _, by omega, rfl, fun j hj => absurd hj (Nat.not_lt_zero _), J0⟩
  case round =>
    obtain ⟨k, hk, hgk, rfl, hall, J⟩ := hrel
    have HG := hideIt hgk
    have HA := hideIt hall
    clear hgk hall J0
    by_cases hlt : k < N
    · obtain ⟨m, hm⟩ : ∃ m, ms[k]? = some m := ⟨_, List.getElem?_eq_getElem (by rw [HN.out]; omega)⟩
      have hlti : (k : Int) < (N : Int) := by omega
      obtain ⟨ad, rfl, g1, p0, p1, p2, p3, p4, p5, p6⟩ := en_get (hR.on J.below) hm
      have K := J.add 39 (enV m.lf m.pos m.A m.n m.c)
      have cK := hC k m _ hm K.below
      obtain ⟨E, hE⟩ : ∃ E, V k = E := ⟨_, rfl⟩
      rw [hE] at cK
      have HE := hideIt hE
      clear hE hC hm
      obtain ⟨⟨mp, mi, mss, mh, ml⟩, mq, mA, mn, mc⟩ := m
      simp only at p0 p1 p2 p3 p4 p5 p6 cK K
      obtain ⟨⟨x0, x1, x2, x3, x4, x5, x6⟩, xin⟩ := (K.box 0).seven
      obtain ⟨⟨y0, y1, y2, y3⟩, -, yin⟩ := (K.box 1).four4
      by_cases hz : E = 0
      · subst hz
        go_wp2_with (first | (go_at_call 13; refine cK.mono ?_; rintro e w2 ⟨rfl, b2⟩; have K2 := K.tail.call b2) | fail)
        go_roundg (N - (k + 1))
        case measure => have := HG.out; omega
        case rel => exact ⟨k + 1, by omega, Nat.le_refl _, by go_num, fun j hj => by
            by_cases e : j = k
            · rw [e]; exact HE.out
            · exact HA.out j (by omega), K2⟩
      · have q0 : (E != 0) = true := bne_iff_ne.2 hz
        go_wp2_with (first | (go_at_call 13; refine cK.mono ?_; rintro e w2 ⟨rfl, b2⟩; have K2 := K.tail.call b2) | fail)
        refine bodyPost_ret (v := .tuple #[.int .i64 (k : Nat), .int .i64 E]) (by simp [results, Tryd.results14, go_sem]) rfl ?_
        exact ⟨by first | exact K2.below | (rw [← hge]; exact K2.below), k, E, rfl, by omega, HA.out, Or.inr ⟨hlt, by rw [HE.out]; exact hz, HE.out.symm⟩⟩
    · have e : k = N := by omega
      subst e
      have hlti : ¬ (k : Int) < (k : Int) := by omega
      go_wp2
      refine bodyPost_ret (v := .tuple #[.int .i64 (k : Nat), .int .i64 0]) (by simp [results, Tryd.results14, go_sem]) rfl ?_
      exact ⟨by first | exact J.below | (rw [← hge]; exact J.below), k, 0, rfl, Nat.le_refl _, HA.out, Or.inl ⟨rfl, rfl⟩⟩
def LongP (r : RtP) (ms : List EnM) (S : Nat → List Nd) (e : Ending) : Prop :=
  e = .returned (.bool true) ∨ e = .returned (.bool false) ∧ ms.length ≤ 40 ∧ r.hash.size ≤ 60 ∧ ∀ (i : Nat) m, ms[i]? = some m → longE m.lf (S i) = false
set_option maxRecDepth 100000 in
set_option maxHeartbeats 4000000 in
theorem long17_any (r : RtP) (hr : r.hash.size ≤ 9223372036854775807) (A : Option Addr) (c : Nat) (ms : List EnM) (S : Nat → List Nd) (hl : ms.length ≤ 9223372036854775807) (w : World) (hR : enS.Row w w.heap.size A ms) (hE : EnsAt w ms S) :
    Calls Tryd.prog 9 #[r.val, .slice A ms.length c] w (fun e w' => Below w.heap.size w w' ∧ LongP r ms S e) := by
  obtain ⟨N, hN⟩ : ∃ N, ms.length = N := ⟨_, rfl⟩
  rw [hN] at hl
  rw [hN]
  have HN := hideIt hN
  clear hN
  obtain ⟨rs, rh', rl', rn⟩ := r
  obtain ⟨R, hRs⟩ : ∃ R, rs.size = R := ⟨_, rfl⟩
  simp only at hr
  rw [hRs] at hr
  obtain ⟨ge, hge⟩ : ∃ g, w.heap.size = g := ⟨_, rfl⟩
  have J0 := (Has.start w).addAt 26 (rtB rs rh' rl' rn) (g := ge) hge
  obtain ⟨⟨y0, y1, y2, y3⟩, -, yin⟩ := (J0.box 0).four4
  show Calls _ _ #[.agg (rtB rs rh' rl' rn), _] _ _
  by_cases h1 : 40 < N
  · have h1i : (40 : Int) < (N : Int) := by omega
    go_enter Tryd.func9, Tryd.ntmps9
    go_wp2
    go_ret
    exact ⟨by first | exact J0.below | (rw [← hge]; exact J0.below), Or.inl rfl⟩
  · have h1i : ¬ (40 : Int) < (N : Int) := by omega
    by_cases h2 : 60 < R
    · have h2i : (60 : Int) < (R : Int) := by omega
      go_enter Tryd.func9, Tryd.ntmps9
      go_wp2
      go_ret
      exact ⟨by first | exact J0.below | (rw [← hge]; exact J0.below), Or.inl rfl⟩
    · have h2i : ¬ (60 : Int) < (R : Int) := by omega
      go_enter Tryd.func9, Tryd.ntmps9
      go_upto_region 3 with fail
      change Code.wp _ _ _ _ (w.alloc (.cells (rtB rs rh' rl' rn) 26))
      clear y0 y1 y2 y3 yin
      generalize w.alloc (.cells (rtB rs rh' rl' rn) 26) = W1 at *
      go_wp2
      go_loopg [5] N (fun gk i wr => ∃ k : Nat, k ≤ N ∧ N - k ≤ gk ∧ i = .int .i64 k ∧ (∀ j m, j < k → ms[j]? = some m → longE m.lf (S j) = false) ∧ Has w [(ge, 26, rtB rs rh' rl' rn)] wr)
      case atStart => exact ⟨0, Nat.zero_le _, by omega, rfl, fun j m hj => absurd hj (Nat.not_lt_zero _), J0⟩
      case round =>
        obtain ⟨k, hk, hgk, rfl, hall, J⟩ := hrel
        have HG := hideIt hgk
        have HA := hideIt hall
        clear hgk hall J0
        by_cases hlt : k < N
        · obtain ⟨m, hm⟩ : ∃ m, ms[k]? = some m := ⟨_, List.getElem?_eq_getElem (by rw [HN.out]; omega)⟩
          have hlti : (k : Int) < (N : Int) := by omega
          obtain ⟨ad, rfl, g1, p0, p1, p2, p3, p4, p5, p6⟩ := en_get (hR.on J.below) hm
          obtain ⟨q1, q2, q3, q4, q5, q6⟩ := (hE.on J.below) k m hm
          have cL := fun c => long16_any m.lf m.pos m.A c (S k) q4 (fun y hy => (q5 y hy).1) q1.1 wr q6
          obtain ⟨B, hB⟩ : ∃ B, longE m.lf (S k) = B := ⟨_, rfl⟩
          rw [hB, ← q3] at cL
          have HB := hideIt hB
          have HM := hideIt hm
          clear hB hm q1 q2 q3 q4 q5 q6
          obtain ⟨⟨mp, mi, mss, mh, ml⟩, mq, mA, mn, mc⟩ := m
          simp only at p0 p1 p2 p3 p4 p5 p6 cL
          cases B with
          | true =>
            go_wp2_with (first | (go_at_call 15; refine (cL _).mono ?_; rintro e w2 ⟨rfl, b2⟩; have K2 := J.call b2) | fail)
            go_ret
            exact ⟨by first | exact K2.below | (rw [← hge]; exact K2.below), Or.inl rfl⟩
          | false =>
            go_wp2_with (first | (go_at_call 15; refine (cL _).mono ?_; rintro e w2 ⟨rfl, b2⟩; have K2 := J.call b2) | fail)
            go_roundg (N - (k + 1))
            case measure => have := HG.out; omega
            case rel => exact ⟨k + 1, by omega, Nat.le_refl _, by go_num, fun j m hj hjm => by
                by_cases e : j = k
                · subst e
                  rw [HM.out] at hjm
                  injection hjm with hjm
                  rw [← hjm]
                  exact HB.out
                · exact HA.out j m (by omega) hjm, K2⟩
        · have e : k = N := by omega
          subst e
          have hlti : ¬ (k : Int) < (k : Int) := by omega
          go_wp2
          go_ret
          exact ⟨by first | exact J.below | (rw [← hge]; exact J.below), Or.inr ⟨rfl, by have := HN.out; omega, by simp only; omega, fun i m hm => HA.out i m (by have := (List.getElem?_eq_some_iff.1 hm).1; rw [HN.out] at this; exact this) hm⟩⟩
end Go.Proofs.YtkecekfapiegjaaDoor
