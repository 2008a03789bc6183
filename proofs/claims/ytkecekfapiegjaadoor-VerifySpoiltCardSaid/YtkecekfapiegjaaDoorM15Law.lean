/- Several of my texts, laid as one. -/
import Derived.Test.YtkecekfapiegjaaDoorM15Tre
import Derived.Test.YtkecekfapiegjaaDoorM15Tr
import Derived.Test.YtkecekfapiegjaaDoorM7Lad
import Derived.Test.YtkecekfapiegjaaDoorM13Nod
import Derived.Test.YtkecekfapiegjaaDoorW0Lift
import Derived.SliceStrings
import Derived.Deep.Grids
/-
  What the laws of stage 15 ask: whether leaves are more than are gone through; of which leaves there is a tree.
-/
namespace Go.Proofs.YtkecekfapiegjaaDoor
set_option linter.unusedVariables false
set_option linter.unusedSimpArgs false
set_option maxRecDepth 10000
open Go.ChangeShapes Go.WideShapes Go.ChangeAt Go.RowKit

/-- Are leaves more than are gone through? -/
def greatLf (l : List Lf) : Bool := decide (70 < l.length) || l.any fun x => decide (200 < x.id.size) || decide (200 < x.salt.size)
theorem greatLf_no {l : List Lf} (h : greatLf l = false) : l.length ≤ 70 ∧ ∀ x ∈ l, x.id.size ≤ 200 ∧ x.salt.size ≤ 200 := by
  rw [greatLf, Bool.or_eq_false_iff] at h
  refine ⟨by have := of_decide_eq_false h.1; omega, fun x hx => ?_⟩
  have := List.any_eq_false.1 h.2 x hx
  simp at this
  omega
set_option maxRecDepth 100000 in
set_option maxHeartbeats 4000000 in
theorem great15_any (A : Option Addr) (c : Nat) (l : List Lf) (hl : l.length ≤ 9223372036854775807) (hf : ∀ x ∈ l, x.id.size ≤ 9223372036854775807 ∧ x.salt.size ≤ 9223372036854775807) (w : World) (h : lfS.Row w w.heap.size A l) :
    Calls Tryd.prog 19 #[.slice A l.length c] w (Plain (.bool (greatLf l)) w) := by
  have eV : greatLf l = (decide (70 < l.length) || l.any fun x => decide (200 < x.id.size) || decide (200 < x.salt.size)) := rfl
  obtain ⟨V, hV⟩ : ∃ V, greatLf l = V := ⟨_, rfl⟩
  rw [hV] at eV ⊢
  clear hV
  obtain ⟨N, hN⟩ : ∃ N, l.length = N := ⟨_, rfl⟩
  rw [hN] at eV hl ⊢
  by_cases h3 : 70 < N
  · rw [decide_eq_true h3, Bool.true_or] at eV
    subst eV
    have h3i : (70 : Int) < (N : Int) := by omega
    go_enter Tryd.func19, Tryd.ntmps19
    go_wp2
    go_ret
    exact ⟨rfl, rfl⟩
  · rw [decide_eq_false h3, Bool.false_or] at eV
    have HV := hideIt eV
    clear eV
    have h3i : ¬ (70 : Int) < (N : Int) := by omega
    go_enter Tryd.func19, Tryd.ntmps19
    go_wp2
    go_loopg [3] N (fun gk i wr => ∃ k : Nat, k ≤ N ∧ N - k ≤ gk ∧ i = .int .i64 k ∧ (∀ j x, j < k → l[j]? = some x → (decide (200 < x.id.size) || decide (200 < x.salt.size)) = false) ∧ wr = w)
    case atStart => exact ⟨0, Nat.zero_le _, by omega, rfl, fun j x hj => absurd hj (Nat.not_lt_zero _), rfl⟩
    case round =>
      obtain ⟨k, hk, hgk, rfl, hall, rfl⟩ := hrel
      have HG := hideIt hgk
      have HA := hideIt hall
      clear hgk hall
      by_cases hlt : k < N
      · obtain ⟨x, hx⟩ : ∃ x, l[k]? = some x := ⟨_, List.getElem?_eq_getElem (by omega)⟩
        have hlti : (k : Int) < (N : Int) := by omega
        obtain ⟨hx1, hx2⟩ := hf x (List.mem_of_getElem? hx)
        obtain ⟨ad, rfl, g1, p0, p1, p2, p3, p4⟩ := lf_get h hx
        have HX := hideIt hx
        obtain ⟨xp, xi, xs, xh, xl⟩ := x
        simp only at p0 p1 p2 p3 p4 hx1 hx2
        clear hx
        cases hb : (decide (200 < xi.size) || decide (200 < xs.size)) with
        | true =>
          have hyes : V = true := by
            rw [HV.out]
            exact List.any_eq_true.2 ⟨_, List.mem_of_getElem? HX.out, hb⟩
          subst hyes
          by_cases h1 : 200 < xi.size
          · have h1i : (200 : Int) < (xi.size : Int) := by omega
            clear hb
            go_wp2
            go_ret
            exact ⟨rfl, rfl⟩
          · have h2 : 200 < xs.size := by
              rw [decide_eq_false h1, Bool.false_or] at hb
              exact of_decide_eq_true hb
            have h1i : ¬ (200 : Int) < (xi.size : Int) := by omega
            have h2i : (200 : Int) < (xs.size : Int) := by omega
            clear hb
            go_wp2
            go_ret
            exact ⟨rfl, rfl⟩
        | false =>
          have HB := hideIt hb
          rw [Bool.or_eq_false_iff] at hb
          have h1 := of_decide_eq_false hb.1
          have h2 := of_decide_eq_false hb.2
          have h1i : ¬ (200 : Int) < (xi.size : Int) := by omega
          have h2i : ¬ (200 : Int) < (xs.size : Int) := by omega
          clear hb
          go_wp2
          go_roundg (N - (k + 1))
          case measure => have := HG.out; omega
          case rel => exact ⟨k + 1, by omega, Nat.le_refl _, by go_num, fun j x hj hx => by
              by_cases e : j = k
              · subst e
                rw [HX.out] at hx
                injection hx with hx
                rw [← hx]
                exact HB.out
              · exact HA.out j x (by omega) hx, rfl⟩
      · have e : k = N := by omega
        subst e
        have hno : V = false := by
          rw [HV.out]
          exact List.any_eq_false.2 fun x hx => by
            obtain ⟨j, hj⟩ := List.getElem?_of_mem hx
            rw [HA.out j x (by have := (List.getElem?_eq_some_iff.1 hj).1; omega) hj]
            decide
        subst hno
        go_wp2
        go_ret
        exact ⟨rfl, rfl⟩
theorem lf_rowL (w : World) (d : List Lf) : lfS.Row (w.alloc (.cells (lfS.flat d).toArray 34)) (w.alloc (.cells (lfS.flat d).toArray 34)).heap.size (some ⟨w.heap.size, 0, none⟩) d := Sh.row_box (S := lfS) (d := d) (Box.made w 34 (lfS.flat d).toArray)
/-- What New tells of a width and leaves. -/
def newE (n : Int) (l : List Lf) : Int := if wrongT n l = 0 then (if room (sumN (l.map (nodeOf n))) = true then 0 else 10) else wrongT n l
theorem wrongT_zero {n : Int} {l : List Lf} (h : wrongT n l = 0) : mayW n = true ∧ mayN l.length = true ∧ ∀ x ∈ l, x.may = true := by
  rw [wrongT] at h
  by_cases h1 : mayW n = true
  · rw [if_pos h1] at h
    by_cases h2 : mayN l.length = true
    · rw [if_pos h2] at h
      by_cases h3 : l.all Lf.may = true
      · exact ⟨h1, h2, List.all_eq_true.1 h3⟩
      · rw [if_neg h3] at h; cases h
    · rw [if_neg h2] at h; cases h
  · rw [if_neg h1] at h; cases h
theorem mayN_log {m : Nat} (h : mayN m = true) : m = 2 ^ Nat.log2 m ∧ Nat.log2 m ≤ 10 := by
  have := of_decide_eq_true h
  refine ⟨this.2.1, ?_⟩
  have h2 := this.2.2
  rw [this.2.1] at h2
  by_cases hh : Nat.log2 m ≤ 10
  · exact hh
  · have : 2 ^ 11 ≤ 2 ^ Nat.log2 m := Nat.pow_le_pow_right (by decide) (by omega)
    omega
theorem newE_fair {n : Int} {l : List Lf} (h : newE n l = 0) (hw : ∀ x ∈ l, Word x.h ∧ Word x.l) : FairT n l (Nat.log2 l.length) := by
  rw [newE] at h
  by_cases h0 : wrongT n l = 0
  · rw [if_pos h0] at h
    obtain ⟨h1, h2, h3⟩ := wrongT_zero h0
    obtain ⟨h4, h5⟩ := mayN_log h2
    refine ⟨h1, h4, h5, fun x hx => ⟨h3 x hx, hw x hx⟩, ?_⟩
    cases hr : room (sumN (l.map (nodeOf n))) with
    | true => rfl
    | false => rw [hr, if_neg (by decide)] at h; cases h
  · rw [if_neg h0] at h; exact absurd h h0
theorem FairT.wrong {n : Int} {l : List Lf} {k : Nat} (h : FairT n l k) : wrongT n l = 0 := by
  rw [wrongT, if_pos h.may, h.len, mayN_pow k (by have := h.few; omega), if_pos rfl, if_pos (List.all_eq_true.2 fun x hx => (h.all x hx).1)]
theorem FairT.newE {n : Int} {l : List Lf} {k : Nat} (h : FairT n l k) : newE n l = 0 := by
  rw [Go.Proofs.YtkecekfapiegjaaDoor.newE, if_pos h.wrong, if_pos h.room]
section
variable (n : Int) (A : Option Addr) (c : Nat) (l : List Lf) (w : World)
theorem new15_fair {k : Nat} (hF : FairT n l k) (hR : lfS.Row w w.heap.size A l) (hK : Tab w) (hU : TabU w) :
    Calls Tryd.prog 20 #[.int .i64 n, .slice A l.length c] w (fun e w' => Below w.heap.size w w' ∧ ∃ q : TrG, e = .returned (.tuple #[.pointer (some ⟨q.g, 0, none⟩), .int .i64 0]) ∧ TrAt w' q n l k ∧ q.within w.heap.size w'.heap.size) :=
  (new15_any n A c l k hF.may hF.len hF.few hF.all w hR hK hU).mono fun e w' h => by
    obtain ⟨hb, ⟨-, h⟩ | ⟨h, -⟩⟩ := h
    · exact ⟨hb, h⟩
    · rw [hF.room] at h; cases h
theorem new15_err (hl : l.length ≤ 9223372036854775807) (hs : ∀ x ∈ l, x.id.size ≤ 9223372036854775807 ∧ x.salt.size ≤ 9223372036854775807) (hw : ∀ x ∈ l, Word x.h ∧ Word x.l) (hE : newE n l ≠ 0) (hR : lfS.Row w w.heap.size A l) (hK : Tab w) (hU : TabU w) :
    Calls Tryd.prog 20 #[.int .i64 n, .slice A l.length c] w (Tells (.tuple #[.pointer none, .int .i64 (newE n l)]) w.heap.size w) := by
  by_cases h0 : wrongT n l = 0
  · have e : newE n l = if room (sumN (l.map (nodeOf n))) = true then 0 else 10 := by rw [newE, if_pos h0]
    obtain ⟨h1, h2, h3⟩ := wrongT_zero h0
    obtain ⟨h4, h5⟩ := mayN_log h2
    refine (new15_any n A c l (Nat.log2 l.length) h1 h4 h5 (fun x hx => ⟨h3 x hx, hw x hx⟩) w hR hK hU).mono fun e w' h => ?_
    obtain ⟨hb, ⟨hr, -⟩ | ⟨hr, h⟩⟩ := h
    · rw [newE, if_pos h0, if_pos hr] at hE; exact absurd rfl hE
    · rw [newE, if_pos h0, if_neg (by rw [hr]; decide)]; exact ⟨h, hb⟩
  · have e : newE n l = wrongT n l := by rw [newE, if_neg h0]
    rw [e]
    exact new15_bad n A c l hl hs _ rfl h0 w hR hU
end
end Go.Proofs.YtkecekfapiegjaaDoor
/-
  Nodes as arguments, opened.
-/
namespace Go.Proofs.YtkecekfapiegjaaDoor
set_option linter.unusedVariables false
set_option linter.unusedSimpArgs false
set_option maxRecDepth 10000
open Go.ChangeShapes Go.WideShapes Go.ChangeAt Go.RowKit

section
variable {H : Type} {enc : TypeId × Value → H} {W : World}
/-- A slice, wherever it stands, of things that are opened one by one. -/
theorem Sh.slice_in {α : Type} {S : Sh α} {Q : α → Prop} (ts e : TypeId) (und : (Tryd.prog).underlying ts = some (.slice e)) (hC : (Tryd.prog).cellsOf e = S.k)
    (hone : ∀ (fuel : Nat) (cs : List Value) (y : DataW H × List MemPlace), DataW.trod enc Tryd.prog W 0 (fun _ => true) true fuel e cs = some y → ∃ x : α, cs = S.cells x ∧ Q x)
    {fuel : Nat} {v : Value} {y : DataW H × List MemPlace} (hf : DataW.trod enc Tryd.prog W 0 (fun _ => true) true fuel ts [v] = some y) :
    ∃ (A : Option Addr) (c : Nat) (xs : List α), v = .slice A xs.length c ∧ xs.length ≤ 9223372036854775807 ∧ (A = none → c = 0) ∧ (∀ x ∈ xs, Q x) ∧ S.Row W W.heap.size A xs := by
  rcases Go.Deep.open_slice und hf with ⟨hc, -⟩ | ⟨a, len', cap', m, n, D, Pl, hc, hb, hl, hm, hmm, -, hi⟩
  · injection hc with hc
    subst hc
    exact ⟨none, 0, [], rfl, Nat.zero_le _, fun _ => rfl, fun x hx => by simp at hx, fun i x hx => by simp at hx⟩
  · injection hc with hc
    subst hc
    simp only [if_true] at hmm
    have each : ∀ i, i < len' → ∃ x : α, Q x ∧ S.At W (a.add (i * S.k)) x := fun i hil => by
      obtain ⟨cs', hcs, ht⟩ := hi i (by rw [hmm]; omega)
      rw [hC] at hcs
      obtain ⟨_, hcl, hat⟩ := World.cells?_some hcs
      obtain ⟨x, rfl, hx⟩ := hone _ _ _ ht
      refine ⟨x, hx, fun j u hu => ?_⟩
      have hj : j < S.k := by have := (List.getElem?_eq_some_iff.1 hu).1; rw [S.len] at this; exact this
      exact (hat j hj).trans hu
    obtain ⟨xs, hxl, hxp⟩ := gen_choose len' each
    subst hxl
    unfold maxLen at hm
    refine ⟨some a, cap', xs, rfl, by omega, (fun h => nomatch h), fun x hx => ?_, fun i x hx => ?_⟩
    · obtain ⟨i, hi', rfl⟩ := List.getElem_of_mem hx
      exact (hxp i hi').1
    · obtain ⟨hi', e⟩ := List.getElem?_eq_some_iff.1 hx
      obtain ⟨-, h0⟩ := hxp i hi'
      rw [e] at h0
      obtain ⟨v0, hv0⟩ : ∃ v, (S.cells x)[0]? = some v := ⟨_, List.getElem?_eq_getElem (by rw [S.len]; exact S.pos)⟩
      have := World.block_lt_of_cell? _ _ (h0 0 v0 hv0)
      rw [gen_block, gen_block] at this
      exact ⟨a, rfl, this, h0⟩
def Nd.fine (x : Nd) : Prop := x.hash.size ≤ 9223372036854775807 ∧ x.words
theorem num_cells {fuel : Nat} {cs : List Value} {y : DataW H × List MemPlace} (hh : DataW.trod enc Tryd.prog W 0 (fun _ => true) true fuel 22 cs = some y) : ∃ n : Int, cs = [.int .u64 n] ∧ Word n := by
  obtain ⟨h, eh, -, wh⟩ := DataW.trod_int Tryd.underlying22 hh
  exact ⟨h, eh, word_of wh⟩
theorem wide_cells {fuel : Nat} {cs : List Value} {y : DataW H × List MemPlace} (hh : DataW.trod enc Tryd.prog W 0 (fun _ => true) true fuel 24 cs = some y) : ∃ h l : Int, cs = [.int .u64 h, .int .u64 l] ∧ Word h ∧ Word l := by
  obtain ⟨y0, y1, n, -, hl, t0, t1⟩ := trod_struct2 Tryd.underlying24 hh
  have h3 : cs.length = 2 := hl.trans (show Tryd.prog.cellsOf 24 = 2 by kernel_rfl)
  obtain ⟨c0, c1, rfl⟩ : ∃ c0 c1, cs = [c0, c1] := by
    match cs, h3 with
    | [c0, c1], _ => exact ⟨c0, c1, rfl⟩
  have o0 : Tryd.prog.cellsOf 22 = 1 := by kernel_rfl
  have t0' : DataW.trod enc Tryd.prog W 0 (fun _ => true) true n 22 [c0] = some y0 := by simpa [o0] using t0
  have t1' : DataW.trod enc Tryd.prog W 0 (fun _ => true) true n 22 [c1] = some y1 := by simpa [o0] using t1
  obtain ⟨h, e1, w1⟩ := num_cells t0'
  obtain ⟨l, e2, w2⟩ := num_cells t1'
  injection e1 with e1
  injection e2 with e2
  exact ⟨h, l, by rw [e1, e2], w1, w2⟩
theorem nd_cells {fuel : Nat} {cs : List Value} {y : DataW H × List MemPlace} (hh : DataW.trod enc Tryd.prog W 0 (fun _ => true) true fuel 49 cs = some y) : ∃ x : Nd, cs = ndS.cells x ∧ x.fine := by
  obtain ⟨y0, y1, n, -, hl, t0, t1⟩ := trod_struct2 Tryd.underlying49 hh
  have h3 : cs.length = 3 := hl.trans (show Tryd.prog.cellsOf 49 = 3 by kernel_rfl)
  obtain ⟨c0, c1, c2, rfl⟩ : ∃ c0 c1 c2, cs = [c0, c1, c2] := by
    match cs, h3 with
    | [c0, c1, c2], _ => exact ⟨c0, c1, c2, rfl⟩
  have o1 : Tryd.prog.cellsOf 24 = 2 := by kernel_rfl
  have o3 : Tryd.prog.cellsOf 9 = 1 := by kernel_rfl
  have t0' : DataW.trod enc Tryd.prog W 0 (fun _ => true) true n 9 [c0] = some y0 := by simpa [o3] using t0
  have t1' : DataW.trod enc Tryd.prog W 0 (fun _ => true) true n 24 [c1, c2] = some y1 := by simpa [o1] using t1
  obtain ⟨s, es, -, ws⟩ := DataW.trod_string Tryd.underlying9 t0'
  obtain ⟨h, l, e2, w1, w2⟩ := wide_cells t1'
  injection es with es
  injection e2 with e2 e3
  injection e3 with e3
  exact ⟨⟨s, h, l⟩, by rw [es, e2, e3]; rfl, ws, w1, w2⟩
theorem nds_in {fuel : Nat} {v : Value} {y : DataW H × List MemPlace} (hf : DataW.trod enc Tryd.prog W 0 (fun _ => true) true fuel 35 [v] = some y) :
    ∃ (A : Option Addr) (c : Nat) (xs : List Nd), v = .slice A xs.length c ∧ xs.length ≤ 9223372036854775807 ∧ (A = none → c = 0) ∧ (∀ x ∈ xs, x.fine) ∧ ndS.Row W W.heap.size A xs :=
  Sh.slice_in (S := ndS) 35 49 Tryd.underlying35 (show Tryd.prog.cellsOf 49 = 3 by kernel_rfl) (fun _ _ _ h => nd_cells h) hf
end
/-- A row of nodes, opened. -/
theorem open_nds {H : Type} {enc : TypeId × Value → H} {W : World} {base : Nat} {v : Value} {d : DataW H} {p : List MemPlace} (hval : Value.okWide Tryd.prog W .any base 35 v) (h : DataW.Trod enc Tryd.prog W 0 (fun _ => true) true 35 v d p) :
    ∃ (A : Option Addr) (c : Nat) (xs : List Nd), v = .slice A xs.length c ∧ xs.length ≤ c ∧ c ≤ 9223372036854775807 ∧ (∀ x ∈ xs, x.fine) ∧ ndS.Row W W.heap.size A xs := by
  obtain ⟨a', len, cap, rfl⟩ := okWide_slice Tryd.underlying35 hval
  obtain ⟨fuel, hf⟩ := h
  have hf : DataW.trod enc Tryd.prog W 0 (fun _ => true) true fuel 35 [Value.slice a' len cap] = some (d, p) := hf
  obtain ⟨A, c, xs, e, h1, h2, h3, h4⟩ := nds_in hf
  injection e with e1 e2 e3
  subst e1 e2 e3
  have hb : xs.length ≤ cap ∧ cap ≤ 9223372036854775807 := by
    rcases Go.Deep.open_slice Tryd.underlying35 hf with ⟨hc, -⟩ | ⟨a, len', cap', m, n, D, Pl, hc, hb, hl, hm, -⟩
    · simp only [List.cons.injEq, Value.slice.injEq, and_true] at hc
      omega
    · simp only [List.cons.injEq, Value.slice.injEq, and_true] at hc
      unfold maxLen at hm
      omega
  exact ⟨a', cap, xs, rfl, hb.1, hb.2, h3, h4⟩
/-- A node, opened. -/
theorem open_nd {H : Type} {enc : TypeId × Value → H} {W : World} {base : Nat} {v : Value} {d : DataW H} {p : List MemPlace} (hval : Value.okWide Tryd.prog W .any base 49 v)
    (h : DataW.Trod enc Tryd.prog W 0 (fun _ => true) true 49 v d p) : ∃ x : Nd, v = x.val ∧ x.fine := by
  obtain ⟨cs, rfl, hsz⟩ := okWide_struct Tryd.underlying49 hval
  obtain ⟨fuel, hf⟩ := h
  obtain ⟨x, hx, hf⟩ := nd_cells hf
  refine ⟨x, ?_, hf⟩
  have e : cs.toList = ndS.cells x := hx
  obtain rfl : cs = (ndS.cells x).toArray := Array.ext' e
  rfl
end Go.Proofs.YtkecekfapiegjaaDoor
/-
  Rows of leaves, and of acts, as arguments, opened.
-/
namespace Go.Proofs.YtkecekfapiegjaaDoor
set_option linter.unusedVariables false
set_option linter.unusedSimpArgs false
set_option maxRecDepth 10000
open Go.ChangeShapes Go.WideShapes Go.ChangeAt Go.RowKit

theorem byte_of {x : Int} (h : (Lit.int .u8 x).wf = true) : 0 ≤ x ∧ x < 256 := by
  simp [Lit.wf, IntKind.min, IntKind.max, IntKind.signed, IntKind.bits] at h
  exact ⟨by omega, by omega⟩
theorem half_of {x : Int} (h : (Lit.int .u16 x).wf = true) : 0 ≤ x ∧ x < 65536 := by
  simp [Lit.wf, IntKind.min, IntKind.max, IntKind.signed, IntKind.bits] at h
  exact ⟨by omega, by omega⟩
def Lf.fine15 (x : Lf) : Prop := (x.id.size ≤ 9223372036854775807 ∧ x.salt.size ≤ 9223372036854775807) ∧ Word x.h ∧ Word x.l
section
variable {H : Type} {enc : TypeId × Value → H} {W : World}
theorem lf_cells15 {fuel : Nat} {cs : List Value} {y : DataW H × List MemPlace} (hh : DataW.trod enc Tryd.prog W 0 (fun _ => true) true fuel 34 cs = some y) : ∃ x : Lf, cs = lfS.cells x ∧ x.fine15 := by
  obtain ⟨y0, y1, y2, y3, n, -, hl, t0, t1, t2, t3⟩ := Go.Joins.trod_struct4 Tryd.underlying34 hh
  have h3 : cs.length = 5 := hl.trans (show Tryd.prog.cellsOf 34 = 5 by kernel_rfl)
  obtain ⟨c0, c1, c2, c3, c4, rfl⟩ : ∃ c0 c1 c2 c3 c4, cs = [c0, c1, c2, c3, c4] := by
    match cs, h3 with
    | [c0, c1, c2, c3, c4], _ => exact ⟨c0, c1, c2, c3, c4, rfl⟩
  have o1 : Tryd.prog.cellsOf 24 = 2 := by kernel_rfl
  have o2 : Tryd.prog.cellsOf 4 = 1 := by kernel_rfl
  have o3 : Tryd.prog.cellsOf 9 = 1 := by kernel_rfl
  have t0' : DataW.trod enc Tryd.prog W 0 (fun _ => true) true n 4 [c0] = some y0 := by simpa [o2] using t0
  have t1' : DataW.trod enc Tryd.prog W 0 (fun _ => true) true n 9 [c1] = some y1 := by simpa [o3] using t1
  have t2' : DataW.trod enc Tryd.prog W 0 (fun _ => true) true n 9 [c2] = some y2 := by simpa [o3] using t2
  have t3' : DataW.trod enc Tryd.prog W 0 (fun _ => true) true n 24 [c3, c4] = some y3 := by simpa [o1] using t3
  obtain ⟨b, eb, -⟩ := DataW.trod_bool Tryd.underlying4 t0'
  obtain ⟨i, ei, -, wi⟩ := DataW.trod_string Tryd.underlying9 t1'
  obtain ⟨s, es, -, ws⟩ := DataW.trod_string Tryd.underlying9 t2'
  obtain ⟨h, l, e2, w1, w2⟩ := wide_cells t3'
  injection eb with eb
  injection ei with ei
  injection es with es
  injection e2 with e2 e3
  injection e3 with e3
  exact ⟨⟨b, i, s, h, l⟩, by rw [eb, ei, es, e2, e3]; rfl, ⟨wi, ws⟩, w1, w2⟩
theorem lfs_in15 {fuel : Nat} {v : Value} {y : DataW H × List MemPlace} (hf : DataW.trod enc Tryd.prog W 0 (fun _ => true) true fuel 52 [v] = some y) :
    ∃ (A : Option Addr) (c : Nat) (xs : List Lf), v = .slice A xs.length c ∧ xs.length ≤ 9223372036854775807 ∧ (A = none → c = 0) ∧ (∀ x ∈ xs, x.fine15) ∧ lfS.Row W W.heap.size A xs :=
  Sh.slice_in (S := lfS) 52 34 Tryd.underlying52 (show Tryd.prog.cellsOf 34 = 5 by kernel_rfl) (fun _ _ _ h => lf_cells15 h) hf
end
/-- A row of leaves, opened. -/
theorem open_lfs15 {H : Type} {enc : TypeId × Value → H} {W : World} {base : Nat} {v : Value} {d : DataW H} {p : List MemPlace} (hval : Value.okWide Tryd.prog W .any base 52 v) (h : DataW.Trod enc Tryd.prog W 0 (fun _ => true) true 52 v d p) :
    ∃ (A : Option Addr) (c : Nat) (xs : List Lf), v = .slice A xs.length c ∧ xs.length ≤ c ∧ c ≤ 9223372036854775807 ∧ (∀ x ∈ xs, x.fine15) ∧ lfS.Row W W.heap.size A xs := by
  obtain ⟨a', len, cap, rfl⟩ := okWide_slice Tryd.underlying52 hval
  obtain ⟨fuel, hf⟩ := h
  have hf : DataW.trod enc Tryd.prog W 0 (fun _ => true) true fuel 52 [Value.slice a' len cap] = some (d, p) := hf
  obtain ⟨A, c, xs, e, h1, h2, h3, h4⟩ := lfs_in15 hf
  injection e with e1 e2 e3
  subst e1 e2 e3
  have hb : xs.length ≤ cap ∧ cap ≤ 9223372036854775807 := by
    rcases Go.Deep.open_slice Tryd.underlying52 hf with ⟨hc, -⟩ | ⟨a, len', cap', m, n, D, Pl, hc, hb, hl, hm, -⟩
    · simp only [List.cons.injEq, Value.slice.injEq, and_true] at hc
      omega
    · simp only [List.cons.injEq, Value.slice.injEq, and_true] at hc
      unfold maxLen at hm
      omega
  exact ⟨a', cap, xs, rfl, hb.1, hb.2, h3, h4⟩
/-- A leaf that is set, and whether a copy goes on. -/
structure ActP where
  pos : Int
  l : Lf
  cp : Bool
def actS : Sh ActP where
  cells x := [.int .u64 x.pos, .bool x.l.pad, .string x.l.id, .string x.l.salt, .int .u64 x.l.h, .int .u64 x.l.l, .bool x.cp]
  k := 7
  len _ := rfl
  pos := by decide
  one x u hu := by
    simp only [List.mem_cons, List.not_mem_nil, or_false] at hu
    rcases hu with rfl | rfl | rfl | rfl | rfl | rfl | rfl <;> rfl
theorem act_get {w : World} {B : Nat} {A : Option Addr} {xs : List ActP} (h : actS.Row w B A xs) {i : Nat} {x : ActP} (hx : xs[i]? = some x) : ∃ ad, A = some ad ∧ (ad.add (i * 7)).block < B ∧
    w.cell? (ad.add (i * 7)) = some (.int .u64 x.pos) ∧ w.cell? ⟨(ad.add (i * 7)).block, (ad.add (i * 7)).off + 1, none⟩ = some (.bool x.l.pad) ∧ w.cell? ⟨(ad.add (i * 7)).block, (ad.add (i * 7)).off + 2, none⟩ = some (.string x.l.id) ∧ w.cell? ⟨(ad.add (i * 7)).block, (ad.add (i * 7)).off + 3, none⟩ = some (.string x.l.salt) ∧
    w.cell? ⟨(ad.add (i * 7)).block, (ad.add (i * 7)).off + 4, none⟩ = some (.int .u64 x.l.h) ∧ w.cell? ⟨(ad.add (i * 7)).block, (ad.add (i * 7)).off + 5, none⟩ = some (.int .u64 x.l.l) ∧ w.cell? ⟨(ad.add (i * 7)).block, (ad.add (i * 7)).off + 6, none⟩ = some (.bool x.cp) := by
  obtain ⟨ad, e, hl, hc⟩ := h i x hx
  exact ⟨ad, e, by rw [gen_block]; exact hl, hc 0 _ rfl, hc 1 _ rfl, hc 2 _ rfl, hc 3 _ rfl, hc 4 _ rfl, hc 5 _ rfl, hc 6 _ rfl⟩
end Go.Proofs.YtkecekfapiegjaaDoor
