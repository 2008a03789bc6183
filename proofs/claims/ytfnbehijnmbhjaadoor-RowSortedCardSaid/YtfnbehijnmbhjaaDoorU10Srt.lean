/-
  Package row's Sort, walked.
-/
import Derived.Test.YtfnbehijnmbhjaaDoorU10Stab
import Derived.Test.YtfnbehijnmbhjaaDoorU5Clone
import Derived.Test.YtfnbehijnmbhjaaDoorT10Row
import Derived.Test.YtfnbehijnmbhjaaDoorW5Round
import Derived.Laws.CopyRow
namespace Go.Proofs.YtfnbehijnmbhjaaDoor
set_option linter.unusedVariables false
set_option linter.unusedSimpArgs false
set_option maxRecDepth 10000
open Go.RowKit Go.Sort

theorem infoS_row : (Tryd.prog.info? 26).map (fun i => (i.zero, i.size, i.bytes)) = some (some (.agg #[.string ⟨#[]⟩, .int .u64 0, .int .u64 0]), 3, 32) := by kernel_rfl
theorem made_size (z : Array Value) (n : Nat) : (madeCells z n).size = n := by simp [madeCells]
theorem make_rows (n : Nat) (hn : n ≤ 1000000000) (u : World) : ∃ cs : Array Value, cs.size = n * 3 ∧ (Instr.makeSlice 41 (.int .i64 (n : Int)) (.int .i64 (n : Int))).run Tryd.prog u = .ok (.slice (some ⟨u.heap.size, 0, none⟩) n n) (u.alloc (.cells cs 26)) := by
  obtain ⟨i0, hi, hz0, hz1, hz2⟩ := info_parts infoS_row
  have h := run_make (P := Tryd.prog) u 41 26 i0 _ Tryd.underlying41 hi hz0 .i64 .i64 (n : Int) (n : Int) (by omega) (by omega) (by rw [hz2]; omega) (by omega)
  rw [hz1] at h
  exact ⟨_, made_size _ _, by simpa using h⟩
theorem rowCs_len3 (xs : List Rw) : (rowCs xs).length = xs.length * 3 := by
  induction xs with
  | nil => rfl
  | cons x r ih =>
    have e : rowCs (x :: r) = x.cells ++ rowCs r := by simp [rowCs]
    rw [e, List.length_append, ih]
    simp [Rw.cells]
    omega
theorem rowCs_one (xs : List Rw) : ∀ v ∈ rowCs xs, v.oneCell' = true := fun v hv => by
  unfold rowCs at hv
  rw [List.mem_flatMap] at hv
  obtain ⟨x, -, hx⟩ := hv
  simp [Rw.cells] at hx
  rcases hx with rfl | rfl | rfl <;> rfl
theorem RwRow.cells {w : World} {B : Nat} {a : Addr} {xs : List Rw} (h : RwRow w B (some a) xs) : ∀ j v, (rowCs xs)[j]? = some v → w.cell? (a.add j) = some v := fun j v hv => by
  have hj : j < xs.length * 3 := by
    have := (List.getElem?_eq_some_iff.1 hv).1
    rw [rowCs_len3] at this
    exact this
  obtain ⟨x, hx⟩ : ∃ x, xs[j / 3]? = some x := ⟨_, List.getElem?_eq_getElem (by omega)⟩
  obtain ⟨ad, e, -, c0, c1, c2⟩ := h _ _ hx
  injection e with e
  subst e
  have ej : j = j / 3 * 3 + j % 3 := by omega
  rw [ej, rowCs_at xs _ x hx _ (Nat.mod_lt _ (by omega))] at hv
  have hm : j % 3 < 3 := Nat.mod_lt _ (by omega)
  have key : ∀ k, k < 3 → x.cells[k]? = some v → w.cell? (a.add (j / 3 * 3 + k)) = some v := fun k hk hc => by
    rw [← o10_add]
    match k, hk with
    | 0, _ =>
      simp [Rw.cells] at hc
      subst hc
      rw [show (a.add (j / 3 * 3)).add 0 = a.add (j / 3 * 3) by rw [o10_add, Nat.add_zero]]
      exact c0
    | 1, _ =>
      simp [Rw.cells] at hc
      subst hc
      exact c1
    | 2, _ =>
      simp [Rw.cells] at hc
      subst hc
      exact c2
  rw [ej]
  exact key _ hm hv
theorem copy_rows (w : World) (ty : TypeId) (g n : Nat) (A : Option Addr) (c : Nat) (cur : Array Value) (xs : List Rw) (hn : xs.length = n) (hg : Box w g 26 cur) (hc : cur.size = n * 3) {B : Nat} (hR : RwRow w B A xs) :
    ∃ w', (Builtin.copy_ #[41, 41] ty #[.slice (some ⟨g, 0, none⟩) n n, .slice A n c]).run Tryd.prog w = .ok (goInt n) w' ∧ RowBox w' g xs.toArray ∧ ∀ B w0, Below B w0 w → B ≤ g → Below B w0 w' := by
  obtain ⟨i0, hi, hz0, hz1, hz2⟩ := info_parts infoS_row
  by_cases h0 : xs = []
  · subst h0
    obtain rfl : n = 0 := hn.symm
    refine ⟨w, ?_, ?_, fun _ _ k _ => k⟩
    · have hl : ∀ (x : Addr), (loadCells x 0).run Tryd.prog w = .ok #[] w := fun x => by simpa using run_loadCells_list (P := Tryd.prog) w x [] (by simp)
      cases A <;> simp [Builtin.copy_, run_underlying Tryd.underlying41, Builtin.lenOf, Builtin.firstCells, sizeOf, typeInfo, hi, hz1, storeCells, hl]
    · have e : cur = #[] := Array.eq_empty_of_size_eq_zero (by omega)
      subst e
      exact hg
  · obtain ⟨x, hx⟩ : ∃ x, xs[0]? = some x := ⟨_, List.getElem?_eq_getElem (List.length_pos_iff.2 h0)⟩
    obtain ⟨a, rfl, -, -⟩ := hR 0 x hx
    have hl := run_loadCells_list (P := Tryd.prog) w a (rowCs xs) hR.cells
    have hst := run_storeCells_at Tryd.prog g 0 26 (rowCs xs) 0 cur w hg (by rw [rowCs_len3]; omega) (rowCs_one xs)
    rw [rowCs_len3, hn] at hl
    have e : cur.toList.take (0 + 0) ++ rowCs xs ++ cur.toList.drop (0 + 0 + (rowCs xs).length) = rowCs xs := by
      rw [rowCs_len3, hn, List.drop_eq_nil_of_le (by simp; omega)]
      simp
    rw [e] at hst
    refine ⟨w.setRow g (rowCs xs).toArray, ?_, setRow_heap w g cur _ _ _ hg, fun B w0 k hB => k.trans ⟨rfl, rfl, rfl, by simp [World.setRow], fun q hq => setRow_other w g q _ (by omega)⟩⟩
    simp [Builtin.copy_, run_underlying Tryd.underlying41, Builtin.lenOf, Builtin.firstCells, sizeOf, typeInfo, hi, hz1, hl, hst]
theorem RowBox.id_again {w : World} {g : Nat} {d : Array Rw} (h : RowBox w g d) (i : Nat) (hi : i < d.size) : RowBox (w.setCell ⟨g, i * 3, none⟩ (.string d[i]!.id)) g d := by
  have h1 := Box.wrote h (i * 3) (.string d[i]!.id)
  unfold RowBox
  have e : (rowCs d.toList).toArray.setIfInBounds (i * 3) (.string d[i]!.id) = (rowCs d.toList).toArray := by
    have hat : (rowCs d.toList)[i * 3]? = some (.string d[i]!.id) := by
      have := rowCs_at d.toList i d[i]! (by rw [Array.getElem?_toList, Array.getElem?_eq_getElem hi, getElem!_pos d i hi]) 0 (by omega)
      rw [Nat.add_zero] at this
      rw [this]
      rfl
    obtain ⟨hl, he⟩ := List.getElem?_eq_some_iff.1 hat
    have : (rowCs d.toList).set (i * 3) (.string d[i]!.id) = rowCs d.toList := by rw [← he]; exact List.set_getElem_self hl
    rw [List.setIfInBounds_toArray, this]
  rw [e] at h1
  exact h1
/-- A block of rows, as a row of rows. -/
theorem RowBox.row {w : World} {g : Nat} {d : Array Rw} (h : RowBox w g d) : RwRow w w.heap.size (some ⟨g, 0, none⟩) d.toList := fun i x hx => by
  have hi : i < d.size := by have := (List.getElem?_eq_some_iff.1 hx).1; simpa using this
  have e : d[i]! = x := by
    rw [getElem!_pos d i hi]
    rw [Array.getElem?_toList, Array.getElem?_eq_getElem hi] at hx
    injection hx
  obtain ⟨p0, p1, p2⟩ := h.three i hi
  rw [e] at p0 p1 p2
  have e1 : (⟨g, 0, none⟩ : Addr).add (i * 3) = ⟨g, i * 3, none⟩ := by simp [Addr.add]; exact fun hj => hj.symm
  refine ⟨_, rfl, h.inside, ?_⟩
  rw [e1]
  exact ⟨p0, p1, p2⟩
set_option maxRecDepth 100000 in
set_option maxHeartbeats 4000000 in
theorem rowsort_any (A : Option Addr) (c : Nat) (xs : List Rw) (hm : xs.length ≤ 1000000000) (hz : ∀ x ∈ xs, x.id.size ≤ 1000000) (w : World) (hR : RwRow w w.heap.size A xs) :
    Calls Tryd.prog 21 #[.slice A xs.length c] w fun e w' => ∃ g, e = .returned (.slice (some ⟨g, 0, none⟩) xs.length xs.length) ∧ w.heap.size ≤ g ∧ ∃ d, RowBox w' g d ∧ Below w.heap.size w w' ∧ Mg xs.toArray d 0 xs.length := by
  obtain ⟨n, hn⟩ : ∃ n, xs.length = n := ⟨_, rfl⟩
  rw [hn] at hm ⊢
  obtain ⟨cs, hcs, hmk⟩ := make_rows n hm w
  have B0 := Box.made w 26 cs
  have L0 := (Below.refl w.heap.size w).alloc (Nat.le_refl _) (.cells cs 26)
  have hR0 := hR.call L0
  go_enter Tryd.func21, Tryd.ntmps21
  go_upto_region 2 with fail
  generalize w.alloc (.cells cs 26) = W at *
  obtain ⟨W2, hcp, hB2, hL2⟩ : ∃ W2, (∀ ty, (Builtin.copy_ #[41, 41] ty #[.slice (some ⟨w.heap.size, 0, none⟩) n n, .slice A n c]).run Tryd.prog W = .ok (goInt n) W2) ∧ RowBox W2 w.heap.size xs.toArray ∧ Below w.heap.size w W2 := by
    obtain ⟨W2, h1, h2, h3⟩ := copy_rows W 0 w.heap.size n A c cs xs hn B0 hcs hR0
    exact ⟨W2, fun ty => h1, h2, h3 _ _ L0 (Nat.le_refl _)⟩
  have cS := sortstable_any w.heap.size w.heap.size n xs.toArray W2 hB2 (Nat.le_refl _) (by simp; omega)
  have hsz : xs.toArray.size = n := by simp [hn]
  rw [hsz] at cS
  have HZ := hideIt hz
  clear hz hR0 B0 L0 hmk
  go_upto_region 4 with (first
    | (go_at_call 41; refine cS.mono ?_; rintro z v2 ⟨rfl, d, ⟨hR3, hL3⟩, hm3⟩)
    | fail)
  have hds := hm3.size.trans hsz
  have hL4 := hL2.trans hL3
  have HM := hideIt hm3
  have hids : ∀ i, i < n → d[i]!.id.size ≤ 281474976710656 := fun i hi => by
    have h1 : d[i]! ∈ sg d 0 n := (mem_sg _ _ _ _).2 ⟨i, Nat.zero_le _, hi, rfl⟩
    rw [hm3.1.mem, mem_sg] at h1
    obtain ⟨j, -, hj, e⟩ := h1
    have h2 : xs.toArray[j]! ∈ xs := by
      rw [getElem!_pos xs.toArray j (by omega)]
      simp
    have := HZ.out _ h2
    rw [e] at this
    omega
  have HI := hideIt hids
  clear hids hm3 hcp cS hL2 hL3 hB2
  go_wp2
  go_loopg [15] n (fun gk vi wr => ∃ i : Nat, vi = .int .i64 i ∧ i ≤ n ∧ n - i ≤ gk ∧ RowBox wr w.heap.size d ∧ Below w.heap.size w wr)
  case atStart => exact ⟨0, by go_num, Nat.zero_le _, by omega, hR3, hL4⟩
  case round =>
    obtain ⟨i, rfl, hin, hgk, hR4, hL5⟩ := hrel
    by_cases hlt : i < n
    · have hlti : (i : Int) < (n : Int) := by omega
      have w1 : IntKind.i64.wrap ((i : Int) + 1) = ((i + 1 : Nat) : Int) := by rw [IntKind.wrap_i64]; omega
      obtain ⟨p0, p1, p2⟩ := hR4.three i (by omega)
      have hg := hR4.inside
      obtain ⟨s, hs⟩ : ∃ s, d[i]!.id = s := ⟨_, rfl⟩
      have hsl := HI.out i hlt
      rw [hs] at p0 hsl
      have cC := fun u => clone_any s hsl u
      have ag : ∀ u, RowBox u w.heap.size d → RowBox (u.setCell ⟨w.heap.size, i * 3, none⟩ (.string s)) w.heap.size d := fun u hu => by
        rw [← hs]
        exact hu.id_again i (by omega)
      have rd : ∀ u, RowBox u w.heap.size d → u.cell? ⟨w.heap.size, i * 3, none⟩ = some (.string s) := fun u hu => by
        rw [← hs]
        exact (hu.three i (by omega)).1
      clear hs p1 p2
      go_wp2_with (first
        | (go_at_call 29; refine (cC _).mono ?_; rintro z v3 ⟨rfl, j3⟩
           have hR6 := hR4.call j3
           have hg6 := hR6.inside
           have hL6 := hL5.trans (j3.mono hL5.size)
           have y0 := rd _ hR6
           have y3 := hR6.free (i * 3))
        | fail)
      go_roundg (n - (i + 1))
      case measure => omega
      case rel => exact ⟨i + 1, by go_num, hlt, Nat.le_refl _, ag _ hR6, hL6.setCell (Nat.le_refl _) _⟩
    · have hlti : ¬ (i : Int) < (n : Int) := by omega
      go_wp2
      go_ret
      exact ⟨w.heap.size, rfl, Nat.le_refl _, d, hR4, hL5, HM.out⟩
end Go.Proofs.YtfnbehijnmbhjaaDoor
