/- Several of my texts, laid as one. -/
import Derived.Test.YtngofpdpangajaaDoorM10Sy
import Derived.Test.YtngofpdpangajaaDoorM10Mer
import Derived.Test.YtngofpdpangajaaDoorU5Clone
import Derived.Test.YtngofpdpangajaaDoorT10Row
import Derived.Test.YtngofpdpangajaaDoorW5Round
import Derived.Laws.CopyRow
/-
  slices' stableCmpFunc and SortStableFunc at rows, by their Ids, walked.
-/
namespace Go.Proofs.YtngofpdpangajaaDoor
set_option linter.unusedVariables false
set_option linter.unusedSimpArgs false
set_option maxRecDepth 10000
open Go.RowKit Go.Sort

theorem sym_does (B g cap : Nat) (hB : B ≤ g) : ∀ (n a m b : Nat) (d : Array Rw) (w : World), b - a ≤ n → RowBox w g d → a < m → m < b → b ≤ d.size → d.size ≤ 1000000000 → Sl (sg d a m) → Sl (sg d m b) → SymDoes B g cap a m b d w
  | 0, a, m, b, d, w, hn, hR, h1, h2, h3, hs, hl, hr => by omega
  | n + 1, a, m, b, d, w, hn, hR, h1, h2, h3, hs, hl, hr => by
    by_cases k1 : a + 1 = m
    · subst k1
      exact sym1_any B g cap a b d w hR hB h2 h3 hs hr
    · by_cases k2 : m + 1 = b
      · subst k2
        exact sym2_any B g cap a m d w hR hB (by omega) h3 hs hl
      · exact sym3_any B g cap a m b d w hR hB (by omega) (by omega) h3 hs hl hr fun a' m' b' d' w' q1 q2 q3 q4 q5 q6 q7 q8 =>
          sym_does B g cap hB n a' m' b' d' w' (by omega) q2 q3 q4 (by omega) (by omega) q7 q8
theorem ins_does (B g cap a b : Nat) (d : Array Rw) (w : World) (h : RowBox w g d) (hB : B ≤ g) (hab : a ≤ b) (hb : b ≤ d.size) (hs : d.size ≤ 1000000000) :
    Calls Tryd.prog 96 #[.slice (some ⟨g, 0, none⟩) d.size cap, .int .i64 a, .int .i64 b, .func (.func 67) #[] #[]] w fun e w' => e = .returned (.tuple #[]) ∧
      ∃ e', Ran B g w e' w' ∧ Mg d e' a b :=
  (insert_any B g cap a b d w h hB hab hb hs).mono fun e w' k => ⟨k.1, _, k.2, ins_sorts d a b hab hb⟩
/-- What stays kept while segments are put in order. -/
theorem kept {d e e' : Array Rw} {a b n : Nat} (h : Keep d e 0 n) (hm : Mg e e' a b) (h1 : a ≤ b) (h2 : b ≤ n) : Keep d e' 0 n := h.trans (hm.1.wide (Nat.zero_le _) h1 h2)
set_option maxRecDepth 100000 in
set_option maxHeartbeats 4000000 in
theorem stable_any (B g cap : Nat) (d : Array Rw) (w : World) (h : RowBox w g d) (hB : B ≤ g) (hs : d.size ≤ 1000000000) :
    Calls Tryd.prog 85 #[.slice (some ⟨g, 0, none⟩) d.size cap, .int .i64 d.size, .func (.func 67) #[] #[]] w fun e w' => e = .returned (.tuple #[]) ∧
      ∃ e', Ran B g w e' w' ∧ Mg d e' 0 d.size := by
  obtain ⟨N, hN⟩ : ∃ N, d.size = N := ⟨_, rfl⟩
  rw [hN]
  go_enter Tryd.func85, Tryd.ntmps85
  go_wp2
  go_loopg [7, 8] N (fun gk va vb wr => ∃ (t A b : Nat) (e : Array Rw), va = .int .i64 A ∧ vb = .int .i64 b ∧ A + 20 = b ∧ A ≤ N ∧ N - A ≤ gk ∧ e.size = N ∧ RowBox wr g e ∧ Below B w wr ∧ Hid (t * 20 = A) ∧ Hid (Keep d e 0 N) ∧ Hid (Lo 20 t e))
  case atStart => exact ⟨0, 0, 20, d, by go_num, by go_num, rfl, Nat.zero_le _, by omega, hN, h, Below.refl _ _, rfl, Keep.refl _ _ _, lo_none _ _⟩
  case round =>
    obtain ⟨t, A, b, e, rfl, rfl, hAb, hAN, hgk, hes, hR, hb', HA, HK, HL⟩ := hrel
    by_cases hlt : b ≤ N
    · have hlti : (b : Int) ≤ (N : Int) := by omega
      obtain ⟨b2, hb2⟩ : ∃ b2, b + 20 = b2 := ⟨_, rfl⟩
      have w1 : IntKind.i64.wrap ((b : Int) + 20) = (b2 : Int) := by rw [IntKind.wrap_i64]; omega
      have cI := ins_does B g cap A b e wr hR hB (by omega) (by omega) (by omega)
      rw [hes] at cI
      go_wp2_with (first | (go_at_call 96; refine cI.mono ?_; rintro z v2 ⟨rfl, e2, ⟨hR2, hB2⟩, hm2⟩) | fail)
      go_roundg (N - b)
      case measure => omega
      case rel =>
        exact ⟨t + 1, b, b2, e2, rfl, rfl, hb2, hlt, Nat.le_refl _, hm2.size.trans hes, hR2, hb'.trans hB2, (by show (t + 1) * 20 = b; have := HA.out; omega), kept HK.out hm2 (by omega) hlt, lo_step HA.out hAb HL.out hm2⟩
    · have hlti : ¬ (b : Int) ≤ (N : Int) := by omega
      have cI := ins_does B g cap A N e wr hR hB hAN (by omega) (by omega)
      rw [hes] at cI
      go_wp2_with (first | (go_at_call 96; refine cI.mono ?_; rintro z v2 ⟨rfl, e2, ⟨hR2, hB2⟩, hm2⟩) | fail)
      have HH2 := hideIt (lo_end HA.out hAN (by omega) HL.out hm2)
      have HK2 := hideIt (kept HK.out hm2 hAN (Nat.le_refl _))
      have hes2 := hm2.size.trans hes
      have hb2 := hb'.trans hB2
      clear hm2 HA HK HL cI hR hb' hB2
      go_loopg [6, 7, 8] N (fun gk vs va vb wr => ∃ (s : Nat) (e : Array Rw), vs = .int .i64 s ∧ 20 ≤ s ∧ N - s ≤ gk ∧ s ≤ N + N + 20 ∧ e.size = N ∧ RowBox wr g e ∧ Below B w wr ∧ Hid (Keep d e 0 N) ∧ Hid (Hi s 0 N e))
      case atStart => exact ⟨20, e2, by go_num, Nat.le_refl _, by omega, by omega, hes2, hR2, hb2, HK2, HH2⟩
      case round =>
        obtain ⟨s, e, rfl, h20, hgk2, hsN, hes, hR, hb', HK, HH⟩ := hrel
        by_cases hls : s < N
        · have hlsi : (s : Int) < (N : Int) := by omega
          obtain ⟨S, hS⟩ : ∃ S, 2 * s = S := ⟨_, rfl⟩
          have w2 : IntKind.i64.wrap (2 * (s : Int)) = (S : Int) := by rw [IntKind.wrap_i64]; omega
          have w3 : IntKind.i64.wrap ((s : Int) * 2) = (S : Int) := by rw [IntKind.wrap_i64]; omega
          go_wp2
          go_loopg [7, 8] N (fun g3 va vb wr => ∃ (t A b : Nat) (e : Array Rw), va = .int .i64 A ∧ vb = .int .i64 b ∧ A + S = b ∧ A ≤ N ∧ N - A ≤ g3 ∧ e.size = N ∧ RowBox wr g e ∧ Below B w wr ∧ Hid (t * S = A) ∧ Hid (Keep d e 0 N) ∧ Hid (Lo S t e) ∧ Hid (Hi s (2 * t) N e))
          case atStart => exact ⟨0, 0, S, e, by go_num, by go_num, Nat.zero_add _, Nat.zero_le _, by omega, hes, hR, hb', Nat.zero_mul _, HK, lo_none _ _, HH⟩
          case round =>
            obtain ⟨t, A, b, e, rfl, rfl, hAb, hAN, hgk3, hes, hR, hb', HA, HK, HL, HH⟩ := hrel
            have HA2 := hideIt (show t * (2 * s) = A by rw [hS]; exact HA.out)
            obtain ⟨M, hM⟩ : ∃ M, A + s = M := ⟨_, rfl⟩
            have w4 : IntKind.i64.wrap ((A : Int) + (s : Int)) = (M : Int) := by rw [IntKind.wrap_i64]; omega
            by_cases hlt : b ≤ N
            · have hlti : (b : Int) ≤ (N : Int) := by omega
              obtain ⟨b2, hb2⟩ : ∃ b2, b + S = b2 := ⟨_, rfl⟩
              have w5 : IntKind.i64.wrap ((b : Int) + (S : Int)) = (b2 : Int) := by rw [IntKind.wrap_i64]; omega
              have q1 := hi_part HA2.out HH.out (b := A + s) (by omega) (by omega) (by omega)
              have q2 := hi_next HA2.out HH.out (b := b) (by omega) (by omega) hlt
              rw [hM] at q1 q2
              have cS := sym_does B g cap hB (b - A) A M b e wr (Nat.le_refl _) hR (by omega) (by omega) (by omega) (by omega) q1 q2
              unfold SymDoes at cS
              rw [hes] at cS
              clear q1 q2
              go_wp2_with (first | (go_at_call 97; refine cS.mono ?_; rintro z v2 ⟨rfl, e2, ⟨hR2, hB2⟩, hm2⟩) | fail)
              go_roundg (N - b)
              case measure => omega
              case rel =>
                exact ⟨t + 1, b, b2, e2, rfl, rfl, hb2, hlt, Nat.le_refl _, hm2.size.trans hes, hR2, hb'.trans hB2, (by show (t + 1) * S = b; rw [Nat.succ_mul, HA.out]; exact hAb), kept HK.out hm2 (by omega) hlt, lo_step HA.out hAb HL.out hm2,
                  hi_step HA2.out (by omega) HH.out hm2⟩
            · have hlti : ¬ (b : Int) ≤ (N : Int) := by omega
              by_cases hmn : M < N
              · have hmni : (M : Int) < (N : Int) := by omega
                have q1 := hi_part HA2.out HH.out (b := A + s) (by omega) (by omega) (by omega)
                have q2 := hi_next HA2.out HH.out (b := N) (by omega) (by omega) (Nat.le_refl _)
                rw [hM] at q1 q2
                have cS := sym_does B g cap hB (N - A) A M N e wr (Nat.le_refl _) hR (by omega) (by omega) (by omega) (by omega) q1 q2
                unfold SymDoes at cS
                rw [hes] at cS
                clear q1 q2
                go_wp2_with (first | (go_at_call 97; refine cS.mono ?_; rintro z v2 ⟨rfl, e2, ⟨hR2, hB2⟩, hm2⟩) | fail)
                go_roundg (N - S)
                case measure => omega
                case rel => exact ⟨S, e2, by go_num, by omega, Nat.le_refl _, by omega, hm2.size.trans hes, hR2, hb'.trans hB2, kept HK.out hm2 hAN (Nat.le_refl _), lo_end HA.out hAN (by omega) HL.out hm2⟩
              · have hmni : ¬ (M : Int) < (N : Int) := by omega
                have q1 := hi_part HA2.out HH.out (b := N) hAN (by omega) (Nat.le_refl _)
                have HH2 := hideIt (lo_end HA.out hAN (by omega) HL.out (Mg.none q1))
                clear q1
                go_wp2_with fail
                go_roundg (N - S)
                case measure => omega
                case rel => exact ⟨S, e, by go_num, by omega, Nat.le_refl _, by omega, hes, hR, hb', HK, HH2⟩
        · have hlsi : ¬ (s : Int) < (N : Int) := by omega
          go_wp2
          go_end0
          exact ⟨rfl, e, ⟨hR, hb'⟩, HK.out, hi_all HH.out (by omega)⟩
set_option maxRecDepth 100000 in
theorem sortstable_any (B g cap : Nat) (d : Array Rw) (w : World) (h : RowBox w g d) (hB : B ≤ g) (hs : d.size ≤ 1000000000) :
    Calls Tryd.prog 66 #[.slice (some ⟨g, 0, none⟩) d.size cap, .func (.func 67) #[] #[]] w fun e w' => e = .returned (.tuple #[]) ∧
      ∃ e', Ran B g w e' w' ∧ Mg d e' 0 d.size := by
  have cS := stable_any B g cap d w h hB hs
  obtain ⟨N, hN⟩ : ∃ N, d.size = N := ⟨_, rfl⟩
  rw [hN] at cS ⊢
  go_enter Tryd.func66, Tryd.ntmps66
  go_wp2_with (first | (go_at_call 85; refine cS.mono ?_; rintro z v2 ⟨rfl, e2, ⟨hR2, hB2⟩, hm2⟩) | fail)
  go_end0
  exact ⟨rfl, e2, ⟨hR2, hB2⟩, hm2⟩
end Go.Proofs.YtngofpdpangajaaDoor
/-
  Package row's Sort, walked.
-/
namespace Go.Proofs.YtngofpdpangajaaDoor
set_option linter.unusedVariables false
set_option linter.unusedSimpArgs false
set_option maxRecDepth 10000
open Go.RowKit Go.Sort

theorem infoS_row : (Tryd.prog.info? 59).map (fun i => (i.zero, i.size, i.bytes)) = some (some (.agg #[.string ⟨#[]⟩, .int .u64 0, .int .u64 0]), 3, 32) := by kernel_rfl
theorem made_size (z : Array Value) (n : Nat) : (madeCells z n).size = n := by simp [madeCells]
theorem make_rows (n : Nat) (hn : n ≤ 1000000000) (u : World) : ∃ cs : Array Value, cs.size = n * 3 ∧ (Instr.makeSlice 23 (.int .i64 (n : Int)) (.int .i64 (n : Int))).run Tryd.prog u = .ok (.slice (some ⟨u.heap.size, 0, none⟩) n n) (u.alloc (.cells cs 59)) := by
  obtain ⟨i0, hi, hz0, hz1, hz2⟩ := info_parts infoS_row
  have h := run_make (P := Tryd.prog) u 23 59 i0 _ Tryd.underlying23 hi hz0 .i64 .i64 (n : Int) (n : Int) (by omega) (by omega) (by rw [hz2]; omega) (by omega)
  rw [hz1] at h
  exact ⟨_, made_size _ _, by simpa using h⟩
theorem rowCs_len3 (xs : List Rw) : (rowCs xs).length = xs.length * 3 := by
  induction xs with
  | nil => rfl
  | cons x r ih =>
    have e : rowCs (x :: r) = x.cells ++ rowCs r := by simp [rowCs]
    rw [e, List.length_append, ih]
    simp [Rw.cells]
    omega
theorem rowCs_one (xs : List Rw) : ∀ v ∈ rowCs xs, v.oneCell' = true := fun v hv => by
  unfold rowCs at hv
  rw [List.mem_flatMap] at hv
  obtain ⟨x, -, hx⟩ := hv
  simp [Rw.cells] at hx
  rcases hx with rfl | rfl | rfl <;> rfl
theorem RwRow.cells {w : World} {B : Nat} {a : Addr} {xs : List Rw} (h : RwRow w B (some a) xs) : ∀ j v, (rowCs xs)[j]? = some v → w.cell? (a.add j) = some v := fun j v hv => by
  have hj : j < xs.length * 3 := by
    have := (List.getElem?_eq_some_iff.1 hv).1
    rw [rowCs_len3] at this
    exact this
  obtain ⟨x, hx⟩ : ∃ x, xs[j / 3]? = some x := ⟨_, List.getElem?_eq_getElem (by omega)⟩
  obtain ⟨ad, e, -, c0, c1, c2⟩ := h _ _ hx
  injection e with e
  subst e
  have ej : j = j / 3 * 3 + j % 3 := by omega
  rw [ej, rowCs_at xs _ x hx _ (Nat.mod_lt _ (by omega))] at hv
  have hm : j % 3 < 3 := Nat.mod_lt _ (by omega)
  have key : ∀ k, k < 3 → x.cells[k]? = some v → w.cell? (a.add (j / 3 * 3 + k)) = some v := fun k hk hc => by
    rw [← o10_add]
    match k, hk with
    | 0, _ =>
      simp [Rw.cells] at hc
      subst hc
      rw [show (a.add (j / 3 * 3)).add 0 = a.add (j / 3 * 3) by rw [o10_add, Nat.add_zero]]
      exact c0
    | 1, _ =>
      simp [Rw.cells] at hc
      subst hc
      exact c1
    | 2, _ =>
      simp [Rw.cells] at hc
      subst hc
      exact c2
  rw [ej]
  exact key _ hm hv
theorem copy_rows (w : World) (ty : TypeId) (g n : Nat) (A : Option Addr) (c : Nat) (cur : Array Value) (xs : List Rw) (hn : xs.length = n) (hg : Box w g 59 cur) (hc : cur.size = n * 3) {B : Nat} (hR : RwRow w B A xs) :
    ∃ w', (Builtin.copy_ #[23, 23] ty #[.slice (some ⟨g, 0, none⟩) n n, .slice A n c]).run Tryd.prog w = .ok (goInt n) w' ∧ RowBox w' g xs.toArray ∧ ∀ B w0, Below B w0 w → B ≤ g → Below B w0 w' := by
  obtain ⟨i0, hi, hz0, hz1, hz2⟩ := info_parts infoS_row
  by_cases h0 : xs = []
  · subst h0
    obtain rfl : n = 0 := hn.symm
    refine ⟨w, ?_, ?_, fun _ _ k _ => k⟩
    · have hl : ∀ (x : Addr), (loadCells x 0).run Tryd.prog w = .ok #[] w := fun x => by simpa using run_loadCells_list (P := Tryd.prog) w x [] (by simp)
      cases A <;> simp [Builtin.copy_, run_underlying Tryd.underlying23, Builtin.lenOf, Builtin.firstCells, sizeOf, typeInfo, hi, hz1, storeCells, hl]
    · have e : cur = #[] := Array.eq_empty_of_size_eq_zero (by omega)
      subst e
      exact hg
  · obtain ⟨x, hx⟩ : ∃ x, xs[0]? = some x := ⟨_, List.getElem?_eq_getElem (List.length_pos_iff.2 h0)⟩
    obtain ⟨a, rfl, -, -⟩ := hR 0 x hx
    have hl := run_loadCells_list (P := Tryd.prog) w a (rowCs xs) hR.cells
    have hst := run_storeCells_at Tryd.prog g 0 59 (rowCs xs) 0 cur w hg (by rw [rowCs_len3]; omega) (rowCs_one xs)
    rw [rowCs_len3, hn] at hl
    have e : cur.toList.take (0 + 0) ++ rowCs xs ++ cur.toList.drop (0 + 0 + (rowCs xs).length) = rowCs xs := by
      rw [rowCs_len3, hn, List.drop_eq_nil_of_le (by simp; omega)]
      simp
    rw [e] at hst
    refine ⟨w.setRow g (rowCs xs).toArray, ?_, setRow_heap w g cur _ _ _ hg, fun B w0 k hB => k.trans ⟨rfl, rfl, rfl, by simp [World.setRow], fun q hq => setRow_other w g q _ (by omega)⟩⟩
    simp [Builtin.copy_, run_underlying Tryd.underlying23, Builtin.lenOf, Builtin.firstCells, sizeOf, typeInfo, hi, hz1, hl, hst]
theorem RowBox.id_again {w : World} {g : Nat} {d : Array Rw} (h : RowBox w g d) (i : Nat) (hi : i < d.size) : RowBox (w.setCell ⟨g, i * 3, none⟩ (.string d[i]!.id)) g d := by
  have h1 := Box.wrote h (i * 3) (.string d[i]!.id)
  unfold RowBox
  have e : (rowCs d.toList).toArray.setIfInBounds (i * 3) (.string d[i]!.id) = (rowCs d.toList).toArray := by
    have hat : (rowCs d.toList)[i * 3]? = some (.string d[i]!.id) := by
      have := rowCs_at d.toList i d[i]! (by rw [Array.getElem?_toList, Array.getElem?_eq_getElem hi, getElem!_pos d i hi]) 0 (by omega)
      rw [Nat.add_zero] at this
      rw [this]
      rfl
    obtain ⟨hl, he⟩ := List.getElem?_eq_some_iff.1 hat
    have : (rowCs d.toList).set (i * 3) (.string d[i]!.id) = rowCs d.toList := by rw [← he]; exact List.set_getElem_self hl
    rw [List.setIfInBounds_toArray, this]
  rw [e] at h1
  exact h1
/-- A block of rows, as a row of rows. -/
theorem RowBox.row {w : World} {g : Nat} {d : Array Rw} (h : RowBox w g d) : RwRow w w.heap.size (some ⟨g, 0, none⟩) d.toList := fun i x hx => by
  have hi : i < d.size := by have := (List.getElem?_eq_some_iff.1 hx).1; simpa using this
  have e : d[i]! = x := by
    rw [getElem!_pos d i hi]
    rw [Array.getElem?_toList, Array.getElem?_eq_getElem hi] at hx
    injection hx
  obtain ⟨p0, p1, p2⟩ := h.three i hi
  rw [e] at p0 p1 p2
  have e1 : (⟨g, 0, none⟩ : Addr).add (i * 3) = ⟨g, i * 3, none⟩ := by simp [Addr.add]; exact fun hj => hj.symm
  refine ⟨_, rfl, h.inside, ?_⟩
  rw [e1]
  exact ⟨p0, p1, p2⟩
set_option maxRecDepth 100000 in
set_option maxHeartbeats 4000000 in
theorem rowsort_any (A : Option Addr) (c : Nat) (xs : List Rw) (hm : xs.length ≤ 1000000000) (hz : ∀ x ∈ xs, x.id.size ≤ 1000000) (w : World) (hR : RwRow w w.heap.size A xs) :
    Calls Tryd.prog 36 #[.slice A xs.length c] w fun e w' => ∃ g, e = .returned (.slice (some ⟨g, 0, none⟩) xs.length xs.length) ∧ w.heap.size ≤ g ∧ ∃ d, RowBox w' g d ∧ Below w.heap.size w w' ∧ Mg xs.toArray d 0 xs.length := by
  obtain ⟨n, hn⟩ : ∃ n, xs.length = n := ⟨_, rfl⟩
  rw [hn] at hm ⊢
  obtain ⟨cs, hcs, hmk⟩ := make_rows n hm w
  have B0 := Box.made w 59 cs
  have L0 := (Below.refl w.heap.size w).alloc (Nat.le_refl _) (.cells cs 59)
  have hR0 := hR.call L0
  go_enter Tryd.func36, Tryd.ntmps36
  go_upto_region 2 with fail
  generalize w.alloc (.cells cs 59) = W at *
  obtain ⟨W2, hcp, hB2, hL2⟩ : ∃ W2, (∀ ty, (Builtin.copy_ #[23, 23] ty #[.slice (some ⟨w.heap.size, 0, none⟩) n n, .slice A n c]).run Tryd.prog W = .ok (goInt n) W2) ∧ RowBox W2 w.heap.size xs.toArray ∧ Below w.heap.size w W2 := by
    obtain ⟨W2, h1, h2, h3⟩ := copy_rows W 0 w.heap.size n A c cs xs hn B0 hcs hR0
    exact ⟨W2, fun ty => h1, h2, h3 _ _ L0 (Nat.le_refl _)⟩
  have cS := sortstable_any w.heap.size w.heap.size n xs.toArray W2 hB2 (Nat.le_refl _) (by simp; omega)
  have hsz : xs.toArray.size = n := by simp [hn]
  rw [hsz] at cS
  have HZ := hideIt hz
  clear hz hR0 B0 L0 hmk
  go_upto_region 4 with (first
    | (go_at_call 66; refine cS.mono ?_; rintro z v2 ⟨rfl, d, ⟨hR3, hL3⟩, hm3⟩)
    | fail)
  have hds := hm3.size.trans hsz
  have hL4 := hL2.trans hL3
  have HM := hideIt hm3
  have hids : ∀ i, i < n → d[i]!.id.size ≤ 281474976710656 := fun i hi => by
    have h1 : d[i]! ∈ sg d 0 n := (mem_sg _ _ _ _).2 ⟨i, Nat.zero_le _, hi, rfl⟩
    rw [hm3.1.mem, mem_sg] at h1
    obtain ⟨j, -, hj, e⟩ := h1
    have h2 : xs.toArray[j]! ∈ xs := by
      rw [getElem!_pos xs.toArray j (by omega)]
      simp
    have := HZ.out _ h2
    rw [e] at this
    omega
  have HI := hideIt hids
  clear hids hm3 hcp cS hL2 hL3 hB2
  go_wp2
  go_loopg [15] n (fun gk vi wr => ∃ i : Nat, vi = .int .i64 i ∧ i ≤ n ∧ n - i ≤ gk ∧ RowBox wr w.heap.size d ∧ Below w.heap.size w wr)
  case atStart => exact ⟨0, by go_num, Nat.zero_le _, by omega, hR3, hL4⟩
  case round =>
    obtain ⟨i, rfl, hin, hgk, hR4, hL5⟩ := hrel
    by_cases hlt : i < n
    · have hlti : (i : Int) < (n : Int) := by omega
      have w1 : IntKind.i64.wrap ((i : Int) + 1) = ((i + 1 : Nat) : Int) := by rw [IntKind.wrap_i64]; omega
      obtain ⟨p0, p1, p2⟩ := hR4.three i (by omega)
      have hg := hR4.inside
      obtain ⟨s, hs⟩ : ∃ s, d[i]!.id = s := ⟨_, rfl⟩
      have hsl := HI.out i hlt
      rw [hs] at p0 hsl
      have cC := fun u => clone_any s hsl u
      have ag : ∀ u, RowBox u w.heap.size d → RowBox (u.setCell ⟨w.heap.size, i * 3, none⟩ (.string s)) w.heap.size d := fun u hu => by
        rw [← hs]
        exact hu.id_again i (by omega)
      have rd : ∀ u, RowBox u w.heap.size d → u.cell? ⟨w.heap.size, i * 3, none⟩ = some (.string s) := fun u hu => by
        rw [← hs]
        exact (hu.three i (by omega)).1
      clear hs p1 p2
      go_wp2_with (first
        | (go_at_call 57; refine (cC _).mono ?_; rintro z v3 ⟨rfl, j3⟩
           have hR6 := hR4.call j3
           have hg6 := hR6.inside
           have hL6 := hL5.trans (j3.mono hL5.size)
           have y0 := rd _ hR6
           have y3 := hR6.free (i * 3))
        | fail)
      go_roundg (n - (i + 1))
      case measure => omega
      case rel => exact ⟨i + 1, by go_num, hlt, Nat.le_refl _, ag _ hR6, hL6.setCell (Nat.le_refl _) _⟩
    · have hlti : ¬ (i : Int) < (n : Int) := by omega
      go_wp2
      go_ret
      exact ⟨w.heap.size, rfl, Nat.le_refl _, d, hR4, hL5, HM.out⟩
end Go.Proofs.YtngofpdpangajaaDoor
/-
  Package row's Sort told by lists; strings compared.
-/
namespace Go.Proofs.YtngofpdpangajaaDoor
set_option linter.unusedVariables false
set_option linter.unusedSimpArgs false
set_option maxRecDepth 10000
open Go.RowKit Go.Sort

theorem bless_cb (a b : List UInt8) : Op.bytesLess a b = decide (Lib.compareBytes a b < 0) := by
  induction a generalizing b with
  | nil => cases b <;> simp [Lib.compareBytes, Op.bytesLess]
  | cons x a ih =>
    cases b with
    | nil => simp [Lib.compareBytes, Op.bytesLess]
    | cons y b =>
      rw [Lib.compareBytes, Op.bytesLess]
      by_cases h1 : x < y
      · rw [if_pos h1]; simp [h1]
      · rw [if_neg h1]
        by_cases h2 : y < x
        · have h3 : x ≠ y := fun e => by subst e; exact h1 h2
          rw [if_pos h2]; simp [h1, h3]
        · have e : x = y := by
            rw [UInt8.lt_iff_toNat_lt] at h1 h2
            exact UInt8.toNat_inj.1 (by omega)
          rw [if_neg h2, ← ih]
          simp [h1, e]
theorem bless_rw (x y : Rw) : Op.bytesLess x.id.toList y.id.toList = ltR x y := by
  rw [Lib.toList_data, Lib.toList_data, bless_cb]
  rfl
theorem bless_no {x y : Rw} (h : ¬ LR x y) : Op.bytesLess x.id.toList y.id.toList = false := by
  rw [bless_rw]
  cases hb : ltR x y with
  | false => rfl
  | true => exact absurd hb h
theorem bless_yes {x y : Rw} (h : LR x y) : Op.bytesLess x.id.toList y.id.toList = true := by
  rw [bless_rw]
  exact h
theorem same_id {x y : Rw} (h : keyR x = keyR y) : (x.id.toList == y.id.toList) = true := by
  rw [Lib.toList_data, Lib.toList_data]
  exact beq_iff_eq.2 h
theorem other_id {x y : Rw} (h : keyR x ≠ keyR y) : (x.id.toList == y.id.toList) = false := by
  rw [Lib.toList_data, Lib.toList_data]
  exact beq_false_of_ne h
theorem rowsort2_any (A : Option Addr) (c : Nat) (xs : List Rw) (hm : xs.length ≤ 1000000000) (hz : ∀ x ∈ xs, x.id.size ≤ 1000000) (w : World) (hR : RwRow w w.heap.size A xs) :
    Calls Tryd.prog 36 #[.slice A xs.length c] w fun e w' => ∃ g ys, e = .returned (.slice (some ⟨g, 0, none⟩) xs.length xs.length) ∧ w.heap.size ≤ g ∧ ys.length = xs.length ∧ RowBox w' g ys.toArray ∧ Below w.heap.size w w' ∧ Sd xs ys :=
  (rowsort_any A c xs hm hz w hR).mono fun e w' h => by
    obtain ⟨g, h1, h2, d, h3, h4, h5⟩ := h
    obtain ⟨k1, k2⟩ := h5.sorted
    exact ⟨g, d.toList, h1, h2, k1, by simpa using h3, h4, k2⟩
theorem Sd.ids {xs ys : List Rw} (h : Sd xs ys) {n : Nat} (hz : ∀ x ∈ xs, x.id.size ≤ n) : ∀ x ∈ ys, x.id.size ≤ n := fun x hx => by
  rw [mem_fil, h.2, ← mem_fil] at hx
  exact hz x hx
theorem toArray_bang (ys : List Rw) (i : Nat) : ys.toArray[i]! = ys[i]! := by simp
end Go.Proofs.YtngofpdpangajaaDoor
