/-
  The law SlotsPlaces: where any rows are placed behind any accounts, or the error, is what the chapter says; the rows and accounts that were given stay as they are. Conditions: none.
-/
import Derived.Test.YtngofpdpangajaaDoorR12Place
import Derived.Test.YtngofpdpangajaaDoorS10Same
import Derived.Test.YtngofpdpangajaaDoorE12Same
import Derived.Test.YtngofpdpangajaaDoorW7Laid
import Derived.ChangeMaps
namespace Go.Proofs.YtngofpdpangajaaDoor
set_option linter.unusedVariables false
set_option linter.unusedSimpArgs false
set_option maxRecDepth 10000
open Go.ChangeShapes Go.WideShapes Go.ChangeAt Go.RowKit Go.Sort

/-- A copy of accounts, appended to none. -/
theorem app_litA (w : World) (A : Option Addr) (c : Nat) (xs : List Ac) (hm : xs.length ≤ 1000000) (hR : AcRow w w.heap.size A xs) :
    ∃ v' w', (∀ ty, (Builtin.append_ #[22, 22] ty #[.slice (some ⟨w.heap.size, 0, none⟩) 0 0, .slice A xs.length c]).run Tryd.prog (w.alloc (.cells #[] 38)) = .ok v' w') ∧
      w'.ownsRow w.heap.size 38 5 v' xs.length (accCs xs) ∧ Below w.heap.size w w' := by
  have L0 : Below w.heap.size w (w.alloc (.cells #[] 38)) := chainA (Below.refl _ _) _
  have own0 : (w.alloc (.cells #[] 38)).ownsRow w.heap.size 38 5 (.slice (some ⟨w.heap.size, 0, none⟩) 0 0) 0 (accCs []) :=
    ⟨rfl, .inr ⟨w.heap.size, 0, #[], rfl, Nat.le_refl _, Box.made w 38 #[], Nat.le_refl _, Nat.zero_le _, rfl, rfl⟩⟩
  cases A with
  | none =>
    have e : xs = [] := by
      cases xs with
      | nil => rfl
      | cons z r => obtain ⟨ad, e, -⟩ := hR 0 z rfl; cases e
    subst e
    exact ⟨_, _, fun ty => app_noneA _ _ 0 c (.inr ⟨_, _, rfl, Nat.le_refl _⟩) ty, own0, L0⟩
  | some ad =>
    obtain ⟨v', w', hr, h2, h3⟩ := app_accs (w.alloc (.cells #[] 38)) w.heap.size _ 0 [] own0 ad xs.length c xs rfl ((hR.call L0).cells) (by omega) (by simp) (N := xs.length) (Nat.zero_add _)
    rw [List.nil_append] at h2
    exact ⟨v', w', hr, h2, L0.grown h3 (by simp) (fun j hj => by injection hj with hj; subst hj; exact Nat.le_refl _)⟩
/-- A copy of rows, appended to none. -/
theorem app_litR (w : World) (A : Option Addr) (c : Nat) (xs : List Rw) (hm : xs.length ≤ 1000000) (hR : RwRow w w.heap.size A xs) :
    ∃ v' w', (∀ ty, (Builtin.append_ #[23, 23] ty #[.slice (some ⟨w.heap.size, 0, none⟩) 0 0, .slice A xs.length c]).run Tryd.prog (w.alloc (.cells #[] 59)) = .ok v' w') ∧
      w'.ownsRow w.heap.size 59 3 v' xs.length (rowCs xs) ∧ Below w.heap.size w w' := by
  have L0 : Below w.heap.size w (w.alloc (.cells #[] 59)) := chainA (Below.refl _ _) _
  have own0 : (w.alloc (.cells #[] 59)).ownsRow w.heap.size 59 3 (.slice (some ⟨w.heap.size, 0, none⟩) 0 0) 0 (rowCs []) :=
    ⟨rfl, .inr ⟨w.heap.size, 0, #[], rfl, Nat.le_refl _, Box.made w 59 #[], Nat.le_refl _, Nat.zero_le _, rfl, rfl⟩⟩
  cases A with
  | none =>
    have e : xs = [] := by
      cases xs with
      | nil => rfl
      | cons z r => obtain ⟨ad, e, -⟩ := hR 0 z rfl; cases e
    subst e
    exact ⟨_, _, fun ty => app_none _ _ 0 c (.inr ⟨_, _, rfl, Nat.le_refl _⟩) ty, own0, L0⟩
  | some ad =>
    obtain ⟨v', w', hr, h2, h3⟩ := app_rows (w.alloc (.cells #[] 59)) w.heap.size _ 0 [] own0 ad xs.length c xs rfl ((hR.call L0).cells) (by omega) (by simp) (N := xs.length) (Nat.zero_add _)
    rw [List.nil_append] at h2
    exact ⟨v', w', hr, h2, L0.grown h3 (by simp) (fun j hj => by injection hj with hj; subst hj; exact Nat.le_refl _)⟩
set_option maxHeartbeats 2000000 in
theorem places_long (seed : ByteArray) (h : Int) (A B : Option Addr) (c d : Nat) (was : List Ac) (rows : List Rw) (m1 : was.length ≤ 9223372036854775807) (m2 : rows.length ≤ 9223372036854775807) (hl : 200 < seed.size ∨ longA was = true ∨ longR rows = true) (w : World) (hR : AcRow w w.heap.size A was) (hS : RwRow w w.heap.size B rows) :
    Calls Tryd.prog 3 #[.string seed, .int .i64 h, .slice A was.length c, .slice B rows.length d] w (Tells (.bool true) w.heap.size w) := by
  have cX := fun u hu => longA_any A c was m1 u hu
  have cY := fun u hu => longR_any B d rows m2 u hu
  by_cases h1 : 200 < seed.size
  · have h1i : (200 : Int) < (seed.size : Int) := by omega
    go_enter Tryd.func3, Tryd.ntmps3
    go_wp2
    go_ret
    exact ⟨rfl, Below.refl _ _⟩
  · have h1i : ¬ ((200 : Int) < (seed.size : Int)) := by omega
    cases h2 : longA was with
    | true =>
      rw [h2] at cX
      go_enter Tryd.func3, Tryd.ntmps3
      go_wp2_with (first | (go_at_call 10; refine (cX _ hR).mono ?_; rintro e w2 ⟨rfl, rfl⟩) | fail)
      go_ret
      exact ⟨rfl, Below.refl _ _⟩
    | false =>
      rw [h2] at cX hl
      have h3 : longR rows = true := by
        rcases hl with h | h | h
        · exact absurd h h1
        · cases h
        · exact h
      rw [h3] at cY
      go_enter Tryd.func3, Tryd.ntmps3
      go_wp2_with (first
        | (go_at_call 10; refine (cX _ hR).mono ?_; rintro e w2 ⟨rfl, rfl⟩)
        | (go_at_call 11; refine (cY _ hS).mono ?_; rintro e w3 ⟨rfl, rfl⟩)
        | fail)
      go_ret
      exact ⟨rfl, Below.refl _ _⟩
set_option maxRecDepth 100000 in
set_option maxHeartbeats 8000000 in
theorem places_bad (seed : ByteArray) (h : Int) (A B : Option Addr) (c d : Nat) (was : List Ac) (rows : List Rw) (h1 : seed.size ≤ 200) (l1 : longA was = false) (l2 : longR rows = false) (m1 : was.length ≤ 200) (m2 : rows.length ≤ 200) (z1 : ∀ x ∈ was, x.id.size ≤ 200 ∧ x.salt.size ≤ 200) (z2 : ∀ x ∈ rows, x.id.size ≤ 200)
    (o1 : AllAc was) (o2 : AllRw rows) (hE : placeE seed h was rows ≠ 0) (w : World) (hR : AcRow w w.heap.size A was) (hS : RwRow w w.heap.size B rows) (hTb : Tab w) (hT : TabU w) :
    Calls Tryd.prog 3 #[.string seed, .int .i64 h, .slice A was.length c, .slice B rows.length d] w (Tells (.bool true) w.heap.size w) := by
  have cX := fun u hu => longA_any A c was (by omega) u hu
  have cY := fun u hu => longR_any B d rows (by omega) u hu
  rw [l1] at cX
  rw [l2] at cY
  have h1i : ¬ ((200 : Int) < (seed.size : Int)) := by omega
  have hz6 : ∀ x ∈ was, x.id.size ≤ 1000000 ∧ x.salt.size ≤ 1000000 := fun x k => by have := z1 x k; omega
  have hrz : ∀ r ∈ rows, r.id.size ≤ 100000 ∧ r.ok := fun r hr => ⟨by have := z2 r hr; omega, o2 r hr⟩
  obtain ⟨ys, hys⟩ := sd_exists rows
  obtain ⟨v1, w1, r1, O1, L1⟩ := app_litA w A c was (by omega) hR
  have S1 := (hS.call L1).more L1.size
  obtain ⟨v2, w2, r2, O2, L2⟩ := app_litR w1 B d rows (by omega) S1
  obtain ⟨A1, c1, hv1, -, M1⟩ := accs_of_own O1
  obtain ⟨B1, d1, hv2, -, N2⟩ := rows_of_own O2
  subst hv1 hv2
  have L12 := chain L1 L2
  have R2 := (hR.call L12).more L12.size
  have S2 := (S1.call L2).more L2.size
  have M2 := (M1.call L2).more L2.size
  have T2 := hT.call L12
  have K2 := hTb.call L12
  have cM := fun u hu hv => rsameA_any A1 A c1 c was (by omega) u hu hv
  have cN := fun u hu hv => rsame_any B1 B d1 d rows (by omega) u hu hv
  clear L1 L2 S1 M1 O1 O2
  obtain ⟨E, hEE⟩ : ∃ E, placeE seed h was rows = E := ⟨_, rfl⟩
  have cP := fun u hu hv hx hy => (sPlace_any seed (by omega) h A1 c1 was (by omega) o1 hz6 B1 d1 rows ys hys (by omega) hrz E hEE u hu hv hx hy).mono (fun e w' k => (show Below u.heap.size u w' ∧ e = .returned (.tuple #[.slice none 0 0, .int .i64 E]) from by
    obtain ⟨k1, v, k2, k3, -⟩ := k
    rw [k3 (by rw [← hEE]; exact hE)] at k2
    exact ⟨k1, k2⟩))
  have cQ := fun u hu hv => rPlace_bad seed h A c was (by omega) o1 hz6 B d rows (by omega) hrz E hEE (by rw [← hEE]; exact hE) u hu hv
  have cE := fun u => rsameA_any none none 0 0 [] (by simp) u (AcRow.nil _ _ _) (AcRow.nil _ _ _)
  have q0 : (E == E) = true := beq_self_eq_true E
  clear hEE hE hys hrz hz6 l1 l2 z1 z2 o1 o2
  simp only [List.length_nil] at cE
  generalize was.length = M at *
  generalize rows.length = N at *
  go_enter Tryd.func3, Tryd.ntmps3
  go_upto_region 4 with (first
    | (go_at_call 10; refine (cX _ hR).mono ?_; rintro e v3 ⟨rfl, rfl⟩)
    | (go_at_call 11; refine (cY _ hS).mono ?_; rintro e v4 ⟨rfl, rfl⟩)
    | (at_builtin; refine wpList_run rfl _ _ _ rfl _ _ rfl rfl _ w1 r1 ?_)
    | (at_builtin; refine wpList_run rfl _ _ _ rfl _ _ rfl rfl _ w2 r2 ?_)
    | fail)
  clear cX cY r1 r2
  go_upto_region 5 with (first
    | (go_at_call 12; refine (cP _ M2 N2 T2 K2).mono ?_; rintro e w4 ⟨j4, rfl⟩)
    | fail)
  go_upto_region 6 with (first
    | (go_at_call 13; refine (cQ _ ((R2.call j4).more j4.size) ((S2.call j4).more j4.size)).mono ?_; rintro e w5 ⟨rfl, j5⟩)
    | fail)
  have j45 := chain j4 j5
  have R5 := (R2.call j45).more j45.size
  have S5 := (S2.call j45).more j45.size
  have M5 := (M2.call j45).more j45.size
  have N5 := (N2.call j45).more j45.size
  have J5 := chain L12 j45
  clear R2 S2 M2 N2 j4 j5 j45 L12 cP cQ
  go_wp2_with (first
    | (go_at_call 14; (with_reducible refine (cE _).mono ?_); rintro e w6 ⟨rfl, j6⟩)
    | (go_at_call 14; (with_reducible refine (cM _ ((M5.call j6).more j6.size) ((R5.call j6).more j6.size)).mono ?_); rintro e w7 ⟨rfl, j7⟩; have j67 := chain j6 j7)
    | (go_at_call 15; (with_reducible refine (cN _ ((N5.call j67).more j67.size) ((S5.call j67).more j67.size)).mono ?_); rintro e w8 ⟨rfl, j8⟩)
    | fail)
  go_ret
  exact ⟨rfl, chain (chain J5 j67) j8⟩
set_option maxRecDepth 100000 in
set_option maxHeartbeats 8000000 in
theorem places_ok (seed : ByteArray) (h : Int) (A B : Option Addr) (c d : Nat) (was : List Ac) (rows : List Rw) (h1 : seed.size ≤ 200) (l1 : longA was = false) (l2 : longR rows = false) (m1 : was.length ≤ 200) (m2 : rows.length ≤ 200) (z1 : ∀ x ∈ was, x.id.size ≤ 200 ∧ x.salt.size ≤ 200) (z2 : ∀ x ∈ rows, x.id.size ≤ 200)
    (o1 : AllAc was) (o2 : AllRw rows) (hE : placeE seed h was rows = 0) (w : World) (hR : AcRow w w.heap.size A was) (hS : RwRow w w.heap.size B rows) (hTb : Tab w) (hT : TabU w) :
    Calls Tryd.prog 3 #[.string seed, .int .i64 h, .slice A was.length c, .slice B rows.length d] w (Tells (.bool true) w.heap.size w) := by
  have cX := fun u hu => longA_any A c was (by omega) u hu
  have cY := fun u hu => longR_any B d rows (by omega) u hu
  rw [l1] at cX
  rw [l2] at cY
  have h1i : ¬ ((200 : Int) < (seed.size : Int)) := by omega
  have hz6 : ∀ x ∈ was, x.id.size ≤ 1000000 ∧ x.salt.size ≤ 1000000 := fun x k => by have := z1 x k; omega
  have hrz : ∀ r ∈ rows, r.id.size ≤ 100000 ∧ r.ok := fun r hr => ⟨by have := z2 r hr; omega, o2 r hr⟩
  obtain ⟨ys, hys⟩ := sd_exists rows
  obtain ⟨v1, w1, r1, O1, L1⟩ := app_litA w A c was (by omega) hR
  have S1 := (hS.call L1).more L1.size
  obtain ⟨v2, w2, r2, O2, L2⟩ := app_litR w1 B d rows (by omega) S1
  obtain ⟨A1, c1, hv1, -, M1⟩ := accs_of_own O1
  obtain ⟨B1, d1, hv2, -, N2⟩ := rows_of_own O2
  subst hv1 hv2
  have L12 := chain L1 L2
  have R2 := (hR.call L12).more L12.size
  have S2 := (S1.call L2).more L2.size
  have M2 := (M1.call L2).more L2.size
  have T2 := hT.call L12
  have K2 := hTb.call L12
  have cM := fun u hu hv => rsameA_any A1 A c1 c was (by omega) u hu hv
  have cN := fun u hu hv => rsame_any B1 B d1 d rows (by omega) u hu hv
  clear L1 L2 S1 M1 O1 O2
  have cP := fun u hu hv hx hy => (sPlace_any seed (by omega) h A1 c1 was (by omega) o1 hz6 B1 d1 rows ys hys (by omega) hrz 0 hE u hu hv hx hy).mono (fun e w' k => (show Below u.heap.size u w' ∧ ∃ g, e = .returned (.tuple #[.slice (some ⟨g, 0, none⟩) rows.length rows.length, .int .i64 0]) ∧ AcBox w' g (placeL (saltB seed) (fun i => firstN seed i h) (pw h.toNat) was ys) from by
    obtain ⟨k1, v, k2, -, k3⟩ := k
    obtain ⟨g, rfl, -, k5⟩ := k3 rfl
    exact ⟨k1, g, k2, k5⟩))
  have cQ := fun u hu hv => rPlace_any seed (by omega) h A c was (by omega) o1 hz6 B d rows ys hys (by omega) hrz hE u hu hv
  have hLl : (placeL (saltB seed) (fun i => firstN seed i h) (pw h.toNat) was ys).length = rows.length := by rw [place_len]; exact hys.perm.length_eq.symm
  generalize placeL (saltB seed) (fun i => firstN seed i h) (pw h.toNat) was ys = L at *
  have cE := fun X Y k q u hu hv => rsameA_any X Y k q L (by omega) u hu hv
  rw [hLl] at cE
  clear hE hys hrz hz6 l1 l2 z1 z2 o1 o2 hLl
  generalize was.length = M at *
  generalize rows.length = N at *
  go_enter Tryd.func3, Tryd.ntmps3
  go_upto_region 4 with (first
    | (go_at_call 10; refine (cX _ hR).mono ?_; rintro e v3 ⟨rfl, rfl⟩)
    | (go_at_call 11; refine (cY _ hS).mono ?_; rintro e v4 ⟨rfl, rfl⟩)
    | (at_builtin; refine wpList_run rfl _ _ _ rfl _ _ rfl rfl _ w1 r1 ?_)
    | (at_builtin; refine wpList_run rfl _ _ _ rfl _ _ rfl rfl _ w2 r2 ?_)
    | fail)
  clear cX cY r1 r2
  go_upto_region 5 with (first
    | (go_at_call 12; refine (cP _ M2 N2 T2 K2).mono ?_; rintro e w4 ⟨j4, g4, rfl, X4⟩)
    | fail)
  go_upto_region 6 with (first
    | (go_at_call 13; refine (cQ _ ((R2.call j4).more j4.size) ((S2.call j4).more j4.size)).mono ?_; rintro e w5 ⟨j5, A5, c5, rfl, Y5⟩)
    | fail)
  have j45 := chain j4 j5
  have R5 := (R2.call j45).more j45.size
  have S5 := (S2.call j45).more j45.size
  have M5 := (M2.call j45).more j45.size
  have N5 := (N2.call j45).more j45.size
  have J5 := chain L12 j45
  have X5 := (X4.call j5).row
  clear R2 S2 M2 N2 X4 j4 j5 j45 L12 cP cQ
  have cE1 := cE (some ⟨g4, 0, none⟩) A5 N c5 w5 X5 Y5
  clear cE
  go_wp2_with (first
    | (go_at_call 14; (with_reducible refine cE1.mono ?_); rintro e w6 ⟨rfl, j6⟩)
    | (go_at_call 14; (with_reducible refine (cM _ ((M5.call j6).more j6.size) ((R5.call j6).more j6.size)).mono ?_); rintro e w7 ⟨rfl, j7⟩; have j67 := chain j6 j7)
    | (go_at_call 15; (with_reducible refine (cN _ ((N5.call j67).more j67.size) ((S5.call j67).more j67.size)).mono ?_); rintro e w8 ⟨rfl, j8⟩)
    | fail)
  go_ret
  exact ⟨rfl, chain (chain J5 j67) j8⟩

theorem slotsPlaces_core (H : Type) (enc : TypeId × Value → H) (W : World) (base : Nat) (args : Array Value) (ds gs : List (DataW H)) (before : List MemPlace)
    (hval : ∀ (j : Nat) t v, Tryd.f3.params[j]? = some t → args[j]? = some v → Value.okWide Tryd.prog W .any base t v)
    (hW : DataW.Whole enc Tryd.prog Tryd.f3.params.toList Rows.slotsPlacesSpec.vars false W args.toList ds gs before) (hT : Tab W ∧ TabU W) :
    gs = [] ∧ ds.length = 4 ∧ Calls Tryd.prog 3 args W (Tells (.bool true) W.heap.size W) := by
  obtain ⟨p, q, hA, hV, -, -, -⟩ := hW
  obtain ⟨rfl, rfl⟩ := trodVars_none hV
  have hA : DataW.TrodAll enc Tryd.prog W 0 (fun _ => true) true Tryd.f3.params.toList args.toList ds p := hA
  rw [Tryd.params3] at hA hval
  obtain ⟨v0, vs0, d0, ds0, p0, ps0, e0, rfl, -, h0, hA⟩ := trodAll_cons hA
  obtain ⟨v1, vs1, d1, ds1, p1, ps1, rfl, rfl, -, h1, hA⟩ := trodAll_cons hA
  obtain ⟨v2, vs2, d2, ds2, p2, ps2, rfl, rfl, -, h2, hA⟩ := trodAll_cons hA
  obtain ⟨v3, vs3, d3, ds3, p3, ps3, rfl, rfl, -, h3, hA⟩ := trodAll_cons hA
  obtain ⟨rfl, rfl, rfl⟩ := trodAll_nil hA
  obtain rfl : args = #[v0, v1, v2, v3] := Array.ext' e0
  obtain ⟨seed, rfl, -, -, z0⟩ := Go.ChangeMaps.open_string Tryd.underlying9 (hval 0 9 v0 rfl rfl) h0
  obtain ⟨h, rfl, -, -, -⟩ := open_int Tryd.underlying3 (hval 1 3 v1 rfl rfl) h1
  obtain ⟨A, c, was, rfl, x1, -, -, x2, x3⟩ := open_accs (hval 2 22 v2 rfl rfl) h2
  obtain ⟨B, d, rows, rfl, y1, -, -, y2, y3⟩ := open_rows (hval 3 23 v3 rfl rfl) h3
  refine ⟨rfl, rfl, ?_⟩
  by_cases hl : 200 < seed.size ∨ longA was = true ∨ longR rows = true
  · exact places_long seed h A B c d was rows x1 y1 hl W x3 y3
  · rw [not_or, not_or] at hl
    obtain ⟨k1, k2, k3⟩ := hl
    have k2 : longA was = false := by cases e : longA was; rfl; exact absurd e k2
    have k3 : longR rows = false := by cases e : longR rows; rfl; exact absurd e k3
    obtain ⟨m1, z1⟩ := longA_no k2
    obtain ⟨m2, z2⟩ := longR_no k3
    by_cases hE : placeE seed h was rows = 0
    · exact places_ok seed h A B c d was rows (by omega) k2 k3 m1 m2 z1 z2 x2 y2 hE W x3 y3 hT.1 hT.2
    · exact places_bad seed h A B c d was rows (by omega) k2 k3 m1 m2 z1 z2 x2 y2 hE W x3 y3 hT.1 hT.2

set_option maxRecDepth 100000 in
theorem slotsPlaces_lifted (os : Os) (started : os.Started) (H : Type) (enc : TypeId × Value → H) :
    ReturnsInHanded {} Tryd.checked os 3 .any (fun w args => (Rows.slotsPlacesSpec.pre enc Tryd.prog Tryd.f3 [] false w args ∧ laidMetH Tryd.prog laidA w) ∧ sizedMet enc Tryd.prog Tryd.f3 (OpenSpec.ofChange Rows.slotsPlacesSpec) false w args)
      (Rows.slotsPlacesSpec.post enc Tryd.prog Tryd.f3 false true false false) := by
  refine returnsInHanded_of_change_and (C := Tryd.checked) (X := fun w _ => laidMetH Tryd.prog laidA w) (fun _ _ _ hh h => h.of_heap hh) own_knob started (by kernel_rfl) Tryd.func3
    (ChangeSpec.witness_shaped (enc := enc) (C := Tryd.checked) (os := os) (X := fun w _ => laidMetH Tryd.prog laidA w) false (World.laidAll Tryd.prog os laidA) #[.string ⟨#[]⟩, .int .i64 0, .slice none 0 0, .slice none 0 0] 8 (World.laidAll_os _ _ _) (World.shaped_of_ZipB (by kernel_rfl) (by kernel_rfl)) (by kernel_rfl) (by kernel_rfl) (by kernel_rfl) (met_A os _)) ?_
  intro W base args ds gs before hval0 hW _ hwt hL _
  have hval : ∀ (j : Nat) t v, Tryd.f3.params[j]? = some t → args[j]? = some v → Value.okWide Tryd.prog W .any base t v := hval0
  obtain ⟨hg, hlen, hc⟩ := slotsPlaces_core H enc W base args ds gs before hval hW (tab_of_laidA hL)
  subst hg
  have hr : (Tryd.f3.params.toList.all fun t => Tryd.prog.readableRec t && decide (t < Tryd.prog.types.size)) = true := by kernel_rfl
  have hread : ∀ t ∈ Tryd.f3.params.toList, Tryd.prog.readableRec t = true ∧ t < Tryd.prog.types.size := fun t ht => by
    have h := List.all_eq_true.1 hr t ht
    rw [Bool.and_eq_true, decide_eq_true_eq] at h
    exact h
  refine hc.mono fun e W' ⟨he, hb⟩ => ?_
  subst he
  match ds, hlen with
  | [d0, d1, d2, d3], _ => exact ⟨_, rfl, law_post laid_out Tryd.underlying4 rfl hread rfl hW rfl rfl rfl hb⟩

theorem slotsPlaces_holds : Rows.SlotsPlacesSaid :=
  OpenClaim.holds_of_wide 3 Tryd.f3 rfl rfl rfl rfl rfl rfl rfl ⟨rfl, rfl, rfl, rfl, rfl⟩ rfl rfl rfl rfl rfl (by kernel_rfl) Tryd.func3 (by kernel_rfl)
    (of_decide_eq_true (by kernel_rfl)) (by unfold Func.isWrapper; first | (rw [if_pos (by decide +kernel)]; kernel_rfl) | (rw [if_neg (by decide +kernel)]; exact ⟨rfl, rfl⟩))
    (fun os started H enc _ => slotsPlaces_lifted os started H enc)

theorem slotsPlaces_card : Rows.SlotsPlacesCardSaid :=
  Claim7.holds_tied_plain_at .later [] [.data, .data, .pinned] true _ false
    slotsPlaces_holds (fun _ h => by cases h) (by kernel_rfl) (fun _ h => by cases h) slotsPlaces_row_tie rfl ⟨rfl, rfl⟩ (by kernel_rfl) rfl
    (fun f fn hf hfn => by
      obtain rfl : f = 3 := Option.some.inj ((show Tryd.prog.funcNamed "paymaster/paymasterlaw12.SlotsPlaces" = some 3 by kernel_rfl).symm.trans hf) |>.symm
      obtain rfl : fn = Tryd.f3 := (Option.some.inj (Tryd.func3.symm.trans hfn)).symm
      exact ⟨by kernel_rfl, fun j t ht => by
        have hm : t ∈ Tryd.f3.params.toList := by simpa using Array.mem_of_getElem? ht
        have hall : (Tryd.f3.params.toList.all fun u => !Tryd.prog.wantsStandIn u) = true := by kernel_rfl
        exact (show Tryd.prog.wantsStandIn t = false by simpa using List.all_eq_true.1 hall t hm)⟩)
    (by kernel_rfl)

end Go.Proofs.YtngofpdpangajaaDoor
