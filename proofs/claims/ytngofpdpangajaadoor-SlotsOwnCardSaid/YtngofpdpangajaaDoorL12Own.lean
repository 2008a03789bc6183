/-
  The law SlotsOwn: what is placed may be accounts, one for each row, with its amount; nobody who stays moves, or gets another salt; whoever is new has the seed's. Conditions: none.
-/
import Derived.Test.YtngofpdpangajaaDoorU12Awake
import Derived.Test.YtngofpdpangajaaDoorM12Pln
import Derived.Test.YtngofpdpangajaaDoorM12Plc
import Derived.Test.YtngofpdpangajaaDoorM12May
import Derived.Test.YtngofpdpangajaaDoorS10Same
import Derived.Test.YtngofpdpangajaaDoorW7Laid
import Derived.ChangeMaps
namespace Go.Proofs.YtngofpdpangajaaDoor
set_option linter.unusedVariables false
set_option linter.unusedSimpArgs false
set_option maxRecDepth 10000
open Go.ChangeShapes Go.WideShapes Go.ChangeAt Go.RowKit Go.Sort

set_option maxHeartbeats 2000000 in
theorem own12_long (seed : ByteArray) (h : Int) (A B : Option Addr) (c d : Nat) (was : List Ac) (rows : List Rw) (m1 : was.length ≤ 9223372036854775807) (m2 : rows.length ≤ 9223372036854775807) (hl : 64 < seed.size ∨ longA was = true ∨ longR rows = true) (w : World) (hR : AcRow w w.heap.size A was) (hS : RwRow w w.heap.size B rows) (hTb : Tab w) (hT : TabU w) :
    Calls Tryd.prog 6 #[.string seed, .int .i64 h, .slice A was.length c, .slice B rows.length d] w (Tells (.bool true) w.heap.size w) := by
  have cA := fun u hu hv => awake12_any u hu hv
  have cX := fun u hu => longA_any A c was m1 u hu
  have cY := fun u hu => longR_any B d rows m2 u hu
  by_cases h1 : 64 < seed.size
  · have h1i : (64 : Int) < (seed.size : Int) := by omega
    go_enter Tryd.func6, Tryd.ntmps6
    go_wp2_with (first | (go_at_call 29; refine (cA _ hTb hT).mono ?_; rintro e w1 ⟨rfl, j1⟩) | fail)
    go_ret
    exact ⟨rfl, j1⟩
  · have h1i : ¬ ((64 : Int) < (seed.size : Int)) := by omega
    cases h2 : longA was with
    | true =>
      rw [h2] at cX
      go_enter Tryd.func6, Tryd.ntmps6
      go_wp2_with (first
        | (go_at_call 29; refine (cA _ hTb hT).mono ?_; rintro e w1 ⟨rfl, j1⟩)
        | (go_at_call 10; refine (cX _ ((hR.call j1).more j1.size)).mono ?_; rintro e w2 ⟨rfl, rfl⟩)
        | fail)
      go_ret
      exact ⟨rfl, j1⟩
    | false =>
      rw [h2] at cX hl
      have h3 : longR rows = true := by
        rcases hl with h | h | h
        · exact absurd h h1
        · cases h
        · exact h
      rw [h3] at cY
      go_enter Tryd.func6, Tryd.ntmps6
      go_wp2_with (first
        | (go_at_call 29; refine (cA _ hTb hT).mono ?_; rintro e w1 ⟨rfl, j1⟩)
        | (go_at_call 10; refine (cX _ ((hR.call j1).more j1.size)).mono ?_; rintro e w2 ⟨rfl, rfl⟩)
        | (go_at_call 11; refine (cY _ ((hS.call j1).more j1.size)).mono ?_; rintro e w3 ⟨rfl, rfl⟩)
        | fail)
      go_ret
      exact ⟨rfl, j1⟩
/-- What place tells may be wrong. -/
theorem placeE_cases (seed : ByteArray) (h : Int) (was : List Ac) (rows : List Rw) (hs : seed.size ≤ 64) :
    placeE seed h was rows = 0 ∨ placeE seed h was rows = 120 ∨ placeE seed h was rows = 2 ∨ (placeE seed h was rows = 111 ∧ mayA h was = true ∧ pw h.toNat < (rows.length : Int)) := by
  unfold placeE
  by_cases h0 : wrongE seed h was ≠ 0
  · rw [if_pos h0]
    unfold wrongE at h0 ⊢
    split
    · exact .inr (.inl rfl)
    · rw [if_neg (by omega)]
      split
      · exact .inr (.inr (.inl rfl))
      · rename_i k1 k2
        rw [if_neg k1, if_neg (by omega), if_neg k2] at h0
        exact absurd rfl h0
  · rw [if_neg h0]
    obtain ⟨-, -, hm⟩ := wrong_no (Classical.byContradiction h0)
    split
    · split
      · rename_i k
        exact .inr (.inr (.inr ⟨rfl, hm, k⟩))
      · exact .inl rfl
    · exact .inr (.inr (.inl rfl))
set_option maxRecDepth 100000 in
set_option maxHeartbeats 4000000 in
theorem own12_bad (seed : ByteArray) (h : Int) (A B : Option Addr) (c d : Nat) (was : List Ac) (rows : List Rw) (h1 : seed.size ≤ 64) (l1 : longA was = false) (l2 : longR rows = false) (m1 : was.length ≤ 200) (m2 : rows.length ≤ 200) (z1 : ∀ x ∈ was, x.id.size ≤ 200 ∧ x.salt.size ≤ 200) (z2 : ∀ x ∈ rows, x.id.size ≤ 200)
    (o1 : AllAc was) (o2 : AllRw rows) (hE : placeE seed h was rows ≠ 0) (w : World) (hR : AcRow w w.heap.size A was) (hS : RwRow w w.heap.size B rows) (hTb : Tab w) (hT : TabU w) :
    Calls Tryd.prog 6 #[.string seed, .int .i64 h, .slice A was.length c, .slice B rows.length d] w (Tells (.bool true) w.heap.size w) := by
  have cA := fun u hu hv => awake12_any u hu hv
  have cX := fun u hu => longA_any A c was (by omega) u hu
  have cY := fun u hu => longR_any B d rows (by omega) u hu
  rw [l1] at cX
  rw [l2] at cY
  have h1i : ¬ ((64 : Int) < (seed.size : Int)) := by omega
  have hz6 : ∀ x ∈ was, x.id.size ≤ 1000000 ∧ x.salt.size ≤ 1000000 := fun x k => by have := z1 x k; omega
  obtain ⟨ys, hys⟩ := sd_exists rows
  obtain ⟨E, hEE⟩ : ∃ E, placeE seed h was rows = E := ⟨_, rfl⟩
  have cP := fun u hu hv hx hy => (sPlace_any seed (by omega) h A c was (by omega) o1 hz6 B d rows ys hys (by omega) (fun r hr => ⟨by have := z2 r hr; omega, o2 r hr⟩) E hEE u hu hv hx hy).mono (fun e w' k => (show Below u.heap.size u w' ∧ e = .returned (.tuple #[.slice none 0 0, .int .i64 E]) from by
    obtain ⟨k1, v, k2, k3, -⟩ := k
    rw [k3 (by rw [← hEE]; exact hE)] at k2
    exact ⟨k1, k2⟩))
  have hc := placeE_cases seed h was rows h1
  rw [hEE] at hc hE
  have cM := fun u hu hv => smay_any A c was (by omega) o1 hz6 h u hu hv
  have q0 : (E == 0) = false := beq_false_of_ne hE
  rcases hc with hc | hc | hc | ⟨hc, hm, hlt⟩
  · exact absurd hc hE
  · subst hc
    clear hEE hys
    generalize was.length = M at *
    generalize rows.length = N at *
    go_enter Tryd.func6, Tryd.ntmps6
    go_upto_region 6 with (first
      | (go_at_call 29; refine (cA _ hTb hT).mono ?_; rintro e w1 ⟨rfl, j1⟩)
      | (go_at_call 10; refine (cX _ ((hR.call j1).more j1.size)).mono ?_; rintro e w2 ⟨rfl, rfl⟩)
      | (go_at_call 11; refine (cY _ ((hS.call j1).more j1.size)).mono ?_; rintro e w3 ⟨rfl, rfl⟩)
      | (go_at_call 12; refine (cP _ ((hR.call j1).more j1.size) ((hS.call j1).more j1.size) (hT.call j1) (hTb.call j1)).mono ?_; rintro e w4 ⟨j4, rfl⟩)
      | fail)
    go_wp2
    go_ret
    exact ⟨rfl, chain j1 j4⟩
  · subst hc
    clear hEE hys
    generalize mayA h was = V at *
    generalize was.length = M at *
    generalize rows.length = N at *
    go_enter Tryd.func6, Tryd.ntmps6
    go_upto_region 6 with (first
      | (go_at_call 29; refine (cA _ hTb hT).mono ?_; rintro e w1 ⟨rfl, j1⟩)
      | (go_at_call 10; refine (cX _ ((hR.call j1).more j1.size)).mono ?_; rintro e w2 ⟨rfl, rfl⟩)
      | (go_at_call 11; refine (cY _ ((hS.call j1).more j1.size)).mono ?_; rintro e w3 ⟨rfl, rfl⟩)
      | (go_at_call 12; refine (cP _ ((hR.call j1).more j1.size) ((hS.call j1).more j1.size) (hT.call j1) (hTb.call j1)).mono ?_; rintro e w4 ⟨j4, rfl⟩)
      | fail)
    have j14 := chain j1 j4
    cases V with
    | true =>
      go_wp2_with (first | (go_at_call 22; refine (cM _ ((hR.call j14).more j14.size) (hT.call j14)).mono ?_; rintro e w5 ⟨rfl, j5⟩) | fail)
      go_ret
      exact ⟨rfl, chain j14 j5⟩
    | false =>
      go_wp2_with (first | (go_at_call 22; refine (cM _ ((hR.call j14).more j14.size) (hT.call j14)).mono ?_; rintro e w5 ⟨rfl, j5⟩) | fail)
      go_ret
      exact ⟨rfl, chain j14 j5⟩
  · subst hc
    obtain ⟨n, rfl, hn, -⟩ := mayA_P hm
    rw [hm] at cM
    rw [Int.toNat_natCast] at hlt
    have hpb := pw_bd n hn
    have hmx : ¬ ((n : Int) < 0) := by omega
    have hw1 : IntKind.u64.wrap (n : Int) = (n : Int) := by rw [IntKind.wrap_u64]; omega
    have hw2 : IntKind.i64.wrap ((2 : Int) ^ n) = pw n := by
      show IntKind.i64.wrap (pw n) = pw n
      rw [IntKind.wrap_i64]
      omega
    have hmin : min n 64 = n := by omega
    clear hEE hys
    generalize was.length = M at *
    generalize rows.length = N at *
    go_enter Tryd.func6, Tryd.ntmps6
    go_upto_region 6 with (first
      | (go_at_call 29; refine (cA _ hTb hT).mono ?_; rintro e w1 ⟨rfl, j1⟩)
      | (go_at_call 10; refine (cX _ ((hR.call j1).more j1.size)).mono ?_; rintro e w2 ⟨rfl, rfl⟩)
      | (go_at_call 11; refine (cY _ ((hS.call j1).more j1.size)).mono ?_; rintro e w3 ⟨rfl, rfl⟩)
      | (go_at_call 12; refine (cP _ ((hR.call j1).more j1.size) ((hS.call j1).more j1.size) (hT.call j1) (hTb.call j1)).mono ?_; rintro e w4 ⟨j4, rfl⟩)
      | fail)
    have j14 := chain j1 j4
    go_wp2_with (first | (go_at_call 22; refine (cM _ ((hR.call j14).more j14.size) (hT.call j14)).mono ?_; rintro e w5 ⟨rfl, j5⟩) | fail)
    go_ret
    exact ⟨rfl, chain j14 j5⟩

theorem at0_own (g m : Nat) : (⟨g, 0, none⟩ : Addr).add m = ⟨g, m, none⟩ := by simp [Addr.add]; exact fun hj => hj.symm
/-- The account of a row, found among those that are placed. -/
theorem find_placed {σ : ByteArray → ByteArray} {φ : ByteArray → Int} {A : Int} {was : List Ac} {ys : List Rw} (hy : RowsP ys) {r : Rw} (hr : r ∈ ys) :
    ∃ (s : ByteArray) (n : Int), findA (placeL σ φ A was ys) (keyR r) = (⟨r.id, r.h, r.l, s, n⟩, true) ∧ (newIn was r = false → s = (findA was (keyR r)).1.salt ∧ n = (findA was (keyR r)).1.slot) ∧ (newIn was r = true → s = σ r.id) ∧ (⟨r.id, r.h, r.l, s, n⟩ : Ac) ∈ placeL σ φ A was ys := by
  obtain ⟨i, hi, e⟩ := List.getElem_of_mem hr
  have hi2 : ys[i]? = some r := by rw [List.getElem?_eq_getElem hi, e]
  have hd : ((placeL σ φ A was ys).map keyA).Nodup := by rw [place_keys]; exact hy.2
  cases hn : newIn was r with
  | false =>
    have h := List.mem_of_getElem? (place_old (σ := σ) (φ := φ) (A := A) hi2 hn)
    exact ⟨_, _, firstA_own (f := keyA) hd h, fun _ => ⟨rfl, rfl⟩, (fun h => Bool.noConfusion h), h⟩
  | true =>
    have h := List.mem_of_getElem? (place_new (σ := σ) (φ := φ) (A := A) hi2 hn)
    exact ⟨_, _, firstA_own (f := keyA) hd h, (fun h => Bool.noConfusion h), fun _ => rfl, h⟩
theorem keys_rise {ys : List Rw} (hs : Sl ys) (hd : (ys.map keyR).Nodup) {i j : Nat} {x y : Rw} (hij : i < j) (hx : ys[i]? = some x) (hy : ys[j]? = some y) : LR x y := by
  have hi := (List.getElem?_eq_some_iff.1 hx)
  have hj := (List.getElem?_eq_some_iff.1 hy)
  have h1 := List.pairwise_iff_getElem.1 hs i j hi.1 hj.1 hij
  rw [hi.2, hj.2] at h1
  refine Classical.byContradiction fun h2 => ?_
  have h3 := LR_key h2 h1
  have h4 := List.nodup_iff_pairwise_ne.1 hd
  rw [List.pairwise_map] at h4
  have h5 := List.pairwise_iff_getElem.1 h4 i j hi.1 hj.1 hij
  rw [hi.2, hj.2] at h5
  exact h5 h3
theorem leq_run12 (x y : Rw) (h : LR x y) (u : World) : (binOp .leq 9 (.string y.id) (.string x.id)).run Tryd.prog u = .ok (.bool false) u := by
  have e1 := bless_no (LR_asymm h)
  have e2 := other_id (x := y) (y := x) fun k => LR_irrefl y ((LR_same k.symm).1 h)
  simp [binOp, Op.stringOp, e1, e2]
set_option maxRecDepth 100000 in
set_option maxHeartbeats 8000000 in
theorem own12_ok (seed : ByteArray) (h : Int) (A B : Option Addr) (c d : Nat) (was : List Ac) (rows : List Rw) (h1 : seed.size ≤ 64) (l1 : longA was = false) (l2 : longR rows = false) (m1 : was.length ≤ 200) (m2 : rows.length ≤ 200) (z1 : ∀ x ∈ was, x.id.size ≤ 200 ∧ x.salt.size ≤ 200) (z2 : ∀ x ∈ rows, x.id.size ≤ 200)
    (o1 : AllAc was) (o2 : AllRw rows) (hE : placeE seed h was rows = 0) (w : World) (hR : AcRow w w.heap.size A was) (hS : RwRow w w.heap.size B rows) (hTb : Tab w) (hT : TabU w) :
    Calls Tryd.prog 6 #[.string seed, .int .i64 h, .slice A was.length c, .slice B rows.length d] w (Tells (.bool true) w.heap.size w) := by
  have cA := fun u hu hv => awake12_any u hu hv
  have cX := fun u hu => longA_any A c was (by omega) u hu
  have cY := fun u hu => longR_any B d rows (by omega) u hu
  rw [l1] at cX
  rw [l2] at cY
  have h1i : ¬ ((64 : Int) < (seed.size : Int)) := by omega
  have hz6 : ∀ x ∈ was, x.id.size ≤ 1000000 ∧ x.salt.size ≤ 1000000 := fun x k => by have := z1 x k; omega
  obtain ⟨ys, hys⟩ := sd_exists rows
  have hE2 : wrongE seed h was = 0 ∧ RowsP rows ∧ (rows.length : Int) ≤ pw h.toNat := by
    unfold placeE at hE
    by_cases k0 : wrongE seed h was ≠ 0
    · rw [if_pos k0] at hE; exact absurd hE k0
    · rw [if_neg k0] at hE
      by_cases k1 : RowsP rows
      · rw [if_pos k1] at hE
        by_cases k2 : pw h.toNat < (rows.length : Int)
        · rw [if_pos k2] at hE; cases hE
        · exact ⟨Classical.byContradiction k0, k1, by omega⟩
      · rw [if_neg k1] at hE; cases hE
  obtain ⟨hw0, hrp, hlen⟩ := hE2
  obtain ⟨-, -, hma⟩ := wrong_no hw0
  obtain ⟨n, rfl, hn, hMP⟩ := mayA_P hma
  rw [Int.toNat_natCast] at hlen
  have hyp := (rowsP_perm hys.perm).1 hrp
  have hyl : ys.length = rows.length := hys.perm.length_eq.symm
  have hpb := pw_bd n hn
  have cP := fun u hu hv hx hy => (sPlace_any seed (by omega) (n : Int) A c was (by omega) o1 hz6 B d rows ys hys (by omega) (fun r hr => ⟨by have := z2 r hr; omega, o2 r hr⟩) 0 hE u hu hv hx hy).mono (fun e w' k => (show Below u.heap.size u w' ∧ ∃ g, e = .returned (.tuple #[.slice (some ⟨g, 0, none⟩) rows.length rows.length, .int .i64 0]) ∧ AcBox w' g (placeL (saltB seed) (fun i => firstN seed i n) (pw n) was ys) from by
    obtain ⟨k1, v, k2, -, k3⟩ := k
    obtain ⟨g, rfl, -, k5⟩ := k3 rfl
    exact ⟨k1, g, k2, by simpa using k5⟩))
  have hLm : MayP (pw n) (placeL (saltB seed) (fun i => firstN seed i n) (pw n) was ys) := place_may (by omega) (fun i => by rw [saltB_size]; decide) hMP hyp (by omega)
  have hLl : (placeL (saltB seed) (fun i => firstN seed i n) (pw n) was ys).length = rows.length := by rw [place_len, hyl]
  have hfind := fun r (hr : r ∈ rows) => find_placed (σ := saltB seed) (φ := fun i => firstN seed i n) (A := pw n) (was := was) hyp (hys.perm.mem_iff.1 hr)
  have hkeys := place_keys (σ := saltB seed) (φ := fun i => firstN seed i n) (A := pw n) (was := was) (ys := ys)
  have hslots := (place_slots (σ := saltB seed) (φ := fun i => firstN seed i n) (A := pw n) (by omega) hMP hyp (by omega)).2
  have hperm := place_perm (σ := saltB seed) (φ := fun i => firstN seed i n) (A := pw n) (was := was) (ys := ys)
  obtain ⟨L, hL⟩ : ∃ L, placeL (saltB seed) (fun i => firstN seed i n) (pw n) was ys = L := ⟨_, rfl⟩
  rw [hL] at cP hLm hLl hkeys hperm
  simp only [hL] at hfind
  have hLz : ∀ x ∈ L, x.id.size ≤ 1000000 ∧ x.salt.size ≤ 1000000 := fun x hx => by
    have h2 := hLm.1 x hx
    rw [okA_def, Bool.and_eq_true, Bool.and_eq_true] at h2
    have h3 : keyA x ∈ L.map keyA := List.mem_map_of_mem hx
    rw [hkeys] at h3
    obtain ⟨r, hr, e⟩ := List.mem_map.1 h3
    have h4 := z2 r (hys.perm.mem_iff.2 hr)
    have h5 : x.id.size = r.id.size := by rw [← ba_size, ← ba_size]; exact congrArg List.length e.symm
    have h6 := of_decide_eq_true h2.2.1
    omega
  have hLo : AllAc L := fun x hx => by
    have h3 : keyA x ∈ L.map keyA := List.mem_map_of_mem hx
    rcases List.mem_append.1 (hperm.mem_iff.1 hx) with hm | hm
    · obtain ⟨r, hr, hrn, rfl⟩ := stays_mem hm
      have := o2 r (hys.perm.mem_iff.2 hr)
      exact ⟨this.1, this.2, (o1 _ (findA_in hrn).1).2.2⟩
    · have hs := hslots x hm
      obtain ⟨i, hi, e⟩ := List.getElem_of_mem hm
      obtain ⟨r, hr⟩ : ∃ r, (ys.filter (newIn was))[i]? = some r := ⟨_, List.getElem?_eq_getElem (by rw [newsL_len] at hi; exact hi)⟩
      have h4 := newsL_at (σ := saltB seed) (φ := fun i => firstN seed i n) (A := pw n) (ys.filter (newIn was)) (stayT was ys) i r hr
      rw [List.getElem?_eq_getElem hi, e] at h4
      injection h4 with h4
      have hro := o2 r (hys.perm.mem_iff.2 (List.mem_filter.1 (List.mem_of_getElem? hr)).1)
      have e1 : x.h = r.h := by rw [h4]; rfl
      have e2 : x.l = r.l := by rw [h4]; rfl
      exact ⟨by rw [e1]; exact hro.1, by rw [e2]; exact hro.2, ⟨hs.1, by omega⟩⟩
  have hmayL : mayA (n : Int) L = true := by
    unfold mayA
    rw [show shOk (n : Int) = true from decide_eq_true ⟨by omega, by omega⟩, Int.toNat_natCast, decide_eq_true hLm]
    rfl
  have cM := fun g' u hu hv => smay_any (some ⟨g', 0, none⟩) rows.length L (by omega) hLo hLz (n : Int) u hu hv
  rw [hmayL, hLl] at cM
  have cFL := fun g' s u hu => sFind_any (some ⟨g', 0, none⟩) rows.length L s (by omega) hLz u hu
  rw [hLl] at cFL
  have cFW := fun s u hu => sFind_any A c was s (by omega) hz6 u hu
  have hrise := fun (i j : Nat) (x y : Rw) (hij : i < j) (hx : ys[i]? = some x) (hy : ys[j]? = some y) => keys_rise hys.1 hyp.2 hij hx hy
  have hLy : ∀ (i : Nat) (x : Ac), L[i]? = some x → ∃ r, ys[i]? = some r ∧ keyR r = keyA x := fun i x hx => by
    have h3 : (L.map keyA)[i]? = some (keyA x) := by rw [List.getElem?_map, hx]; rfl
    rw [hkeys, List.getElem?_map] at h3
    cases hr : ys[i]? with
    | none => rw [hr] at h3; cases h3
    | some r => rw [hr] at h3; injection h3 with h3; exact ⟨r, rfl, h3⟩
  clear hE hw0 hma hMP hrp hlen hyp hyl hpb hslots hperm hkeys hLm hmayL hL hLo
  obtain ⟨N, hN⟩ : ∃ N, rows.length = N := ⟨_, rfl⟩
  obtain ⟨M, hM⟩ : ∃ M, was.length = M := ⟨_, rfl⟩
  rw [hN] at cP cM cFL cY hLl ⊢
  rw [hM] at cX cP cFW ⊢
  go_enter Tryd.func6, Tryd.ntmps6
  go_upto_region 6 with (first
    | (go_at_call 29; refine (cA _ hTb hT).mono ?_; rintro e w1 ⟨rfl, j1⟩)
    | (go_at_call 10; refine (cX _ ((hR.call j1).more j1.size)).mono ?_; rintro e w2 ⟨rfl, rfl⟩)
    | (go_at_call 11; refine (cY _ ((hS.call j1).more j1.size)).mono ?_; rintro e w3 ⟨rfl, rfl⟩)
    | (go_at_call 12; refine (cP _ ((hR.call j1).more j1.size) ((hS.call j1).more j1.size) (hT.call j1) (hTb.call j1)).mono ?_; rintro e w4 ⟨j4, g4, rfl, X4⟩)
    | fail)
  have j14 := chain j1 j4
  go_upto_region 10 with (first | (go_at_call 22; refine (cM _ _ (X4.row) (hT.call j14)).mono ?_; rintro e w5 ⟨rfl, j5⟩) | fail)
  have X5 := X4.call j5
  have j15 := chain j14 j5
  have R5 := (hR.call j15).more j15.size
  have S5 := (hS.call j15).more j15.size
  have T5 := hTb.call j15
  clear cA cX cY cP cM X4 j4 j5 j1 hR hS hT hTb j14
  go_wp2
  go_loopg [11] N (fun gk i wr => ∃ k : Nat, k ≤ N ∧ N - k ≤ gk ∧ i = .int .i64 k ∧ Below w5.heap.size w5 wr)
  case atStart => exact ⟨0, Nat.zero_le _, by omega, rfl, Below.refl _ _⟩
  case round =>
    obtain ⟨k, hk, hgk, rfl, hb⟩ := hrel
    have HG := hideIt hgk
    clear hgk
    by_cases hlt : k < N
    · obtain ⟨r, hr⟩ : ∃ r, rows[k]? = some r := ⟨_, List.getElem?_eq_getElem (by omega)⟩
      have hrm := List.mem_of_getElem? hr
      have hrz := z2 r hrm
      obtain ⟨sa, na, hf, hold, hnew, hmem⟩ := hfind r hrm
      have hsz := (hLz _ hmem).2
      simp only at hsz
      obtain ⟨⟨⟨iw, hw, lw, sw, nw⟩, bw⟩, hfw⟩ : ∃ V, findA was (keyR r) = V := ⟨_, rfl⟩
      have hnb : newIn was r = !bw := by unfold newIn; rw [hfw]
      have cF1 := fun u hu => cFL g4 r.id u hu
      have cF2 := fun u hu => cFW r.id u hu
      have e1 : findA L r.id.data.toList = _ := hf
      have e2 : findA was r.id.data.toList = _ := hfw
      rw [e1] at cF1
      rw [e2] at cF2
      simp only [Ac.val] at cF1 cF2
      rw [hfw] at hold
      simp only at hold
      obtain ⟨ad, hB, had, p0, p1, p2⟩ := (S5.call hb) k r hr
      subst hB
      have hlti : (k : Int) < (N : Int) := by omega
      have p3 : (ad.add (k * 3)).block < wr.heap.size := by rw [o10_block]; exact Nat.lt_of_lt_of_le had hb.size
      have X6 := X5.call hb
      have R6 := (R5.call hb).more hb.size
      have cZ := fun u hu => salt_any seed r.id (by omega) (by omega) u hu
      have HR := hideIt hr
      have HNB := hideIt hnb
      have HO := hideIt hold
      have HW := hideIt hnew
      clear hr hf hfw hnb e1 e2 hold hnew hmem
      go_upto_region 14 with (first
        | (go_at_call 16; refine (cF1 _ X6.row).mono ?_; rintro e v1 ⟨rfl, k1⟩)
        | fail)
      have H1 := ((Has.start wr).call k1).add 38 (acB r.id r.h r.l sa na)
      change Code.wp _ _ _ _ (v1.alloc (.cells (acB r.id r.h r.l sa na) 38))
      obtain ⟨ga, hga⟩ : ∃ g, v1.heap.size = g := ⟨_, rfl⟩
      rw [hga] at H1 ⊢
      generalize v1.alloc (.cells (acB r.id r.h r.l sa na) 38) = W1 at *
      have b1 := H1.below
      have P1 := ((S5.call hb).call (b1.mono hb.size)) k r HR.out
      obtain ⟨ad', hB, had', p0, p1, p2⟩ := P1
      cases hB
      have p3 : (ad.add (k * 3)).block < W1.heap.size := by rw [o10_block]; exact Nat.lt_of_lt_of_le had' (Nat.le_trans hb.size b1.size)
      go_upto_region 15 with (first
        | (go_at_call 16; refine (cF2 _ ((R6.call b1).more b1.size)).mono ?_; rintro e v2 ⟨rfl, k2⟩)
        | fail)
      have H2 := (H1.call k2).add 38 (acB iw hw lw sw nw)
      change Code.wp _ _ _ _ (v2.alloc (.cells (acB iw hw lw sw nw) 38))
      obtain ⟨gw, hgw⟩ : ∃ g, v2.heap.size = g := ⟨_, rfl⟩
      rw [hgw] at H2 ⊢
      generalize v2.alloc (.cells (acB iw hw lw sw nw) 38) = W2 at *
      have b2 := H2.below
      clear H1 b1 p0 p1 p2 p3 k1 k2 hga hgw had'
      have hSS : ∀ u, Below W2.heap.size W2 u → u.cell? ⟨ga, 0, none⟩ = some (.string r.id) ∧ u.cell? ⟨ga, 1, none⟩ = some (.int .u64 r.h) ∧ u.cell? ⟨ga, 2, none⟩ = some (.int .u64 r.l) ∧ u.cell? ⟨ga, 3, none⟩ = some (.string sa) ∧ u.cell? ⟨ga, 4, none⟩ = some (.int .u64 na) ∧ u.cell? ⟨gw, 3, none⟩ = some (.string sw) ∧ u.cell? ⟨gw, 4, none⟩ = some (.int .u64 nw) ∧ ga < u.heap.size ∧ gw < u.heap.size ∧ u.cell? (ad.add (k * 3)) = some (.string r.id) ∧ u.cell? ⟨(ad.add (k * 3)).block, (ad.add (k * 3)).off + 1, none⟩ = some (.int .u64 r.h) ∧ u.cell? ⟨(ad.add (k * 3)).block, (ad.add (k * 3)).off + 2, none⟩ = some (.int .u64 r.l) ∧ (ad.add (k * 3)).block < u.heap.size := fun u hbu => by
        have Hu := H2.call hbu
        obtain ⟨ad', hB, had', p0, p1, p2⟩ := ((S5.call hb).call ((chain b2 hbu).mono hb.size)) k r HR.out
        cases hB
        exact ⟨(Hu.box 1).read 0, (Hu.box 1).read 1, (Hu.box 1).read 2, (Hu.box 1).read 3, (Hu.box 1).read 4, (Hu.box 0).read 3, (Hu.box 0).read 4, (Hu.box 1).inside, (Hu.box 0).inside, p0, p1, p2, by rw [o10_block]; exact Nat.lt_of_lt_of_le had' (Nat.le_trans hb.size (Nat.le_trans b2.size hbu.size))⟩
      have qU : ∀ u : World, (binOp .neq 36 (.agg #[.int .u64 r.h, .int .u64 r.l]) (.agg #[.int .u64 r.h, .int .u64 r.l])).run Tryd.prog u = .ok (.bool false) u := fun u => by
        rw [run_neq_struct, equal_n7 9998]
        simp [go_sem]
      refine wp_region_held_drew (S := fun u => u.cell? ⟨ga, 0, none⟩ = some (.string r.id) ∧ u.cell? ⟨ga, 1, none⟩ = some (.int .u64 r.h) ∧ u.cell? ⟨ga, 2, none⟩ = some (.int .u64 r.l) ∧ u.cell? ⟨ga, 3, none⟩ = some (.string sa) ∧ u.cell? ⟨ga, 4, none⟩ = some (.int .u64 na) ∧ u.cell? ⟨gw, 3, none⟩ = some (.string sw) ∧ u.cell? ⟨gw, 4, none⟩ = some (.int .u64 nw) ∧ ga < u.heap.size ∧ gw < u.heap.size ∧ u.cell? (ad.add (k * 3)) = some (.string r.id) ∧ u.cell? ⟨(ad.add (k * 3)).block, (ad.add (k * 3)).off + 1, none⟩ = some (.int .u64 r.h) ∧ u.cell? ⟨(ad.add (k * 3)).block, (ad.add (k * 3)).off + 2, none⟩ = some (.int .u64 r.l) ∧ (ad.add (k * 3)).block < u.heap.size) (by kernel_rfl) (hSS _ (Below.refl _ _).drew) (fun hHeld => ?_)
      have b3 := (Below.refl W2.heap.size W2).drew
      cases bw with
      | true =>
        obtain ⟨rfl, rfl⟩ := HO.out (by rw [HNB.out]; rfl)
        refine wpAnyH_take (i := 0) (v := ?_) rfl (by kernel_rfl) (by kernel_rfl) (by kernel_rfl) (fun _ _ _ h => h) (Or.inl ⟨by rfl, ?_⟩) (by assumption) ?_
        rotate_left 1
        · intro w hSw; (try dsimp only at hSw); go_simp; try with_reducible rfl
        try simp only [Act.put, List.getElem_toArray, List.getElem_cons_succ, List.getElem_cons_zero, List.setIfInBounds_toArray, List.set_cons_zero, List.set_cons_succ]
        refine wpAnyH_take (i := 1) (v := ?_) rfl (by kernel_rfl) (by kernel_rfl) (by kernel_rfl) (fun _ _ _ h => h) (Or.inl ⟨by rfl, ?_⟩) (by assumption) ?_
        rotate_left 1
        · intro w hSw; (try dsimp only at hSw); go_simp; try with_reducible rfl
        try simp only [Act.put, List.getElem_toArray, List.getElem_cons_succ, List.getElem_cons_zero, List.setIfInBounds_toArray, List.set_cons_zero, List.set_cons_succ]
        refine wpAnyH_take (i := 2) (v := ?_) rfl (by kernel_rfl) (by kernel_rfl) (by kernel_rfl) (fun _ _ _ h => h) (Or.inl ⟨by rfl, ?_⟩) (by assumption) ?_
        rotate_left 1
        · intro w hSw; (try dsimp only at hSw); go_simp; try with_reducible rfl
        try simp only [Act.put, List.getElem_toArray, List.getElem_cons_succ, List.getElem_cons_zero, List.setIfInBounds_toArray, List.set_cons_zero, List.set_cons_succ]
        refine wpAnyH_take (i := 3) (v := ?_) rfl (by kernel_rfl) (by kernel_rfl) (by kernel_rfl) (fun _ _ _ h => h) (Or.inl ⟨by rfl, ?_⟩) (by assumption) ?_
        rotate_left 1
        · intro w hSw; (try dsimp only at hSw); go_simp; try with_reducible rfl
        try simp only [Act.put, List.getElem_toArray, List.getElem_cons_succ, List.getElem_cons_zero, List.setIfInBounds_toArray, List.set_cons_zero, List.set_cons_succ]
        refine wpAnyH_take (i := 4) (v := ?_) rfl (by kernel_rfl) (by kernel_rfl) (by kernel_rfl) (fun _ _ _ h => h) (Or.inl ⟨by rfl, ?_⟩) (by assumption) ?_
        rotate_left 1
        · intro w hSw; (try dsimp only at hSw); go_simp; try with_reducible rfl
        try simp only [Act.put, List.getElem_toArray, List.getElem_cons_succ, List.getElem_cons_zero, List.setIfInBounds_toArray, List.set_cons_zero, List.set_cons_succ]
        refine wpAnyH_take (i := 5) (v := ?_) rfl (by kernel_rfl) (by kernel_rfl) (by kernel_rfl) (fun _ _ _ h => h) (Or.inl ⟨by rfl, ?_⟩) (by assumption) ?_
        rotate_left 1
        · intro w hSw; (try dsimp only at hSw); go_simp; try with_reducible rfl
        try simp only [Act.put, List.getElem_toArray, List.getElem_cons_succ, List.getElem_cons_zero, List.setIfInBounds_toArray, List.set_cons_zero, List.set_cons_succ]
        refine wpAnyH_take (i := 6) (v := ?_) rfl (by kernel_rfl) (by kernel_rfl) (by kernel_rfl) (fun _ _ _ h => h) (Or.inl ⟨by rfl, ?_⟩) (by assumption) ?_
        rotate_left 1
        · intro w hSw; (try dsimp only at hSw); go_simp; try with_reducible rfl
        try simp only [Act.put, List.getElem_toArray, List.getElem_cons_succ, List.getElem_cons_zero, List.setIfInBounds_toArray, List.set_cons_zero, List.set_cons_succ]
        refine wpAnyH_take (i := 7) (v := ?_) rfl (by kernel_rfl) (by kernel_rfl) (by kernel_rfl) (fun _ _ _ h => h) (Or.inl ⟨by rfl, ?_⟩) (by assumption) ?_
        rotate_left 1
        · intro w hSw; (try dsimp only at hSw); go_simp; try with_reducible rfl
        try simp only [Act.put, List.getElem_toArray, List.getElem_cons_succ, List.getElem_cons_zero, List.setIfInBounds_toArray, List.set_cons_zero, List.set_cons_succ]
        refine wpAnyH_take (i := 8) (v := ?_) rfl (by kernel_rfl) (by kernel_rfl) (by kernel_rfl) (fun _ _ _ h => h) (Or.inl ⟨by rfl, ?_⟩) (by assumption) ?_
        rotate_left 1
        · intro w hSw; (try dsimp only at hSw); go_simp; try with_reducible rfl
        try simp only [Act.put, List.getElem_toArray, List.getElem_cons_succ, List.getElem_cons_zero, List.setIfInBounds_toArray, List.set_cons_zero, List.set_cons_succ]
        refine wpAnyH_take (i := 9) (v := ?_) rfl (by kernel_rfl) (by kernel_rfl) (by kernel_rfl) (fun _ _ _ h => h) (Or.inl ⟨by rfl, ?_⟩) (by assumption) ?_
        rotate_left 1
        · intro w hSw; (try dsimp only at hSw); go_simp; try with_reducible rfl
        try simp only [Act.put, List.getElem_toArray, List.getElem_cons_succ, List.getElem_cons_zero, List.setIfInBounds_toArray, List.set_cons_zero, List.set_cons_succ]
        refine wpAnyH_take (i := 10) (v := ?_) rfl (by kernel_rfl) (by kernel_rfl) (by kernel_rfl) (fun _ _ _ h => h) (Or.inl ⟨by rfl, ?_⟩) (by assumption) ?_
        rotate_left 1
        · intro w hSw; (try dsimp only at hSw); go_simp; try with_reducible rfl
        try simp only [Act.put, List.getElem_toArray, List.getElem_cons_succ, List.getElem_cons_zero, List.setIfInBounds_toArray, List.set_cons_zero, List.set_cons_succ]
        refine wpAnyH_take (i := 11) (v := ?_) rfl (by kernel_rfl) (by kernel_rfl) (by kernel_rfl) (fun _ _ _ h => h) (Or.inl ⟨by rfl, ?_⟩) (by assumption) ?_
        rotate_left 1
        · intro w hSw; (try dsimp only at hSw); go_simp; try with_reducible rfl
        try simp only [Act.put, List.getElem_toArray, List.getElem_cons_succ, List.getElem_cons_zero, List.setIfInBounds_toArray, List.set_cons_zero, List.set_cons_succ]
        refine wpAnyH_take (i := 12) (v := ?_) rfl (by kernel_rfl) (by kernel_rfl) (by kernel_rfl) (fun _ _ _ h => h) (Or.inl ⟨by rfl, ?_⟩) (by assumption) ?_
        rotate_left 1
        · intro w hSw; (try dsimp only at hSw); go_simp; try with_reducible rfl
        try simp only [Act.put, List.getElem_toArray, List.getElem_cons_succ, List.getElem_cons_zero, List.setIfInBounds_toArray, List.set_cons_zero, List.set_cons_succ]
        refine wpAnyH_take (i := 13) (v := ?_) rfl (by kernel_rfl) (by kernel_rfl) (by kernel_rfl) (fun _ _ _ h => h) (Or.inl ⟨by rfl, ?_⟩) (by assumption) ?_
        rotate_left 1
        · intro w hSw; (try dsimp only at hSw); go_simp; try with_reducible rfl
        try simp only [Act.put, List.getElem_toArray, List.getElem_cons_succ, List.getElem_cons_zero, List.setIfInBounds_toArray, List.set_cons_zero, List.set_cons_succ]
        refine wpAnyH_take (i := 14) (v := ?_) rfl (by kernel_rfl) (by kernel_rfl) (by kernel_rfl) (fun _ _ _ h => h) (Or.inl ⟨by rfl, ?_⟩) (by assumption) ?_
        rotate_left 1
        · intro w hSw; (try dsimp only at hSw); go_simp; try with_reducible rfl
        try simp only [Act.put, List.getElem_toArray, List.getElem_cons_succ, List.getElem_cons_zero, List.setIfInBounds_toArray, List.set_cons_zero, List.set_cons_succ]
        refine wpAnyH_take (i := 15) (v := ?_) rfl (by kernel_rfl) (by kernel_rfl) (by kernel_rfl) (fun _ _ _ h => h) (Or.inl ⟨by rfl, ?_⟩) (by assumption) ?_
        rotate_left 1
        · intro w hSw; (try dsimp only at hSw); go_simp; try with_reducible rfl
        try simp only [Act.put, List.getElem_toArray, List.getElem_cons_succ, List.getElem_cons_zero, List.setIfInBounds_toArray, List.set_cons_zero, List.set_cons_succ]
        refine wpAnyH_take (i := 16) (v := ?_) rfl (by kernel_rfl) (by kernel_rfl) (by kernel_rfl) (fun _ _ _ h => h) (Or.inl ⟨by rfl, ?_⟩) (by assumption) ?_
        rotate_left 1
        · intro w hSw; (try dsimp only at hSw); go_simp; try with_reducible rfl
        try simp only [Act.put, List.getElem_toArray, List.getElem_cons_succ, List.getElem_cons_zero, List.setIfInBounds_toArray, List.set_cons_zero, List.set_cons_succ]
        refine wpAnyH_take (i := 17) (v := ?_) rfl (by kernel_rfl) (by kernel_rfl) (by kernel_rfl) (fun _ _ _ h => h) (Or.inl ⟨by rfl, ?_⟩) (by assumption) ?_
        rotate_left 1
        · intro w hSw; (try dsimp only at hSw); go_simp; try with_reducible rfl
        try simp only [Act.put, List.getElem_toArray, List.getElem_cons_succ, List.getElem_cons_zero, List.setIfInBounds_toArray, List.set_cons_zero, List.set_cons_succ]
        refine wpAnyH_take (i := 18) (v := ?_) rfl (by kernel_rfl) (by kernel_rfl) (by kernel_rfl) (fun _ _ _ h => h) (Or.inl ⟨by rfl, ?_⟩) (by assumption) ?_
        rotate_left 1
        · intro w hSw; (try dsimp only at hSw); go_simp; try with_reducible rfl
        try simp only [Act.put, List.getElem_toArray, List.getElem_cons_succ, List.getElem_cons_zero, List.setIfInBounds_toArray, List.set_cons_zero, List.set_cons_succ]
        refine wpAnyH_take (i := 19) (v := ?_) rfl (by kernel_rfl) (by kernel_rfl) (by kernel_rfl) (fun _ _ _ h => h) (Or.inl ⟨by rfl, ?_⟩) (by assumption) ?_
        rotate_left 1
        · intro w hSw; (try dsimp only at hSw); go_simp; try with_reducible rfl
        try simp only [Act.put, List.getElem_toArray, List.getElem_cons_succ, List.getElem_cons_zero, List.setIfInBounds_toArray, List.set_cons_zero, List.set_cons_succ]
        refine wpAnyH_take (i := 20) (v := ?_) rfl (by kernel_rfl) (by kernel_rfl) (by kernel_rfl) (fun _ _ _ h => h) (Or.inl ⟨by rfl, ?_⟩) (by assumption) ?_
        rotate_left 1
        · intro w hSw; (try dsimp only at hSw); go_simp; try with_reducible rfl
        try simp only [Act.put, List.getElem_toArray, List.getElem_cons_succ, List.getElem_cons_zero, List.setIfInBounds_toArray, List.set_cons_zero, List.set_cons_succ]
        refine wpAnyH_take (i := 21) (v := ?_) rfl (by kernel_rfl) (by kernel_rfl) (by kernel_rfl) (fun _ _ _ h => h) (Or.inl ⟨by rfl, ?_⟩) (by assumption) ?_
        rotate_left 1
        · intro w hSw; (try dsimp only at hSw); go_simp; try with_reducible rfl
        try simp only [Act.put, List.getElem_toArray, List.getElem_cons_succ, List.getElem_cons_zero, List.setIfInBounds_toArray, List.set_cons_zero, List.set_cons_succ]
        refine wpAnyH_take (i := 22) (v := ?_) rfl (by kernel_rfl) (by kernel_rfl) (by kernel_rfl) (fun _ _ _ h => h) (Or.inl ⟨by rfl, ?_⟩) (by assumption) ?_
        rotate_left 1
        · intro w hSw; (try dsimp only at hSw); go_simp; try with_reducible rfl
        try simp only [Act.put, List.getElem_toArray, List.getElem_cons_succ, List.getElem_cons_zero, List.setIfInBounds_toArray, List.set_cons_zero, List.set_cons_succ]
        refine wpAnyH_take (i := 23) (v := ?_) rfl (by kernel_rfl) (by kernel_rfl) (by kernel_rfl) (fun _ _ _ h => h) (Or.inl ⟨by rfl, ?_⟩) (by assumption) ?_
        rotate_left 1
        · intro w hSw; (try dsimp only at hSw); go_simp; try with_reducible rfl
        try simp only [Act.put, List.getElem_toArray, List.getElem_cons_succ, List.getElem_cons_zero, List.setIfInBounds_toArray, List.set_cons_zero, List.set_cons_succ]
        refine wpAnyH_take (i := 24) (v := ?_) rfl (by kernel_rfl) (by kernel_rfl) (by kernel_rfl) (fun _ _ _ h => h) (Or.inl ⟨by rfl, ?_⟩) (by assumption) ?_
        rotate_left 1
        · intro w hSw; (try dsimp only at hSw); go_simp; try with_reducible rfl
        try simp only [Act.put, List.getElem_toArray, List.getElem_cons_succ, List.getElem_cons_zero, List.setIfInBounds_toArray, List.set_cons_zero, List.set_cons_succ]
        refine wpAnyH_take (i := 25) (v := ?_) rfl (by kernel_rfl) (by kernel_rfl) (by kernel_rfl) (fun _ _ _ h => h) (Or.inl ⟨by rfl, ?_⟩) (by assumption) ?_
        rotate_left 1
        · intro w hSw; (try dsimp only at hSw); go_simp; try with_reducible rfl
        try simp only [Act.put, List.getElem_toArray, List.getElem_cons_succ, List.getElem_cons_zero, List.setIfInBounds_toArray, List.set_cons_zero, List.set_cons_succ]
        refine wpAnyH_take (i := 26) (v := ?_) rfl (by kernel_rfl) (by kernel_rfl) (by kernel_rfl) (fun _ _ _ h => h) (Or.inl ⟨by rfl, ?_⟩) (by assumption) ?_
        rotate_left 1
        · intro w hSw; (try dsimp only at hSw); go_simp; try with_reducible rfl
        try simp only [Act.put, List.getElem_toArray, List.getElem_cons_succ, List.getElem_cons_zero, List.setIfInBounds_toArray, List.set_cons_zero, List.set_cons_succ]
        refine wpAnyH_take (i := 27) (v := ?_) rfl (by kernel_rfl) (by kernel_rfl) (by kernel_rfl) (fun _ _ _ h => h) (Or.inl ⟨by rfl, ?_⟩) (by assumption) ?_
        rotate_left 1
        · intro w hSw; (try dsimp only at hSw); go_simp; try with_reducible rfl
        try simp only [Act.put, List.getElem_toArray, List.getElem_cons_succ, List.getElem_cons_zero, List.setIfInBounds_toArray, List.set_cons_zero, List.set_cons_succ]
        refine wpAnyH_take (i := 28) (v := ?_) rfl (by kernel_rfl) (by kernel_rfl) (by kernel_rfl) (fun _ _ _ h => h) (Or.inl ⟨by rfl, ?_⟩) (by assumption) ?_
        rotate_left 1
        · intro w hSw; (try dsimp only at hSw); go_simp; try with_reducible rfl
        try simp only [Act.put, List.getElem_toArray, List.getElem_cons_succ, List.getElem_cons_zero, List.setIfInBounds_toArray, List.set_cons_zero, List.set_cons_succ]
        refine wpAnyH_take (i := 29) (v := ?_) rfl (by kernel_rfl) (by kernel_rfl) (by kernel_rfl) (fun _ _ _ h => h) (Or.inl ⟨by rfl, ?_⟩) (by assumption) ?_
        rotate_left 1
        · intro w hSw; (try dsimp only at hSw); go_simp; try with_reducible rfl
        try simp only [Act.put, List.getElem_toArray, List.getElem_cons_succ, List.getElem_cons_zero, List.setIfInBounds_toArray, List.set_cons_zero, List.set_cons_succ]
        refine wpAnyH_take (i := 30) (v := ?_) rfl (by kernel_rfl) (by kernel_rfl) (by kernel_rfl) (fun _ _ _ h => h) (Or.inl ⟨by rfl, ?_⟩) (by assumption) ?_
        rotate_left 1
        · intro w hSw; (try dsimp only at hSw); go_simp; try with_reducible rfl
        try simp only [Act.put, List.getElem_toArray, List.getElem_cons_succ, List.getElem_cons_zero, List.setIfInBounds_toArray, List.set_cons_zero, List.set_cons_succ]
        refine wpAnyH_take (i := 31) (v := ?_) rfl (by kernel_rfl) (by kernel_rfl) (by kernel_rfl) (fun _ _ _ h => h) (Or.inl ⟨by rfl, ?_⟩) (by assumption) ?_
        rotate_left 1
        · intro w hSw; (try dsimp only at hSw); go_simp; try with_reducible rfl
        try simp only [Act.put, List.getElem_toArray, List.getElem_cons_succ, List.getElem_cons_zero, List.setIfInBounds_toArray, List.set_cons_zero, List.set_cons_succ]
        refine wpAnyH_take (i := 32) (v := ?_) rfl (by kernel_rfl) (by kernel_rfl) (by kernel_rfl) (fun _ _ _ h => h) (Or.inl ⟨by rfl, ?_⟩) (by assumption) ?_
        rotate_left 1
        · intro w hSw; (try dsimp only at hSw); go_simp; try with_reducible rfl
        try simp only [Act.put, List.getElem_toArray, List.getElem_cons_succ, List.getElem_cons_zero, List.setIfInBounds_toArray, List.set_cons_zero, List.set_cons_succ]
        refine wpAnyH_take (i := 33) (v := undef) rfl (by kernel_rfl) (by kernel_rfl) (by kernel_rfl) (fun _ _ _ h => h) (Or.inr ⟨by rfl, rfl⟩) (by assumption) ?_
        try simp only [Act.put, List.getElem_toArray, List.getElem_cons_succ, List.getElem_cons_zero, List.setIfInBounds_toArray, List.set_cons_zero, List.set_cons_succ]
        refine wpAnyH_take (i := 34) (v := undef) rfl (by kernel_rfl) (by kernel_rfl) (by kernel_rfl) (fun _ _ _ h => h) (Or.inr ⟨by rfl, rfl⟩) (by assumption) ?_
        try simp only [Act.put, List.getElem_toArray, List.getElem_cons_succ, List.getElem_cons_zero, List.setIfInBounds_toArray, List.set_cons_zero, List.set_cons_succ]
        refine wpAnyH_take (i := 35) (v := undef) rfl (by kernel_rfl) (by kernel_rfl) (by kernel_rfl) (fun _ _ _ h => h) (Or.inr ⟨by rfl, rfl⟩) (by assumption) ?_
        try simp only [Act.put, List.getElem_toArray, List.getElem_cons_succ, List.getElem_cons_zero, List.setIfInBounds_toArray, List.set_cons_zero, List.set_cons_succ]
        refine wpAnyH_take (i := 36) (v := undef) rfl (by kernel_rfl) (by kernel_rfl) (by kernel_rfl) (fun _ _ _ h => h) (Or.inr ⟨by rfl, rfl⟩) (by assumption) ?_
        try simp only [Act.put, List.getElem_toArray, List.getElem_cons_succ, List.getElem_cons_zero, List.setIfInBounds_toArray, List.set_cons_zero, List.set_cons_succ]
        refine wpAnyH_take (i := 37) (v := undef) rfl (by kernel_rfl) (by kernel_rfl) (by kernel_rfl) (fun _ _ _ h => h) (Or.inr ⟨by rfl, rfl⟩) (by assumption) ?_
        try simp only [Act.put, List.getElem_toArray, List.getElem_cons_succ, List.getElem_cons_zero, List.setIfInBounds_toArray, List.set_cons_zero, List.set_cons_succ]
        refine wpAnyH_ready (rs := [38]) (by kernel_rfl) (by simp) (AllReadyH.cons rfl (fun K hK => ?_) AllReadyH.nil)
        go_simp
        refine hK.out _ _ (hSS _ b3) (fun hHeld => ?_)
        clear hK K
        try simp only [Act.put, List.getElem_toArray, List.getElem_cons_succ, List.getElem_cons_zero, List.setIfInBounds_toArray, List.set_cons_zero, List.set_cons_succ]
        refine wpAnyH_take (i := 39) (v := undef) rfl (by kernel_rfl) (by kernel_rfl) (by kernel_rfl) (fun _ _ _ h => h) (Or.inr ⟨by rfl, rfl⟩) (by assumption) ?_
        try simp only [Act.put, List.getElem_toArray, List.getElem_cons_succ, List.getElem_cons_zero, List.setIfInBounds_toArray, List.set_cons_zero, List.set_cons_succ]
        refine wpAnyH_take (i := 40) (v := ?_) rfl (by kernel_rfl) (by kernel_rfl) (by kernel_rfl) (fun _ _ _ h => h) (Or.inl ⟨by rfl, ?_⟩) (by assumption) ?_
        rotate_left 1
        · intro w hSw; (try dsimp only at hSw); go_simp; try with_reducible rfl
        try simp only [Act.put, List.getElem_toArray, List.getElem_cons_succ, List.getElem_cons_zero, List.setIfInBounds_toArray, List.set_cons_zero, List.set_cons_succ]
        refine wpAnyH_take (i := 41) (v := ?_) rfl (by kernel_rfl) (by kernel_rfl) (by kernel_rfl) (fun _ _ _ h => h) (Or.inl ⟨by rfl, ?_⟩) (by assumption) ?_
        rotate_left 1
        · intro w hSw; (try dsimp only at hSw); go_simp; try with_reducible rfl
        try simp only [Act.put, List.getElem_toArray, List.getElem_cons_succ, List.getElem_cons_zero, List.setIfInBounds_toArray, List.set_cons_zero, List.set_cons_succ]
        refine wpAnyH_done (by kernel_rfl) ?_ _
        go_wp2
        go_roundg (N - (k + 1))
        case measure => have := HG.out; omega
        case rel => exact ⟨k + 1, by omega, Nat.le_refl _, by go_num, hb.trans ((chain b2 b3).mono hb.size)⟩
      | false =>
        obtain rfl := HW.out (by rw [HNB.out]; rfl)
        refine wpAnyH_take (i := 0) (v := ?_) rfl (by kernel_rfl) (by kernel_rfl) (by kernel_rfl) (fun _ _ _ h => h) (Or.inl ⟨by rfl, ?_⟩) (by assumption) ?_
        rotate_left 1
        · intro w hSw; (try dsimp only at hSw); go_simp; try with_reducible rfl
        try simp only [Act.put, List.getElem_toArray, List.getElem_cons_succ, List.getElem_cons_zero, List.setIfInBounds_toArray, List.set_cons_zero, List.set_cons_succ]
        refine wpAnyH_take (i := 1) (v := ?_) rfl (by kernel_rfl) (by kernel_rfl) (by kernel_rfl) (fun _ _ _ h => h) (Or.inl ⟨by rfl, ?_⟩) (by assumption) ?_
        rotate_left 1
        · intro w hSw; (try dsimp only at hSw); go_simp; try with_reducible rfl
        try simp only [Act.put, List.getElem_toArray, List.getElem_cons_succ, List.getElem_cons_zero, List.setIfInBounds_toArray, List.set_cons_zero, List.set_cons_succ]
        refine wpAnyH_take (i := 2) (v := ?_) rfl (by kernel_rfl) (by kernel_rfl) (by kernel_rfl) (fun _ _ _ h => h) (Or.inl ⟨by rfl, ?_⟩) (by assumption) ?_
        rotate_left 1
        · intro w hSw; (try dsimp only at hSw); go_simp; try with_reducible rfl
        try simp only [Act.put, List.getElem_toArray, List.getElem_cons_succ, List.getElem_cons_zero, List.setIfInBounds_toArray, List.set_cons_zero, List.set_cons_succ]
        refine wpAnyH_take (i := 3) (v := ?_) rfl (by kernel_rfl) (by kernel_rfl) (by kernel_rfl) (fun _ _ _ h => h) (Or.inl ⟨by rfl, ?_⟩) (by assumption) ?_
        rotate_left 1
        · intro w hSw; (try dsimp only at hSw); go_simp; try with_reducible rfl
        try simp only [Act.put, List.getElem_toArray, List.getElem_cons_succ, List.getElem_cons_zero, List.setIfInBounds_toArray, List.set_cons_zero, List.set_cons_succ]
        refine wpAnyH_take (i := 4) (v := ?_) rfl (by kernel_rfl) (by kernel_rfl) (by kernel_rfl) (fun _ _ _ h => h) (Or.inl ⟨by rfl, ?_⟩) (by assumption) ?_
        rotate_left 1
        · intro w hSw; (try dsimp only at hSw); go_simp; try with_reducible rfl
        try simp only [Act.put, List.getElem_toArray, List.getElem_cons_succ, List.getElem_cons_zero, List.setIfInBounds_toArray, List.set_cons_zero, List.set_cons_succ]
        refine wpAnyH_take (i := 5) (v := ?_) rfl (by kernel_rfl) (by kernel_rfl) (by kernel_rfl) (fun _ _ _ h => h) (Or.inl ⟨by rfl, ?_⟩) (by assumption) ?_
        rotate_left 1
        · intro w hSw; (try dsimp only at hSw); go_simp; try with_reducible rfl
        try simp only [Act.put, List.getElem_toArray, List.getElem_cons_succ, List.getElem_cons_zero, List.setIfInBounds_toArray, List.set_cons_zero, List.set_cons_succ]
        refine wpAnyH_take (i := 6) (v := ?_) rfl (by kernel_rfl) (by kernel_rfl) (by kernel_rfl) (fun _ _ _ h => h) (Or.inl ⟨by rfl, ?_⟩) (by assumption) ?_
        rotate_left 1
        · intro w hSw; (try dsimp only at hSw); go_simp; try with_reducible rfl
        try simp only [Act.put, List.getElem_toArray, List.getElem_cons_succ, List.getElem_cons_zero, List.setIfInBounds_toArray, List.set_cons_zero, List.set_cons_succ]
        refine wpAnyH_take (i := 7) (v := ?_) rfl (by kernel_rfl) (by kernel_rfl) (by kernel_rfl) (fun _ _ _ h => h) (Or.inl ⟨by rfl, ?_⟩) (by assumption) ?_
        rotate_left 1
        · intro w hSw; (try dsimp only at hSw); go_simp; try with_reducible rfl
        try simp only [Act.put, List.getElem_toArray, List.getElem_cons_succ, List.getElem_cons_zero, List.setIfInBounds_toArray, List.set_cons_zero, List.set_cons_succ]
        refine wpAnyH_take (i := 8) (v := ?_) rfl (by kernel_rfl) (by kernel_rfl) (by kernel_rfl) (fun _ _ _ h => h) (Or.inl ⟨by rfl, ?_⟩) (by assumption) ?_
        rotate_left 1
        · intro w hSw; (try dsimp only at hSw); go_simp; try with_reducible rfl
        try simp only [Act.put, List.getElem_toArray, List.getElem_cons_succ, List.getElem_cons_zero, List.setIfInBounds_toArray, List.set_cons_zero, List.set_cons_succ]
        refine wpAnyH_take (i := 9) (v := ?_) rfl (by kernel_rfl) (by kernel_rfl) (by kernel_rfl) (fun _ _ _ h => h) (Or.inl ⟨by rfl, ?_⟩) (by assumption) ?_
        rotate_left 1
        · intro w hSw; (try dsimp only at hSw); go_simp; try with_reducible rfl
        try simp only [Act.put, List.getElem_toArray, List.getElem_cons_succ, List.getElem_cons_zero, List.setIfInBounds_toArray, List.set_cons_zero, List.set_cons_succ]
        refine wpAnyH_take (i := 10) (v := ?_) rfl (by kernel_rfl) (by kernel_rfl) (by kernel_rfl) (fun _ _ _ h => h) (Or.inl ⟨by rfl, ?_⟩) (by assumption) ?_
        rotate_left 1
        · intro w hSw; (try dsimp only at hSw); go_simp; try with_reducible rfl
        try simp only [Act.put, List.getElem_toArray, List.getElem_cons_succ, List.getElem_cons_zero, List.setIfInBounds_toArray, List.set_cons_zero, List.set_cons_succ]
        refine wpAnyH_take (i := 11) (v := ?_) rfl (by kernel_rfl) (by kernel_rfl) (by kernel_rfl) (fun _ _ _ h => h) (Or.inl ⟨by rfl, ?_⟩) (by assumption) ?_
        rotate_left 1
        · intro w hSw; (try dsimp only at hSw); go_simp; try with_reducible rfl
        try simp only [Act.put, List.getElem_toArray, List.getElem_cons_succ, List.getElem_cons_zero, List.setIfInBounds_toArray, List.set_cons_zero, List.set_cons_succ]
        refine wpAnyH_take (i := 12) (v := ?_) rfl (by kernel_rfl) (by kernel_rfl) (by kernel_rfl) (fun _ _ _ h => h) (Or.inl ⟨by rfl, ?_⟩) (by assumption) ?_
        rotate_left 1
        · intro w hSw; (try dsimp only at hSw); go_simp; try with_reducible rfl
        try simp only [Act.put, List.getElem_toArray, List.getElem_cons_succ, List.getElem_cons_zero, List.setIfInBounds_toArray, List.set_cons_zero, List.set_cons_succ]
        refine wpAnyH_take (i := 13) (v := ?_) rfl (by kernel_rfl) (by kernel_rfl) (by kernel_rfl) (fun _ _ _ h => h) (Or.inl ⟨by rfl, ?_⟩) (by assumption) ?_
        rotate_left 1
        · intro w hSw; (try dsimp only at hSw); go_simp; try with_reducible rfl
        try simp only [Act.put, List.getElem_toArray, List.getElem_cons_succ, List.getElem_cons_zero, List.setIfInBounds_toArray, List.set_cons_zero, List.set_cons_succ]
        refine wpAnyH_take (i := 14) (v := ?_) rfl (by kernel_rfl) (by kernel_rfl) (by kernel_rfl) (fun _ _ _ h => h) (Or.inl ⟨by rfl, ?_⟩) (by assumption) ?_
        rotate_left 1
        · intro w hSw; (try dsimp only at hSw); go_simp; try with_reducible rfl
        try simp only [Act.put, List.getElem_toArray, List.getElem_cons_succ, List.getElem_cons_zero, List.setIfInBounds_toArray, List.set_cons_zero, List.set_cons_succ]
        refine wpAnyH_take (i := 15) (v := undef) rfl (by kernel_rfl) (by kernel_rfl) (by kernel_rfl) (fun _ _ _ h => h) (Or.inr ⟨by rfl, rfl⟩) (by assumption) ?_
        try simp only [Act.put, List.getElem_toArray, List.getElem_cons_succ, List.getElem_cons_zero, List.setIfInBounds_toArray, List.set_cons_zero, List.set_cons_succ]
        refine wpAnyH_take (i := 16) (v := undef) rfl (by kernel_rfl) (by kernel_rfl) (by kernel_rfl) (fun _ _ _ h => h) (Or.inr ⟨by rfl, rfl⟩) (by assumption) ?_
        try simp only [Act.put, List.getElem_toArray, List.getElem_cons_succ, List.getElem_cons_zero, List.setIfInBounds_toArray, List.set_cons_zero, List.set_cons_succ]
        refine wpAnyH_take (i := 17) (v := undef) rfl (by kernel_rfl) (by kernel_rfl) (by kernel_rfl) (fun _ _ _ h => h) (Or.inr ⟨by rfl, rfl⟩) (by assumption) ?_
        try simp only [Act.put, List.getElem_toArray, List.getElem_cons_succ, List.getElem_cons_zero, List.setIfInBounds_toArray, List.set_cons_zero, List.set_cons_succ]
        refine wpAnyH_take (i := 18) (v := undef) rfl (by kernel_rfl) (by kernel_rfl) (by kernel_rfl) (fun _ _ _ h => h) (Or.inr ⟨by rfl, rfl⟩) (by assumption) ?_
        try simp only [Act.put, List.getElem_toArray, List.getElem_cons_succ, List.getElem_cons_zero, List.setIfInBounds_toArray, List.set_cons_zero, List.set_cons_succ]
        refine wpAnyH_take (i := 19) (v := undef) rfl (by kernel_rfl) (by kernel_rfl) (by kernel_rfl) (fun _ _ _ h => h) (Or.inr ⟨by rfl, rfl⟩) (by assumption) ?_
        try simp only [Act.put, List.getElem_toArray, List.getElem_cons_succ, List.getElem_cons_zero, List.setIfInBounds_toArray, List.set_cons_zero, List.set_cons_succ]
        refine wpAnyH_take (i := 20) (v := undef) rfl (by kernel_rfl) (by kernel_rfl) (by kernel_rfl) (fun _ _ _ h => h) (Or.inr ⟨by rfl, rfl⟩) (by assumption) ?_
        try simp only [Act.put, List.getElem_toArray, List.getElem_cons_succ, List.getElem_cons_zero, List.setIfInBounds_toArray, List.set_cons_zero, List.set_cons_succ]
        refine wpAnyH_take (i := 21) (v := undef) rfl (by kernel_rfl) (by kernel_rfl) (by kernel_rfl) (fun _ _ _ h => h) (Or.inr ⟨by rfl, rfl⟩) (by assumption) ?_
        try simp only [Act.put, List.getElem_toArray, List.getElem_cons_succ, List.getElem_cons_zero, List.setIfInBounds_toArray, List.set_cons_zero, List.set_cons_succ]
        refine wpAnyH_take (i := 22) (v := undef) rfl (by kernel_rfl) (by kernel_rfl) (by kernel_rfl) (fun _ _ _ h => h) (Or.inr ⟨by rfl, rfl⟩) (by assumption) ?_
        try simp only [Act.put, List.getElem_toArray, List.getElem_cons_succ, List.getElem_cons_zero, List.setIfInBounds_toArray, List.set_cons_zero, List.set_cons_succ]
        refine wpAnyH_take (i := 23) (v := undef) rfl (by kernel_rfl) (by kernel_rfl) (by kernel_rfl) (fun _ _ _ h => h) (Or.inr ⟨by rfl, rfl⟩) (by assumption) ?_
        try simp only [Act.put, List.getElem_toArray, List.getElem_cons_succ, List.getElem_cons_zero, List.setIfInBounds_toArray, List.set_cons_zero, List.set_cons_succ]
        refine wpAnyH_take (i := 24) (v := undef) rfl (by kernel_rfl) (by kernel_rfl) (by kernel_rfl) (fun _ _ _ h => h) (Or.inr ⟨by rfl, rfl⟩) (by assumption) ?_
        try simp only [Act.put, List.getElem_toArray, List.getElem_cons_succ, List.getElem_cons_zero, List.setIfInBounds_toArray, List.set_cons_zero, List.set_cons_succ]
        refine wpAnyH_take (i := 25) (v := undef) rfl (by kernel_rfl) (by kernel_rfl) (by kernel_rfl) (fun _ _ _ h => h) (Or.inr ⟨by rfl, rfl⟩) (by assumption) ?_
        try simp only [Act.put, List.getElem_toArray, List.getElem_cons_succ, List.getElem_cons_zero, List.setIfInBounds_toArray, List.set_cons_zero, List.set_cons_succ]
        refine wpAnyH_take (i := 26) (v := undef) rfl (by kernel_rfl) (by kernel_rfl) (by kernel_rfl) (fun _ _ _ h => h) (Or.inr ⟨by rfl, rfl⟩) (by assumption) ?_
        try simp only [Act.put, List.getElem_toArray, List.getElem_cons_succ, List.getElem_cons_zero, List.setIfInBounds_toArray, List.set_cons_zero, List.set_cons_succ]
        refine wpAnyH_take (i := 27) (v := ?_) rfl (by kernel_rfl) (by kernel_rfl) (by kernel_rfl) (fun _ _ _ h => h) (Or.inl ⟨by rfl, ?_⟩) (by assumption) ?_
        rotate_left 1
        · intro w hSw; (try dsimp only at hSw); go_simp; try with_reducible rfl
        try simp only [Act.put, List.getElem_toArray, List.getElem_cons_succ, List.getElem_cons_zero, List.setIfInBounds_toArray, List.set_cons_zero, List.set_cons_succ]
        refine wpAnyH_take (i := 28) (v := ?_) rfl (by kernel_rfl) (by kernel_rfl) (by kernel_rfl) (fun _ _ _ h => h) (Or.inl ⟨by rfl, ?_⟩) (by assumption) ?_
        rotate_left 1
        · intro w hSw; (try dsimp only at hSw); go_simp; try with_reducible rfl
        try simp only [Act.put, List.getElem_toArray, List.getElem_cons_succ, List.getElem_cons_zero, List.setIfInBounds_toArray, List.set_cons_zero, List.set_cons_succ]
        refine wpAnyH_take (i := 29) (v := ?_) rfl (by kernel_rfl) (by kernel_rfl) (by kernel_rfl) (fun _ _ _ h => h) (Or.inl ⟨by rfl, ?_⟩) (by assumption) ?_
        rotate_left 1
        · intro w hSw; (try dsimp only at hSw); go_simp; try with_reducible rfl
        try simp only [Act.put, List.getElem_toArray, List.getElem_cons_succ, List.getElem_cons_zero, List.setIfInBounds_toArray, List.set_cons_zero, List.set_cons_succ]
        refine wpAnyH_take (i := 30) (v := ?_) rfl (by kernel_rfl) (by kernel_rfl) (by kernel_rfl) (fun _ _ _ h => h) (Or.inl ⟨by rfl, ?_⟩) (by assumption) ?_
        rotate_left 1
        · intro w hSw; (try dsimp only at hSw); go_simp; try with_reducible rfl
        try simp only [Act.put, List.getElem_toArray, List.getElem_cons_succ, List.getElem_cons_zero, List.setIfInBounds_toArray, List.set_cons_zero, List.set_cons_succ]
        refine wpAnyH_take (i := 31) (v := ?_) rfl (by kernel_rfl) (by kernel_rfl) (by kernel_rfl) (fun _ _ _ h => h) (Or.inl ⟨by rfl, ?_⟩) (by assumption) ?_
        rotate_left 1
        · intro w hSw; (try dsimp only at hSw); go_simp; try with_reducible rfl
        try simp only [Act.put, List.getElem_toArray, List.getElem_cons_succ, List.getElem_cons_zero, List.setIfInBounds_toArray, List.set_cons_zero, List.set_cons_succ]
        refine wpAnyH_take (i := 32) (v := ?_) rfl (by kernel_rfl) (by kernel_rfl) (by kernel_rfl) (fun _ _ _ h => h) (Or.inl ⟨by rfl, ?_⟩) (by assumption) ?_
        rotate_left 1
        · intro w hSw; (try dsimp only at hSw); go_simp; try with_reducible rfl
        try simp only [Act.put, List.getElem_toArray, List.getElem_cons_succ, List.getElem_cons_zero, List.setIfInBounds_toArray, List.set_cons_zero, List.set_cons_succ]
        refine wpAnyH_take (i := 33) (v := ?_) rfl (by kernel_rfl) (by kernel_rfl) (by kernel_rfl) (fun _ _ _ h => h) (Or.inl ⟨by rfl, ?_⟩) (by assumption) ?_
        rotate_left 1
        · intro w hSw; (try dsimp only at hSw); go_simp; try with_reducible rfl
        try simp only [Act.put, List.getElem_toArray, List.getElem_cons_succ, List.getElem_cons_zero, List.setIfInBounds_toArray, List.set_cons_zero, List.set_cons_succ]
        refine wpAnyH_take (i := 34) (v := ?_) rfl (by kernel_rfl) (by kernel_rfl) (by kernel_rfl) (fun _ _ _ h => h) (Or.inl ⟨by rfl, ?_⟩) (by assumption) ?_
        rotate_left 1
        · intro w hSw; (try dsimp only at hSw); go_simp; try with_reducible rfl
        try simp only [Act.put, List.getElem_toArray, List.getElem_cons_succ, List.getElem_cons_zero, List.setIfInBounds_toArray, List.set_cons_zero, List.set_cons_succ]
        refine wpAnyH_take (i := 35) (v := ?_) rfl (by kernel_rfl) (by kernel_rfl) (by kernel_rfl) (fun _ _ _ h => h) (Or.inl ⟨by rfl, ?_⟩) (by assumption) ?_
        rotate_left 1
        · intro w hSw; (try dsimp only at hSw); go_simp; try with_reducible rfl
        try simp only [Act.put, List.getElem_toArray, List.getElem_cons_succ, List.getElem_cons_zero, List.setIfInBounds_toArray, List.set_cons_zero, List.set_cons_succ]
        refine wpAnyH_take (i := 36) (v := ?_) rfl (by kernel_rfl) (by kernel_rfl) (by kernel_rfl) (fun _ _ _ h => h) (Or.inl ⟨by rfl, ?_⟩) (by assumption) ?_
        rotate_left 1
        · intro w hSw; (try dsimp only at hSw); go_simp; try with_reducible rfl
        try simp only [Act.put, List.getElem_toArray, List.getElem_cons_succ, List.getElem_cons_zero, List.setIfInBounds_toArray, List.set_cons_zero, List.set_cons_succ]
        refine wpAnyH_take (i := 37) (v := ?_) rfl (by kernel_rfl) (by kernel_rfl) (by kernel_rfl) (fun _ _ _ h => h) (Or.inl ⟨by rfl, ?_⟩) (by assumption) ?_
        rotate_left 1
        · intro w hSw; (try dsimp only at hSw); go_simp; try with_reducible rfl
        try simp only [Act.put, List.getElem_toArray, List.getElem_cons_succ, List.getElem_cons_zero, List.setIfInBounds_toArray, List.set_cons_zero, List.set_cons_succ]
        refine wpAnyH_ready (rs := [38]) (by kernel_rfl) (by simp) (AllReadyH.cons rfl (fun K hK => ?_) AllReadyH.nil)
        go_simp
        go_at_call 30
        refine (cZ _ (T5.call (hb.trans ((chain b2 b3).mono hb.size)))).mono ?_
        rintro e v3 ⟨rfl, k3⟩
        have b4 := chain b3 k3
        try simp only []
        refine hK.out _ _ (hSS _ b4) (fun hHeld => ?_)
        clear hK K
        try simp only [Act.put, List.getElem_toArray, List.getElem_cons_succ, List.getElem_cons_zero, List.setIfInBounds_toArray, List.set_cons_zero, List.set_cons_succ]
        refine wpAnyH_take (i := 39) (v := ?_) rfl (by kernel_rfl) (by kernel_rfl) (by kernel_rfl) (fun _ _ _ h => h) (Or.inl ⟨by rfl, ?_⟩) (by assumption) ?_
        rotate_left 1
        · intro w hSw; (try dsimp only at hSw); go_simp; try with_reducible rfl
        try simp only [Act.put, List.getElem_toArray, List.getElem_cons_succ, List.getElem_cons_zero, List.setIfInBounds_toArray, List.set_cons_zero, List.set_cons_succ]
        refine wpAnyH_take (i := 40) (v := ?_) rfl (by kernel_rfl) (by kernel_rfl) (by kernel_rfl) (fun _ _ _ h => h) (Or.inl ⟨by rfl, ?_⟩) (by assumption) ?_
        rotate_left 1
        · intro w hSw; (try dsimp only at hSw); go_simp; try with_reducible rfl
        try simp only [Act.put, List.getElem_toArray, List.getElem_cons_succ, List.getElem_cons_zero, List.setIfInBounds_toArray, List.set_cons_zero, List.set_cons_succ]
        refine wpAnyH_take (i := 41) (v := ?_) rfl (by kernel_rfl) (by kernel_rfl) (by kernel_rfl) (fun _ _ _ h => h) (Or.inl ⟨by rfl, ?_⟩) (by assumption) ?_
        rotate_left 1
        · intro w hSw; (try dsimp only at hSw); go_simp; try with_reducible rfl
        try simp only [Act.put, List.getElem_toArray, List.getElem_cons_succ, List.getElem_cons_zero, List.setIfInBounds_toArray, List.set_cons_zero, List.set_cons_succ]
        refine wpAnyH_done (by kernel_rfl) ?_ _
        go_wp2
        go_roundg (N - (k + 1))
        case measure => have := HG.out; omega
        case rel => exact ⟨k + 1, by omega, Nat.le_refl _, by go_num, hb.trans ((chain b2 b4).mono hb.size)⟩
    · have e : k = N := by omega
      subst e
      have X6 := X5.call hb
      have J := chain j15 hb
      clear cFL cFW hfind R5 S5 T5 HG
      go_upto_region 18 with fail
      go_loopg [16] k (fun gk i wq => ∃ q : Nat, 1 ≤ q ∧ k - q ≤ gk ∧ i = .int .i64 q ∧ Below wr.heap.size wr wq)
      case atStart => exact ⟨1, Nat.le_refl _, by omega, rfl, Below.refl _ _⟩
      case round =>
        rename World => wq
        obtain ⟨q, hq, hgq, rfl, hb2⟩ := hrel
        have HG := hideIt hgq
        clear hgq
        by_cases hlt : q < k
        · obtain ⟨I, hI⟩ : ∃ I, q - 1 = I := ⟨_, rfl⟩
          obtain ⟨x, hx⟩ : ∃ x, L[I]? = some x := ⟨_, List.getElem?_eq_getElem (by omega)⟩
          obtain ⟨y, hy⟩ : ∃ y, L[q]? = some y := ⟨_, List.getElem?_eq_getElem (by omega)⟩
          obtain ⟨rx, hrx, ekx⟩ := hLy I x hx
          obtain ⟨ry, hry, eky⟩ := hLy q y hy
          have hlr := hrise I q rx ry (by omega) hrx hry
          have eix : x.id = rx.id := ba_ext ekx.symm
          have eiy : y.id = ry.id := ba_ext eky.symm
          have ql := fun u => leq_run12 rx ry hlr u
          rw [← eix, ← eiy] at ql
          have X7 := X6.call hb2
          obtain ⟨adx, e, -, x0, -⟩ := X7.row I x hx
          injection e with e
          subst e
          obtain ⟨ady, e, -, y0, -⟩ := X7.row q y hy
          injection e with e
          subst e
          have a1 := at0_own g4 (I * 5)
          have a2 := at0_own g4 (q * 5)
          rw [a1] at x0
          rw [a2] at y0
          have hg4 := X7.inside
          have hlti : (q : Int) < (k : Int) := by omega
          have w1 : IntKind.i64.wrap ((q : Int) - 1) = (I : Int) := by rw [IntKind.wrap_i64]; omega
          have i2 : (I : Int) < (k : Int) := by omega
          have i3 : I < k := by omega
          have HI := hideIt hI
          clear hI hx hy hrx hry ekx eky hlr eix eiy
          go_upto_region 20 with fail
          go_quiet (fail)
          go_wp2
          go_roundg (k - (q + 1))
          case measure => have := HG.out; omega
          case rel => exact ⟨q + 1, by omega, Nat.le_refl _, by go_num, below_drewN hb2 _⟩
        · have hlti : ¬ ((q : Int) < (k : Int)) := by omega
          go_wp2
          go_ret
          exact ⟨rfl, chain J hb2⟩

theorem slotsOwn_core (H : Type) (enc : TypeId × Value → H) (W : World) (base : Nat) (args : Array Value) (ds gs : List (DataW H)) (before : List MemPlace)
    (hval : ∀ (j : Nat) t v, Tryd.f6.params[j]? = some t → args[j]? = some v → Value.okWide Tryd.prog W .any base t v)
    (hW : DataW.Whole enc Tryd.prog Tryd.f6.params.toList Rows.slotsOwnSpec.vars false W args.toList ds gs before) (hT : Tab W ∧ TabU W) :
    gs = [] ∧ ds.length = 4 ∧ Calls Tryd.prog 6 args W (Tells (.bool true) W.heap.size W) := by
  obtain ⟨p, q, hA, hV, -, -, -⟩ := hW
  obtain ⟨rfl, rfl⟩ := trodVars_none hV
  have hA : DataW.TrodAll enc Tryd.prog W 0 (fun _ => true) true Tryd.f6.params.toList args.toList ds p := hA
  rw [Tryd.params6] at hA hval
  obtain ⟨v0, vs0, d0, ds0, p0, ps0, e0, rfl, -, h0, hA⟩ := trodAll_cons hA
  obtain ⟨v1, vs1, d1, ds1, p1, ps1, rfl, rfl, -, h1, hA⟩ := trodAll_cons hA
  obtain ⟨v2, vs2, d2, ds2, p2, ps2, rfl, rfl, -, h2, hA⟩ := trodAll_cons hA
  obtain ⟨v3, vs3, d3, ds3, p3, ps3, rfl, rfl, -, h3, hA⟩ := trodAll_cons hA
  obtain ⟨rfl, rfl, rfl⟩ := trodAll_nil hA
  obtain rfl : args = #[v0, v1, v2, v3] := Array.ext' e0
  obtain ⟨seed, rfl, -, -, z0⟩ := Go.ChangeMaps.open_string Tryd.underlying9 (hval 0 9 v0 rfl rfl) h0
  obtain ⟨h, rfl, -, -, -⟩ := open_int Tryd.underlying3 (hval 1 3 v1 rfl rfl) h1
  obtain ⟨A, c, was, rfl, x1, -, -, x2, x3⟩ := open_accs (hval 2 22 v2 rfl rfl) h2
  obtain ⟨B, d, rows, rfl, y1, -, -, y2, y3⟩ := open_rows (hval 3 23 v3 rfl rfl) h3
  refine ⟨rfl, rfl, ?_⟩
  by_cases hl : 64 < seed.size ∨ longA was = true ∨ longR rows = true
  · exact own12_long seed h A B c d was rows x1 y1 hl W x3 y3 hT.1 hT.2
  · rw [not_or, not_or] at hl
    obtain ⟨k1, k2, k3⟩ := hl
    have k2 : longA was = false := by cases e : longA was; rfl; exact absurd e k2
    have k3 : longR rows = false := by cases e : longR rows; rfl; exact absurd e k3
    obtain ⟨m1, z1⟩ := longA_no k2
    obtain ⟨m2, z2⟩ := longR_no k3
    by_cases hE : placeE seed h was rows = 0
    · exact own12_ok seed h A B c d was rows (by omega) k2 k3 m1 m2 z1 z2 x2 y2 hE W x3 y3 hT.1 hT.2
    · exact own12_bad seed h A B c d was rows (by omega) k2 k3 m1 m2 z1 z2 x2 y2 hE W x3 y3 hT.1 hT.2

set_option maxRecDepth 100000 in
theorem slotsOwn_lifted (os : Os) (started : os.Started) (H : Type) (enc : TypeId × Value → H) :
    ReturnsInHanded {} Tryd.checked os 6 .any (fun w args => (Rows.slotsOwnSpec.pre enc Tryd.prog Tryd.f6 [] false w args ∧ laidMetH Tryd.prog laidA w) ∧ sizedMet enc Tryd.prog Tryd.f6 (OpenSpec.ofChange Rows.slotsOwnSpec) false w args)
      (Rows.slotsOwnSpec.post enc Tryd.prog Tryd.f6 false true false false) := by
  refine returnsInHanded_of_change_and (C := Tryd.checked) (X := fun w _ => laidMetH Tryd.prog laidA w) (fun _ _ _ hh h => h.of_heap hh) own_knob started (by kernel_rfl) Tryd.func6
    (ChangeSpec.witness_shaped (enc := enc) (C := Tryd.checked) (os := os) (X := fun w _ => laidMetH Tryd.prog laidA w) false (World.laidAll Tryd.prog os laidA) #[.string ⟨#[]⟩, .int .i64 0, .slice none 0 0, .slice none 0 0] 8 (World.laidAll_os _ _ _) (World.shaped_of_ZipB (by kernel_rfl) (by kernel_rfl)) (by kernel_rfl) (by kernel_rfl) (by kernel_rfl) (met_A os _)) ?_
  intro W base args ds gs before hval0 hW _ hwt hL _
  have hval : ∀ (j : Nat) t v, Tryd.f6.params[j]? = some t → args[j]? = some v → Value.okWide Tryd.prog W .any base t v := hval0
  obtain ⟨hg, hlen, hc⟩ := slotsOwn_core H enc W base args ds gs before hval hW (tab_of_laidA hL)
  subst hg
  have hr : (Tryd.f6.params.toList.all fun t => Tryd.prog.readableRec t && decide (t < Tryd.prog.types.size)) = true := by kernel_rfl
  have hread : ∀ t ∈ Tryd.f6.params.toList, Tryd.prog.readableRec t = true ∧ t < Tryd.prog.types.size := fun t ht => by
    have h := List.all_eq_true.1 hr t ht
    rw [Bool.and_eq_true, decide_eq_true_eq] at h
    exact h
  refine hc.mono fun e W' ⟨he, hb⟩ => ?_
  subst he
  match ds, hlen with
  | [d0, d1, d2, d3], _ => exact ⟨_, rfl, law_post laid_out Tryd.underlying4 rfl hread rfl hW rfl rfl rfl hb⟩

theorem slotsOwn_holds : Rows.SlotsOwnSaid :=
  OpenClaim.holds_of_wide 6 Tryd.f6 rfl rfl rfl rfl rfl rfl rfl ⟨rfl, rfl, rfl, rfl, rfl⟩ rfl rfl rfl rfl rfl (by kernel_rfl) Tryd.func6 (by kernel_rfl)
    (of_decide_eq_true (by kernel_rfl)) (by unfold Func.isWrapper; first | (rw [if_pos (by decide +kernel)]; kernel_rfl) | (rw [if_neg (by decide +kernel)]; exact ⟨rfl, rfl⟩))
    (fun os started H enc _ => slotsOwn_lifted os started H enc)

theorem slotsOwn_card : Rows.SlotsOwnCardSaid :=
  Claim7.holds_tied_plain_at .later [] [.data, .data, .pinned] true _ false
    slotsOwn_holds (fun _ h => by cases h) (by kernel_rfl) (fun _ h => by cases h) slotsOwn_row_tie rfl ⟨rfl, rfl⟩ (by kernel_rfl) rfl
    (fun f fn hf hfn => by
      obtain rfl : f = 6 := Option.some.inj ((show Tryd.prog.funcNamed "paymaster/paymasterlaw12.SlotsOwn" = some 6 by kernel_rfl).symm.trans hf) |>.symm
      obtain rfl : fn = Tryd.f6 := (Option.some.inj (Tryd.func6.symm.trans hfn)).symm
      exact ⟨by kernel_rfl, fun j t ht => by
        have hm : t ∈ Tryd.f6.params.toList := by simpa using Array.mem_of_getElem? ht
        have hall : (Tryd.f6.params.toList.all fun u => !Tryd.prog.wantsStandIn u) = true := by kernel_rfl
        exact (show Tryd.prog.wantsStandIn t = false by simpa using List.all_eq_true.1 hall t hm)⟩)
    (by kernel_rfl)

end Go.Proofs.YtngofpdpangajaaDoor
