/-
  The law SlotsNear: whoever is new stands at its first slot, unless some one who stays, or is new and less by its Id, stands there; and so on, round and round. Conditions: none.
-/
import Derived.Test.YtngofpdpangajaaDoorU12Awake
import Derived.Test.YtngofpdpangajaaDoorM12Pln
import Derived.Test.YtngofpdpangajaaDoorM12Plc
import Derived.Test.YtngofpdpangajaaDoorM12May
import Derived.Test.YtngofpdpangajaaDoorS10Same
import Derived.Test.YtngofpdpangajaaDoorW7Laid
import Derived.ChangeMaps
namespace Go.Proofs.YtngofpdpangajaaDoor
set_option linter.unusedVariables false
set_option linter.unusedSimpArgs false
set_option maxRecDepth 10000
open Go.ChangeShapes Go.WideShapes Go.ChangeAt Go.RowKit Go.Sort

theorem at0_near (g m : Nat) : (⟨g, 0, none⟩ : Addr).add m = ⟨g, m, none⟩ := by simp [Addr.add]; exact fun hj => hj.symm
theorem keys_rise2 {ys : List Rw} (hs : Sl ys) (hd : (ys.map keyR).Nodup) {i j : Nat} {x y : Rw} (hij : i < j) (hx : ys[i]? = some x) (hy : ys[j]? = some y) : LR x y := by
  have hi := (List.getElem?_eq_some_iff.1 hx)
  have hj := (List.getElem?_eq_some_iff.1 hy)
  have h1 := List.pairwise_iff_getElem.1 hs i j hi.1 hj.1 hij
  rw [hi.2, hj.2] at h1
  refine Classical.byContradiction fun h2 => ?_
  have h3 := LR_key h2 h1
  have h4 := List.nodup_iff_pairwise_ne.1 hd
  rw [List.pairwise_map] at h4
  have h5 := List.pairwise_iff_getElem.1 h4 i j hi.1 hj.1 hij
  rw [hi.2, hj.2] at h5
  exact h5 h3
theorem geq_run12 (x y : Rw) (h : LR x y) (u : World) : (binOp .geq 9 (.string x.id) (.string y.id)).run Tryd.prog u = .ok (.bool false) u := by
  have e1 := bless_yes h
  simp [binOp, Op.stringOp, e1]
theorem firstN_bd (seed id : ByteArray) (n : Nat) (hn : n ≤ 10) : 0 ≤ firstN seed id n ∧ firstN seed id n < pw n := by
  unfold firstN
  rw [if_pos ⟨by omega, by omega⟩, Int.toNat_natCast]
  have hp := pw_bd n hn
  exact ⟨Int.emod_nonneg _ (show pw n ≠ 0 by omega), Int.emod_lt_of_pos _ (show 0 < pw n by omega)⟩
set_option maxHeartbeats 2000000 in
theorem near12_long (seed : ByteArray) (h : Int) (A B : Option Addr) (c d : Nat) (was : List Ac) (rows : List Rw) (m1 : was.length ≤ 9223372036854775807) (m2 : rows.length ≤ 9223372036854775807) (hl : 64 < seed.size ∨ longA was = true ∨ longR rows = true) (w : World) (hR : AcRow w w.heap.size A was) (hS : RwRow w w.heap.size B rows) (hTb : Tab w) (hT : TabU w) :
    Calls Tryd.prog 8 #[.string seed, .int .i64 h, .slice A was.length c, .slice B rows.length d] w (Tells (.bool true) w.heap.size w) := by
  have cA := fun u hu hv => awake12_any u hu hv
  have cX := fun u hu => longA_any A c was m1 u hu
  have cY := fun u hu => longR_any B d rows m2 u hu
  by_cases h1 : 64 < seed.size
  · have h1i : (64 : Int) < (seed.size : Int) := by omega
    go_enter Tryd.func8, Tryd.ntmps8
    go_wp2_with (first | (go_at_call 29; refine (cA _ hTb hT).mono ?_; rintro e w1 ⟨rfl, j1⟩) | fail)
    go_ret
    exact ⟨rfl, j1⟩
  · have h1i : ¬ ((64 : Int) < (seed.size : Int)) := by omega
    cases h2 : longA was with
    | true =>
      rw [h2] at cX
      go_enter Tryd.func8, Tryd.ntmps8
      go_wp2_with (first
        | (go_at_call 29; refine (cA _ hTb hT).mono ?_; rintro e w1 ⟨rfl, j1⟩)
        | (go_at_call 10; refine (cX _ ((hR.call j1).more j1.size)).mono ?_; rintro e w2 ⟨rfl, rfl⟩)
        | fail)
      go_ret
      exact ⟨rfl, j1⟩
    | false =>
      rw [h2] at cX hl
      have h3 : longR rows = true := by
        rcases hl with h | h | h
        · exact absurd h h1
        · cases h
        · exact h
      rw [h3] at cY
      go_enter Tryd.func8, Tryd.ntmps8
      go_wp2_with (first
        | (go_at_call 29; refine (cA _ hTb hT).mono ?_; rintro e w1 ⟨rfl, j1⟩)
        | (go_at_call 10; refine (cX _ ((hR.call j1).more j1.size)).mono ?_; rintro e w2 ⟨rfl, rfl⟩)
        | (go_at_call 11; refine (cY _ ((hS.call j1).more j1.size)).mono ?_; rintro e w3 ⟨rfl, rfl⟩)
        | fail)
      go_ret
      exact ⟨rfl, j1⟩

set_option maxRecDepth 100000 in
set_option maxHeartbeats 4000000 in
theorem near12_bad (seed : ByteArray) (h : Int) (A B : Option Addr) (c d : Nat) (was : List Ac) (rows : List Rw) (h1 : seed.size ≤ 64) (l1 : longA was = false) (l2 : longR rows = false) (m1 : was.length ≤ 200) (m2 : rows.length ≤ 200) (z1 : ∀ x ∈ was, x.id.size ≤ 200 ∧ x.salt.size ≤ 200) (z2 : ∀ x ∈ rows, x.id.size ≤ 200)
    (o1 : AllAc was) (o2 : AllRw rows) (hE : placeE seed h was rows ≠ 0) (w : World) (hR : AcRow w w.heap.size A was) (hS : RwRow w w.heap.size B rows) (hTb : Tab w) (hT : TabU w) :
    Calls Tryd.prog 8 #[.string seed, .int .i64 h, .slice A was.length c, .slice B rows.length d] w (Tells (.bool true) w.heap.size w) := by
  have cA := fun u hu hv => awake12_any u hu hv
  have cX := fun u hu => longA_any A c was (by omega) u hu
  have cY := fun u hu => longR_any B d rows (by omega) u hu
  rw [l1] at cX
  rw [l2] at cY
  have h1i : ¬ ((64 : Int) < (seed.size : Int)) := by omega
  have hz6 : ∀ x ∈ was, x.id.size ≤ 1000000 ∧ x.salt.size ≤ 1000000 := fun x k => by have := z1 x k; omega
  obtain ⟨ys, hys⟩ := sd_exists rows
  obtain ⟨E, hEE⟩ : ∃ E, placeE seed h was rows = E := ⟨_, rfl⟩
  have cP := fun u hu hv hx hy => (sPlace_any seed (by omega) h A c was (by omega) o1 hz6 B d rows ys hys (by omega) (fun r hr => ⟨by have := z2 r hr; omega, o2 r hr⟩) E hEE u hu hv hx hy).mono (fun e w' k => (show Below u.heap.size u w' ∧ e = .returned (.tuple #[.slice none 0 0, .int .i64 E]) from by
    obtain ⟨k1, v, k2, k3, -⟩ := k
    rw [k3 (by rw [← hEE]; exact hE)] at k2
    exact ⟨k1, k2⟩))
  rw [hEE] at hE
  have q0 : (E != 0) = true := bne_iff_ne.2 hE
  clear hEE hys
  generalize was.length = M at *
  generalize rows.length = N at *
  go_enter Tryd.func8, Tryd.ntmps8
  go_upto_region 6 with (first
    | (go_at_call 29; refine (cA _ hTb hT).mono ?_; rintro e w1 ⟨rfl, j1⟩)
    | (go_at_call 10; refine (cX _ ((hR.call j1).more j1.size)).mono ?_; rintro e w2 ⟨rfl, rfl⟩)
    | (go_at_call 11; refine (cY _ ((hS.call j1).more j1.size)).mono ?_; rintro e w3 ⟨rfl, rfl⟩)
    | (go_at_call 12; refine (cP _ ((hR.call j1).more j1.size) ((hS.call j1).more j1.size) (hT.call j1) (hTb.call j1)).mono ?_; rintro e w4 ⟨j4, rfl⟩)
    | fail)
  go_wp2
  go_ret
  exact ⟨rfl, chain j1 j4⟩
set_option maxRecDepth 100000 in
set_option maxHeartbeats 8000000 in
theorem near12_ok (seed : ByteArray) (h : Int) (A B : Option Addr) (c d : Nat) (was : List Ac) (rows : List Rw) (h1 : seed.size ≤ 64) (l1 : longA was = false) (l2 : longR rows = false) (m1 : was.length ≤ 200) (m2 : rows.length ≤ 200) (z1 : ∀ x ∈ was, x.id.size ≤ 200 ∧ x.salt.size ≤ 200) (z2 : ∀ x ∈ rows, x.id.size ≤ 200)
    (o1 : AllAc was) (o2 : AllRw rows) (hE : placeE seed h was rows = 0) (w : World) (hR : AcRow w w.heap.size A was) (hS : RwRow w w.heap.size B rows) (hTb : Tab w) (hT : TabU w) :
    Calls Tryd.prog 8 #[.string seed, .int .i64 h, .slice A was.length c, .slice B rows.length d] w (Tells (.bool true) w.heap.size w) := by
  have cA := fun u hu hv => awake12_any u hu hv
  have cX := fun u hu => longA_any A c was (by omega) u hu
  have cY := fun u hu => longR_any B d rows (by omega) u hu
  rw [l1] at cX
  rw [l2] at cY
  have h1i : ¬ ((64 : Int) < (seed.size : Int)) := by omega
  have hz6 : ∀ x ∈ was, x.id.size ≤ 1000000 ∧ x.salt.size ≤ 1000000 := fun x k => by have := z1 x k; omega
  obtain ⟨ys, hys⟩ := sd_exists rows
  have hE2 : wrongE seed h was = 0 ∧ RowsP rows ∧ (rows.length : Int) ≤ pw h.toNat := by
    unfold placeE at hE
    by_cases k0 : wrongE seed h was ≠ 0
    · rw [if_pos k0] at hE; exact absurd hE k0
    · rw [if_neg k0] at hE
      by_cases k1 : RowsP rows
      · rw [if_pos k1] at hE
        by_cases k2 : pw h.toNat < (rows.length : Int)
        · rw [if_pos k2] at hE; cases hE
        · exact ⟨Classical.byContradiction k0, k1, by omega⟩
      · rw [if_neg k1] at hE; cases hE
  obtain ⟨hw0, hrp, hlen⟩ := hE2
  obtain ⟨-, -, hma⟩ := wrong_no hw0
  obtain ⟨n, rfl, hn, hMP⟩ := mayA_P hma
  rw [Int.toNat_natCast] at hlen
  have hyp := (rowsP_perm hys.perm).1 hrp
  have hyl : ys.length = rows.length := hys.perm.length_eq.symm
  have hpb := pw_bd n hn
  have cP := fun u hu hv hx hy => (sPlace_any seed (by omega) (n : Int) A c was (by omega) o1 hz6 B d rows ys hys (by omega) (fun r hr => ⟨by have := z2 r hr; omega, o2 r hr⟩) 0 hE u hu hv hx hy).mono (fun e w' k => (show Below u.heap.size u w' ∧ ∃ g, e = .returned (.tuple #[.slice (some ⟨g, 0, none⟩) rows.length rows.length, .int .i64 0]) ∧ AcBox w' g (placeL (saltB seed) (fun i => firstN seed i n) (pw n) was ys) from by
    obtain ⟨k1, v, k2, -, k3⟩ := k
    obtain ⟨g, rfl, -, k5⟩ := k3 rfl
    exact ⟨k1, g, k2, by simpa using k5⟩))
  have hLm : MayP (pw n) (placeL (saltB seed) (fun i => firstN seed i n) (pw n) was ys) := place_may (by omega) (fun i => by rw [saltB_size]; decide) hMP hyp (by omega)
  have hLl : (placeL (saltB seed) (fun i => firstN seed i n) (pw n) was ys).length = rows.length := by rw [place_len, hyl]
  have hnear := fun i r (hr : ys[i]? = some r) (hq : newIn was r = true) => place_near (σ := saltB seed) (φ := fun i => firstN seed i n) (A := pw n) (by omega) hMP hyp (by omega) hr hq
  have hkeys := place_keys (σ := saltB seed) (φ := fun i => firstN seed i n) (A := pw n) (was := was) (ys := ys)
  have hslots := (place_slots (σ := saltB seed) (φ := fun i => firstN seed i n) (A := pw n) (by omega) hMP hyp (by omega)).2
  have hperm := place_perm (σ := saltB seed) (φ := fun i => firstN seed i n) (A := pw n) (was := was) (ys := ys)
  obtain ⟨L, hL⟩ : ∃ L, placeL (saltB seed) (fun i => firstN seed i n) (pw n) was ys = L := ⟨_, rfl⟩
  rw [hL] at cP hLm hLl hkeys hperm
  simp only [hL] at hnear
  have hLz : ∀ x ∈ L, x.id.size ≤ 1000000 ∧ x.salt.size ≤ 1000000 := fun x hx => by
    have h2 := hLm.1 x hx
    rw [okA_def, Bool.and_eq_true, Bool.and_eq_true] at h2
    have h3 : keyA x ∈ L.map keyA := List.mem_map_of_mem hx
    rw [hkeys] at h3
    obtain ⟨r, hr, e⟩ := List.mem_map.1 h3
    have h4 := z2 r (hys.perm.mem_iff.2 hr)
    have h5 : x.id.size = r.id.size := by rw [← ba_size, ← ba_size]; exact congrArg List.length e.symm
    have h6 := of_decide_eq_true h2.2.1
    omega
  have hLo : AllAc L := fun x hx => by
    have h3 : keyA x ∈ L.map keyA := List.mem_map_of_mem hx
    rcases List.mem_append.1 (hperm.mem_iff.1 hx) with hm | hm
    · obtain ⟨r, hr, hrn, rfl⟩ := stays_mem hm
      have := o2 r (hys.perm.mem_iff.2 hr)
      exact ⟨this.1, this.2, (o1 _ (findA_in hrn).1).2.2⟩
    · have hs := hslots x hm
      obtain ⟨i, hi, e⟩ := List.getElem_of_mem hm
      obtain ⟨r, hr⟩ : ∃ r, (ys.filter (newIn was))[i]? = some r := ⟨_, List.getElem?_eq_getElem (by rw [newsL_len] at hi; exact hi)⟩
      have h4 := newsL_at (σ := saltB seed) (φ := fun i => firstN seed i n) (A := pw n) (ys.filter (newIn was)) (stayT was ys) i r hr
      rw [List.getElem?_eq_getElem hi, e] at h4
      injection h4 with h4
      have hro := o2 r (hys.perm.mem_iff.2 (List.mem_filter.1 (List.mem_of_getElem? hr)).1)
      have e1 : x.h = r.h := by rw [h4]; rfl
      have e2 : x.l = r.l := by rw [h4]; rfl
      exact ⟨by rw [e1]; exact hro.1, by rw [e2]; exact hro.2, ⟨hs.1, by omega⟩⟩
  have cFA := fun g' m u hu => sAt_any (some ⟨g', 0, none⟩) rows.length L m (by omega) hLz u hu
  rw [hLl] at cFA
  have cFW := fun s u hu => sFind_any A c was s (by omega) hz6 u hu
  have hrise := fun (i j : Nat) (x y : Rw) (hij : i < j) (hx : ys[i]? = some x) (hy : ys[j]? = some y) => keys_rise2 hys.1 hyp.2 hij hx hy
  have hLy : ∀ (i : Nat) (x : Ac), L[i]? = some x → ∃ r, ys[i]? = some r ∧ keyR r = keyA x := fun i x hx => by
    have h3 : (L.map keyA)[i]? = some (keyA x) := by rw [List.getElem?_map, hx]; rfl
    rw [hkeys, List.getElem?_map] at h3
    cases hr : ys[i]? with
    | none => rw [hr] at h3; cases h3
    | some r => rw [hr] at h3; injection h3 with h3; exact ⟨r, rfl, h3⟩
  have hat : ∀ (i : Nat) (x : Ac), L[i]? = some x → atA L x.slot = (x, true) := fun i x hx => firstA_own (f := Ac.slot) hLm.2.2 (List.mem_of_getElem? hx)
  have hiz : ∀ (i : Nat) (x : Ac), L[i]? = some x → x.id.size ≤ 100000 := fun i x hx => by
    obtain ⟨r, hr, e⟩ := hLy i x hx
    have h4 := z2 r (hys.perm.mem_iff.2 (List.mem_of_getElem? hr))
    have h5 : x.id.size = r.id.size := by rw [← ba_size, ← ba_size]; exact congrArg List.length e.symm
    omega
  have hfb := fun id => firstN_bd seed id n hn
  have cN := fun id (hid : id.size ≤ 100000) u hu => first7_any seed id (n : Int) (by omega) hid u hu
  have hmx : ¬ ((n : Int) < 0) := by omega
  have hmy : ¬ ((10 : Int) < (n : Int)) := by omega
  have hw1 : IntKind.u64.wrap (n : Int) = (n : Int) := by rw [IntKind.wrap_u64]; omega
  have hw2 : IntKind.u64.wrap ((2 : Int) ^ n) = pw n := by
    show IntKind.u64.wrap (pw n) = pw n
    rw [IntKind.wrap_u64]
    omega
  have hmin : min n 64 = n := by omega
  clear hE hw0 hma hMP hrp hlen hyp hyl hslots hperm hkeys hLm hL hLo
  obtain ⟨N, hN⟩ : ∃ N, rows.length = N := ⟨_, rfl⟩
  obtain ⟨M, hM⟩ : ∃ M, was.length = M := ⟨_, rfl⟩
  rw [hN] at cP cFA cY hLl ⊢
  rw [hM] at cX cP cFW ⊢
  go_enter Tryd.func8, Tryd.ntmps8
  go_upto_region 6 with (first
    | (go_at_call 29; refine (cA _ hTb hT).mono ?_; rintro e w1 ⟨rfl, j1⟩)
    | (go_at_call 10; refine (cX _ ((hR.call j1).more j1.size)).mono ?_; rintro e w2 ⟨rfl, rfl⟩)
    | (go_at_call 11; refine (cY _ ((hS.call j1).more j1.size)).mono ?_; rintro e w3 ⟨rfl, rfl⟩)
    | (go_at_call 12; refine (cP _ ((hR.call j1).more j1.size) ((hS.call j1).more j1.size) (hT.call j1) (hTb.call j1)).mono ?_; rintro e w4 ⟨j4, g4, rfl, X4⟩)
    | fail)
  have j14 := chain j1 j4
  have R4 := (hR.call j14).more j14.size
  have T4 := hTb.call j14
  clear cA cX cY cP j1 j4 hR hS hT hTb
  go_wp2
  obtain ⟨P, hP⟩ : ∃ P, pw n = P := ⟨_, rfl⟩
  have hsqP := fun f s => sq_bd (A := pw n) (by omega) f s
  have hstP := fun f s => sq_step (pw n) f s
  have hs0P := fun f => sq_zero (pw n) f
  have hinP := fun f (s t : Nat) (hs : (s : Int) < pw n) (ht : (t : Int) < pw n) (e : sq (pw n) f s = sq (pw n) f t) => sq_inj (by omega) f hs ht e
  rw [hP] at hnear hsqP hstP hs0P hinP hpb
  simp only [hP] at hfb ⊢
  generalize sq P = Sq at *
  clear hP hw2
  have HNR := hideIt hnear
  have HSQ := hideIt hsqP
  have HST := hideIt hstP
  have HS0 := hideIt hs0P
  have HIN := hideIt hinP
  have HFB := hideIt hfb
  have HLY := hideIt hLy
  have HAT := hideIt hat
  have HIZ := hideIt hiz
  have HRI := hideIt hrise
  clear hnear hsqP hstP hs0P hinP hfb hLy hat hiz hrise
  go_loopg [12] N (fun gk i wr => ∃ k : Nat, k ≤ N ∧ N - k ≤ gk ∧ i = .int .i64 k ∧ Below w4.heap.size w4 wr)
  case atStart => exact ⟨0, Nat.zero_le _, by omega, rfl, Below.refl _ _⟩
  case round =>
    obtain ⟨k, hk, hgk, rfl, hb⟩ := hrel
    have HG := hideIt hgk
    clear hgk
    by_cases hlt : k < N
    · obtain ⟨x, hx⟩ : ∃ x, L[k]? = some x := ⟨_, List.getElem?_eq_getElem (by omega)⟩
      obtain ⟨r, hr, er⟩ := HLY.out k x hx
      have eid : x.id = r.id := ba_ext er.symm
      have hxz := HIZ.out k x hx
      obtain ⟨⟨⟨iw, hw, lw, sw, nw⟩, bw⟩, hfw⟩ : ∃ V, findA was (keyA x) = V := ⟨_, rfl⟩
      have cF2 := fun u hu => cFW x.id u hu
      have e2 : findA was x.id.data.toList = _ := hfw
      rw [e2] at cF2
      simp only [Ac.val] at cF2
      have X4k := X4.call hb
      obtain ⟨adx, e, hadx, x0, -, -, -, x4⟩ := X4k.row k x hx
      injection e with e
      subst e
      have a1 := at0_near g4 (k * 5)
      rw [a1] at x0 x4
      have hg4 := X4k.inside
      have hlti : (k : Int) < (N : Int) := by omega
      have R6 := (R4.call hb).more hb.size
      have HX := hideIt hx
      have HRR := hideIt hr
      have HER := hideIt er
      have HEI := hideIt eid
      clear hx hr e2 er eid
      go_upto_region 13 with (first
        | (go_at_call 16; refine (cF2 _ R6).mono ?_; rintro e v1 ⟨rfl, k1⟩)
        | fail)
      have L1 := chainA k1 (.cells (acB iw hw lw sw nw) 38)
      change Code.wp _ _ _ _ (v1.alloc (.cells (acB iw hw lw sw nw) 38))
      generalize v1.alloc (.cells (acB iw hw lw sw nw) 38) = W1 at *
      cases bw with
      | true =>
        go_wp2
        go_roundg (N - (k + 1))
        case measure => have := HG.out; omega
        case rel => exact ⟨k + 1, by omega, Nat.le_refl _, by go_num, hb.trans (L1.mono hb.size)⟩
      | false =>
        have hnw : newIn was r = true := by
          unfold newIn
          have : keyR r = keyA x := HER.out
          rw [this, hfw]
          rfl
        obtain ⟨a, s, ha, -, hs, has, hfree⟩ := HNR.out k r HRR.out hnw
        rw [HX.out] at ha
        injection ha with ha
        subst ha
        rw [← HEI.out] at has hfree
        have hfx := HFB.out x.id
        have cN1 := cN x.id hxz
        obtain ⟨f, hf⟩ : ∃ f, firstN seed x.id n = f := ⟨_, rfl⟩
        simp only [hf] at hfx has hfree cN1
        have hsq0 : Sq f 0 = f := by rw [HS0.out]; exact Int.emod_eq_of_lt hfx.1 hfx.2
        have X5 := X4k.call L1
        obtain ⟨adx, e, hadx, x0, -, -, -, x4⟩ := X5.row k x HX.out
        injection e with e
        subst e
        rw [a1] at x0 x4
        have hg5 := X5.inside
        have T6 := T4.call (hb.trans (L1.mono hb.size))
        clear hf hnw
        go_upto_region 15 with (first
          | (go_at_call 31; refine (cN1 _ T6).mono ?_; rintro e v2 ⟨rfl, k2⟩)
          | fail)
        have L2 := chain L1 k2
        have b2 := hb.trans (L2.mono hb.size)
        have X6 := X4k.call L2
        clear X5 x0 x4 hg5 k1 k2 L1 X4k hg4
        go_upto_region 16 with fail
        go_loopg [15, 16] s (fun gq vn vk wq => ∃ q : Nat, q ≤ s ∧ s - q ≤ gq ∧ vn = .int .u64 (Sq f q) ∧ vk = .int .u64 q ∧ Below v2.heap.size v2 wq)
        case atStart => exact ⟨0, Nat.zero_le _, by omega, by rw [hsq0], rfl, Below.refl _ _⟩
        case round =>
          rename World => wq
          obtain ⟨q, hq, hgq, rfl, rfl, hbq⟩ := hrel
          have HGQ := hideIt hgq
          clear hgq
          have X7 := X6.call hbq
          obtain ⟨adx, e, hadx, x0, -, -, -, x4⟩ := X7.row k x HX.out
          injection e with e
          subst e
          rw [a1] at x0 x4
          have hg7 := X7.inside
          by_cases hqs : q < s
          · have hqP : (q : Int) < P := by omega
            obtain ⟨p, b, hp, hbs, hor⟩ := hfree q hqs
            obtain ⟨m, hm⟩ : ∃ m, Sq f q = m := ⟨_, rfl⟩
            obtain ⟨m2, hm2⟩ : ∃ m, Sq f (q + 1) = m := ⟨_, rfl⟩
            have hne : (m == x.slot) = false := beq_false_of_ne fun e => by
              rw [← hm, has] at e
              have := HIN.out f q s hqP hs e
              omega
            have hmb := HSQ.out f q
            have hmb2 := HSQ.out f (q + 1)
            have hst1 := HST.out f q
            rw [hm] at hmb hst1 hbs
            rw [hm2] at hmb2 hst1
            rw [hm]
            obtain ⟨n1, hn1⟩ : ∃ z, m + 1 = z := ⟨_, rfl⟩
            have w2 : IntKind.u64.wrap (m + 1) = n1 := by rw [IntKind.wrap_u64]; omega
            have w3 : n1.tmod P = m2 := by rw [← hn1, ← hst1]; exact Int.tmod_eq_emod_of_nonneg (by omega)
            have w5 : IntKind.u64.wrap m2 = m2 := by rw [IntKind.wrap_u64]; omega
            have w4 : IntKind.u64.wrap ((q : Int) + 1) = ((q + 1 : Nat) : Int) := by rw [IntKind.wrap_u64]; omega
            have hP0 : ¬ P = 0 := by omega
            have hkm : ¬ (P < (q : Int)) := by omega
            have hkmd : decide (P < (q : Int)) = false := decide_eq_false hkm
            have cA1 := cFA g4 m
            have hatb := HAT.out p b hp
            rw [hbs] at hatb
            rw [hatb] at cA1
            obtain ⟨⟨⟨is, hs', ls, ss, ns⟩, st⟩, hfs⟩ : ∃ V, findA was (keyA b) = V := ⟨_, rfl⟩
            have cF3 := fun u hu => cFW b.id u hu
            have e3 : findA was b.id.data.toList = _ := hfs
            rw [e3] at cF3
            simp only [Ac.val] at cA1 cF3
            have hgeq : st = false → ∀ u : World, (binOp .geq 9 (.string b.id) (.string x.id)).run Tryd.prog u = .ok (.bool false) u := fun h u => by
              have hpk : p < k := by
                rcases hor with ho | ho
                · rw [hfs, h] at ho; cases ho
                · exact ho
              obtain ⟨rb, hrb, ekb⟩ := HLY.out p b hp
              have e4 : b.id = rb.id := ba_ext ekb.symm
              rw [e4, HEI.out]
              exact geq_run12 rb r (HRI.out p k rb r hpk hrb HRR.out) u
            have HM2 := hideIt hm2
            clear hm hm2 hn1 hst1 hfree hor hp hbs hatb hfs e3 hmb hmb2
            go_upto_region 19 with (first
              | (go_at_call 18; refine (cA1 _ X7.row).mono ?_; rintro e v3 ⟨rfl, k3⟩)
              | fail)
            have H3 := ((Has.start wq).call k3).add 38 (acB b.id b.h b.l b.salt b.slot)
            change Code.wp _ _ _ _ (v3.alloc (.cells (acB b.id b.h b.l b.salt b.slot) 38))
            obtain ⟨ga, hga⟩ : ∃ g, v3.heap.size = g := ⟨_, rfl⟩
            rw [hga] at H3 ⊢
            generalize v3.alloc (.cells (acB b.id b.h b.l b.salt b.slot) 38) = W3 at *
            have b3 := H3.below
            have y0 := (H3.box 0).read 0
            have y1 := (H3.box 0).inside
            have R7 := (R4.call (b2.trans (hbq.mono b2.size))).call (b3.mono (Nat.le_trans b2.size hbq.size))
            go_upto_region 20 with (first
              | (go_at_call 16; refine (cF3 _ (R7.more (Nat.le_trans b2.size (Nat.le_trans hbq.size b3.size)))).mono ?_; rintro e v4 ⟨rfl, k4⟩)
              | fail)
            have H4 := (H3.call k4).past (.cells (acB is hs' ls ss ns) 38)
            change Code.wp _ _ _ _ (v4.alloc (.cells (acB is hs' ls ss ns) 38))
            generalize v4.alloc (.cells (acB is hs' ls ss ns) 38) = W4 at *
            have b4 := H4.below
            clear y0 y1 x0 x4 hg7
            have y0 := (H4.box 0).read 0
            have y1 := (H4.box 0).inside
            have X8 := X7.call b4
            obtain ⟨adx, e, hadx, x0, -, -, -, x4⟩ := X8.row k x HX.out
            injection e with e
            subst e
            rw [a1] at x0 x4
            have hg8 := X8.inside
            clear cA1 cF3 H3 b3 R7 k3 k4 hga
            cases st with
            | true =>
              clear hgeq
              go_quiet (fail)
              go_wp2
              go_roundg (s - (q + 1))
              case measure => have := HGQ.out; omega
              case rel => exact ⟨q + 1, by omega, Nat.le_refl _, by rw [HM2.out], rfl, below_drewN (hbq.trans (b4.mono hbq.size)) _⟩
            | false =>
              have qg := hgeq rfl
              clear hgeq
              go_quiet (fail)
              go_wp2
              go_roundg (s - (q + 1))
              case measure => have := HGQ.out; omega
              case rel => exact ⟨q + 1, by omega, Nat.le_refl _, by rw [HM2.out], rfl, below_drewN (hbq.trans (b4.mono hbq.size)) _⟩
          · have e : q = s := by omega
            subst e
            rw [← has]
            have heq : (x.slot == x.slot) = true := by simp
            go_wp2
            go_roundg (N - (k + 1))
            case measure => have := HG.out; omega
            case rel => exact ⟨k + 1, by omega, Nat.le_refl _, by go_num, b2.trans (hbq.mono b2.size)⟩
    · have e : k = N := by omega
      subst e
      go_wp2
      go_ret
      exact ⟨rfl, chain j14 hb⟩

theorem slotsNear_core (H : Type) (enc : TypeId × Value → H) (W : World) (base : Nat) (args : Array Value) (ds gs : List (DataW H)) (before : List MemPlace)
    (hval : ∀ (j : Nat) t v, Tryd.f8.params[j]? = some t → args[j]? = some v → Value.okWide Tryd.prog W .any base t v)
    (hW : DataW.Whole enc Tryd.prog Tryd.f8.params.toList Rows.slotsNearSpec.vars false W args.toList ds gs before) (hT : Tab W ∧ TabU W) :
    gs = [] ∧ ds.length = 4 ∧ Calls Tryd.prog 8 args W (Tells (.bool true) W.heap.size W) := by
  obtain ⟨p, q, hA, hV, -, -, -⟩ := hW
  obtain ⟨rfl, rfl⟩ := trodVars_none hV
  have hA : DataW.TrodAll enc Tryd.prog W 0 (fun _ => true) true Tryd.f8.params.toList args.toList ds p := hA
  rw [Tryd.params8] at hA hval
  obtain ⟨v0, vs0, d0, ds0, p0, ps0, e0, rfl, -, h0, hA⟩ := trodAll_cons hA
  obtain ⟨v1, vs1, d1, ds1, p1, ps1, rfl, rfl, -, h1, hA⟩ := trodAll_cons hA
  obtain ⟨v2, vs2, d2, ds2, p2, ps2, rfl, rfl, -, h2, hA⟩ := trodAll_cons hA
  obtain ⟨v3, vs3, d3, ds3, p3, ps3, rfl, rfl, -, h3, hA⟩ := trodAll_cons hA
  obtain ⟨rfl, rfl, rfl⟩ := trodAll_nil hA
  obtain rfl : args = #[v0, v1, v2, v3] := Array.ext' e0
  obtain ⟨seed, rfl, -, -, z0⟩ := Go.ChangeMaps.open_string Tryd.underlying9 (hval 0 9 v0 rfl rfl) h0
  obtain ⟨h, rfl, -, -, -⟩ := open_int Tryd.underlying3 (hval 1 3 v1 rfl rfl) h1
  obtain ⟨A, c, was, rfl, x1, -, -, x2, x3⟩ := open_accs (hval 2 22 v2 rfl rfl) h2
  obtain ⟨B, d, rows, rfl, y1, -, -, y2, y3⟩ := open_rows (hval 3 23 v3 rfl rfl) h3
  refine ⟨rfl, rfl, ?_⟩
  by_cases hl : 64 < seed.size ∨ longA was = true ∨ longR rows = true
  · exact near12_long seed h A B c d was rows x1 y1 hl W x3 y3 hT.1 hT.2
  · rw [not_or, not_or] at hl
    obtain ⟨k1, k2, k3⟩ := hl
    have k2 : longA was = false := by cases e : longA was; rfl; exact absurd e k2
    have k3 : longR rows = false := by cases e : longR rows; rfl; exact absurd e k3
    obtain ⟨m1, z1⟩ := longA_no k2
    obtain ⟨m2, z2⟩ := longR_no k3
    by_cases hE : placeE seed h was rows = 0
    · exact near12_ok seed h A B c d was rows (by omega) k2 k3 m1 m2 z1 z2 x2 y2 hE W x3 y3 hT.1 hT.2
    · exact near12_bad seed h A B c d was rows (by omega) k2 k3 m1 m2 z1 z2 x2 y2 hE W x3 y3 hT.1 hT.2

set_option maxRecDepth 100000 in
theorem slotsNear_lifted (os : Os) (started : os.Started) (H : Type) (enc : TypeId × Value → H) :
    ReturnsInHanded {} Tryd.checked os 8 .any (fun w args => (Rows.slotsNearSpec.pre enc Tryd.prog Tryd.f8 [] false w args ∧ laidMetH Tryd.prog laidA w) ∧ sizedMet enc Tryd.prog Tryd.f8 (OpenSpec.ofChange Rows.slotsNearSpec) false w args)
      (Rows.slotsNearSpec.post enc Tryd.prog Tryd.f8 false true false false) := by
  refine returnsInHanded_of_change_and (C := Tryd.checked) (X := fun w _ => laidMetH Tryd.prog laidA w) (fun _ _ _ hh h => h.of_heap hh) own_knob started (by kernel_rfl) Tryd.func8
    (ChangeSpec.witness_shaped (enc := enc) (C := Tryd.checked) (os := os) (X := fun w _ => laidMetH Tryd.prog laidA w) false (World.laidAll Tryd.prog os laidA) #[.string ⟨#[]⟩, .int .i64 0, .slice none 0 0, .slice none 0 0] 8 (World.laidAll_os _ _ _) (World.shaped_of_ZipB (by kernel_rfl) (by kernel_rfl)) (by kernel_rfl) (by kernel_rfl) (by kernel_rfl) (met_A os _)) ?_
  intro W base args ds gs before hval0 hW _ hwt hL _
  have hval : ∀ (j : Nat) t v, Tryd.f8.params[j]? = some t → args[j]? = some v → Value.okWide Tryd.prog W .any base t v := hval0
  obtain ⟨hg, hlen, hc⟩ := slotsNear_core H enc W base args ds gs before hval hW (tab_of_laidA hL)
  subst hg
  have hr : (Tryd.f8.params.toList.all fun t => Tryd.prog.readableRec t && decide (t < Tryd.prog.types.size)) = true := by kernel_rfl
  have hread : ∀ t ∈ Tryd.f8.params.toList, Tryd.prog.readableRec t = true ∧ t < Tryd.prog.types.size := fun t ht => by
    have h := List.all_eq_true.1 hr t ht
    rw [Bool.and_eq_true, decide_eq_true_eq] at h
    exact h
  refine hc.mono fun e W' ⟨he, hb⟩ => ?_
  subst he
  match ds, hlen with
  | [d0, d1, d2, d3], _ => exact ⟨_, rfl, law_post laid_out Tryd.underlying4 rfl hread rfl hW rfl rfl rfl hb⟩

theorem slotsNear_holds : Rows.SlotsNearSaid :=
  OpenClaim.holds_of_wide 8 Tryd.f8 rfl rfl rfl rfl rfl rfl rfl ⟨rfl, rfl, rfl, rfl, rfl⟩ rfl rfl rfl rfl rfl (by kernel_rfl) Tryd.func8 (by kernel_rfl)
    (of_decide_eq_true (by kernel_rfl)) (by unfold Func.isWrapper; first | (rw [if_pos (by decide +kernel)]; kernel_rfl) | (rw [if_neg (by decide +kernel)]; exact ⟨rfl, rfl⟩))
    (fun os started H enc _ => slotsNear_lifted os started H enc)

theorem slotsNear_card : Rows.SlotsNearCardSaid :=
  Claim7.holds_tied_plain_at .later [] [.data, .data, .pinned] true _ false
    slotsNear_holds (fun _ h => by cases h) (by kernel_rfl) (fun _ h => by cases h) slotsNear_row_tie rfl ⟨rfl, rfl⟩ (by kernel_rfl) rfl
    (fun f fn hf hfn => by
      obtain rfl : f = 8 := Option.some.inj ((show Tryd.prog.funcNamed "paymaster/paymasterlaw12.SlotsNear" = some 8 by kernel_rfl).symm.trans hf) |>.symm
      obtain rfl : fn = Tryd.f8 := (Option.some.inj (Tryd.func8.symm.trans hfn)).symm
      exact ⟨by kernel_rfl, fun j t ht => by
        have hm : t ∈ Tryd.f8.params.toList := by simpa using Array.mem_of_getElem? ht
        have hall : (Tryd.f8.params.toList.all fun u => !Tryd.prog.wantsStandIn u) = true := by kernel_rfl
        exact (show Tryd.prog.wantsStandIn t = false by simpa using List.all_eq_true.1 hall t hm)⟩)
    (by kernel_rfl)

end Go.Proofs.YtngofpdpangajaaDoor
