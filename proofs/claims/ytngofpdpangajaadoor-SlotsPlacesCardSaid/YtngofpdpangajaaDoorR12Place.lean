/-
  paymasterref12's Place, walked.
-/
import Derived.Test.YtngofpdpangajaaDoorR12Rowed
import Derived.Test.YtngofpdpangajaaDoorR12Sort
import Derived.Test.YtngofpdpangajaaDoorM7Ref
import Derived.Test.YtngofpdpangajaaDoorM12Plc
namespace Go.Proofs.YtngofpdpangajaaDoor
set_option linter.unusedVariables false
set_option linter.unusedSimpArgs false
set_option maxRecDepth 10000
open Go.RowKit Go.Sort

/-- append of one account. -/
theorem app_accA (w : World) (base : Nat) (v : Value) (n : Nat) (ys : List Ac) (hown : w.ownsRow base 38 5 v n (accCs ys)) (x : Ac) (hm : n ≤ 100000000) (hb : base ≤ w.heap.size) :
    ∃ v' w', (∀ ty, (Builtin.append_ #[22, 22] ty #[v, .slice (some ⟨w.heap.size, 0, none⟩) 1 1]).run Tryd.prog (w.alloc (.cells (acB x.id x.h x.l x.salt x.slot) 38)) = .ok v' w') ∧
      w'.ownsRow base 38 5 v' (n + 1) (accCs (ys ++ [x])) ∧ (w.alloc (.cells (acB x.id x.h x.l x.salt x.slot) 38)).grownBy w' v.ownBlock ∧ Below base w w' := by
  obtain ⟨i0, hi, hz0, hz1, hz2⟩ := info_parts infoS_acc
  obtain ⟨v', w', hr, h2, h3, -, h4⟩ := run_append_own_at (P := Tryd.prog) (w.alloc (.cells (acB x.id x.h x.l x.salt x.slot) 38)) base 22 0 38 i0 _ 5 56 Tryd.underlying22 hi hz0 hz1 hz2 rfl (by decide) v n (accCs ys) (hown.alloc _) ⟨w.heap.size, 0, none⟩ 1 1 (accCs [x]) rfl
    (cells_new4 w 38 (accCs [x])) (accCs_one [x]) (by unfold maxLen; omega) (by omega) (by simp; omega)
  rw [← accCs_app] at h2
  exact ⟨v', w', fun ty => hr, h2, h3, ((Below.refl base w).alloc hb _).grown h3 (by simp; omega) (fun j hj => (hown.lt j hj).1)⟩
set_option maxRecDepth 100000 in
set_option maxHeartbeats 4000000 in
theorem rPlace_bad (seed : ByteArray) (h : Int) (A : Option Addr) (c : Nat) (was : List Ac) (hm : was.length ≤ 1000000) (ho : AllAc was) (hz : ∀ x ∈ was, x.id.size ≤ 1000000 ∧ x.salt.size ≤ 1000000) (B : Option Addr) (d : Nat) (rows : List Rw)
    (hr : rows.length ≤ 1000000) (hrz : ∀ r ∈ rows, r.id.size ≤ 100000 ∧ r.ok) (E : Int) (hE : placeE seed h was rows = E) (h0 : E ≠ 0) (w : World) (hR : AcRow w w.heap.size A was) (hS : RwRow w w.heap.size B rows) :
    Calls Tryd.prog 13 #[.string seed, .int .i64 h, .slice A was.length c, .slice B rows.length d] w (Tells (.tuple #[.slice none 0 0, .int .i64 E]) w.heap.size w) := by
  have cH := fun u => rhigh_any h u
  have cM := fun u hu => rmay_any A c was hm ho hz h u hu
  have cR := fun u hu => rrowed_any B d rows (by omega) (fun r hr => by have := (hrz r hr).1; omega) u hu
  subst hE
  unfold placeE wrongE at h0 ⊢
  cases k1 : shOk h with
  | false =>
    rw [k1] at cH
    simp only [if_pos, ne_eq, reduceCtorEq, not_false_eq_true, Int.reduceEq]
    generalize was.length = M at *
    generalize rows.length = N at *
    go_enter Tryd.func13, Tryd.ntmps13
    go_wp2_with (first | (go_at_call 41; refine (cH _).mono ?_; rintro e w1 ⟨rfl, rfl⟩) | fail)
    refine bodyPost_ret (results_tmp2 rfl _ _ _) rfl ?_
    exact ⟨rfl, by repeat (first | exact Below.refl _ _ | apply Below.drew | apply below_drewN | refine Below.alloc ?_ (by simp; try omega) _ | refine Below.setCell ?_ (by simp; try omega) _)⟩
  | true =>
    rw [k1] at cH
    rw [k1] at h0
    by_cases k2 : 64 < seed.size
    · have k2i : (64 : Int) < (seed.size : Int) := by omega
      simp only [k2, if_pos, if_neg, Bool.true_eq_false, not_false_eq_true, ne_eq, Int.reduceEq]
      generalize was.length = M at *
      generalize rows.length = N at *
      go_enter Tryd.func13, Tryd.ntmps13
      go_wp2_with (first | (go_at_call 41; refine (cH _).mono ?_; rintro e w1 ⟨rfl, rfl⟩) | fail)
      refine bodyPost_ret (results_tmp2 rfl _ _ _) rfl ?_
      exact ⟨rfl, by repeat (first | exact Below.refl _ _ | apply Below.drew | apply below_drewN | refine Below.alloc ?_ (by simp; try omega) _ | refine Below.setCell ?_ (by simp; try omega) _)⟩
    · have k2i : ¬ ((64 : Int) < (seed.size : Int)) := by omega
      cases k3 : mayA h was with
      | false =>
        rw [k3] at cM
        simp only [k2, if_pos, if_neg, Bool.true_eq_false, not_false_eq_true, ne_eq, Int.reduceEq]
        generalize was.length = M at *
        generalize rows.length = N at *
        go_enter Tryd.func13, Tryd.ntmps13
        go_wp2_with (first
          | (go_at_call 41; refine (cH _).mono ?_; rintro e w1 ⟨rfl, rfl⟩)
          | (go_at_call 23; refine (cM _ hR).mono ?_; rintro e w2 ⟨rfl, j2⟩)
          | fail)
        refine bodyPost_ret (results_tmp2 rfl _ _ _) rfl ?_
        exact ⟨rfl, j2⟩
      | true =>
        obtain ⟨n, hn', hn, -⟩ := mayA_P k3
        subst hn'
        rw [k3] at cM h0
        have cZ := fun u => rmany_any n hn u
        have hpb := pw_bd n hn
        simp only [k2, if_neg, Bool.true_eq_false, not_false_eq_true, ne_eq, not_true_eq_false, Int.toNat_natCast] at h0 ⊢
        by_cases k4 : RowsP rows
        · have k5 : pw n < (rows.length : Int) := by
            refine Classical.byContradiction fun k5 => ?_
            simp [k4, k5] at h0
          rw [decide_eq_true k4] at cR
          simp only [k4, k5, if_pos]
          clear h0
          have hw64 : IntKind.u64.wrap (rows.length : Int) = (rows.length : Int) := by rw [IntKind.wrap_u64]; omega
          generalize pw n = P at *
          generalize was.length = M at *
          generalize rows.length = N at *
          go_enter Tryd.func13, Tryd.ntmps13
          go_wp2_with (first
            | (go_at_call 41; refine (cH _).mono ?_; rintro e w1 ⟨rfl, rfl⟩)
            | (go_at_call 23; refine (cM _ hR).mono ?_; rintro e w2 ⟨rfl, j2⟩)
            | (go_at_call 42; refine (cR _ ((hS.call j2).more j2.size)).mono ?_; rintro e w3 ⟨rfl, j3⟩)
            | (go_at_call 43; refine (cZ _).mono ?_; rintro e w4 ⟨rfl, rfl⟩)
            | fail)
          refine bodyPost_ret (results_tmp2 rfl _ _ _) rfl ?_
          exact ⟨rfl, chain j2 j3⟩
        · rw [decide_eq_false k4] at cR
          simp only [k4, if_neg, not_false_eq_true]
          generalize was.length = M at *
          generalize rows.length = N at *
          go_enter Tryd.func13, Tryd.ntmps13
          go_wp2_with (first
            | (go_at_call 41; refine (cH _).mono ?_; rintro e w1 ⟨rfl, rfl⟩)
            | (go_at_call 23; refine (cM _ hR).mono ?_; rintro e w2 ⟨rfl, j2⟩)
            | (go_at_call 42; refine (cR _ ((hS.call j2).more j2.size)).mono ?_; rintro e w3 ⟨rfl, j3⟩)
            | fail)
          refine bodyPost_ret (results_tmp2 rfl _ _ _) rfl ?_
          exact ⟨rfl, chain j2 j3⟩
set_option maxRecDepth 100000 in
set_option maxHeartbeats 8000000 in
theorem rPlace_any (seed : ByteArray) (h1 : seed.size ≤ 100000) (h : Int) (A : Option Addr) (c : Nat) (was : List Ac) (hm : was.length ≤ 1000000) (ho : AllAc was) (hz : ∀ x ∈ was, x.id.size ≤ 1000000 ∧ x.salt.size ≤ 1000000) (B : Option Addr) (d : Nat) (rows ys : List Rw) (hys : Sd rows ys)
    (hr : rows.length ≤ 1000000) (hrz : ∀ r ∈ rows, r.id.size ≤ 100000 ∧ r.ok) (hE : placeE seed h was rows = 0) (w : World) (hR : AcRow w w.heap.size A was) (hS : RwRow w w.heap.size B rows) :
    Calls Tryd.prog 13 #[.string seed, .int .i64 h, .slice A was.length c, .slice B rows.length d] w fun e w' => Below w.heap.size w w' ∧ ∃ A' c', e = .returned (.tuple #[.slice A' rows.length c', .int .i64 0]) ∧
      AcRow w' w'.heap.size A' (placeL (saltB seed) (fun i => firstN seed i h) (pw h.toNat) was ys) := by
  have cH := fun u => rhigh_any h u
  have cM := fun u hu => rmay_any A c was hm ho hz h u hu
  have cR := fun u hu => rrowed_any B d rows (by omega) (fun r hr => by have := (hrz r hr).1; omega) u hu
  have hE2 : wrongE seed h was = 0 ∧ RowsP rows ∧ (rows.length : Int) ≤ pw h.toNat := by
    unfold placeE at hE
    by_cases k0 : wrongE seed h was ≠ 0
    · rw [if_pos k0] at hE; exact absurd hE k0
    · rw [if_neg k0] at hE
      by_cases k1 : RowsP rows
      · rw [if_pos k1] at hE
        by_cases k2 : pw h.toNat < (rows.length : Int)
        · rw [if_pos k2] at hE; cases hE
        · exact ⟨Classical.byContradiction k0, k1, by omega⟩
      · rw [if_neg k1] at hE; cases hE
  obtain ⟨hw0, hrp, hlen⟩ := hE2
  obtain ⟨k1, k2, k3⟩ := wrong_no hw0
  obtain ⟨n, rfl, hn, hMP⟩ := mayA_P k3
  rw [Int.toNat_natCast] at hlen ⊢
  rw [k1] at cH
  rw [k3] at cM
  rw [decide_eq_true hrp] at cR
  have k2i : ¬ ((64 : Int) < (seed.size : Int)) := by omega
  have hpb := pw_bd n hn
  have cZ := fun u => rmany_any n hn u
  have hyp := (rowsP_perm hys.perm).1 hrp
  have hyl : ys.length = rows.length := hys.perm.length_eq.symm
  have hyz : ∀ r ∈ ys, r.id.size ≤ 100000 ∧ r.ok := fun r hq => hrz r (hys.perm.mem_iff.2 hq)
  have cS : ∀ u, RwRow u u.heap.size B rows → Calls Tryd.prog 44 #[.slice B rows.length d] u fun e w' => ∃ X k, e = .returned (.slice X rows.length k) ∧ RwRow w' w'.heap.size X ys ∧ Below u.heap.size u w' := fun u hu =>
    (rsortref_any B d rows hr u hu).mono fun e w' q => by
      obtain ⟨v, q1, zs, q2, q3, q4, q5⟩ := q
      obtain rfl := hys.same q5
      obtain ⟨X, k, q6, -, q7⟩ := rows_of_own q3
      subst q6
      rw [q2] at q1
      exact ⟨X, k, q1, q7, q4⟩
  have cF := fun s u hu => rFind_any A c was s (by omega) u hu
  have cFr := fun X k (zs : List Ac) f hf (hl : zs.length ≤ 1000000) u hu => rfree_any X k zs hl n hn f hf u hu
  have hfw : ∀ i, Word (firstN seed i n) := fun i => by
    unfold firstN
    rw [if_pos ⟨by omega, by omega⟩]
    have := pow_word (n : Int).toNat (by omega)
    exact ⟨Int.emod_nonneg _ (by omega), by have := Int.emod_lt_of_pos (macN seed (⟨#[5]⟩ ++ i).data.toList) this.1; omega⟩
  have cSo := fun X k (zs : List Ac) (hl : zs.length ≤ 1000000) u hu => rsortA_any X k zs hl u hu
  obtain ⟨φ, hφ⟩ : ∃ φ, (fun i => firstN seed i (n : Int)) = φ := ⟨_, rfl⟩
  obtain ⟨σ, hσ⟩ : ∃ σ, saltB seed = σ := ⟨_, rfl⟩
  obtain ⟨P, hP⟩ : ∃ P, pw n = P := ⟨_, rfl⟩
  have cFi : ∀ i, i.size ≤ 100000 → ∀ u, Calls Tryd.prog 45 #[.string seed, .string i, .int .i64 (n : Int)] u (Tells (.int .u64 (φ i)) u.heap.size u) := fun i hi u => by
    rw [← hφ]
    exact rfirst7_any seed i (n : Int) h1 hi u
  have cSa : ∀ i, i.size ≤ 100000 → ∀ u, Calls Tryd.prog 46 #[.string seed, .string i] u (Tells (.string (σ i)) u.heap.size u) := fun i hi u => by
    rw [← hσ]
    exact rsalt_any seed i h1 hi u
  have hfw : ∀ i, Word (φ i) := fun i => by rw [← hφ]; exact hfw i
  have hplace := fun zs hq => place_sorted (σ := σ) (φ := φ) (A := P) (was := was) (ys := ys) (zs := zs) hys.1 hyp.2 hq
  have hpl : (staysL was ys ++ newsL σ φ P (stayT was ys) (ys.filter (newIn was))).length = ys.length := by
    rw [← (place_perm (σ := σ) (φ := φ) (A := P) (was := was) (ys := ys)).length_eq, place_len]
  rw [hφ, hσ, hP]
  rw [hP] at cZ hpb hlen cFr
  have HPL := hideIt hplace
  have HLN := hideIt hpl
  clear hplace hpl hE hw0 hrp hMP k3 k1 hφ hσ hP
  obtain ⟨N, hN⟩ : ∃ N, rows.length = N := ⟨_, rfl⟩
  obtain ⟨M, hM⟩ : ∃ M, was.length = M := ⟨_, rfl⟩
  rw [hN] at cS cR hlen hyl hr ⊢
  rw [hM] at cM cF hm ⊢
  have hw64 : IntKind.u64.wrap (N : Int) = (N : Int) := by rw [IntKind.wrap_u64]; omega
  have hlt0 : ¬ (P < (N : Int)) := by omega
  go_enter Tryd.func13, Tryd.ntmps13
  go_upto_region 10 with (first
    | (go_at_call 41; refine (cH _).mono ?_; rintro e w1 ⟨rfl, rfl⟩)
    | (go_at_call 23; refine (cM _ hR).mono ?_; rintro e w2 ⟨rfl, j2⟩)
    | (go_at_call 42; refine (cR _ ((hS.call j2).more j2.size)).mono ?_; rintro e w3 ⟨rfl, j3⟩; have j13 := chain j2 j3)
    | (go_at_call 43; refine (cZ _).mono ?_; rintro e w4 ⟨rfl, rfl⟩)
    | (go_at_call 44; refine (cS _ ((hS.call j13).more j13.size)).mono ?_; rintro e w5 ⟨X, kX, rfl, R5, j5⟩)
    | fail)
  have j15 := chain j13 j5
  have A5 := (hR.call j15).more j15.size
  clear cH cM cR cZ cS hR hS j2 j3 j13 j5 hw64 hlt0
  go_wp2
  go_loopg [11, 12] N (fun gk v i wr => ∃ k : Nat, k ≤ N ∧ N - k ≤ gk ∧ i = .int .i64 k ∧ wr.ownsRow w5.heap.size 38 5 v (staysL was (ys.take k)).length (accCs (staysL was (ys.take k))) ∧ Below w5.heap.size w5 wr)
  case atStart => exact ⟨0, Nat.zero_le _, by omega, rfl, World.ownsRow_nil _ _ _ _, Below.refl _ _⟩
  case round =>
    obtain ⟨k, hk, hgk, rfl, O, hb⟩ := hrel
    have HG := hideIt hgk
    clear hgk
    by_cases hlt : k < N
    · obtain ⟨r, hx⟩ : ∃ r, ys[k]? = some r := ⟨_, List.getElem?_eq_getElem (by omega)⟩
      have hlti : (k : Int) < (N : Int) := by omega
      obtain ⟨ad, hX, had, p0, p1, p2⟩ := (R5.call hb) k r hx
      subst hX
      have p3 : (ad.add (k * 3)).block < wr.heap.size := by rw [o10_block]; exact Nat.lt_of_lt_of_le had hb.size
      have cF1 := cF r.id
      have hst := stays_take (was := was) hx
      obtain ⟨⟨⟨ia, ha, la, sa, na⟩, f⟩, hf⟩ : ∃ V, findA was r.id.data.toList = V := ⟨_, rfl⟩
      rw [hf] at cF1
      have hsta : stayA was r = if f then some ⟨r.id, r.h, r.l, sa, na⟩ else none := by
        unfold stayA
        rw [show findA was (keyR r) = (⟨ia, ha, la, sa, na⟩, f) from hf]
      rw [hsta] at hst
      simp only [Ac.val] at cF1
      have A6 := (A5.call hb).more hb.size
      have hsl : (staysL was (ys.take k)).length ≤ N := by unfold staysL; exact Nat.le_trans (List.length_filterMap_le _ _) (by rw [List.length_take]; omega)
      have HST := hideIt hst
      have HX := hideIt hx
      have HF := hideIt hf
      clear hst hx hf hsta cF
      generalize staysL was (ys.take k) = SL at *
      go_upto_region 15 with (first | (go_at_call 17; refine (cF1 _ A6).mono ?_; rintro e v1 ⟨rfl, j1⟩) | fail)
      have H1 := ((Has.start wr).call j1).add 38 (acB ia ha la sa na)
      change Code.wp _ _ _ _ (v1.alloc (.cells (acB ia ha la sa na) 38))
      have hgw := j1.size
      obtain ⟨ga, hga⟩ : ∃ g, v1.heap.size = g := ⟨_, rfl⟩
      rw [hga] at H1 hgw ⊢
      generalize v1.alloc (.cells (acB ia ha la sa na) 38) = W1 at *
      have b1 := hb.trans (H1.below.mono hb.size)
      clear j1 hga p0 p1 p2 p3 cF1
      cases f with
      | true =>
        have hia : ia = r.id := by
          have h2 := (firstA_yes (p := fun a => decide (keyA a = r.id.data.toList)) (l := was) (by show (findA was r.id.data.toList).2 = true; rw [HF.out])).2
          change decide (keyA (findA was r.id.data.toList).1 = r.id.data.toList) = true at h2
          rw [HF.out] at h2
          exact ba_ext (of_decide_eq_true h2)
        subst hia
        have e1 := HST.out
        rw [if_pos rfl] at e1
        simp only at e1
        have HE := hideIt e1
        clear e1 HST HF
        obtain ⟨q0, q1, q2, q3, q4, g0, g1, g2, g3, g4, gin⟩ := (H1.box 0).five
        obtain ⟨_, hA, had2, p0, p1, p2⟩ := (R5.call b1) k r HX.out
        cases hA
        have p3 : (ad.add (k * 3)).block < W1.heap.size := by rw [o10_block]; exact Nat.lt_of_lt_of_le had2 b1.size
        have H2 := (H1.wrote hgw (fun x h => by cases h) 1 (.int .u64 r.h)).wrote hgw (fun x h => by cases h) 2 (.int .u64 r.l)
        change Has wr [(ga, 38, acB r.id r.h r.l sa na)] _ at H2
        go_upto_region 17 with fail
        generalize World.setCell (World.setCell W1 _ _) _ _ = W2 at *
        have O2 := own_below O H2.below
        have b2 := hb.trans (H2.below.mono hb.size)
        obtain ⟨v', W', hr, O3, hg3, L3⟩ := app_accA W2 w5.heap.size _ _ _ O2 ⟨r.id, r.h, r.l, sa, na⟩ (by omega) b2.size
        obtain ⟨q0, q1, q2, q3, q4, -, -, -, -, -, gin⟩ := (H2.box 0).five
        clear p0 p1 p2 p3
        go_wp2_with (first
          | (at_builtin; refine wpList_run rfl _ _ _ rfl _ _ rfl rfl v' W' hr ?_)
          | fail)
        go_roundg (N - (k + 1))
        case measure => have := HG.out; omega
        case rel => exact ⟨k + 1, by omega, Nat.le_refl _, by go_num, by rw [HE.out, List.length_append]; exact O3, b2.trans L3⟩
      | false =>
        have e1 := HST.out
        rw [if_neg Bool.noConfusion] at e1
        simp only [List.append_nil] at e1
        have HE := hideIt e1
        clear e1 HST HF
        have O2 := own_below O H1.below
        go_wp2
        go_roundg (N - (k + 1))
        case measure => have := HG.out; omega
        case rel => exact ⟨k + 1, by omega, Nat.le_refl _, by go_num, by rw [HE.out]; exact O2, b1⟩
    · have e : k = N := by omega
      subst e
      rw [List.take_of_length_le (by omega)] at O
      have hs0 : (staysL was ys).length + (newsL σ φ P (stayT was ys) (ys.filter (newIn was))).length = k := by have := HLN.out; rw [List.length_append] at this; omega
      have HS0 := hideIt hs0
      clear hs0 HG
      go_upto_region 19 with fail
      go_loopg [11, 15] k (fun gk v i wq => ∃ q : Nat, q ≤ k ∧ k - q ≤ gk ∧ i = .int .i64 q ∧ wq.ownsRow w5.heap.size 38 5 v (staysL was ys ++ newsL σ φ P (stayT was ys) ((ys.take q).filter (newIn was))).length (accCs (staysL was ys ++ newsL σ φ P (stayT was ys) ((ys.take q).filter (newIn was)))) ∧ Below w5.heap.size w5 wq)
      case atStart => exact ⟨0, Nat.zero_le _, by omega, rfl, by simpa [newsL] using O, hb⟩
      case round =>
        rename World => wq
        clear O hb
        obtain ⟨q, hq, hgq, rfl, O, hb⟩ := hrel
        have HG := hideIt hgq
        clear hgq
        by_cases hltq : q < k
        · obtain ⟨r, hx⟩ : ∃ r, ys[q]? = some r := ⟨_, List.getElem?_eq_getElem (by omega)⟩
          have hlti : (q : Int) < (k : Int) := by omega
          obtain ⟨ad, hX, had, p0, p1, p2⟩ := (R5.call hb) q r hx
          subst hX
          have p3 : (ad.add (q * 3)).block < wq.heap.size := by rw [o10_block]; exact Nat.lt_of_lt_of_le had hb.size
          have cF1 := cF r.id
          have hnt := news_take (was := was) hx
          obtain ⟨⟨⟨ia, ha, la, sa, na⟩, f⟩, hf⟩ : ∃ V, findA was r.id.data.toList = V := ⟨_, rfl⟩
          rw [hf] at cF1
          have hnew : newIn was r = !f := by
            unfold newIn
            rw [show findA was (keyR r) = (⟨ia, ha, la, sa, na⟩, f) from hf]
          rw [hnew] at hnt
          simp only [Ac.val] at cF1
          have A6 := (A5.call hb).more hb.size
          have hsn := newsL_snoc (σ := σ) (φ := φ) (A := P) ((ys.take q).filter (newIn was)) r (stayT was ys)
          have hLl : (staysL was ys ++ newsL σ φ P (stayT was ys) ((ys.take q).filter (newIn was))).length ≤ k := by
            have h3 := HS0.out
            have h4 := ((List.take_sublist q ys).filter (newIn was)).length_le
            rw [newsL_len] at h3
            rw [List.length_append, newsL_len]
            omega
          obtain ⟨L, hL⟩ : ∃ L, staysL was ys ++ newsL σ φ P (stayT was ys) ((ys.take q).filter (newIn was)) = L := ⟨_, rfl⟩
          have hsl : stayT was ys ++ (newsL σ φ P (stayT was ys) ((ys.take q).filter (newIn was))).map Ac.slot = L.map Ac.slot := by
            rw [← hL, List.map_append]
            rfl
          rw [hsl] at hsn
          have hzr := (hyz r (List.mem_of_getElem? hx)).1
          rw [hL] at O hLl
          have HL := hideIt hL
          have HNT := hideIt hnt
          have HSN := hideIt hsn
          have HX := hideIt hx
          clear hL hnt hsn hx hf hnew hsl
          go_upto_region 22 with (first | (go_at_call 17; refine (cF1 _ A6).mono ?_; rintro e v1 ⟨rfl, j1⟩) | fail)
          have H1 := ((Has.start wq).call j1).past (.cells (acB ia ha la sa na) 38)
          change Code.wp _ _ _ _ (v1.alloc (.cells (acB ia ha la sa na) 38))
          generalize v1.alloc (.cells (acB ia ha la sa na) 38) = W1 at *
          have b1 := hb.trans (H1.below.mono hb.size)
          have O1 := own_below O H1.below
          clear j1 O p0 p1 p2 p3 cF1 A6
          cases f with
          | true =>
            have e1 := HNT.out
            simp only [Bool.not_true, Bool.false_eq_true, if_false, List.append_nil] at e1
            have HE := hideIt e1
            clear e1 HNT
            go_wp2
            go_roundg (k - (q + 1))
            case measure => have := HG.out; omega
            case rel => exact ⟨q + 1, by omega, Nat.le_refl _, by go_num, by rw [HE.out, HL.out]; exact O1, b1⟩
          | false =>
            have e1 := HNT.out
            simp only [Bool.not_false, if_true] at e1
            have e2 := HSN.out
            rw [← e1] at e2
            have hnl : staysL was ys ++ newsL σ φ P (stayT was ys) ((ys.take (q + 1)).filter (newIn was)) = L ++ [newA σ φ P (L.map Ac.slot) r] := by rw [e2, ← List.append_assoc, HL.out]
            unfold newA at hnl
            have cFi1 := cFi r.id hzr
            have cSa1 := cSa r.id hzr
            obtain ⟨X2, cx, hv, -, RX⟩ := accs_of_own O1
            have cFr1 := cFr X2 cx L (φ r.id) (hfw r.id) (by omega)
            obtain ⟨⟨m, fb⟩, hmb⟩ : ∃ V, freeF P (L.map Ac.slot) (φ r.id) = V := ⟨_, rfl⟩
            rw [hmb] at cFr1 hnl
            simp only at cFr1 hnl
            have HNL := hideIt hnl
            clear hnl e1 e2 HNT HSN hmb cFi cSa cFr cF
            obtain ⟨ri, hri⟩ : ∃ ri, σ r.id = ri := ⟨_, rfl⟩
            obtain ⟨pi, hpi⟩ : ∃ pi, φ r.id = pi := ⟨_, rfl⟩
            rw [hri] at cSa1
            rw [hpi] at cFi1 cFr1
            have HRI := hideIt hri
            clear hri hpi
            subst hv
            obtain ⟨_, hA, had2, p0, p1, p2⟩ := (R5.call b1) q r HX.out
            cases hA
            have p3 : (ad.add (q * 3)).block < W1.heap.size := by rw [o10_block]; exact Nat.lt_of_lt_of_le had2 b1.size
            go_upto_region 24 with (first
              | (go_at_call 45; refine (cFi1 _).mono ?_; rintro e v2 ⟨rfl, j2⟩; have RX2 := (RX.call j2).more j2.size)
              | (go_at_call 21; refine (cFr1 _ RX2).mono ?_; rintro e v3 ⟨rfl, j3⟩)
              | fail)
            have j23 := chain j2 j3
            have O3 := own_below (own_below O1 j23) (Below.refl v3.heap.size v3).drew
            have b3 := (b1.trans (j23.mono b1.size)).drew
            clear p0 p1 p2 p3 RX RX2 cFi1 cFr1 O1
            have hSS : ∀ u, Below w5.heap.size w5 u → u.cell? (ad.add (q * 3)) = some (.string r.id) ∧ u.cell? ⟨(ad.add (q * 3)).block, (ad.add (q * 3)).off + 1, none⟩ = some (.int .u64 r.h) ∧ u.cell? ⟨(ad.add (q * 3)).block, (ad.add (q * 3)).off + 2, none⟩ = some (.int .u64 r.l) ∧ (ad.add (q * 3)).block < u.heap.size := fun u hu => by
              obtain ⟨_, hA, had2, p0, p1, p2⟩ := (R5.call hu) q r HX.out
              cases hA
              exact ⟨p0, p1, p2, by rw [o10_block]; exact Nat.lt_of_lt_of_le had2 hu.size⟩
            refine wp_region_held_drew (S := fun u => u.cell? (ad.add (q * 3)) = some (.string r.id) ∧ u.cell? ⟨(ad.add (q * 3)).block, (ad.add (q * 3)).off + 1, none⟩ = some (.int .u64 r.h) ∧ u.cell? ⟨(ad.add (q * 3)).block, (ad.add (q * 3)).off + 2, none⟩ = some (.int .u64 r.l) ∧ (ad.add (q * 3)).block < u.heap.size) (by kernel_rfl) (hSS _ b3) (fun hHeld => ?_)
            generalize v3.drew = wd at *
            refine wpAnyH_take (i := 0) (v := ?_) rfl (by kernel_rfl) (by kernel_rfl) (by kernel_rfl) (fun _ _ _ h => h) (Or.inl ⟨by rfl, ?_⟩) (by assumption) ?_
            rotate_left 1
            · intro w hSw; (try dsimp only at hSw); go_simp; try with_reducible rfl
            try simp only [Act.put, List.getElem_toArray, List.getElem_cons_succ, List.getElem_cons_zero, List.setIfInBounds_toArray, List.set_cons_zero, List.set_cons_succ]
            refine wpAnyH_take (i := 1) (v := ?_) rfl (by kernel_rfl) (by kernel_rfl) (by kernel_rfl) (fun _ _ _ h => h) (Or.inl ⟨by rfl, ?_⟩) (by assumption) ?_
            rotate_left 1
            · intro w hSw; (try dsimp only at hSw); go_simp; try with_reducible rfl
            try simp only [Act.put, List.getElem_toArray, List.getElem_cons_succ, List.getElem_cons_zero, List.setIfInBounds_toArray, List.set_cons_zero, List.set_cons_succ]
            refine wpAnyH_take (i := 2) (v := ?_) rfl (by kernel_rfl) (by kernel_rfl) (by kernel_rfl) (fun _ _ _ h => h) (Or.inl ⟨by rfl, ?_⟩) (by assumption) ?_
            rotate_left 1
            · intro w hSw; (try dsimp only at hSw); go_simp; try with_reducible rfl
            try simp only [Act.put, List.getElem_toArray, List.getElem_cons_succ, List.getElem_cons_zero, List.setIfInBounds_toArray, List.set_cons_zero, List.set_cons_succ]
            refine wpAnyH_take (i := 3) (v := ?_) rfl (by kernel_rfl) (by kernel_rfl) (by kernel_rfl) (fun _ _ _ h => h) (Or.inl ⟨by rfl, ?_⟩) (by assumption) ?_
            rotate_left 1
            · intro w hSw; (try dsimp only at hSw); go_simp; try with_reducible rfl
            try simp only [Act.put, List.getElem_toArray, List.getElem_cons_succ, List.getElem_cons_zero, List.setIfInBounds_toArray, List.set_cons_zero, List.set_cons_succ]
            refine wpAnyH_take (i := 4) (v := ?_) rfl (by kernel_rfl) (by kernel_rfl) (by kernel_rfl) (fun _ _ _ h => h) (Or.inl ⟨by rfl, ?_⟩) (by assumption) ?_
            rotate_left 1
            · intro w hSw; (try dsimp only at hSw); go_simp; try with_reducible rfl
            try simp only [Act.put, List.getElem_toArray, List.getElem_cons_succ, List.getElem_cons_zero, List.setIfInBounds_toArray, List.set_cons_zero, List.set_cons_succ]
            refine wpAnyH_take (i := 5) (v := ?_) rfl (by kernel_rfl) (by kernel_rfl) (by kernel_rfl) (fun _ _ _ h => h) (Or.inl ⟨by rfl, ?_⟩) (by assumption) ?_
            rotate_left 1
            · intro w hSw; (try dsimp only at hSw); go_simp; try with_reducible rfl
            try simp only [Act.put, List.getElem_toArray, List.getElem_cons_succ, List.getElem_cons_zero, List.setIfInBounds_toArray, List.set_cons_zero, List.set_cons_succ]
            refine wpAnyH_take (i := 6) (v := ?_) rfl (by kernel_rfl) (by kernel_rfl) (by kernel_rfl) (fun _ _ _ h => h) (Or.inl ⟨by rfl, ?_⟩) (by assumption) ?_
            rotate_left 1
            · intro w hSw; (try dsimp only at hSw); go_simp; try with_reducible rfl
            try simp only [Act.put, List.getElem_toArray, List.getElem_cons_succ, List.getElem_cons_zero, List.setIfInBounds_toArray, List.set_cons_zero, List.set_cons_succ]
            refine wpAnyH_take (i := 7) (v := ?_) rfl (by kernel_rfl) (by kernel_rfl) (by kernel_rfl) (fun _ _ _ h => h) (Or.inl ⟨by rfl, ?_⟩) (by assumption) ?_
            rotate_left 1
            · intro w hSw; (try dsimp only at hSw); go_simp; try with_reducible rfl
            try simp only [Act.put, List.getElem_toArray, List.getElem_cons_succ, List.getElem_cons_zero, List.setIfInBounds_toArray, List.set_cons_zero, List.set_cons_succ]
            refine wpAnyH_take (i := 8) (v := ?_) rfl (by kernel_rfl) (by kernel_rfl) (by kernel_rfl) (fun _ _ _ h => h) (Or.inl ⟨by rfl, ?_⟩) (by assumption) ?_
            rotate_left 1
            · intro w hSw; (try dsimp only at hSw); go_simp; try with_reducible rfl
            try simp only [Act.put, List.getElem_toArray, List.getElem_cons_succ, List.getElem_cons_zero, List.setIfInBounds_toArray, List.set_cons_zero, List.set_cons_succ]
            refine wpAnyH_take (i := 9) (v := ?_) rfl (by kernel_rfl) (by kernel_rfl) (by kernel_rfl) (fun _ _ _ h => h) (Or.inl ⟨by rfl, ?_⟩) (by assumption) ?_
            rotate_left 1
            · intro w hSw; (try dsimp only at hSw); go_simp; try with_reducible rfl
            try simp only [Act.put, List.getElem_toArray, List.getElem_cons_succ, List.getElem_cons_zero, List.setIfInBounds_toArray, List.set_cons_zero, List.set_cons_succ]
            refine wpAnyH_take (i := 10) (v := ?_) rfl (by kernel_rfl) (by kernel_rfl) (by kernel_rfl) (fun _ _ _ h => h) (Or.inl ⟨by rfl, ?_⟩) (by assumption) ?_
            rotate_left 1
            · intro w hSw; (try dsimp only at hSw); go_simp; try with_reducible rfl
            try simp only [Act.put, List.getElem_toArray, List.getElem_cons_succ, List.getElem_cons_zero, List.setIfInBounds_toArray, List.set_cons_zero, List.set_cons_succ]
            refine wpAnyH_take (i := 11) (v := ?_) rfl (by kernel_rfl) (by kernel_rfl) (by kernel_rfl) (fun _ _ _ h => h) (Or.inl ⟨by rfl, ?_⟩) (by assumption) ?_
            rotate_left 1
            · intro w hSw; (try dsimp only at hSw); go_simp; try with_reducible rfl
            try simp only [Act.put, List.getElem_toArray, List.getElem_cons_succ, List.getElem_cons_zero, List.setIfInBounds_toArray, List.set_cons_zero, List.set_cons_succ]
            refine wpAnyH_take (i := 12) (v := ?_) rfl (by kernel_rfl) (by kernel_rfl) (by kernel_rfl) (fun _ _ _ h => h) (Or.inl ⟨by rfl, ?_⟩) (by assumption) ?_
            rotate_left 1
            · intro w hSw; (try dsimp only at hSw); go_simp; try with_reducible rfl
            try simp only [Act.put, List.getElem_toArray, List.getElem_cons_succ, List.getElem_cons_zero, List.setIfInBounds_toArray, List.set_cons_zero, List.set_cons_succ]
            refine wpAnyH_take (i := 13) (v := ?_) rfl (by kernel_rfl) (by kernel_rfl) (by kernel_rfl) (fun _ _ _ h => h) (Or.inl ⟨by rfl, ?_⟩) (by assumption) ?_
            rotate_left 1
            · intro w hSw; (try dsimp only at hSw); go_simp; try with_reducible rfl
            try simp only [Act.put, List.getElem_toArray, List.getElem_cons_succ, List.getElem_cons_zero, List.setIfInBounds_toArray, List.set_cons_zero, List.set_cons_succ]
            refine wpAnyH_take (i := 14) (v := ?_) rfl (by kernel_rfl) (by kernel_rfl) (by kernel_rfl) (fun _ _ _ h => h) (Or.inl ⟨by rfl, ?_⟩) (by assumption) ?_
            rotate_left 1
            · intro w hSw; (try dsimp only at hSw); go_simp; try with_reducible rfl
            try simp only [Act.put, List.getElem_toArray, List.getElem_cons_succ, List.getElem_cons_zero, List.setIfInBounds_toArray, List.set_cons_zero, List.set_cons_succ]
            refine wpAnyH_take (i := 15) (v := ?_) rfl (by kernel_rfl) (by kernel_rfl) (by kernel_rfl) (fun _ _ _ h => h) (Or.inl ⟨by rfl, ?_⟩) (by assumption) ?_
            rotate_left 1
            · intro w hSw; (try dsimp only at hSw); go_simp; try with_reducible rfl
            try simp only [Act.put, List.getElem_toArray, List.getElem_cons_succ, List.getElem_cons_zero, List.setIfInBounds_toArray, List.set_cons_zero, List.set_cons_succ]
            refine wpAnyH_take (i := 16) (v := ?_) rfl (by kernel_rfl) (by kernel_rfl) (by kernel_rfl) (fun _ _ _ h => h) (Or.inl ⟨by rfl, ?_⟩) (by assumption) ?_
            rotate_left 1
            · intro w hSw; (try dsimp only at hSw); go_simp; try with_reducible rfl
            try simp only [Act.put, List.getElem_toArray, List.getElem_cons_succ, List.getElem_cons_zero, List.setIfInBounds_toArray, List.set_cons_zero, List.set_cons_succ]
            refine wpAnyH_take (i := 18) (v := ?_) rfl (by kernel_rfl) (by kernel_rfl) (by kernel_rfl) (fun _ _ _ h => h) (Or.inl ⟨by rfl, ?_⟩) (by assumption) ?_
            rotate_left 1
            · intro w hSw; (try dsimp only at hSw); go_simp; try with_reducible rfl
            try simp only [Act.put, List.getElem_toArray, List.getElem_cons_succ, List.getElem_cons_zero, List.setIfInBounds_toArray, List.set_cons_zero, List.set_cons_succ]
            refine wpAnyH_ready (rs := [17]) (by kernel_rfl) (by simp) (AllReadyH.cons rfl (fun K hK => ?_) AllReadyH.nil)
            go_simp
            go_at_call 46
            refine (cSa1 _).mono ?_
            rintro e v4 ⟨rfl, j4⟩
            have b4 := b3.trans (j4.mono b3.size)
            have O4 := own_below O3 j4
            try simp only []
            refine hK.out _ _ (hSS _ b4) (fun hHeld => ?_)
            clear hK K
            try simp only [Act.put, List.getElem_toArray, List.getElem_cons_succ, List.getElem_cons_zero, List.setIfInBounds_toArray, List.set_cons_zero, List.set_cons_succ]
            refine wpAnyH_take (i := 19) (v := ?_) rfl (by kernel_rfl) (by kernel_rfl) (by kernel_rfl) (fun _ _ _ h => h) (Or.inl ⟨by rfl, ?_⟩) (by assumption) ?_
            rotate_left 1
            · intro w hSw; (try dsimp only at hSw); go_simp; try with_reducible rfl
            try simp only [Act.put, List.getElem_toArray, List.getElem_cons_succ, List.getElem_cons_zero, List.setIfInBounds_toArray, List.set_cons_zero, List.set_cons_succ]
            have b5 := chainA b4 (.cells (acB r.id r.h r.l ri m) 38)
            obtain ⟨v', W', hr, O5, hg5, L5⟩ := app_accA v4 w5.heap.size _ _ _ O4 ⟨r.id, r.h, r.l, ri, m⟩ (by omega) b4.size
            refine wpAnyH_ready (rs := [20]) (by kernel_rfl) (by simp) (AllReadyH.cons rfl (fun K hK => ?_) AllReadyH.nil)
            go_simp
            refine hK.out _ _ (hSS _ b5) (fun hHeld => ?_)
            clear hK K
            try simp only [Act.put, List.getElem_toArray, List.getElem_cons_succ, List.getElem_cons_zero, List.setIfInBounds_toArray, List.set_cons_zero, List.set_cons_succ]
            refine wpAnyH_ready (rs := [21]) (by kernel_rfl) (by simp) (AllReadyH.cons rfl (fun K hK => ?_) AllReadyH.nil)
            refine step_run rfl _ _ _ rfl _ _ rfl rfl v' W' hr ?_
            have b6 := b4.trans L5
            refine hK.out _ _ (hSS _ b6) (fun hHeld => ?_)
            clear hK K
            try simp only [Act.put, List.getElem_toArray, List.getElem_cons_succ, List.getElem_cons_zero, List.setIfInBounds_toArray, List.set_cons_zero, List.set_cons_succ]
            refine wpAnyH_take (i := 22) (v := ?_) rfl (by kernel_rfl) (by kernel_rfl) (by kernel_rfl) (fun _ _ _ h => h) (Or.inl ⟨by rfl, ?_⟩) (by assumption) ?_
            rotate_left 1
            · intro w hSw; (try dsimp only at hSw); go_simp; try with_reducible rfl
            try simp only [Act.put, List.getElem_toArray, List.getElem_cons_succ, List.getElem_cons_zero, List.setIfInBounds_toArray, List.set_cons_zero, List.set_cons_succ]
            refine wpAnyH_done (by kernel_rfl) ?_ _
            go_wp2
            go_roundg (k - (q + 1))
            case measure => have := HG.out; omega
            case rel => exact ⟨q + 1, by omega, Nat.le_refl _, by go_num, by rw [HNL.out, HRI.out, List.length_append]; exact O5, b6⟩
        · have e : q = k := by omega
          subst e
          rw [List.take_of_length_le (by omega)] at O
          obtain ⟨X2, cx, hv, -, RX⟩ := accs_of_own O
          have hl0 : (staysL was ys ++ newsL σ φ P (stayT was ys) (ys.filter (newIn was))).length = q := by rw [List.length_append]; exact HS0.out
          have cSo1 := cSo X2 cx _ (by omega) wq RX
          rw [hl0] at hv cSo1
          subst hv
          clear cF cFr cFi cSa cSo O
          go_wp2_with (first | (go_at_call 47; refine cSo1.mono ?_; rintro e w7 ⟨v7, rfl, zs, hz1, O7, j7, hz2⟩) | fail)
          refine bodyPost_ret (results_tmp2 rfl _ _ _) rfl ?_
          have hz := HPL.out zs hz2
          subst hz
          obtain ⟨X7, c7, rfl, -, R7⟩ := accs_of_own O7
          exact ⟨chain (chain j15 hb) j7, X7, c7, by rw [place_len, hyl]; rfl, R7⟩
end Go.Proofs.YtngofpdpangajaaDoor
