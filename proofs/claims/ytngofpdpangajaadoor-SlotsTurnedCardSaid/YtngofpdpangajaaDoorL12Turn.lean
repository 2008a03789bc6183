/-
  The law SlotsTurned: rows, and accounts, in another order come to the same. Conditions: none.
-/
import Derived.Test.YtngofpdpangajaaDoorU12Awake
import Derived.Test.YtngofpdpangajaaDoorM12Pln
import Derived.Test.YtngofpdpangajaaDoorM12Plc
import Derived.Test.YtngofpdpangajaaDoorS10Same
import Derived.Test.YtngofpdpangajaaDoorW7Laid
import Derived.ChangeMaps
namespace Go.Proofs.YtngofpdpangajaaDoor
set_option linter.unusedVariables false
set_option linter.unusedSimpArgs false
set_option maxRecDepth 10000
open Go.ChangeShapes Go.WideShapes Go.ChangeAt Go.RowKit Go.Sort

theorem findA_perm {was wes : List Ac} (hd : (was.map keyA).Nodup) (hp : was.Perm wes) (k : List UInt8) : findA wes k = findA was k := by
  have hd2 : (wes.map keyA).Nodup := (hp.map keyA).nodup_iff.1 hd
  by_cases h : k ∈ was.map keyA
  · obtain ⟨a, ha, rfl⟩ := List.mem_map.1 h
    have e1 := firstA_own (f := keyA) hd ha
    have e2 := firstA_own (f := keyA) hd2 (hp.mem_iff.1 ha)
    exact e2.trans e1.symm
  · have h2 : k ∉ wes.map keyA := fun hk => h ((hp.map keyA).mem_iff.2 hk)
    have e1 : findA was k = (Ac.zero, false) := firstA_no (by show (findA was k).2 = false; rw [find_has]; exact decide_eq_false h)
    have e2 : findA wes k = (Ac.zero, false) := firstA_no (by show (findA wes k).2 = false; rw [find_has]; exact decide_eq_false h2)
    rw [e1, e2]
theorem mayP_perm {A : Int} {was wes : List Ac} (hp : was.Perm wes) : MayP A was ↔ MayP A wes := by
  unfold MayP
  rw [(hp.map keyA).nodup_iff, (hp.map Ac.slot).nodup_iff]
  constructor
  · exact fun k => ⟨fun a ha => k.1 a (hp.mem_iff.2 ha), k.2⟩
  · exact fun k => ⟨fun a ha => k.1 a (hp.mem_iff.1 ha), k.2⟩
theorem placeE_perm {seed : ByteArray} {h : Int} {was wes : List Ac} {rows wor : List Rw} (hp : was.Perm wes) (hq : rows.Perm wor) : placeE seed h wes wor = placeE seed h was rows := by
  have e1 : mayA h wes = mayA h was := by
    unfold mayA
    rw [decide_eq_decide.2 (mayP_perm hp)]
  have e2 : wrongE seed h wes = wrongE seed h was := by unfold wrongE; rw [e1]
  unfold placeE
  rw [e2, hq.length_eq]
  simp only [rowsP_perm hq]
theorem placeL_perm {σ : ByteArray → ByteArray} {φ : ByteArray → Int} {A : Int} {was wes : List Ac} (hd : (was.map keyA).Nodup) (hp : was.Perm wes) (ys : List Rw) : placeL σ φ A wes ys = placeL σ φ A was ys := by
  have e1 : newIn wes = newIn was := by
    funext r
    unfold newIn
    rw [findA_perm hd hp]
  have e2 : stayA wes = stayA was := by
    funext r
    unfold stayA
    rw [findA_perm hd hp]
  have e3 : ∀ (ys : List Rw) ns, weave wes ys ns = weave was ys ns := by
    intro ys
    induction ys with
    | nil => intro ns; rfl
    | cons r rs ih =>
      intro ns
      unfold weave
      rw [e2]
      cases stayA was r <;> simp only [ih]
  unfold placeL stayT staysL
  rw [e1, e2, e3]
/-- append of one account. -/
theorem app_acc (w : World) (base : Nat) (v : Value) (n : Nat) (ys : List Ac) (hown : w.ownsRow base 38 5 v n (accCs ys)) (x : Ac) (hm : n ≤ 100000000) (hb : base ≤ w.heap.size) :
    ∃ v' w', (∀ ty, (Builtin.append_ #[22, 22] ty #[v, .slice (some ⟨w.heap.size, 0, none⟩) 1 1]).run Tryd.prog (w.alloc (.cells (acB x.id x.h x.l x.salt x.slot) 38)) = .ok v' w') ∧
      w'.ownsRow base 38 5 v' (n + 1) (accCs (ys ++ [x])) ∧ (w.alloc (.cells (acB x.id x.h x.l x.salt x.slot) 38)).grownBy w' v.ownBlock ∧ (v'.ownBlock = v.ownBlock ∨ v'.ownBlock = some (w.heap.size + 1)) := by
  obtain ⟨i0, hi, hz0, hz1, hz2⟩ := info_parts infoS_acc
  obtain ⟨v', w', hr, h2, h3, -, h4⟩ := run_append_own_at (P := Tryd.prog) (w.alloc (.cells (acB x.id x.h x.l x.salt x.slot) 38)) base 22 0 38 i0 _ 5 56 Tryd.underlying22 hi hz0 hz1 hz2 rfl (by decide) v n (accCs ys) (hown.alloc _) ⟨w.heap.size, 0, none⟩ 1 1 (accCs [x]) rfl
    (cells_new4 w 38 (accCs [x])) (accCs_one [x]) (by unfold maxLen; omega) (by omega) (by simp; omega)
  rw [← accCs_app] at h2
  rw [World.size_alloc] at h4
  exact ⟨v', w', fun ty => hr, h2, h3, h4⟩
set_option maxHeartbeats 2000000 in
theorem turn12_long (seed : ByteArray) (h : Int) (A B : Option Addr) (c d : Nat) (was : List Ac) (rows : List Rw) (m1 : was.length ≤ 9223372036854775807) (m2 : rows.length ≤ 9223372036854775807) (hl : 64 < seed.size ∨ longA was = true ∨ longR rows = true) (w : World) (hR : AcRow w w.heap.size A was) (hS : RwRow w w.heap.size B rows) (hTb : Tab w) (hT : TabU w) :
    Calls Tryd.prog 7 #[.string seed, .int .i64 h, .slice A was.length c, .slice B rows.length d] w (Tells (.bool true) w.heap.size w) := by
  have cA := fun u hu hv => awake12_any u hu hv
  have cX := fun u hu => longA_any A c was m1 u hu
  have cY := fun u hu => longR_any B d rows m2 u hu
  by_cases h1 : 64 < seed.size
  · have h1i : (64 : Int) < (seed.size : Int) := by omega
    go_enter Tryd.func7, Tryd.ntmps7
    go_wp2_with (first | (go_at_call 29; refine (cA _ hTb hT).mono ?_; rintro e w1 ⟨rfl, j1⟩) | fail)
    go_ret
    exact ⟨rfl, j1⟩
  · have h1i : ¬ ((64 : Int) < (seed.size : Int)) := by omega
    cases h2 : longA was with
    | true =>
      rw [h2] at cX
      go_enter Tryd.func7, Tryd.ntmps7
      go_wp2_with (first
        | (go_at_call 29; refine (cA _ hTb hT).mono ?_; rintro e w1 ⟨rfl, j1⟩)
        | (go_at_call 10; refine (cX _ ((hR.call j1).more j1.size)).mono ?_; rintro e w2 ⟨rfl, rfl⟩)
        | fail)
      go_ret
      exact ⟨rfl, j1⟩
    | false =>
      rw [h2] at cX hl
      have h3 : longR rows = true := by
        rcases hl with h | h | h
        · exact absurd h h1
        · cases h
        · exact h
      rw [h3] at cY
      go_enter Tryd.func7, Tryd.ntmps7
      go_wp2_with (first
        | (go_at_call 29; refine (cA _ hTb hT).mono ?_; rintro e w1 ⟨rfl, j1⟩)
        | (go_at_call 10; refine (cX _ ((hR.call j1).more j1.size)).mono ?_; rintro e w2 ⟨rfl, rfl⟩)
        | (go_at_call 11; refine (cY _ ((hS.call j1).more j1.size)).mono ?_; rintro e w3 ⟨rfl, rfl⟩)
        | fail)
      go_ret
      exact ⟨rfl, j1⟩
theorem rev_take {α : Type} {l : List α} {k : Nat} {x : α} (hx : l[k]? = some x) : (l.drop k).reverse = (l.drop (k + 1)).reverse ++ [x] := by
  have h := List.getElem?_eq_some_iff.1 hx
  rw [List.drop_eq_getElem_cons h.1, List.reverse_cons, h.2]
set_option maxRecDepth 100000 in
set_option maxHeartbeats 8000000 in
theorem turn12_short (seed : ByteArray) (h : Int) (A B : Option Addr) (c d : Nat) (was : List Ac) (rows : List Rw) (h1 : seed.size ≤ 64) (l1 : longA was = false) (l2 : longR rows = false) (m1 : was.length ≤ 200) (m2 : rows.length ≤ 200) (z1 : ∀ x ∈ was, x.id.size ≤ 200 ∧ x.salt.size ≤ 200) (z2 : ∀ x ∈ rows, x.id.size ≤ 200)
    (o1 : AllAc was) (o2 : AllRw rows) (w : World) (hR : AcRow w w.heap.size A was) (hS : RwRow w w.heap.size B rows) (hTb : Tab w) (hT : TabU w) :
    Calls Tryd.prog 7 #[.string seed, .int .i64 h, .slice A was.length c, .slice B rows.length d] w (Tells (.bool true) w.heap.size w) := by
  have cA := fun u hu hv => awake12_any u hu hv
  have cX := fun u hu => longA_any A c was (by omega) u hu
  have cY := fun u hu => longR_any B d rows (by omega) u hu
  rw [l1] at cX
  rw [l2] at cY
  have h1i : ¬ ((64 : Int) < (seed.size : Int)) := by omega
  have hz6 : ∀ x ∈ was, x.id.size ≤ 1000000 ∧ x.salt.size ≤ 1000000 := fun x k => by have := z1 x k; omega
  have hz7 : ∀ x ∈ was.reverse, x.id.size ≤ 1000000 ∧ x.salt.size ≤ 1000000 := fun x k => hz6 x (List.mem_reverse.1 k)
  obtain ⟨ys, hys⟩ := sd_exists rows
  obtain ⟨zs, hzs⟩ := sd_exists rows.reverse
  obtain ⟨E, hEE⟩ : ∃ E, placeE seed h was rows = E := ⟨_, rfl⟩
  have hEE2 : placeE seed h was.reverse rows.reverse = E := by rw [← hEE]; exact placeE_perm (List.reverse_perm was).symm (List.reverse_perm rows).symm
  have cP := fun u hu hv hx hy => sPlace_any seed (by omega) h A c was (by omega) o1 hz6 B d rows ys hys (by omega) (fun r hr => ⟨by have := z2 r hr; omega, o2 r hr⟩) E hEE u hu hv hx hy
  have cP2 := fun A2 c2 B2 d2 u hu hv hx hy => sPlace_any seed (by omega) h A2 c2 was.reverse (by simp; omega) (fun x k => o1 x (List.mem_reverse.1 k)) hz7 B2 d2 rows.reverse zs hzs (by simp; omega) (fun r hr => ⟨by have := z2 r (List.mem_reverse.1 hr); omega, o2 r (List.mem_reverse.1 hr)⟩) E hEE2 u hu hv hx hy
  rw [List.length_reverse, List.length_reverse] at cP2
  have hsame : E = 0 → placeL (saltB seed) (fun i => firstN seed i h) (pw h.toNat) was.reverse zs = placeL (saltB seed) (fun i => firstN seed i h) (pw h.toNat) was ys ∧ ys.length = rows.length := fun e0 => by
    rw [e0] at hEE
    unfold placeE at hEE
    by_cases k0 : wrongE seed h was ≠ 0
    · rw [if_pos k0] at hEE; exact absurd hEE k0
    · rw [if_neg k0] at hEE
      obtain ⟨-, -, hma⟩ := wrong_no (Classical.byContradiction k0)
      obtain ⟨n, rfl, hn, hMP⟩ := mayA_P hma
      by_cases k1 : RowsP rows
      · have hzy : zs = ys := (Sd.turned k1.2 (List.reverse_perm rows).symm hzs).same hys
        rw [hzy]
        exact ⟨placeL_perm hMP.2.1 (List.reverse_perm was).symm ys, hys.perm.length_eq.symm⟩
      · rw [if_neg k1] at hEE; cases hEE
  obtain ⟨L, hL⟩ : ∃ L, placeL (saltB seed) (fun i => firstN seed i h) (pw h.toNat) was ys = L := ⟨_, rfl⟩
  have hLl : L.length = ys.length := by rw [← hL, place_len]
  rw [hL] at cP hsame
  generalize placeL (saltB seed) (fun i => firstN seed i h) (pw h.toNat) was.reverse zs = L2 at *
  have cQ := fun X Y l u (hl : l.length ≤ 1000000000) hu hv => rsameA_any X Y l.length l.length l hl u hu hv
  have heq : (E == E) = true := by simp
  have HSM := hideIt hsame
  clear hEE hEE2 hys hzs hL hsame
  obtain ⟨N, hN⟩ : ∃ N, rows.length = N := ⟨_, rfl⟩
  obtain ⟨M, hM⟩ : ∃ M, was.length = M := ⟨_, rfl⟩
  rw [hN] at cP cP2 cY ⊢
  rw [hM] at cX cP cP2 ⊢
  have hwM : IntKind.i64.wrap ((M : Int) - 1) = (M : Int) - 1 := by rw [IntKind.wrap_i64]; omega
  have hwN : IntKind.i64.wrap ((N : Int) - 1) = (N : Int) - 1 := by rw [IntKind.wrap_i64]; omega
  go_enter Tryd.func7, Tryd.ntmps7
  go_upto_region 8 with (first
    | (go_at_call 29; refine (cA _ hTb hT).mono ?_; rintro e w1 ⟨rfl, j1⟩)
    | (go_at_call 10; refine (cX _ ((hR.call j1).more j1.size)).mono ?_; rintro e w2 ⟨rfl, rfl⟩)
    | (go_at_call 11; refine (cY _ ((hS.call j1).more j1.size)).mono ?_; rintro e w3 ⟨rfl, rfl⟩)
    | fail)
  have R1 := (hR.call j1).more j1.size
  have S1 := (hS.call j1).more j1.size
  have T1 := hT.call j1
  have K1 := hTb.call j1
  go_loopg [9, 11] M (fun gk v i wr => ∃ k : Nat, k ≤ M ∧ k ≤ gk ∧ i = .int .i64 ((k : Int) - 1) ∧ wr.ownsRow w1.heap.size 38 5 v (M - k) (accCs (was.drop k).reverse) ∧ Below w1.heap.size w1 wr)
  case atStart => exact ⟨M, Nat.le_refl _, Nat.le_refl _, rfl, by rw [Nat.sub_self, List.drop_of_length_le (by omega)]; exact World.ownsRow_nil _ _ _ _, Below.refl _ _⟩
  case round =>
    obtain ⟨k, hk, hgk, rfl, O, hb⟩ := hrel
    have HG := hideIt hgk
    clear hgk
    by_cases hlt : 0 < k
    · obtain ⟨I, hI⟩ : ∃ I, k - 1 = I := ⟨_, rfl⟩
      have eI : (k : Int) - 1 = (I : Int) := by omega
      rw [eI]
      obtain ⟨x, hx⟩ : ∃ x, was[I]? = some x := ⟨_, List.getElem?_eq_getElem (by omega)⟩
      obtain ⟨ad, hA, had, p0, p1, p2, p3, p4⟩ := (R1.call hb) I x hx
      subst hA
      have hI0 : ¬ ((I : Int) < 0) := by omega
      have hIM : (I : Int) < (M : Int) := by omega
      have hIM2 : I < M := by omega
      have p5 : (ad.add (I * 5)).block < wr.heap.size := by rw [o10_block]; exact Nat.lt_of_lt_of_le had hb.size
      have w2 : IntKind.i64.wrap ((I : Int) - 1) = (I : Int) - 1 := by rw [IntKind.wrap_i64]; omega
      have hrv := rev_take hx
      rw [show I + 1 = k by omega] at hrv
      have hbs := hb.size
      obtain ⟨v', W', hr, O2, hg2, -⟩ := app_acc wr w1.heap.size u9 _ _ O x (by omega) hbs
      have L2 := (chainA hb (.cells (acB x.id x.h x.l x.salt x.slot) 38)).grown hg2 (by simp; omega) (fun j hj => (O.lt j hj).1)
      have HRV := hideIt hrv
      have HI := hideIt (show I + 1 = k by omega)
      clear hrv hx hI eI hlt
      go_wp2_with (first
        | (at_builtin; refine wpList_run rfl _ _ _ rfl _ _ rfl rfl v' W' hr ?_)
        | fail)
      go_roundg I
      case measure => have := HG.out; have := HI.out; omega
      case rel => exact ⟨I, by omega, Nat.le_refl _, rfl, by rw [HRV.out, show M - I = M - k + 1 by have := HI.out; omega]; exact O2, L2⟩
    · have e : k = 0 := by omega
      subst e
      rw [List.drop_zero, Nat.sub_zero] at O
      have hm1 : ((0 : Nat) : Int) - 1 < 0 := by omega
      go_upto_region 12 with fail
      have R2 := (R1.call hb).more hb.size
      have S2 := (S1.call hb).more hb.size
      have T2 := T1.call hb
      have K2 := K1.call hb
      have J := chain j1 hb
      clear R1 S1 T1 K1 HG
      go_loopg [10, 12] N (fun gk v i wq => ∃ k : Nat, k ≤ N ∧ k ≤ gk ∧ i = .int .i64 ((k : Int) - 1) ∧ wq.ownsRow wr.heap.size 59 3 v (N - k) (rowCs (rows.drop k).reverse) ∧ Below wr.heap.size wr wq)
      case atStart => exact ⟨N, Nat.le_refl _, Nat.le_refl _, rfl, by rw [Nat.sub_self, List.drop_of_length_le (by omega)]; exact World.ownsRow_nil _ _ _ _, Below.refl _ _⟩
      case round =>
        rename World => wq
        obtain ⟨k, hk, hgk, rfl, Oq, hb2⟩ := hrel
        have HG := hideIt hgk
        clear hgk
        by_cases hlt : 0 < k
        · obtain ⟨I, hI⟩ : ∃ I, k - 1 = I := ⟨_, rfl⟩
          have eI : (k : Int) - 1 = (I : Int) := by omega
          rw [eI]
          obtain ⟨x, hx⟩ : ∃ x, rows[I]? = some x := ⟨_, List.getElem?_eq_getElem (by omega)⟩
          obtain ⟨ad, hA, had, p0, p1, p2⟩ := (S2.call hb2) I x hx
          subst hA
          have hI0 : ¬ ((I : Int) < 0) := by omega
          have hIN : (I : Int) < (N : Int) := by omega
          have hIN2 : I < N := by omega
          have p5 : (ad.add (I * 3)).block < wq.heap.size := by rw [o10_block]; exact Nat.lt_of_lt_of_le had hb2.size
          have w2 : IntKind.i64.wrap ((I : Int) - 1) = (I : Int) - 1 := by rw [IntKind.wrap_i64]; omega
          have hrv := rev_take hx
          rw [show I + 1 = k by omega] at hrv
          have hbs := hb2.size
          have hcr := cells_new4 wq 59 (rowCs [x])
          obtain ⟨v', W', hr, O2, hg2⟩ := app_rows (wq.alloc (.cells (rowCs [x]).toArray 59)) wr.heap.size u10 _ _ (Oq.alloc _) ⟨wq.heap.size, 0, none⟩ 1 1 [x] rfl hcr (by omega) (by simp; omega) (N := N - k + 1) rfl
          have L2 := (chainA hb2 (.cells (rowCs [x]).toArray 59)).grown hg2 (by simp; omega) (fun j hj => (Oq.lt j hj).1)
          have HRV := hideIt hrv
          have HI := hideIt (show I + 1 = k by omega)
          clear hrv hx hI eI hlt hcr
          go_wp2_with (first
            | (at_builtin; refine wpList_run rfl _ _ _ rfl _ _ rfl rfl v' W' hr ?_)
            | fail)
          go_roundg I
          case measure => have := HG.out; have := HI.out; omega
          case rel => exact ⟨I, by omega, Nat.le_refl _, rfl, by rw [HRV.out, show N - I = N - k + 1 by have := HI.out; omega]; exact O2, L2⟩
        · have e : k = 0 := by omega
          subst e
          rw [List.drop_zero, Nat.sub_zero] at Oq
          have O3 := own_below O hb2
          rw [← hM, show was.length = was.reverse.length from List.length_reverse.symm] at O3
          obtain ⟨X, cx, rfl, -, RX⟩ := accs_of_own O3
          rw [List.length_reverse, hM]
          rw [← hN, show rows.length = rows.reverse.length from List.length_reverse.symm] at Oq
          obtain ⟨Y, cy, rfl, -, RY⟩ := rows_of_own Oq
          rw [List.length_reverse, hN]
          have R3 := (R2.call hb2).more hb2.size
          have S3 := (S2.call hb2).more hb2.size
          have T3 := T2.call hb2
          have K3 := K2.call hb2
          have J3 := chain J hb2
          clear O O3 Oq R2 S2 T2 K2 J HG cA cX cY
          go_upto_region 16 with (first
            | (go_at_call 12; refine (cP _ R3 S3 T3 K3).mono ?_; rintro e w4 ⟨j4, v4, rfl, f4, g4⟩)
            | fail)
          have RX4 := (RX.call j4).more j4.size
          have RY4 := (RY.call j4).more j4.size
          go_upto_region 17 with (first
            | (go_at_call 12; refine (cP2 _ _ _ _ _ RX4 RY4 (T3.call j4) (K3.call j4)).mono ?_; rintro e w5 ⟨j5, v5, rfl, f5, g5⟩)
            | fail)
          have J5 := chain J3 (chain j4 j5)
          by_cases hE0 : E = 0
          · obtain ⟨q1, q2⟩ := HSM.out hE0
            obtain ⟨a4, rfl, -, X4⟩ := g4 hE0
            obtain ⟨a5, rfl, -, X5⟩ := g5 hE0
            rw [q1] at X5
            have hLN : L.length = N := by rw [hLl, q2, hN]
            have c1 := cQ (some ⟨a4, 0, none⟩) (some ⟨a5, 0, none⟩) L w5 (by omega) ((X4.row.call j5).more j5.size) X5.row
            rw [hLN] at c1
            go_wp2_with (first
              | (go_at_call 14; refine c1.mono ?_; rintro e w6 ⟨rfl, j6⟩)
              | fail)
            go_ret
            exact ⟨rfl, chain J5 j6⟩
          · obtain rfl := f4 hE0
            obtain rfl := f5 hE0
            have c1 := cQ none none [] w5 (by simp) (AcRow.nil _ _ _) (AcRow.nil _ _ _)
            rw [List.length_nil] at c1
            go_wp2_with (first
              | (go_at_call 14; refine c1.mono ?_; rintro e w6 ⟨rfl, j6⟩)
              | fail)
            go_ret
            exact ⟨rfl, chain J5 j6⟩

theorem slotsTurned_core (H : Type) (enc : TypeId × Value → H) (W : World) (base : Nat) (args : Array Value) (ds gs : List (DataW H)) (before : List MemPlace)
    (hval : ∀ (j : Nat) t v, Tryd.f7.params[j]? = some t → args[j]? = some v → Value.okWide Tryd.prog W .any base t v)
    (hW : DataW.Whole enc Tryd.prog Tryd.f7.params.toList Rows.slotsTurnedSpec.vars false W args.toList ds gs before) (hT : Tab W ∧ TabU W) :
    gs = [] ∧ ds.length = 4 ∧ Calls Tryd.prog 7 args W (Tells (.bool true) W.heap.size W) := by
  obtain ⟨p, q, hA, hV, -, -, -⟩ := hW
  obtain ⟨rfl, rfl⟩ := trodVars_none hV
  have hA : DataW.TrodAll enc Tryd.prog W 0 (fun _ => true) true Tryd.f7.params.toList args.toList ds p := hA
  rw [Tryd.params7] at hA hval
  obtain ⟨v0, vs0, d0, ds0, p0, ps0, e0, rfl, -, h0, hA⟩ := trodAll_cons hA
  obtain ⟨v1, vs1, d1, ds1, p1, ps1, rfl, rfl, -, h1, hA⟩ := trodAll_cons hA
  obtain ⟨v2, vs2, d2, ds2, p2, ps2, rfl, rfl, -, h2, hA⟩ := trodAll_cons hA
  obtain ⟨v3, vs3, d3, ds3, p3, ps3, rfl, rfl, -, h3, hA⟩ := trodAll_cons hA
  obtain ⟨rfl, rfl, rfl⟩ := trodAll_nil hA
  obtain rfl : args = #[v0, v1, v2, v3] := Array.ext' e0
  obtain ⟨seed, rfl, -, -, z0⟩ := Go.ChangeMaps.open_string Tryd.underlying9 (hval 0 9 v0 rfl rfl) h0
  obtain ⟨h, rfl, -, -, -⟩ := open_int Tryd.underlying3 (hval 1 3 v1 rfl rfl) h1
  obtain ⟨A, c, was, rfl, x1, -, -, x2, x3⟩ := open_accs (hval 2 22 v2 rfl rfl) h2
  obtain ⟨B, d, rows, rfl, y1, -, -, y2, y3⟩ := open_rows (hval 3 23 v3 rfl rfl) h3
  refine ⟨rfl, rfl, ?_⟩
  by_cases hl : 64 < seed.size ∨ longA was = true ∨ longR rows = true
  · exact turn12_long seed h A B c d was rows x1 y1 hl W x3 y3 hT.1 hT.2
  · rw [not_or, not_or] at hl
    obtain ⟨k1, k2, k3⟩ := hl
    have k2 : longA was = false := by cases e : longA was; rfl; exact absurd e k2
    have k3 : longR rows = false := by cases e : longR rows; rfl; exact absurd e k3
    obtain ⟨m1, z1⟩ := longA_no k2
    obtain ⟨m2, z2⟩ := longR_no k3
    exact turn12_short seed h A B c d was rows (by omega) k2 k3 m1 m2 z1 z2 x2 y2 W x3 y3 hT.1 hT.2

set_option maxRecDepth 100000 in
theorem slotsTurned_lifted (os : Os) (started : os.Started) (H : Type) (enc : TypeId × Value → H) :
    ReturnsInHanded {} Tryd.checked os 7 .any (fun w args => (Rows.slotsTurnedSpec.pre enc Tryd.prog Tryd.f7 [] false w args ∧ laidMetH Tryd.prog laidA w) ∧ sizedMet enc Tryd.prog Tryd.f7 (OpenSpec.ofChange Rows.slotsTurnedSpec) false w args)
      (Rows.slotsTurnedSpec.post enc Tryd.prog Tryd.f7 false true false false) := by
  refine returnsInHanded_of_change_and (C := Tryd.checked) (X := fun w _ => laidMetH Tryd.prog laidA w) (fun _ _ _ hh h => h.of_heap hh) own_knob started (by kernel_rfl) Tryd.func7
    (ChangeSpec.witness_shaped (enc := enc) (C := Tryd.checked) (os := os) (X := fun w _ => laidMetH Tryd.prog laidA w) false (World.laidAll Tryd.prog os laidA) #[.string ⟨#[]⟩, .int .i64 0, .slice none 0 0, .slice none 0 0] 8 (World.laidAll_os _ _ _) (World.shaped_of_ZipB (by kernel_rfl) (by kernel_rfl)) (by kernel_rfl) (by kernel_rfl) (by kernel_rfl) (met_A os _)) ?_
  intro W base args ds gs before hval0 hW _ hwt hL _
  have hval : ∀ (j : Nat) t v, Tryd.f7.params[j]? = some t → args[j]? = some v → Value.okWide Tryd.prog W .any base t v := hval0
  obtain ⟨hg, hlen, hc⟩ := slotsTurned_core H enc W base args ds gs before hval hW (tab_of_laidA hL)
  subst hg
  have hr : (Tryd.f7.params.toList.all fun t => Tryd.prog.readableRec t && decide (t < Tryd.prog.types.size)) = true := by kernel_rfl
  have hread : ∀ t ∈ Tryd.f7.params.toList, Tryd.prog.readableRec t = true ∧ t < Tryd.prog.types.size := fun t ht => by
    have h := List.all_eq_true.1 hr t ht
    rw [Bool.and_eq_true, decide_eq_true_eq] at h
    exact h
  refine hc.mono fun e W' ⟨he, hb⟩ => ?_
  subst he
  match ds, hlen with
  | [d0, d1, d2, d3], _ => exact ⟨_, rfl, law_post laid_out Tryd.underlying4 rfl hread rfl hW rfl rfl rfl hb⟩

theorem slotsTurned_holds : Rows.SlotsTurnedSaid :=
  OpenClaim.holds_of_wide 7 Tryd.f7 rfl rfl rfl rfl rfl rfl rfl ⟨rfl, rfl, rfl, rfl, rfl⟩ rfl rfl rfl rfl rfl (by kernel_rfl) Tryd.func7 (by kernel_rfl)
    (of_decide_eq_true (by kernel_rfl)) (by unfold Func.isWrapper; first | (rw [if_pos (by decide +kernel)]; kernel_rfl) | (rw [if_neg (by decide +kernel)]; exact ⟨rfl, rfl⟩))
    (fun os started H enc _ => slotsTurned_lifted os started H enc)

theorem slotsTurned_card : Rows.SlotsTurnedCardSaid :=
  Claim7.holds_tied_plain_at .later [] [.data, .data, .pinned] true _ false
    slotsTurned_holds (fun _ h => by cases h) (by kernel_rfl) (fun _ h => by cases h) slotsTurned_row_tie rfl ⟨rfl, rfl⟩ (by kernel_rfl) rfl
    (fun f fn hf hfn => by
      obtain rfl : f = 7 := Option.some.inj ((show Tryd.prog.funcNamed "paymaster/paymasterlaw12.SlotsTurned" = some 7 by kernel_rfl).symm.trans hf) |>.symm
      obtain rfl : fn = Tryd.f7 := (Option.some.inj (Tryd.func7.symm.trans hfn)).symm
      exact ⟨by kernel_rfl, fun j t ht => by
        have hm : t ∈ Tryd.f7.params.toList := by simpa using Array.mem_of_getElem? ht
        have hall : (Tryd.f7.params.toList.all fun u => !Tryd.prog.wantsStandIn u) = true := by kernel_rfl
        exact (show Tryd.prog.wantsStandIn t = false by simpa using List.all_eq_true.1 hall t hm)⟩)
    (by kernel_rfl)

end Go.Proofs.YtngofpdpangajaaDoor
