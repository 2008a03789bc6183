/-
  The law SlotsHold: each account's leaf is that of its slot, and may be; all others are pads; together they hold the sum of balances. Conditions: none.
-/
import Derived.Test.YtngofpdpangajaaDoorU12Leaves
import Derived.Test.YtngofpdpangajaaDoorU12Awake
import Derived.Test.YtngofpdpangajaaDoorD12Hold
import Derived.Test.YtngofpdpangajaaDoorU3All
import Derived.Test.YtngofpdpangajaaDoorE12Same
import Derived.Test.YtngofpdpangajaaDoorS10Same
import Derived.Test.YtngofpdpangajaaDoorW7Laid
import Derived.ChangeMaps
namespace Go.Proofs.YtngofpdpangajaaDoor
set_option linter.unusedVariables false
set_option linter.unusedSimpArgs false
set_option maxRecDepth 10000
open Go.ChangeShapes Go.WideShapes Go.ChangeAt Go.RowKit Go.Sort

theorem at0_hold (g m : Nat) : (⟨g, 0, none⟩ : Addr).add m = ⟨g, m, none⟩ := by simp [Addr.add]; exact fun hj => hj.symm
theorem infoS_u128 : (Tryd.prog.info? 36).map (fun i => (i.zero, i.size, i.bytes)) = some (some (.agg #[.int .u64 0, .int .u64 0]), 2, 16) := by kernel_rfl
/-- append of one number. -/
theorem app_u (w : World) (base : Nat) (v : Value) (n : Nat) (ys : List (Int × Int)) (hown : w.ownsRow base 36 2 v n (flat ys)) (h l : Int) (hm : n ≤ 100000000) (hb : base ≤ w.heap.size) :
    ∃ v' w', (∀ ty, (Builtin.append_ #[62, 62] ty #[v, .slice (some ⟨w.heap.size, 0, none⟩) 1 1]).run Tryd.prog (w.alloc (.cells #[.int .u64 h, .int .u64 l] 36)) = .ok v' w') ∧
      w'.ownsRow base 36 2 v' (n + 1) (flat (ys ++ [(h, l)])) ∧ (w.alloc (.cells #[.int .u64 h, .int .u64 l] 36)).grownBy w' v.ownBlock ∧ (v'.ownBlock = v.ownBlock ∨ v'.ownBlock = some (w.heap.size + 1)) := by
  obtain ⟨i0, hi, hz0, hz1, hz2⟩ := info_parts infoS_u128
  obtain ⟨v', w', hr, h2, h3, -, h4⟩ := run_append_own_at (P := Tryd.prog) (w.alloc (.cells #[.int .u64 h, .int .u64 l] 36)) base 62 0 36 i0 _ 2 16 Tryd.underlying62 hi hz0 hz1 hz2 rfl (by decide) v n (flat ys) (hown.alloc _) ⟨w.heap.size, 0, none⟩ 1 1 (flat [(h, l)]) rfl
    (cells_new4 w 36 (flat [(h, l)])) (fun u hu => by simp [flat] at hu; rcases hu with rfl | rfl <;> rfl) (by unfold maxLen; omega) (by omega) (by simp; omega)
  rw [← flat_append] at h2
  rw [World.size_alloc] at h4
  exact ⟨v', w', fun ty => hr, h2, h3, h4⟩
set_option maxHeartbeats 2000000 in
theorem hold12_long (seed : ByteArray) (h : Int) (A : Option Addr) (c : Nat) (l : List Ac) (m1 : l.length ≤ 9223372036854775807) (hl : 64 < seed.size ∨ longA l = true ∨ 6 < h) (w : World) (hR : AcRow w w.heap.size A l) (hTb : Tab w) (hT : TabU w) :
    Calls Tryd.prog 9 #[.string seed, .int .i64 h, .slice A l.length c] w (Tells (.bool true) w.heap.size w) := by
  have cA := fun u hu hv => awake12_any u hu hv
  have cX := fun u hu => longA_any A c l m1 u hu
  by_cases h1 : 64 < seed.size
  · have h1i : (64 : Int) < (seed.size : Int) := by omega
    go_enter Tryd.func9, Tryd.ntmps9
    go_wp2_with (first | (go_at_call 29; refine (cA _ hTb hT).mono ?_; rintro e w1 ⟨rfl, j1⟩) | fail)
    go_ret
    exact ⟨rfl, j1⟩
  · have h1i : ¬ ((64 : Int) < (seed.size : Int)) := by omega
    cases h2 : longA l with
    | true =>
      rw [h2] at cX
      go_enter Tryd.func9, Tryd.ntmps9
      go_wp2_with (first
        | (go_at_call 29; refine (cA _ hTb hT).mono ?_; rintro e w1 ⟨rfl, j1⟩)
        | (go_at_call 10; refine (cX _ ((hR.call j1).more j1.size)).mono ?_; rintro e w2 ⟨rfl, rfl⟩)
        | fail)
      go_ret
      exact ⟨rfl, j1⟩
    | false =>
      rw [h2] at cX hl
      have h3 : 6 < h := by
        rcases hl with h | h | h
        · exact absurd h h1
        · cases h
        · exact h
      go_enter Tryd.func9, Tryd.ntmps9
      go_wp2_with (first
        | (go_at_call 29; refine (cA _ hTb hT).mono ?_; rintro e w1 ⟨rfl, j1⟩)
        | (go_at_call 10; refine (cX _ ((hR.call j1).more j1.size)).mono ?_; rintro e w2 ⟨rfl, rfl⟩)
        | fail)
      go_ret
      exact ⟨rfl, j1⟩
set_option maxRecDepth 100000 in
set_option maxHeartbeats 4000000 in
theorem hold12_bad (seed : ByteArray) (h : Int) (A : Option Addr) (c : Nat) (l : List Ac) (h1 : seed.size ≤ 64) (l1 : longA l = false) (m1 : l.length ≤ 200) (z1 : ∀ x ∈ l, x.id.size ≤ 200 ∧ x.salt.size ≤ 200) (o1 : AllAc l) (hh : ¬ 6 < h)
    (hE : wrongE seed h l ≠ 0) (w : World) (hR : AcRow w w.heap.size A l) (hTb : Tab w) (hT : TabU w) :
    Calls Tryd.prog 9 #[.string seed, .int .i64 h, .slice A l.length c] w (Tells (.bool true) w.heap.size w) := by
  have cA := fun u hu hv => awake12_any u hu hv
  have cX := fun u hu => longA_any A c l (by omega) u hu
  rw [l1] at cX
  have h1i : ¬ ((64 : Int) < (seed.size : Int)) := by omega
  have hz6 : ∀ x ∈ l, x.id.size ≤ 1000000 ∧ x.salt.size ≤ 1000000 := fun x k => by have := z1 x k; omega
  have hma : mayA h l = false := by
    cases k : mayA h l with
    | false => rfl
    | true =>
      obtain ⟨n, rfl, hn, -⟩ := mayA_P k
      exact absurd (by unfold wrongE; rw [show shOk (n : Int) = true from decide_eq_true ⟨by omega, by omega⟩, if_neg Bool.noConfusion, if_neg (by omega), k, if_neg Bool.noConfusion]) hE
  obtain ⟨E, hEE⟩ : ∃ E, wrongE seed h l = E := ⟨_, rfl⟩
  have cL := fun u hu hv => sleaves_bad seed h A c l (by omega) o1 hz6 E hEE (by rw [← hEE]; exact hE) u hu hv
  have cM := fun u hu hv => smay_any A c l (by omega) o1 hz6 h u hu hv
  rw [hma] at cM
  rw [hEE] at hE
  have q0 : (E != 0) = true := bne_iff_ne.2 hE
  clear hEE
  generalize l.length = M at *
  go_enter Tryd.func9, Tryd.ntmps9
  go_wp2_with (first
    | (go_at_call 29; refine (cA _ hTb hT).mono ?_; rintro e w1 ⟨rfl, j1⟩)
    | (go_at_call 10; refine (cX _ ((hR.call j1).more j1.size)).mono ?_; rintro e w2 ⟨rfl, rfl⟩)
    | (go_at_call 26; refine (cL _ ((hR.call j1).more j1.size) (hT.call j1)).mono ?_; rintro e w3 ⟨rfl, j3⟩)
    | (go_at_call 22; refine (cM _ ((hR.call (chain j1 j3)).more (chain j1 j3).size) (hT.call (chain j1 j3))).mono ?_; rintro e w4 ⟨rfl, j4⟩)
    | fail)
  go_ret
  exact ⟨rfl, chain (chain j1 j3) j4⟩
theorem leafAt_num {seed : ByteArray} {l : List Ac} (ho : AllAc l) (n : Nat) : Word (leafAt seed l n).h ∧ Word (leafAt seed l n).l := by
  unfold leafAt
  cases h : (atA l (n : Int)).2 with
  | true =>
    have h1 := firstA_yes (p := fun a => decide (a.slot = (n : Int))) (l := l) h
    have := ho _ h1.1
    exact ⟨this.1, this.2.1⟩
  | false => exact ⟨word_nil, word_nil⟩
set_option maxRecDepth 100000 in
set_option maxHeartbeats 8000000 in
theorem hold12_ok (seed : ByteArray) (h : Int) (A : Option Addr) (c : Nat) (l : List Ac) (h1 : seed.size ≤ 64) (l1 : longA l = false) (m1 : l.length ≤ 200) (z1 : ∀ x ∈ l, x.id.size ≤ 200 ∧ x.salt.size ≤ 200) (o1 : AllAc l) (hh : ¬ 6 < h)
    (hE : wrongE seed h l = 0) (w : World) (hR : AcRow w w.heap.size A l) (hTb : Tab w) (hT : TabU w) :
    Calls Tryd.prog 9 #[.string seed, .int .i64 h, .slice A l.length c] w (Tells (.bool true) w.heap.size w) := by
  have cA := fun u hu hv => awake12_any u hu hv
  have cX := fun u hu => longA_any A c l (by omega) u hu
  rw [l1] at cX
  have h1i : ¬ ((64 : Int) < (seed.size : Int)) := by omega
  have hz6 : ∀ x ∈ l, x.id.size ≤ 1000000 ∧ x.salt.size ≤ 1000000 := fun x k => by have := z1 x k; omega
  obtain ⟨-, -, hma⟩ := wrong_no hE
  obtain ⟨n, rfl, hn, hMP⟩ := mayA_P hma
  have hpb := pw_bd n hn
  obtain ⟨N, hN⟩ := Int.eq_ofNat_of_zero_le (show 0 ≤ pw n by omega)
  have cL := fun u hu hv hx => sleaves_any seed (by omega) n A c l (by omega) o1 hz6 hE N hN u hu hv hx
  have cF := fun m u hu => sAt_any A c l m (by omega) hz6 u hu
  have cM := fun (x : Lf) (h1 : x.id.size ≤ 1000000) (h2 : x.salt.size ≤ 1000000) (hm : x.may = true) u hu => (mayLeaf_any x (by omega) (by omega) u hu).mono (fun e w' k => (show Tells (.bool true) u.heap.size u e w' from by rw [hm] at k; exact k))
  have cE := fun (x : Ac) h1 h2 u => sleaf_any x h1 h2 u
  have cP := fun m hw u hu => pad_any seed m (by omega) hw u hu
  rw [hN] at hMP hpb
  have hsl : ∀ a ∈ l, ∃ m : Nat, a.slot = m ∧ m < N := fun a ha => by
    have h2 := hMP.1 a ha
    rw [okA_def, Bool.and_eq_true, Bool.and_eq_true] at h2
    obtain ⟨m, hm⟩ := Int.eq_ofNat_of_zero_le (o1 a ha).2.2.1
    have := of_decide_eq_true h2.2.2
    exact ⟨m, hm, by omega⟩
  have hsum := hold_sum (seed := seed) (N := N) hMP.2.2 hsl
  have hpads := hold_pads (seed := seed) (N := N) hMP.2.2 hsl
  have hw1 : IntKind.u64.wrap (n : Int) = (n : Int) := by rw [IntKind.wrap_u64]; omega
  have hw2 : IntKind.i64.wrap ((2 : Int) ^ n) = (N : Int) := by
    rw [← hN]
    show IntKind.i64.wrap (pw n) = pw n
    rw [IntKind.wrap_i64]
    omega
  have hmin : min n 64 = n := by omega
  have hmx : max (n : Int) 0 = (n : Int) := by omega
  have hmx2 : ¬ ((n : Int) < 0) := by omega
  have hx7 : ∀ (k : Nat), k < N → ∀ (a : Ac) (f : Bool), atA l (k : Int) = (a, f) → f = true → a ∈ l ∧ leafAt seed l k = lfA a ∧ (lfA a).may = true := fun k hk a f e ef => by
    subst ef
    have h1 := firstA_yes (p := fun a => decide (a.slot = (k : Int))) (l := l) (by show (atA l (k : Int)).2 = true; rw [e])
    have h2 : (firstA (fun a => decide (a.slot = (k : Int))) l).1 = a := by show (atA l (k : Int)).1 = a; rw [e]
    rw [h2] at h1
    refine ⟨h1.1, by unfold leafAt; rw [e]; rfl, ?_⟩
    have h3 := hMP.1 a h1.1
    rw [okA_def, Bool.and_eq_true, Bool.and_eq_true] at h3
    rw [show (lfA a).may = (decide (a.salt.size ≤ 32) && isId (keyA a)) from rfl, h3.2.1, h3.1]
    rfl
  have hx8 : ∀ (k : Nat) (a : Ac), atA l (k : Int) = (a, false) → leafAt seed l k = padLf seed k ∧ (padLf seed k).may = true := fun k a e => by
    refine ⟨by unfold leafAt; rw [e]; rfl, ?_⟩
    unfold Lf.may padLf
    simp only [padSaltB_size]
    rfl
  have hnum := fun k => leafAt_num (seed := seed) o1 k
  have hlf := fun k (hk : k < N) => leaves_at seed l N k hk
  obtain ⟨M, hM⟩ : ∃ M, l.length = M := ⟨_, rfl⟩
  rw [hM] at cX cL cF hpads ⊢
  generalize hL : leavesL seed l N = L at *
  have HSUM := hideIt hsum
  have HPADS := hideIt hpads
  have HX7 := hideIt hx7
  have HX8 := hideIt hx8
  have HNUM := hideIt hnum
  have HLF := hideIt hlf
  clear hsum hpads hx7 hx8 hnum hlf hsl hMP hma hE hL
  go_enter Tryd.func9, Tryd.ntmps9
  go_upto_region 8 with (first
    | (go_at_call 29; refine (cA _ hTb hT).mono ?_; rintro e w1 ⟨rfl, j1⟩)
    | (go_at_call 10; refine (cX _ ((hR.call j1).more j1.size)).mono ?_; rintro e w2 ⟨rfl, rfl⟩)
    | (go_at_call 26; refine (cL _ ((hR.call j1).more j1.size) (hT.call j1) (hTb.call j1)).mono ?_; rintro e w3 ⟨j3, g, rfl, -, X3⟩)
    | fail)
  have j13 := chain j1 j3
  have R3 := (hR.call j13).more j13.size
  have T3 := hT.call j13
  have K3 := hTb.call j13
  clear cA cX cL j1 j3 hR hT hTb
  go_wp2
  go_loopg [9, 11, 12] N (fun gk v p i wr => ∃ k : Nat, k ≤ N ∧ N - k ≤ gk ∧ i = .int .i64 k ∧ (∃ z : Nat, z ≤ k ∧ p = .int .i64 z ∧ Hid (sumV isPad (leafAt seed l) k = (z : Int))) ∧ wr.ownsRow w3.heap.size 36 2 v k (flat ((List.range k).map fun n => amtL (leafAt seed l n))) ∧ Below w3.heap.size w3 wr)
  case atStart => exact ⟨0, Nat.zero_le _, by omega, rfl, ⟨0, Nat.le_refl _, rfl, hideIt rfl⟩, World.ownsRow_nil _ _ _ _, Below.refl _ _⟩
  case round =>
    obtain ⟨k, hk, hgk, rfl, ⟨z, hz, rfl, hzs⟩, O, hb⟩ := hrel
    have HG := hideIt hgk
    clear hgk
    by_cases hlt : k < N
    · have hlti : (k : Int) < (N : Int) := by omega
      have hkw : Word (k : Int) := ⟨by omega, by show (k : Int) < _; omega⟩
      have hwk : IntKind.u64.wrap (k : Int) = (k : Int) := by rw [IntKind.wrap_u64]; omega
      have hwz : IntKind.i64.wrap ((z : Int) + 1) = ((z + 1 : Nat) : Int) := by rw [IntKind.wrap_i64]; omega
      have hrs : (List.range (k + 1)).map (fun n => amtL (leafAt seed l n)) = (List.range k).map (fun n => amtL (leafAt seed l n)) ++ [amtL (leafAt seed l k)] := by rw [List.range_succ, List.map_append]; rfl
      have hps : sumV isPad (leafAt seed l) (k + 1) = (z : Int) + isPad (leafAt seed l k) := by show sumV isPad (leafAt seed l) k + _ = _; rw [hzs.out]
      have hlk := HLF.out k hlt
      have cF1 := cF (k : Int)
      obtain ⟨⟨a, f⟩, hf⟩ : ∃ V, atA l (k : Int) = V := ⟨_, rfl⟩
      rw [hf] at cF1
      obtain ⟨x, hx⟩ : ∃ x, leafAt seed l k = x := ⟨_, rfl⟩
      rw [hx] at hrs hps hlk
      have Xr := X3.call hb
      obtain ⟨x0, hx0, e0, e1, e2, e3, e4⟩ := Xr.at k (by have := (List.getElem?_eq_some_iff.1 hlk).1; exact this)
      rw [hlk] at hx0
      injection hx0 with hx0
      subst hx0
      have a1 := at0_hold g (k * 5)
      have hgin := Xr.inside
      have Rr := (R3.call hb).more hb.size
      have HX := hideIt hx
      have HF := hideIt hf
      have HRS := hideIt hrs
      have HPS := hideIt hps
      have HLK := hideIt hlk
      clear hx hf hrs hps hlk
      obtain ⟨ia, ha, la, sa, na⟩ := a
      simp only [Ac.val] at cF1
      go_upto_region 16 with (first
        | (go_at_call 18; refine (cF1 _ Rr).mono ?_; rintro e v1 ⟨rfl, k1⟩)
        | fail)
      have H1 := ((Has.start wr).call k1).add 38 (acB ia ha la sa na)
      change Code.wp _ _ _ _ (v1.alloc (.cells (acB ia ha la sa na) 38))
      obtain ⟨ga, hga⟩ : ∃ g, v1.heap.size = g := ⟨_, rfl⟩
      rw [hga] at H1 ⊢
      generalize v1.alloc (.cells (acB ia ha la sa na) 38) = W1 at *
      have X1 := Xr.call H1.below
      have T1 := T3.call (hb.trans (H1.below.mono hb.size))
      have K1 := K3.call (hb.trans (H1.below.mono hb.size))
      clear e0 e1 e2 e3 e4 hgin Rr k1 hga cF1
      have hq : ∀ (y : Lf) (u : World), (binOp .neq 46 (.agg #[.bool y.pad, .string y.id, .string y.salt, .int .u64 y.h, .int .u64 y.l]) (.agg #[.bool y.pad, .string y.id, .string y.salt, .int .u64 y.h, .int .u64 y.l])).run Tryd.prog u = .ok (.bool false) u := fun y u => by
        have h := run_neq_lf y y u
        rw [Lf.same_self] at h
        exact h
      have hSS : ∀ u, Below W1.heap.size W1 u → u.cell? ⟨g, k * 5, none⟩ = some (.bool x.pad) ∧ u.cell? ⟨g, k * 5 + 1, none⟩ = some (.string x.id) ∧ u.cell? ⟨g, k * 5 + 2, none⟩ = some (.string x.salt) ∧ u.cell? ⟨g, k * 5 + 3, none⟩ = some (.int .u64 x.h) ∧ u.cell? ⟨g, k * 5 + 4, none⟩ = some (.int .u64 x.l) ∧
          u.cell? ⟨ga, 0, none⟩ = some (.string ia) ∧ u.cell? ⟨ga, 1, none⟩ = some (.int .u64 ha) ∧ u.cell? ⟨ga, 2, none⟩ = some (.int .u64 la) ∧ u.cell? ⟨ga, 3, none⟩ = some (.string sa) ∧ u.cell? ⟨ga, 4, none⟩ = some (.int .u64 na) ∧ ga < u.heap.size ∧ g < u.heap.size := fun u hbu => by
        have Xu := X1.call hbu
        obtain ⟨x0, hx0, e0, e1, e2, e3, e4⟩ := Xu.at k (by have := (List.getElem?_eq_some_iff.1 HLK.out).1; exact this)
        rw [HLK.out] at hx0
        injection hx0 with hx0
        subst hx0
        have Hu := H1.call hbu
        exact ⟨e0, e1, e2, e3, e4, (Hu.box 0).read 0, (Hu.box 0).read 1, (Hu.box 0).read 2, (Hu.box 0).read 3, (Hu.box 0).read 4, (Hu.box 0).inside, Xu.inside⟩
      have b0 := (Below.refl W1.heap.size W1).drew
      have hqx := hq x
      cases f with
      | true =>
        obtain ⟨hal, hla, hmay⟩ := HX7.out k hlt _ _ HF.out rfl
        rw [HX.out] at hla
        subst hla
        have hsz := hz6 _ hal
        simp only at hsz
        have cM1 := cM _ hsz.1 hsz.2 hmay
        have cE1 := cE ⟨ia, ha, la, sa, na⟩ hsz.1 hsz.2
        simp only [lfA, Lf.val, Ac.val] at cM1 cE1 hqx hSS
        clear hmay hal hq HX7 HX8 HNUM HLF HSUM HPADS HF HX HLK X1 Xr cM cE cP cF
        refine wp_region_held_drew (S := fun u => u.cell? ⟨g, k * 5, none⟩ = some (.bool false) ∧ u.cell? ⟨g, k * 5 + 1, none⟩ = some (.string ia) ∧ u.cell? ⟨g, k * 5 + 2, none⟩ = some (.string sa) ∧ u.cell? ⟨g, k * 5 + 3, none⟩ = some (.int .u64 ha) ∧ u.cell? ⟨g, k * 5 + 4, none⟩ = some (.int .u64 la) ∧ u.cell? ⟨ga, 0, none⟩ = some (.string ia) ∧ u.cell? ⟨ga, 1, none⟩ = some (.int .u64 ha) ∧ u.cell? ⟨ga, 2, none⟩ = some (.int .u64 la) ∧ u.cell? ⟨ga, 3, none⟩ = some (.string sa) ∧ u.cell? ⟨ga, 4, none⟩ = some (.int .u64 na) ∧ ga < u.heap.size ∧ g < u.heap.size) (by kernel_rfl) (hSS _ (Below.refl _ _).drew) (fun hHeld => ?_)
        refine wpAnyH_take (i := 0) (v := ?_) rfl (by kernel_rfl) (by kernel_rfl) (by kernel_rfl) (fun _ _ _ h => h) (Or.inl ⟨by rfl, ?_⟩) (by assumption) ?_
        rotate_left 1
        · intro w hSw; (try dsimp only at hSw); go_simp; try with_reducible rfl
        try simp only [Act.put, List.getElem_toArray, List.getElem_cons_succ, List.getElem_cons_zero, List.setIfInBounds_toArray, List.set_cons_zero, List.set_cons_succ]
        refine wpAnyH_take (i := 1) (v := ?_) rfl (by kernel_rfl) (by kernel_rfl) (by kernel_rfl) (fun _ _ _ h => h) (Or.inl ⟨by rfl, ?_⟩) (by assumption) ?_
        rotate_left 1
        · intro w hSw; (try dsimp only at hSw); go_simp; try with_reducible rfl
        try simp only [Act.put, List.getElem_toArray, List.getElem_cons_succ, List.getElem_cons_zero, List.setIfInBounds_toArray, List.set_cons_zero, List.set_cons_succ]
        refine wpAnyH_take (i := 2) (v := ?_) rfl (by kernel_rfl) (by kernel_rfl) (by kernel_rfl) (fun _ _ _ h => h) (Or.inl ⟨by rfl, ?_⟩) (by assumption) ?_
        rotate_left 1
        · intro w hSw; (try dsimp only at hSw); go_simp; try with_reducible rfl
        try simp only [Act.put, List.getElem_toArray, List.getElem_cons_succ, List.getElem_cons_zero, List.setIfInBounds_toArray, List.set_cons_zero, List.set_cons_succ]
        refine wpAnyH_take (i := 3) (v := ?_) rfl (by kernel_rfl) (by kernel_rfl) (by kernel_rfl) (fun _ _ _ h => h) (Or.inl ⟨by rfl, ?_⟩) (by assumption) ?_
        rotate_left 1
        · intro w hSw; (try dsimp only at hSw); go_simp; try with_reducible rfl
        try simp only [Act.put, List.getElem_toArray, List.getElem_cons_succ, List.getElem_cons_zero, List.setIfInBounds_toArray, List.set_cons_zero, List.set_cons_succ]
        refine wpAnyH_ready (rs := [4]) (by kernel_rfl) (by simp) (AllReadyH.cons rfl (fun K hK => ?_) AllReadyH.nil)
        go_simp
        go_at_call 32
        refine (cM1 _ T1.drew).mono ?_
        rintro e v2 ⟨rfl, k2⟩
        have b2 := chain b0 k2
        try simp only []
        refine hK.out _ _ (hSS _ b2) (fun hHeld => ?_)
        clear hK K
        try simp only [Act.put, List.getElem_toArray, List.getElem_cons_succ, List.getElem_cons_zero, List.setIfInBounds_toArray, List.set_cons_zero, List.set_cons_succ]
        refine wpAnyH_take (i := 5) (v := ?_) rfl (by kernel_rfl) (by kernel_rfl) (by kernel_rfl) (fun _ _ _ h => h) (Or.inl ⟨by rfl, ?_⟩) (by assumption) ?_
        rotate_left 1
        · intro w hSw; (try dsimp only at hSw); go_simp; try with_reducible rfl
        try simp only [Act.put, List.getElem_toArray, List.getElem_cons_succ, List.getElem_cons_zero, List.setIfInBounds_toArray, List.set_cons_zero, List.set_cons_succ]
        refine wpAnyH_take (i := 6) (v := ?_) rfl (by kernel_rfl) (by kernel_rfl) (by kernel_rfl) (fun _ _ _ h => h) (Or.inl ⟨by rfl, ?_⟩) (by assumption) ?_
        rotate_left 1
        · intro w hSw; (try dsimp only at hSw); go_simp; try with_reducible rfl
        try simp only [Act.put, List.getElem_toArray, List.getElem_cons_succ, List.getElem_cons_zero, List.setIfInBounds_toArray, List.set_cons_zero, List.set_cons_succ]
        refine wpAnyH_take (i := 7) (v := ?_) rfl (by kernel_rfl) (by kernel_rfl) (by kernel_rfl) (fun _ _ _ h => h) (Or.inl ⟨by rfl, ?_⟩) (by assumption) ?_
        rotate_left 1
        · intro w hSw; (try dsimp only at hSw); go_simp; try with_reducible rfl
        try simp only [Act.put, List.getElem_toArray, List.getElem_cons_succ, List.getElem_cons_zero, List.setIfInBounds_toArray, List.set_cons_zero, List.set_cons_succ]
        refine wpAnyH_take (i := 8) (v := ?_) rfl (by kernel_rfl) (by kernel_rfl) (by kernel_rfl) (fun _ _ _ h => h) (Or.inl ⟨by rfl, ?_⟩) (by assumption) ?_
        rotate_left 1
        · intro w hSw; (try dsimp only at hSw); go_simp; try with_reducible rfl
        try simp only [Act.put, List.getElem_toArray, List.getElem_cons_succ, List.getElem_cons_zero, List.setIfInBounds_toArray, List.set_cons_zero, List.set_cons_succ]
        refine wpAnyH_take (i := 9) (v := ?_) rfl (by kernel_rfl) (by kernel_rfl) (by kernel_rfl) (fun _ _ _ h => h) (Or.inl ⟨by rfl, ?_⟩) (by assumption) ?_
        rotate_left 1
        · intro w hSw; (try dsimp only at hSw); go_simp; try with_reducible rfl
        try simp only [Act.put, List.getElem_toArray, List.getElem_cons_succ, List.getElem_cons_zero, List.setIfInBounds_toArray, List.set_cons_zero, List.set_cons_succ]
        refine wpAnyH_take (i := 10) (v := ?_) rfl (by kernel_rfl) (by kernel_rfl) (by kernel_rfl) (fun _ _ _ h => h) (Or.inl ⟨by rfl, ?_⟩) (by assumption) ?_
        rotate_left 1
        · intro w hSw; (try dsimp only at hSw); go_simp; try with_reducible rfl
        try simp only [Act.put, List.getElem_toArray, List.getElem_cons_succ, List.getElem_cons_zero, List.setIfInBounds_toArray, List.set_cons_zero, List.set_cons_succ]
        refine wpAnyH_take (i := 11) (v := ?_) rfl (by kernel_rfl) (by kernel_rfl) (by kernel_rfl) (fun _ _ _ h => h) (Or.inl ⟨by rfl, ?_⟩) (by assumption) ?_
        rotate_left 1
        · intro w hSw; (try dsimp only at hSw); go_simp; try with_reducible rfl
        try simp only [Act.put, List.getElem_toArray, List.getElem_cons_succ, List.getElem_cons_zero, List.setIfInBounds_toArray, List.set_cons_zero, List.set_cons_succ]
        refine wpAnyH_take (i := 12) (v := ?_) rfl (by kernel_rfl) (by kernel_rfl) (by kernel_rfl) (fun _ _ _ h => h) (Or.inl ⟨by rfl, ?_⟩) (by assumption) ?_
        rotate_left 1
        · intro w hSw; (try dsimp only at hSw); go_simp; try with_reducible rfl
        try simp only [Act.put, List.getElem_toArray, List.getElem_cons_succ, List.getElem_cons_zero, List.setIfInBounds_toArray, List.set_cons_zero, List.set_cons_succ]
        refine wpAnyH_take (i := 13) (v := ?_) rfl (by kernel_rfl) (by kernel_rfl) (by kernel_rfl) (fun _ _ _ h => h) (Or.inl ⟨by rfl, ?_⟩) (by assumption) ?_
        rotate_left 1
        · intro w hSw; (try dsimp only at hSw); go_simp; try with_reducible rfl
        try simp only [Act.put, List.getElem_toArray, List.getElem_cons_succ, List.getElem_cons_zero, List.setIfInBounds_toArray, List.set_cons_zero, List.set_cons_succ]
        refine wpAnyH_take (i := 14) (v := ?_) rfl (by kernel_rfl) (by kernel_rfl) (by kernel_rfl) (fun _ _ _ h => h) (Or.inl ⟨by rfl, ?_⟩) (by assumption) ?_
        rotate_left 1
        · intro w hSw; (try dsimp only at hSw); go_simp; try with_reducible rfl
        try simp only [Act.put, List.getElem_toArray, List.getElem_cons_succ, List.getElem_cons_zero, List.setIfInBounds_toArray, List.set_cons_zero, List.set_cons_succ]
        refine wpAnyH_take (i := 15) (v := ?_) rfl (by kernel_rfl) (by kernel_rfl) (by kernel_rfl) (fun _ _ _ h => h) (Or.inl ⟨by rfl, ?_⟩) (by assumption) ?_
        rotate_left 1
        · intro w hSw; (try dsimp only at hSw); go_simp; try with_reducible rfl
        try simp only [Act.put, List.getElem_toArray, List.getElem_cons_succ, List.getElem_cons_zero, List.setIfInBounds_toArray, List.set_cons_zero, List.set_cons_succ]
        refine wpAnyH_take (i := 16) (v := ?_) rfl (by kernel_rfl) (by kernel_rfl) (by kernel_rfl) (fun _ _ _ h => h) (Or.inl ⟨by rfl, ?_⟩) (by assumption) ?_
        rotate_left 1
        · intro w hSw; (try dsimp only at hSw); go_simp; try with_reducible rfl
        try simp only [Act.put, List.getElem_toArray, List.getElem_cons_succ, List.getElem_cons_zero, List.setIfInBounds_toArray, List.set_cons_zero, List.set_cons_succ]
        refine wpAnyH_take (i := 17) (v := ?_) rfl (by kernel_rfl) (by kernel_rfl) (by kernel_rfl) (fun _ _ _ h => h) (Or.inl ⟨by rfl, ?_⟩) (by assumption) ?_
        rotate_left 1
        · intro w hSw; (try dsimp only at hSw); go_simp; try with_reducible rfl
        try simp only [Act.put, List.getElem_toArray, List.getElem_cons_succ, List.getElem_cons_zero, List.setIfInBounds_toArray, List.set_cons_zero, List.set_cons_succ]
        refine wpAnyH_take (i := 18) (v := ?_) rfl (by kernel_rfl) (by kernel_rfl) (by kernel_rfl) (fun _ _ _ h => h) (Or.inl ⟨by rfl, ?_⟩) (by assumption) ?_
        rotate_left 1
        · intro w hSw; (try dsimp only at hSw); go_simp; try with_reducible rfl
        try simp only [Act.put, List.getElem_toArray, List.getElem_cons_succ, List.getElem_cons_zero, List.setIfInBounds_toArray, List.set_cons_zero, List.set_cons_succ]
        refine wpAnyH_take (i := 19) (v := ?_) rfl (by kernel_rfl) (by kernel_rfl) (by kernel_rfl) (fun _ _ _ h => h) (Or.inl ⟨by rfl, ?_⟩) (by assumption) ?_
        rotate_left 1
        · intro w hSw; (try dsimp only at hSw); go_simp; try with_reducible rfl
        try simp only [Act.put, List.getElem_toArray, List.getElem_cons_succ, List.getElem_cons_zero, List.setIfInBounds_toArray, List.set_cons_zero, List.set_cons_succ]
        refine wpAnyH_take (i := 20) (v := ?_) rfl (by kernel_rfl) (by kernel_rfl) (by kernel_rfl) (fun _ _ _ h => h) (Or.inl ⟨by rfl, ?_⟩) (by assumption) ?_
        rotate_left 1
        · intro w hSw; (try dsimp only at hSw); go_simp; try with_reducible rfl
        try simp only [Act.put, List.getElem_toArray, List.getElem_cons_succ, List.getElem_cons_zero, List.setIfInBounds_toArray, List.set_cons_zero, List.set_cons_succ]
        refine wpAnyH_take (i := 21) (v := ?_) rfl (by kernel_rfl) (by kernel_rfl) (by kernel_rfl) (fun _ _ _ h => h) (Or.inl ⟨by rfl, ?_⟩) (by assumption) ?_
        rotate_left 1
        · intro w hSw; (try dsimp only at hSw); go_simp; try with_reducible rfl
        try simp only [Act.put, List.getElem_toArray, List.getElem_cons_succ, List.getElem_cons_zero, List.setIfInBounds_toArray, List.set_cons_zero, List.set_cons_succ]
        refine wpAnyH_take (i := 22) (v := ?_) rfl (by kernel_rfl) (by kernel_rfl) (by kernel_rfl) (fun _ _ _ h => h) (Or.inl ⟨by rfl, ?_⟩) (by assumption) ?_
        rotate_left 1
        · intro w hSw; (try dsimp only at hSw); go_simp; try with_reducible rfl
        try simp only [Act.put, List.getElem_toArray, List.getElem_cons_succ, List.getElem_cons_zero, List.setIfInBounds_toArray, List.set_cons_zero, List.set_cons_succ]
        refine wpAnyH_ready (rs := [23]) (by kernel_rfl) (by simp) (AllReadyH.cons rfl (fun K hK => ?_) AllReadyH.nil)
        go_simp
        go_at_call 24
        refine (cE1 _).mono ?_
        rintro e v4 ⟨rfl, k4⟩
        have b4 := chain b2 k4
        try simp only []
        refine hK.out _ _ (hSS _ b4) (fun hHeld => ?_)
        clear hK K
        try simp only [Act.put, List.getElem_toArray, List.getElem_cons_succ, List.getElem_cons_zero, List.setIfInBounds_toArray, List.set_cons_zero, List.set_cons_succ]
        refine wpAnyH_take (i := 24) (v := ?_) rfl (by kernel_rfl) (by kernel_rfl) (by kernel_rfl) (fun _ _ _ h => h) (Or.inl ⟨by rfl, ?_⟩) (by assumption) ?_
        rotate_left 1
        · intro w hSw; (try dsimp only at hSw); go_simp; try with_reducible rfl
        try simp only [Act.put, List.getElem_toArray, List.getElem_cons_succ, List.getElem_cons_zero, List.setIfInBounds_toArray, List.set_cons_zero, List.set_cons_succ]
        refine wpAnyH_take (i := 25) (v := ?_) rfl (by kernel_rfl) (by kernel_rfl) (by kernel_rfl) (fun _ _ _ h => h) (Or.inl ⟨by rfl, ?_⟩) (by assumption) ?_
        rotate_left 1
        · intro w hSw; (try dsimp only at hSw); go_simp; try with_reducible rfl
        try simp only [Act.put, List.getElem_toArray, List.getElem_cons_succ, List.getElem_cons_zero, List.setIfInBounds_toArray, List.set_cons_zero, List.set_cons_succ]
        refine wpAnyH_take (i := 26) (v := ?_) rfl (by kernel_rfl) (by kernel_rfl) (by kernel_rfl) (fun _ _ _ h => h) (Or.inl ⟨by rfl, ?_⟩) (by assumption) ?_
        rotate_left 1
        · intro w hSw; (try dsimp only at hSw); go_simp; try with_reducible rfl
        try simp only [Act.put, List.getElem_toArray, List.getElem_cons_succ, List.getElem_cons_zero, List.setIfInBounds_toArray, List.set_cons_zero, List.set_cons_succ]
        refine wpAnyH_take (i := 27) (v := ?_) rfl (by kernel_rfl) (by kernel_rfl) (by kernel_rfl) (fun _ _ _ h => h) (Or.inl ⟨by rfl, ?_⟩) (by assumption) ?_
        rotate_left 1
        · intro w hSw; (try dsimp only at hSw); go_simp; try with_reducible rfl
        try simp only [Act.put, List.getElem_toArray, List.getElem_cons_succ, List.getElem_cons_zero, List.setIfInBounds_toArray, List.set_cons_zero, List.set_cons_succ]
        refine wpAnyH_take (i := 28) (v := ?_) rfl (by kernel_rfl) (by kernel_rfl) (by kernel_rfl) (fun _ _ _ h => h) (Or.inl ⟨by rfl, ?_⟩) (by assumption) ?_
        rotate_left 1
        · intro w hSw; (try dsimp only at hSw); go_simp; try with_reducible rfl
        try simp only [Act.put, List.getElem_toArray, List.getElem_cons_succ, List.getElem_cons_zero, List.setIfInBounds_toArray, List.set_cons_zero, List.set_cons_succ]
        refine wpAnyH_take (i := 29) (v := ?_) rfl (by kernel_rfl) (by kernel_rfl) (by kernel_rfl) (fun _ _ _ h => h) (Or.inl ⟨by rfl, ?_⟩) (by assumption) ?_
        rotate_left 1
        · intro w hSw; (try dsimp only at hSw); go_simp; try with_reducible rfl
        try simp only [Act.put, List.getElem_toArray, List.getElem_cons_succ, List.getElem_cons_zero, List.setIfInBounds_toArray, List.set_cons_zero, List.set_cons_succ]
        refine wpAnyH_take (i := 30) (v := ?_) rfl (by kernel_rfl) (by kernel_rfl) (by kernel_rfl) (fun _ _ _ h => h) (Or.inl ⟨by rfl, ?_⟩) (by assumption) ?_
        rotate_left 1
        · intro w hSw; (try dsimp only at hSw); go_simp; try with_reducible rfl
        try simp only [Act.put, List.getElem_toArray, List.getElem_cons_succ, List.getElem_cons_zero, List.setIfInBounds_toArray, List.set_cons_zero, List.set_cons_succ]
        refine wpAnyH_take (i := 31) (v := undef) rfl (by kernel_rfl) (by kernel_rfl) (by kernel_rfl) (fun _ _ _ h => h) (Or.inr ⟨by rfl, rfl⟩) (by assumption) ?_
        try simp only [Act.put, List.getElem_toArray, List.getElem_cons_succ, List.getElem_cons_zero, List.setIfInBounds_toArray, List.set_cons_zero, List.set_cons_succ]
        refine wpAnyH_take (i := 32) (v := undef) rfl (by kernel_rfl) (by kernel_rfl) (by kernel_rfl) (fun _ _ _ h => h) (Or.inr ⟨by rfl, rfl⟩) (by assumption) ?_
        try simp only [Act.put, List.getElem_toArray, List.getElem_cons_succ, List.getElem_cons_zero, List.setIfInBounds_toArray, List.set_cons_zero, List.set_cons_succ]
        refine wpAnyH_take (i := 33) (v := undef) rfl (by kernel_rfl) (by kernel_rfl) (by kernel_rfl) (fun _ _ _ h => h) (Or.inr ⟨by rfl, rfl⟩) (by assumption) ?_
        try simp only [Act.put, List.getElem_toArray, List.getElem_cons_succ, List.getElem_cons_zero, List.setIfInBounds_toArray, List.set_cons_zero, List.set_cons_succ]
        refine wpAnyH_take (i := 34) (v := undef) rfl (by kernel_rfl) (by kernel_rfl) (by kernel_rfl) (fun _ _ _ h => h) (Or.inr ⟨by rfl, rfl⟩) (by assumption) ?_
        try simp only [Act.put, List.getElem_toArray, List.getElem_cons_succ, List.getElem_cons_zero, List.setIfInBounds_toArray, List.set_cons_zero, List.set_cons_succ]
        refine wpAnyH_take (i := 35) (v := undef) rfl (by kernel_rfl) (by kernel_rfl) (by kernel_rfl) (fun _ _ _ h => h) (Or.inr ⟨by rfl, rfl⟩) (by assumption) ?_
        try simp only [Act.put, List.getElem_toArray, List.getElem_cons_succ, List.getElem_cons_zero, List.setIfInBounds_toArray, List.set_cons_zero, List.set_cons_succ]
        refine wpAnyH_take (i := 36) (v := undef) rfl (by kernel_rfl) (by kernel_rfl) (by kernel_rfl) (fun _ _ _ h => h) (Or.inr ⟨by rfl, rfl⟩) (by assumption) ?_
        try simp only [Act.put, List.getElem_toArray, List.getElem_cons_succ, List.getElem_cons_zero, List.setIfInBounds_toArray, List.set_cons_zero, List.set_cons_succ]
        refine wpAnyH_take (i := 37) (v := undef) rfl (by kernel_rfl) (by kernel_rfl) (by kernel_rfl) (fun _ _ _ h => h) (Or.inr ⟨by rfl, rfl⟩) (by assumption) ?_
        try simp only [Act.put, List.getElem_toArray, List.getElem_cons_succ, List.getElem_cons_zero, List.setIfInBounds_toArray, List.set_cons_zero, List.set_cons_succ]
        refine wpAnyH_ready (rs := [38]) (by kernel_rfl) (by simp) (AllReadyH.cons rfl (fun K hK => ?_) AllReadyH.nil)
        go_simp
        refine hK.out _ _ (hSS _ b4) (fun hHeld => ?_)
        clear hK K
        try simp only [Act.put, List.getElem_toArray, List.getElem_cons_succ, List.getElem_cons_zero, List.setIfInBounds_toArray, List.set_cons_zero, List.set_cons_succ]
        refine wpAnyH_take (i := 39) (v := undef) rfl (by kernel_rfl) (by kernel_rfl) (by kernel_rfl) (fun _ _ _ h => h) (Or.inr ⟨by rfl, rfl⟩) (by assumption) ?_
        try simp only [Act.put, List.getElem_toArray, List.getElem_cons_succ, List.getElem_cons_zero, List.setIfInBounds_toArray, List.set_cons_zero, List.set_cons_succ]
        refine wpAnyH_take (i := 40) (v := ?_) rfl (by kernel_rfl) (by kernel_rfl) (by kernel_rfl) (fun _ _ _ h => h) (Or.inl ⟨by rfl, ?_⟩) (by assumption) ?_
        rotate_left 1
        · intro w hSw; (try dsimp only at hSw); go_simp; try with_reducible rfl
        try simp only [Act.put, List.getElem_toArray, List.getElem_cons_succ, List.getElem_cons_zero, List.setIfInBounds_toArray, List.set_cons_zero, List.set_cons_succ]
        refine wpAnyH_take (i := 41) (v := ?_) rfl (by kernel_rfl) (by kernel_rfl) (by kernel_rfl) (fun _ _ _ h => h) (Or.inl ⟨by rfl, ?_⟩) (by assumption) ?_
        rotate_left 1
        · intro w hSw; (try dsimp only at hSw); go_simp; try with_reducible rfl
        try simp only [Act.put, List.getElem_toArray, List.getElem_cons_succ, List.getElem_cons_zero, List.setIfInBounds_toArray, List.set_cons_zero, List.set_cons_succ]
        refine wpAnyH_done (by kernel_rfl) ?_ _
        obtain ⟨e0, e1, e2, e3, e4, -, -, -, -, -, -, hgin⟩ := hSS _ b4
        have O4 := own_below (own_below O H1.below) b4
        have bb4 := hb.trans ((chain H1.below b4).mono hb.size)
        obtain ⟨v', W', hr, O5, hg5, -⟩ := app_u v4 w3.heap.size _ _ _ O4 ha la (by omega) bb4.size
        have L5 := (chainA bb4 (.cells #[.int .u64 ha, .int .u64 la] 36)).grown hg5 (by simp; have := bb4.size; omega) (fun j hj => (O4.lt j hj).1)
        clear O O4 b0 b2 b4 k2 k4 hSS hqx H1 T1 K1
        go_wp2_with (first
          | (at_builtin; refine wpList_run rfl _ _ _ rfl _ _ rfl rfl v' W' hr ?_)
          | fail)
        go_roundg (N - (k + 1))
        case measure => have := HG.out; omega
        case rel => exact ⟨k + 1, by omega, Nat.le_refl _, by go_num, ⟨z, by omega, rfl, hideIt (by rw [HPS.out]; simp [isPad, lfA])⟩, by rw [HRS.out]; exact O5, L5⟩
      | false =>
        obtain ⟨hla, hmay⟩ := HX8.out k _ HF.out
        rw [HX.out] at hla
        subst hla
        have hps : (padLf seed k).salt.size ≤ 1000000 := by show (padSaltB seed k).size ≤ 1000000; rw [padSaltB_size]; omega
        have cM1 := cM _ (by show (⟨#[]⟩ : ByteArray).size ≤ 1000000; decide) hps hmay
        have cP1 := cP k hkw
        clear hmay hps hq HX7 HX8 HNUM HLF HSUM HPADS HF HX HLK X1 Xr cM cE cP cF
        unfold padLf at cM1 cP1 hqx hSS HPS HRS
        generalize padSaltB seed k = R at *
        simp only [Lf.val] at cM1 cP1 hqx hSS
        refine wp_region_held_drew (S := fun u => u.cell? ⟨g, k * 5, none⟩ = some (.bool true) ∧ u.cell? ⟨g, k * 5 + 1, none⟩ = some (.string ⟨#[]⟩) ∧ u.cell? ⟨g, k * 5 + 2, none⟩ = some (.string R) ∧ u.cell? ⟨g, k * 5 + 3, none⟩ = some (.int .u64 0) ∧ u.cell? ⟨g, k * 5 + 4, none⟩ = some (.int .u64 0) ∧ u.cell? ⟨ga, 0, none⟩ = some (.string ia) ∧ u.cell? ⟨ga, 1, none⟩ = some (.int .u64 ha) ∧ u.cell? ⟨ga, 2, none⟩ = some (.int .u64 la) ∧ u.cell? ⟨ga, 3, none⟩ = some (.string sa) ∧ u.cell? ⟨ga, 4, none⟩ = some (.int .u64 na) ∧ ga < u.heap.size ∧ g < u.heap.size) (by kernel_rfl) (hSS _ (Below.refl _ _).drew) (fun hHeld => ?_)
        refine wpAnyH_take (i := 0) (v := ?_) rfl (by kernel_rfl) (by kernel_rfl) (by kernel_rfl) (fun _ _ _ h => h) (Or.inl ⟨by rfl, ?_⟩) (by assumption) ?_
        rotate_left 1
        · intro w hSw; (try dsimp only at hSw); go_simp; try with_reducible rfl
        try simp only [Act.put, List.getElem_toArray, List.getElem_cons_succ, List.getElem_cons_zero, List.setIfInBounds_toArray, List.set_cons_zero, List.set_cons_succ]
        refine wpAnyH_take (i := 1) (v := ?_) rfl (by kernel_rfl) (by kernel_rfl) (by kernel_rfl) (fun _ _ _ h => h) (Or.inl ⟨by rfl, ?_⟩) (by assumption) ?_
        rotate_left 1
        · intro w hSw; (try dsimp only at hSw); go_simp; try with_reducible rfl
        try simp only [Act.put, List.getElem_toArray, List.getElem_cons_succ, List.getElem_cons_zero, List.setIfInBounds_toArray, List.set_cons_zero, List.set_cons_succ]
        refine wpAnyH_take (i := 2) (v := ?_) rfl (by kernel_rfl) (by kernel_rfl) (by kernel_rfl) (fun _ _ _ h => h) (Or.inl ⟨by rfl, ?_⟩) (by assumption) ?_
        rotate_left 1
        · intro w hSw; (try dsimp only at hSw); go_simp; try with_reducible rfl
        try simp only [Act.put, List.getElem_toArray, List.getElem_cons_succ, List.getElem_cons_zero, List.setIfInBounds_toArray, List.set_cons_zero, List.set_cons_succ]
        refine wpAnyH_take (i := 3) (v := ?_) rfl (by kernel_rfl) (by kernel_rfl) (by kernel_rfl) (fun _ _ _ h => h) (Or.inl ⟨by rfl, ?_⟩) (by assumption) ?_
        rotate_left 1
        · intro w hSw; (try dsimp only at hSw); go_simp; try with_reducible rfl
        try simp only [Act.put, List.getElem_toArray, List.getElem_cons_succ, List.getElem_cons_zero, List.setIfInBounds_toArray, List.set_cons_zero, List.set_cons_succ]
        refine wpAnyH_ready (rs := [4]) (by kernel_rfl) (by simp) (AllReadyH.cons rfl (fun K hK => ?_) AllReadyH.nil)
        go_simp
        go_at_call 32
        refine (cM1 _ T1.drew).mono ?_
        rintro e v2 ⟨rfl, k2⟩
        have b2 := chain b0 k2
        try simp only []
        refine hK.out _ _ (hSS _ b2) (fun hHeld => ?_)
        clear hK K
        try simp only [Act.put, List.getElem_toArray, List.getElem_cons_succ, List.getElem_cons_zero, List.setIfInBounds_toArray, List.set_cons_zero, List.set_cons_succ]
        refine wpAnyH_take (i := 5) (v := ?_) rfl (by kernel_rfl) (by kernel_rfl) (by kernel_rfl) (fun _ _ _ h => h) (Or.inl ⟨by rfl, ?_⟩) (by assumption) ?_
        rotate_left 1
        · intro w hSw; (try dsimp only at hSw); go_simp; try with_reducible rfl
        try simp only [Act.put, List.getElem_toArray, List.getElem_cons_succ, List.getElem_cons_zero, List.setIfInBounds_toArray, List.set_cons_zero, List.set_cons_succ]
        refine wpAnyH_take (i := 6) (v := ?_) rfl (by kernel_rfl) (by kernel_rfl) (by kernel_rfl) (fun _ _ _ h => h) (Or.inl ⟨by rfl, ?_⟩) (by assumption) ?_
        rotate_left 1
        · intro w hSw; (try dsimp only at hSw); go_simp; try with_reducible rfl
        try simp only [Act.put, List.getElem_toArray, List.getElem_cons_succ, List.getElem_cons_zero, List.setIfInBounds_toArray, List.set_cons_zero, List.set_cons_succ]
        refine wpAnyH_take (i := 7) (v := ?_) rfl (by kernel_rfl) (by kernel_rfl) (by kernel_rfl) (fun _ _ _ h => h) (Or.inl ⟨by rfl, ?_⟩) (by assumption) ?_
        rotate_left 1
        · intro w hSw; (try dsimp only at hSw); go_simp; try with_reducible rfl
        try simp only [Act.put, List.getElem_toArray, List.getElem_cons_succ, List.getElem_cons_zero, List.setIfInBounds_toArray, List.set_cons_zero, List.set_cons_succ]
        refine wpAnyH_take (i := 8) (v := ?_) rfl (by kernel_rfl) (by kernel_rfl) (by kernel_rfl) (fun _ _ _ h => h) (Or.inl ⟨by rfl, ?_⟩) (by assumption) ?_
        rotate_left 1
        · intro w hSw; (try dsimp only at hSw); go_simp; try with_reducible rfl
        try simp only [Act.put, List.getElem_toArray, List.getElem_cons_succ, List.getElem_cons_zero, List.setIfInBounds_toArray, List.set_cons_zero, List.set_cons_succ]
        refine wpAnyH_take (i := 9) (v := ?_) rfl (by kernel_rfl) (by kernel_rfl) (by kernel_rfl) (fun _ _ _ h => h) (Or.inl ⟨by rfl, ?_⟩) (by assumption) ?_
        rotate_left 1
        · intro w hSw; (try dsimp only at hSw); go_simp; try with_reducible rfl
        try simp only [Act.put, List.getElem_toArray, List.getElem_cons_succ, List.getElem_cons_zero, List.setIfInBounds_toArray, List.set_cons_zero, List.set_cons_succ]
        refine wpAnyH_take (i := 10) (v := ?_) rfl (by kernel_rfl) (by kernel_rfl) (by kernel_rfl) (fun _ _ _ h => h) (Or.inl ⟨by rfl, ?_⟩) (by assumption) ?_
        rotate_left 1
        · intro w hSw; (try dsimp only at hSw); go_simp; try with_reducible rfl
        try simp only [Act.put, List.getElem_toArray, List.getElem_cons_succ, List.getElem_cons_zero, List.setIfInBounds_toArray, List.set_cons_zero, List.set_cons_succ]
        refine wpAnyH_take (i := 11) (v := ?_) rfl (by kernel_rfl) (by kernel_rfl) (by kernel_rfl) (fun _ _ _ h => h) (Or.inl ⟨by rfl, ?_⟩) (by assumption) ?_
        rotate_left 1
        · intro w hSw; (try dsimp only at hSw); go_simp; try with_reducible rfl
        try simp only [Act.put, List.getElem_toArray, List.getElem_cons_succ, List.getElem_cons_zero, List.setIfInBounds_toArray, List.set_cons_zero, List.set_cons_succ]
        refine wpAnyH_take (i := 12) (v := ?_) rfl (by kernel_rfl) (by kernel_rfl) (by kernel_rfl) (fun _ _ _ h => h) (Or.inl ⟨by rfl, ?_⟩) (by assumption) ?_
        rotate_left 1
        · intro w hSw; (try dsimp only at hSw); go_simp; try with_reducible rfl
        try simp only [Act.put, List.getElem_toArray, List.getElem_cons_succ, List.getElem_cons_zero, List.setIfInBounds_toArray, List.set_cons_zero, List.set_cons_succ]
        refine wpAnyH_take (i := 13) (v := ?_) rfl (by kernel_rfl) (by kernel_rfl) (by kernel_rfl) (fun _ _ _ h => h) (Or.inl ⟨by rfl, ?_⟩) (by assumption) ?_
        rotate_left 1
        · intro w hSw; (try dsimp only at hSw); go_simp; try with_reducible rfl
        try simp only [Act.put, List.getElem_toArray, List.getElem_cons_succ, List.getElem_cons_zero, List.setIfInBounds_toArray, List.set_cons_zero, List.set_cons_succ]
        refine wpAnyH_take (i := 14) (v := ?_) rfl (by kernel_rfl) (by kernel_rfl) (by kernel_rfl) (fun _ _ _ h => h) (Or.inl ⟨by rfl, ?_⟩) (by assumption) ?_
        rotate_left 1
        · intro w hSw; (try dsimp only at hSw); go_simp; try with_reducible rfl
        try simp only [Act.put, List.getElem_toArray, List.getElem_cons_succ, List.getElem_cons_zero, List.setIfInBounds_toArray, List.set_cons_zero, List.set_cons_succ]
        refine wpAnyH_take (i := 15) (v := ?_) rfl (by kernel_rfl) (by kernel_rfl) (by kernel_rfl) (fun _ _ _ h => h) (Or.inl ⟨by rfl, ?_⟩) (by assumption) ?_
        rotate_left 1
        · intro w hSw; (try dsimp only at hSw); go_simp; try with_reducible rfl
        try simp only [Act.put, List.getElem_toArray, List.getElem_cons_succ, List.getElem_cons_zero, List.setIfInBounds_toArray, List.set_cons_zero, List.set_cons_succ]
        refine wpAnyH_take (i := 16) (v := ?_) rfl (by kernel_rfl) (by kernel_rfl) (by kernel_rfl) (fun _ _ _ h => h) (Or.inl ⟨by rfl, ?_⟩) (by assumption) ?_
        rotate_left 1
        · intro w hSw; (try dsimp only at hSw); go_simp; try with_reducible rfl
        try simp only [Act.put, List.getElem_toArray, List.getElem_cons_succ, List.getElem_cons_zero, List.setIfInBounds_toArray, List.set_cons_zero, List.set_cons_succ]
        refine wpAnyH_take (i := 17) (v := ?_) rfl (by kernel_rfl) (by kernel_rfl) (by kernel_rfl) (fun _ _ _ h => h) (Or.inl ⟨by rfl, ?_⟩) (by assumption) ?_
        rotate_left 1
        · intro w hSw; (try dsimp only at hSw); go_simp; try with_reducible rfl
        try simp only [Act.put, List.getElem_toArray, List.getElem_cons_succ, List.getElem_cons_zero, List.setIfInBounds_toArray, List.set_cons_zero, List.set_cons_succ]
        refine wpAnyH_take (i := 18) (v := undef) rfl (by kernel_rfl) (by kernel_rfl) (by kernel_rfl) (fun _ _ _ h => h) (Or.inr ⟨by rfl, rfl⟩) (by assumption) ?_
        try simp only [Act.put, List.getElem_toArray, List.getElem_cons_succ, List.getElem_cons_zero, List.setIfInBounds_toArray, List.set_cons_zero, List.set_cons_succ]
        refine wpAnyH_take (i := 19) (v := undef) rfl (by kernel_rfl) (by kernel_rfl) (by kernel_rfl) (fun _ _ _ h => h) (Or.inr ⟨by rfl, rfl⟩) (by assumption) ?_
        try simp only [Act.put, List.getElem_toArray, List.getElem_cons_succ, List.getElem_cons_zero, List.setIfInBounds_toArray, List.set_cons_zero, List.set_cons_succ]
        refine wpAnyH_take (i := 20) (v := undef) rfl (by kernel_rfl) (by kernel_rfl) (by kernel_rfl) (fun _ _ _ h => h) (Or.inr ⟨by rfl, rfl⟩) (by assumption) ?_
        try simp only [Act.put, List.getElem_toArray, List.getElem_cons_succ, List.getElem_cons_zero, List.setIfInBounds_toArray, List.set_cons_zero, List.set_cons_succ]
        refine wpAnyH_take (i := 21) (v := undef) rfl (by kernel_rfl) (by kernel_rfl) (by kernel_rfl) (fun _ _ _ h => h) (Or.inr ⟨by rfl, rfl⟩) (by assumption) ?_
        try simp only [Act.put, List.getElem_toArray, List.getElem_cons_succ, List.getElem_cons_zero, List.setIfInBounds_toArray, List.set_cons_zero, List.set_cons_succ]
        refine wpAnyH_take (i := 22) (v := undef) rfl (by kernel_rfl) (by kernel_rfl) (by kernel_rfl) (fun _ _ _ h => h) (Or.inr ⟨by rfl, rfl⟩) (by assumption) ?_
        try simp only [Act.put, List.getElem_toArray, List.getElem_cons_succ, List.getElem_cons_zero, List.setIfInBounds_toArray, List.set_cons_zero, List.set_cons_succ]
        refine wpAnyH_ready (rs := [23]) (by kernel_rfl) (by simp) (AllReadyH.cons rfl (fun K hK => ?_) AllReadyH.nil)
        go_simp
        refine hK.out _ _ (hSS _ b2) (fun hHeld => ?_)
        clear hK K
        try simp only [Act.put, List.getElem_toArray, List.getElem_cons_succ, List.getElem_cons_zero, List.setIfInBounds_toArray, List.set_cons_zero, List.set_cons_succ]
        refine wpAnyH_take (i := 24) (v := undef) rfl (by kernel_rfl) (by kernel_rfl) (by kernel_rfl) (fun _ _ _ h => h) (Or.inr ⟨by rfl, rfl⟩) (by assumption) ?_
        try simp only [Act.put, List.getElem_toArray, List.getElem_cons_succ, List.getElem_cons_zero, List.setIfInBounds_toArray, List.set_cons_zero, List.set_cons_succ]
        refine wpAnyH_take (i := 25) (v := ?_) rfl (by kernel_rfl) (by kernel_rfl) (by kernel_rfl) (fun _ _ _ h => h) (Or.inl ⟨by rfl, ?_⟩) (by assumption) ?_
        rotate_left 1
        · intro w hSw; (try dsimp only at hSw); go_simp; try with_reducible rfl
        try simp only [Act.put, List.getElem_toArray, List.getElem_cons_succ, List.getElem_cons_zero, List.setIfInBounds_toArray, List.set_cons_zero, List.set_cons_succ]
        refine wpAnyH_take (i := 26) (v := ?_) rfl (by kernel_rfl) (by kernel_rfl) (by kernel_rfl) (fun _ _ _ h => h) (Or.inl ⟨by rfl, ?_⟩) (by assumption) ?_
        rotate_left 1
        · intro w hSw; (try dsimp only at hSw); go_simp; try with_reducible rfl
        try simp only [Act.put, List.getElem_toArray, List.getElem_cons_succ, List.getElem_cons_zero, List.setIfInBounds_toArray, List.set_cons_zero, List.set_cons_succ]
        refine wpAnyH_take (i := 27) (v := ?_) rfl (by kernel_rfl) (by kernel_rfl) (by kernel_rfl) (fun _ _ _ h => h) (Or.inl ⟨by rfl, ?_⟩) (by assumption) ?_
        rotate_left 1
        · intro w hSw; (try dsimp only at hSw); go_simp; try with_reducible rfl
        try simp only [Act.put, List.getElem_toArray, List.getElem_cons_succ, List.getElem_cons_zero, List.setIfInBounds_toArray, List.set_cons_zero, List.set_cons_succ]
        refine wpAnyH_take (i := 28) (v := ?_) rfl (by kernel_rfl) (by kernel_rfl) (by kernel_rfl) (fun _ _ _ h => h) (Or.inl ⟨by rfl, ?_⟩) (by assumption) ?_
        rotate_left 1
        · intro w hSw; (try dsimp only at hSw); go_simp; try with_reducible rfl
        try simp only [Act.put, List.getElem_toArray, List.getElem_cons_succ, List.getElem_cons_zero, List.setIfInBounds_toArray, List.set_cons_zero, List.set_cons_succ]
        refine wpAnyH_take (i := 29) (v := ?_) rfl (by kernel_rfl) (by kernel_rfl) (by kernel_rfl) (fun _ _ _ h => h) (Or.inl ⟨by rfl, ?_⟩) (by assumption) ?_
        rotate_left 1
        · intro w hSw; (try dsimp only at hSw); go_simp; try with_reducible rfl
        try simp only [Act.put, List.getElem_toArray, List.getElem_cons_succ, List.getElem_cons_zero, List.setIfInBounds_toArray, List.set_cons_zero, List.set_cons_succ]
        refine wpAnyH_take (i := 30) (v := ?_) rfl (by kernel_rfl) (by kernel_rfl) (by kernel_rfl) (fun _ _ _ h => h) (Or.inl ⟨by rfl, ?_⟩) (by assumption) ?_
        rotate_left 1
        · intro w hSw; (try dsimp only at hSw); go_simp; try with_reducible rfl
        try simp only [Act.put, List.getElem_toArray, List.getElem_cons_succ, List.getElem_cons_zero, List.setIfInBounds_toArray, List.set_cons_zero, List.set_cons_succ]
        refine wpAnyH_take (i := 31) (v := ?_) rfl (by kernel_rfl) (by kernel_rfl) (by kernel_rfl) (fun _ _ _ h => h) (Or.inl ⟨by rfl, ?_⟩) (by assumption) ?_
        rotate_left 1
        · intro w hSw; (try dsimp only at hSw); go_simp; try with_reducible rfl
        try simp only [Act.put, List.getElem_toArray, List.getElem_cons_succ, List.getElem_cons_zero, List.setIfInBounds_toArray, List.set_cons_zero, List.set_cons_succ]
        refine wpAnyH_take (i := 32) (v := ?_) rfl (by kernel_rfl) (by kernel_rfl) (by kernel_rfl) (fun _ _ _ h => h) (Or.inl ⟨by rfl, ?_⟩) (by assumption) ?_
        rotate_left 1
        · intro w hSw; (try dsimp only at hSw); go_simp; try with_reducible rfl
        try simp only [Act.put, List.getElem_toArray, List.getElem_cons_succ, List.getElem_cons_zero, List.setIfInBounds_toArray, List.set_cons_zero, List.set_cons_succ]
        refine wpAnyH_take (i := 33) (v := ?_) rfl (by kernel_rfl) (by kernel_rfl) (by kernel_rfl) (fun _ _ _ h => h) (Or.inl ⟨by rfl, ?_⟩) (by assumption) ?_
        rotate_left 1
        · intro w hSw; (try dsimp only at hSw); go_simp; try with_reducible rfl
        try simp only [Act.put, List.getElem_toArray, List.getElem_cons_succ, List.getElem_cons_zero, List.setIfInBounds_toArray, List.set_cons_zero, List.set_cons_succ]
        refine wpAnyH_take (i := 34) (v := ?_) rfl (by kernel_rfl) (by kernel_rfl) (by kernel_rfl) (fun _ _ _ h => h) (Or.inl ⟨by rfl, ?_⟩) (by assumption) ?_
        rotate_left 1
        · intro w hSw; (try dsimp only at hSw); go_simp; try with_reducible rfl
        try simp only [Act.put, List.getElem_toArray, List.getElem_cons_succ, List.getElem_cons_zero, List.setIfInBounds_toArray, List.set_cons_zero, List.set_cons_succ]
        refine wpAnyH_take (i := 35) (v := ?_) rfl (by kernel_rfl) (by kernel_rfl) (by kernel_rfl) (fun _ _ _ h => h) (Or.inl ⟨by rfl, ?_⟩) (by assumption) ?_
        rotate_left 1
        · intro w hSw; (try dsimp only at hSw); go_simp; try with_reducible rfl
        try simp only [Act.put, List.getElem_toArray, List.getElem_cons_succ, List.getElem_cons_zero, List.setIfInBounds_toArray, List.set_cons_zero, List.set_cons_succ]
        refine wpAnyH_take (i := 36) (v := ?_) rfl (by kernel_rfl) (by kernel_rfl) (by kernel_rfl) (fun _ _ _ h => h) (Or.inl ⟨by rfl, ?_⟩) (by assumption) ?_
        rotate_left 1
        · intro w hSw; (try dsimp only at hSw); go_simp; try with_reducible rfl
        try simp only [Act.put, List.getElem_toArray, List.getElem_cons_succ, List.getElem_cons_zero, List.setIfInBounds_toArray, List.set_cons_zero, List.set_cons_succ]
        refine wpAnyH_take (i := 37) (v := ?_) rfl (by kernel_rfl) (by kernel_rfl) (by kernel_rfl) (fun _ _ _ h => h) (Or.inl ⟨by rfl, ?_⟩) (by assumption) ?_
        rotate_left 1
        · intro w hSw; (try dsimp only at hSw); go_simp; try with_reducible rfl
        try simp only [Act.put, List.getElem_toArray, List.getElem_cons_succ, List.getElem_cons_zero, List.setIfInBounds_toArray, List.set_cons_zero, List.set_cons_succ]
        refine wpAnyH_ready (rs := [38]) (by kernel_rfl) (by simp) (AllReadyH.cons rfl (fun K hK => ?_) AllReadyH.nil)
        go_simp
        go_at_call 33
        refine (cP1 _ (K1.call b2)).mono ?_
        rintro e v4 ⟨rfl, k4⟩
        have b4 := chain b2 k4
        try simp only []
        refine hK.out _ _ (hSS _ b4) (fun hHeld => ?_)
        clear hK K
        try simp only [Act.put, List.getElem_toArray, List.getElem_cons_succ, List.getElem_cons_zero, List.setIfInBounds_toArray, List.set_cons_zero, List.set_cons_succ]
        refine wpAnyH_take (i := 39) (v := ?_) rfl (by kernel_rfl) (by kernel_rfl) (by kernel_rfl) (fun _ _ _ h => h) (Or.inl ⟨by rfl, ?_⟩) (by assumption) ?_
        rotate_left 1
        · intro w hSw; (try dsimp only at hSw); go_simp; try with_reducible rfl
        try simp only [Act.put, List.getElem_toArray, List.getElem_cons_succ, List.getElem_cons_zero, List.setIfInBounds_toArray, List.set_cons_zero, List.set_cons_succ]
        refine wpAnyH_take (i := 40) (v := ?_) rfl (by kernel_rfl) (by kernel_rfl) (by kernel_rfl) (fun _ _ _ h => h) (Or.inl ⟨by rfl, ?_⟩) (by assumption) ?_
        rotate_left 1
        · intro w hSw; (try dsimp only at hSw); go_simp; try with_reducible rfl
        try simp only [Act.put, List.getElem_toArray, List.getElem_cons_succ, List.getElem_cons_zero, List.setIfInBounds_toArray, List.set_cons_zero, List.set_cons_succ]
        refine wpAnyH_take (i := 41) (v := ?_) rfl (by kernel_rfl) (by kernel_rfl) (by kernel_rfl) (fun _ _ _ h => h) (Or.inl ⟨by rfl, ?_⟩) (by assumption) ?_
        rotate_left 1
        · intro w hSw; (try dsimp only at hSw); go_simp; try with_reducible rfl
        try simp only [Act.put, List.getElem_toArray, List.getElem_cons_succ, List.getElem_cons_zero, List.setIfInBounds_toArray, List.set_cons_zero, List.set_cons_succ]
        refine wpAnyH_done (by kernel_rfl) ?_ _
        obtain ⟨e0, e1, e2, e3, e4, -, -, -, -, -, -, hgin⟩ := hSS _ b4
        have O4 := own_below (own_below O H1.below) b4
        have bb4 := hb.trans ((chain H1.below b4).mono hb.size)
        obtain ⟨v', W', hr, O5, hg5, -⟩ := app_u v4 w3.heap.size _ _ _ O4 0 0 (by omega) bb4.size
        have L5 := (chainA bb4 (.cells #[.int .u64 0, .int .u64 0] 36)).grown hg5 (by simp; have := bb4.size; omega) (fun j hj => (O4.lt j hj).1)
        clear O O4 b0 b2 b4 k2 k4 hSS hqx H1 T1 K1
        go_wp2_with (first
          | (at_builtin; refine wpList_run rfl _ _ _ rfl _ _ rfl rfl v' W' hr ?_)
          | fail)
        go_roundg (N - (k + 1))
        case measure => have := HG.out; omega
        case rel => exact ⟨k + 1, by omega, Nat.le_refl _, by go_num, ⟨z + 1, by omega, by first | rfl | go_num, hideIt (by rw [HPS.out]; simp [isPad])⟩, by rw [HRS.out]; exact O5, L5⟩
    · have e : k = N := by omega
      subst e
      obtain ⟨xs, hxs⟩ : ∃ xs, (List.range k).map (fun n => amtL (leafAt seed l n)) = xs := ⟨_, rfl⟩
      have hsum := HSUM.out
      rw [hxs] at O hsum
      have hxn : AllNum xs := fun y hy => by
        rw [← hxs] at hy
        obtain ⟨q, -, rfl⟩ := List.mem_map.1 hy
        exact HNUM.out q
      obtain ⟨hxl0, A9, c9, rfl, NR⟩ := own_nums O
      have hxlen : xs.length ≤ 1000000 := by omega
      have HXL := hideIt hxl0
      clear hxl0
      have hzM : (z : Int) + (M : Int) = (k : Int) := by rw [← hzs.out]; exact HPADS.out
      have hHS := hideIt hsum
      have RM := (R3.call hb).more hb.size
      have JB := chain j13 hb
      clear hxs hsum O HSUM HPADS HX7 HX8 HNUM HLF HG hzs X3 R3 T3 K3 cF cM cE cP hlt
      go_wp2
      go_loopg [10, 15] M (fun gk v i wq => ∃ j : Nat, j ≤ M ∧ M - j ≤ gk ∧ i = .int .i64 j ∧ wq.ownsRow wr.heap.size 36 2 v j (flat ((l.take j).map amtA)) ∧ Below wr.heap.size wr wq)
      case atStart => exact ⟨0, Nat.zero_le _, by omega, rfl, World.ownsRow_nil _ _ _ _, Below.refl _ _⟩
      case round =>
        rename World => wq
        obtain ⟨j, hj, hgj, rfl, O, hbq⟩ := hrel
        have HG := hideIt hgj
        clear hgj
        by_cases hjl : j < M
        · have hjli : (j : Int) < (M : Int) := by omega
          obtain ⟨y, hy⟩ : ∃ y, l[j]? = some y := ⟨_, List.getElem?_eq_getElem (by omega)⟩
          obtain ⟨ad, rfl, had, p0, p1, p2, p3, p4⟩ := (RM.call hbq) j y hy
          have p5 : (ad.add (j * 5)).block < wq.heap.size := by rw [o10_block]; exact Nat.lt_of_lt_of_le had hbq.size
          have htk : (l.take (j + 1)).map amtA = (l.take j).map amtA ++ [(y.h, y.l)] := by rw [take_more1 hy, List.map_append]; rfl
          have HTK := hideIt htk
          obtain ⟨v', W', hr, O5, hg5, -⟩ := app_u wq wr.heap.size _ _ _ O y.h y.l (by omega) hbq.size
          have L5 := (chainA hbq (.cells #[.int .u64 y.h, .int .u64 y.l] 36)).grown hg5 (by simp; have := hbq.size; omega) (fun j hj => (O.lt j hj).1)
          clear hy htk
          go_wp2_with (first
            | (at_builtin; refine wpList_run rfl _ _ _ rfl _ _ rfl rfl v' W' hr ?_)
            | fail)
          go_roundg (M - (j + 1))
          case measure => have := HG.out; omega
          case rel => exact ⟨j + 1, by omega, Nat.le_refl _, by go_num, by rw [HTK.out]; exact O5, L5⟩
        · have e : j = M := by omega
          subst e
          rw [List.take_of_length_le (by omega)] at O
          have hyn : AllNum (l.map amtA) := fun y hy => by
            obtain ⟨q, hq, rfl⟩ := List.mem_map.1 hy
            exact ⟨(o1 q hq).1, (o1 q hq).2.1⟩
          obtain ⟨-, A10, c10, rfl, NS⟩ := own_nums O
          have cB := balanced_any A9 A10 c9 c10 xs (l.map amtA) hxn hyn hxlen (by rw [List.length_map]; omega) wq ((NR.call hbq).more hbq.size) NS
          rw [decide_eq_true hHS.out] at cB
          have hwj : IntKind.i64.wrap ((z : Int) + (j : Int)) = (k : Int) := by rw [hzM, IntKind.wrap_i64]; omega
          have hkk : ((k : Int) == (k : Int)) = true := by simp
          generalize l.map amtA = ys at *
          clear O RM hHS
          go_wp2_with (first
            | (go_at_call 34; refine cB.mono ?_; rintro e w9 ⟨rfl, j9⟩)
            | fail)
          go_ret
          exact ⟨rfl, chain JB (chain hbq j9)⟩

theorem slotsHold_core (H : Type) (enc : TypeId × Value → H) (W : World) (base : Nat) (args : Array Value) (ds gs : List (DataW H)) (before : List MemPlace)
    (hval : ∀ (j : Nat) t v, Tryd.f9.params[j]? = some t → args[j]? = some v → Value.okWide Tryd.prog W .any base t v)
    (hW : DataW.Whole enc Tryd.prog Tryd.f9.params.toList Rows.slotsHoldSpec.vars false W args.toList ds gs before) (hT : Tab W ∧ TabU W) :
    gs = [] ∧ ds.length = 3 ∧ Calls Tryd.prog 9 args W (Tells (.bool true) W.heap.size W) := by
  obtain ⟨p, q, hA, hV, -, -, -⟩ := hW
  obtain ⟨rfl, rfl⟩ := trodVars_none hV
  have hA : DataW.TrodAll enc Tryd.prog W 0 (fun _ => true) true Tryd.f9.params.toList args.toList ds p := hA
  rw [Tryd.params9] at hA hval
  obtain ⟨v0, vs0, d0, ds0, p0, ps0, e0, rfl, -, h0, hA⟩ := trodAll_cons hA
  obtain ⟨v1, vs1, d1, ds1, p1, ps1, rfl, rfl, -, h1, hA⟩ := trodAll_cons hA
  obtain ⟨v2, vs2, d2, ds2, p2, ps2, rfl, rfl, -, h2, hA⟩ := trodAll_cons hA
  obtain ⟨rfl, rfl, rfl⟩ := trodAll_nil hA
  obtain rfl : args = #[v0, v1, v2] := Array.ext' e0
  obtain ⟨seed, rfl, -, -, z0⟩ := Go.ChangeMaps.open_string Tryd.underlying9 (hval 0 9 v0 rfl rfl) h0
  obtain ⟨h, rfl, -, -, -⟩ := open_int Tryd.underlying3 (hval 1 3 v1 rfl rfl) h1
  obtain ⟨A, c, l, rfl, x1, -, -, x2, x3⟩ := open_accs (hval 2 22 v2 rfl rfl) h2
  refine ⟨rfl, rfl, ?_⟩
  by_cases hl : 64 < seed.size ∨ longA l = true ∨ 6 < h
  · exact hold12_long seed h A c l x1 hl W x3 hT.1 hT.2
  · rw [not_or, not_or] at hl
    obtain ⟨k1, k2, k3⟩ := hl
    have k2 : longA l = false := by cases e : longA l; rfl; exact absurd e k2
    obtain ⟨m1, z1⟩ := longA_no k2
    by_cases hE : wrongE seed h l = 0
    · exact hold12_ok seed h A c l (by omega) k2 m1 z1 x2 k3 hE W x3 hT.1 hT.2
    · exact hold12_bad seed h A c l (by omega) k2 m1 z1 x2 k3 hE W x3 hT.1 hT.2

set_option maxRecDepth 100000 in
theorem slotsHold_lifted (os : Os) (started : os.Started) (H : Type) (enc : TypeId × Value → H) :
    ReturnsInHanded {} Tryd.checked os 9 .any (fun w args => (Rows.slotsHoldSpec.pre enc Tryd.prog Tryd.f9 [] false w args ∧ laidMetH Tryd.prog laidA w) ∧ sizedMet enc Tryd.prog Tryd.f9 (OpenSpec.ofChange Rows.slotsHoldSpec) false w args)
      (Rows.slotsHoldSpec.post enc Tryd.prog Tryd.f9 false true false false) := by
  refine returnsInHanded_of_change_and (C := Tryd.checked) (X := fun w _ => laidMetH Tryd.prog laidA w) (fun _ _ _ hh h => h.of_heap hh) own_knob started (by kernel_rfl) Tryd.func9
    (ChangeSpec.witness_shaped (enc := enc) (C := Tryd.checked) (os := os) (X := fun w _ => laidMetH Tryd.prog laidA w) false (World.laidAll Tryd.prog os laidA) #[.string ⟨#[]⟩, .int .i64 0, .slice none 0 0] 8 (World.laidAll_os _ _ _) (World.shaped_of_ZipB (by kernel_rfl) (by kernel_rfl)) (by kernel_rfl) (by kernel_rfl) (by kernel_rfl) (met_A os _)) ?_
  intro W base args ds gs before hval0 hW _ hwt hL _
  have hval : ∀ (j : Nat) t v, Tryd.f9.params[j]? = some t → args[j]? = some v → Value.okWide Tryd.prog W .any base t v := hval0
  obtain ⟨hg, hlen, hc⟩ := slotsHold_core H enc W base args ds gs before hval hW (tab_of_laidA hL)
  subst hg
  have hr : (Tryd.f9.params.toList.all fun t => Tryd.prog.readableRec t && decide (t < Tryd.prog.types.size)) = true := by kernel_rfl
  have hread : ∀ t ∈ Tryd.f9.params.toList, Tryd.prog.readableRec t = true ∧ t < Tryd.prog.types.size := fun t ht => by
    have h := List.all_eq_true.1 hr t ht
    rw [Bool.and_eq_true, decide_eq_true_eq] at h
    exact h
  refine hc.mono fun e W' ⟨he, hb⟩ => ?_
  subst he
  match ds, hlen with
  | [d0, d1, d2], _ => exact ⟨_, rfl, law_post laid_out Tryd.underlying4 rfl hread rfl hW rfl rfl rfl hb⟩

theorem slotsHold_holds : Rows.SlotsHoldSaid :=
  OpenClaim.holds_of_wide 9 Tryd.f9 rfl rfl rfl rfl rfl rfl rfl ⟨rfl, rfl, rfl, rfl, rfl⟩ rfl rfl rfl rfl rfl (by kernel_rfl) Tryd.func9 (by kernel_rfl)
    (of_decide_eq_true (by kernel_rfl)) (by unfold Func.isWrapper; first | (rw [if_pos (by decide +kernel)]; kernel_rfl) | (rw [if_neg (by decide +kernel)]; exact ⟨rfl, rfl⟩))
    (fun os started H enc _ => slotsHold_lifted os started H enc)

theorem slotsHold_card : Rows.SlotsHoldCardSaid :=
  Claim7.holds_tied_plain_at .later [] [.data, .data, .pinned] true _ false
    slotsHold_holds (fun _ h => by cases h) (by kernel_rfl) (fun _ h => by cases h) slotsHold_row_tie rfl ⟨rfl, rfl⟩ (by kernel_rfl) rfl
    (fun f fn hf hfn => by
      obtain rfl : f = 9 := Option.some.inj ((show Tryd.prog.funcNamed "paymaster/paymasterlaw12.SlotsHold" = some 9 by kernel_rfl).symm.trans hf) |>.symm
      obtain rfl : fn = Tryd.f9 := (Option.some.inj (Tryd.func9.symm.trans hfn)).symm
      exact ⟨by kernel_rfl, fun j t ht => by
        have hm : t ∈ Tryd.f9.params.toList := by simpa using Array.mem_of_getElem? ht
        have hall : (Tryd.f9.params.toList.all fun u => !Tryd.prog.wantsStandIn u) = true := by kernel_rfl
        exact (show Tryd.prog.wantsStandIn t = false by simpa using List.all_eq_true.1 hall t hm)⟩)
    (by kernel_rfl)

end Go.Proofs.YtngofpdpangajaaDoor
