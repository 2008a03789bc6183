/-
  The law RowSorted: what is sorted holds the rows that came in, by their Ids, those of one Id as they stood; sorted again it is the same.
  Conditions: utf8's two tables hold what their texts lay (tied by the card; one is the form's constant).
-/
import Derived.Test.YtfnbehijnmbhjaaDoorU10Awake
import Derived.Test.YtfnbehijnmbhjaaDoorU10Srt2
import Derived.Test.YtfnbehijnmbhjaaDoorS10Same
import Derived.Test.YtfnbehijnmbhjaaDoorW10Laid
import Derived.ChangeMaps
namespace Go.Proofs.YtfnbehijnmbhjaaDoor
set_option linter.unusedVariables false
set_option linter.unusedSimpArgs false
set_option maxRecDepth 10000
open Go.ChangeShapes Go.WideShapes Go.ChangeAt Go.RowKit Go.Sort

set_option maxHeartbeats 2000000 in
theorem rsorted_long (A : Option Addr) (c : Nat) (xs : List Rw) (hm : xs.length ≤ 9223372036854775807) (h : longR xs = true) (w : World) (hR : RwRow w w.heap.size A xs) (hT : TabU w) :
    Calls Tryd.prog 8 #[.slice A xs.length c] w (Tells (.bool true) w.heap.size w) := by
  have cA := fun u hu => awake10_any u hu
  have cL := fun u hu => longR_any A c xs hm u hu
  rw [h] at cL
  go_enter Tryd.func8, Tryd.ntmps8
  go_wp2_with (first
    | (go_at_call 23; refine (cA _ hT).mono ?_; rintro e w1 ⟨rfl, j1⟩; have hR1 := (hR.call j1).more j1.size)
    | (go_at_call 18; refine (cL _ hR1).mono ?_; rintro e w2 ⟨rfl, rfl⟩)
    | fail)
  go_ret
  exact ⟨rfl, j1⟩

/-- Which rows have gone by. -/
def usedA (xs ys : List Rw) (n i : Nat) : Array Value := ((List.range n).map fun j => Value.bool (tk xs ys i j)).toArray
theorem used_at (xs ys : List Rw) (n i j : Nat) (h : j < n) : (usedA xs ys n i)[j]? = some (.bool (tk xs ys i j)) := by
  unfold usedA
  simp [h]
theorem used_none (xs ys : List Rw) (n : Nat) : madeCells #[.bool false] n = usedA xs ys n 0 := by
  apply Array.ext'
  rw [toList_madeCells_one]
  unfold usedA
  apply List.ext_getElem
  · simp
  · intro i h1 h2
    simp [tk_none]
theorem used_next (xs ys : List Rw) (n i p : Nat) (h : ∀ j, j < n → tk xs ys (i + 1) j = (tk xs ys i j || decide (j = p))) (hp : p < n) : (usedA xs ys n i).setIfInBounds p (.bool true) = usedA xs ys n (i + 1) := by
  unfold usedA
  rw [List.setIfInBounds_toArray]
  congr 1
  apply List.ext_getElem
  · simp
  · intro j h1 h2
    have hj : j < n := by simpa using h2
    rw [List.getElem_set]
    simp only [List.getElem_map, List.getElem_range]
    rw [h j hj]
    by_cases e : p = j
    · subst e
      simp
    · rw [if_neg e, decide_eq_false (fun k => e k.symm), Bool.or_false]
theorem infoS_bool : (Tryd.prog.info? 4).map (fun i => (i.zero, i.size, i.bytes)) = some (some (.bool false), 1, 1) := by kernel_rfl
theorem make_used (xs ys : List Rw) (n : Nat) (hn : n ≤ 1000000000) (u : World) : (Instr.makeSlice 58 (.int .i64 (n : Int)) (.int .i64 (n : Int))).run Tryd.prog u = .ok (.slice (some ⟨u.heap.size, 0, none⟩) n n) (u.alloc (.cells (usedA xs ys n 0) 4)) := by
  obtain ⟨i0, hi, hz0, hz1, hz2⟩ := info_parts infoS_bool
  have h := run_make (P := Tryd.prog) u 58 4 i0 _ Tryd.underlying58 hi hz0 .i64 .i64 (n : Int) (n : Int) (by omega) (by omega) (by rw [hz2]; omega) (by omega)
  rw [hz1] at h
  have e : madeCells (Value.bool false).cells ((n : Int).toNat * 1) = usedA xs ys n 0 := by
    rw [show (Value.bool false).cells = #[Value.bool false] from rfl, ← used_none]
    simp
  rw [e] at h
  simpa using h
theorem RwRow.zero {w : World} {B g : Nat} {l : List Rw} (h : RwRow w B (some ⟨g, 0, none⟩) l) {i : Nat} {x : Rw} (hx : l[i]? = some x) :
    g < B ∧ w.cell? ⟨g, i * 3, none⟩ = some (.string x.id) ∧ w.cell? ⟨g, i * 3 + 1, none⟩ = some (.int .u64 x.h) ∧ w.cell? ⟨g, i * 3 + 2, none⟩ = some (.int .u64 x.l) := by
  obtain ⟨ad, e, hl, c0, c1, c2⟩ := h i x hx
  injection e with e
  subst e
  have e1 : (⟨g, 0, none⟩ : Addr).add (i * 3) = ⟨g, i * 3, none⟩ := by simp [Addr.add]; exact fun hj => hj.symm
  rw [e1] at c0 c1 c2
  exact ⟨hl, c0, c1, c2⟩
theorem RwRow.some {w : World} {B : Nat} {ad : Addr} {l : List Rw} (h : RwRow w B (some ad) l) {i : Nat} {x : Rw} (hx : l[i]? = some x) : (ad.add (i * 3)).block < B ∧ RwAt w (ad.add (i * 3)) x := by
  obtain ⟨ad', e, hl, c⟩ := h i x hx
  injection e with e
  subst e
  exact ⟨by rw [o10_block]; exact hl, c⟩
set_option maxRecDepth 100000 in
set_option maxHeartbeats 8000000 in
theorem rsorted_short (A : Option Addr) (c : Nat) (xs : List Rw) (h : longR xs = false) (w : World) (hR : RwRow w w.heap.size A xs) (hT : TabU w) :
    Calls Tryd.prog 8 #[.slice A xs.length c] w (Tells (.bool true) w.heap.size w) := by
  obtain ⟨hlen, hid⟩ := longR_no h
  have cA := fun u hu => awake10_any u hu
  have cL := fun u hu => longR_any A c xs (by omega) u hu
  rw [h] at cL
  have HZ := hideIt (fun x hx => Nat.le_trans (hid x hx) (by decide) : ∀ x ∈ xs, x.id.size ≤ 1000000)
  have cS := fun u hu => rowsort2_any A c xs (by omega) HZ.out u hu
  clear hid h
  obtain ⟨n, hn⟩ : ∃ n, xs.length = n := ⟨_, rfl⟩
  rw [hn] at cS cL hlen ⊢
  go_enter Tryd.func8, Tryd.ntmps8
  go_upto_region 5 with (first
    | (go_at_call 23; refine (cA _ hT).mono ?_; rintro e w1 ⟨rfl, j1⟩; have hR1 := (hR.call j1).more j1.size)
    | (go_at_call 18; refine (cL _ hR1).mono ?_; rintro e w2 ⟨rfl, rfl⟩)
    | fail)
  go_upto_region 6 with (first
    | (go_at_call 21; refine (cS _ hR1).mono ?_; rintro e w3 ⟨g, ys, rfl, hg, hys, hRy, j3, hSd⟩)
    | fail)
  have hL3 := chain j1 j3
  have hRx := (hR1.call j3).more j3.size
  have hRy2 := hRy.row
  rw [List.toList_toArray] at hRy2
  have HSd := hideIt hSd
  have cS2 := fun u hu => rowsort2_any (some ⟨g, 0, none⟩) n ys (by omega) (HSd.out.ids HZ.out) u hu
  have cE := fun g2 u h1 h2 => rsame_any (some ⟨g2, 0, none⟩) (some ⟨g, 0, none⟩) n n ys (by omega) u h1 h2
  rw [hys] at cS2 cE
  clear cS cA cL hSd hR1
  go_upto_region 8 with (first
    | (go_at_call 21; refine (cS2 _ hRy2).mono ?_; rintro e w4 ⟨g2, zs, rfl, hg2, hzs, hRz, j4, hSz⟩
       have hzy := hSz.same HSd.out.self
       subst hzy
       have hRz2 := hRz.row
       rw [List.toList_toArray] at hRz2
       have hRy4 := (hRy2.call j4).more j4.size
       have hRx4 := (hRx.call j4).more j4.size
       have hL4 := chain hL3 j4
       clear hSz)
    | (go_at_call 17; refine (cE g2 _ hRz2 hRy4).mono ?_; rintro e w5 ⟨rfl, j5⟩
       have hRx5 := (hRx4.call j5).more j5.size
       have hRy5 := (hRy4.call j5).more j5.size
       have hL5 := chain hL4 j5)
    | fail)
  have hmk := make_used xs zs n (by omega) w5
  have U0 := Box.made w5 4 (usedA xs zs n 0)
  have L6 := (Below.refl w5.heap.size w5).alloc (Nat.le_refl _) (.cells (usedA xs zs n 0) 4)
  have hRx6 := hRx5.call L6
  have hRy6 := hRy5.call L6
  have hL6 := chain hL5 L6
  obtain ⟨gu, hgu⟩ : ∃ gu, w5.heap.size = gu := ⟨_, rfl⟩
  have hwg := hL5.size
  clear hR hT j1 j3 j4 j5 hL3 hRx hRz hRy hRy2 cS2 cE hRz2 hRy4 hRx4 hL4 hRx5 hRy5 hL5 hg hg2
  go_upto_region 9 with fail
  rw [hgu] at U0 L6 hRx6 hRy6
  generalize w5.alloc (.cells (usedA xs zs n 0) 4) = W at *
  clear hmk
  go_wp2
  go_loopg [5, 6] n (fun gk vL vi wr => ∃ (i : Nat) (L : Int), vL = .int .i64 L ∧ vi = .int .i64 i ∧ i ≤ n ∧ n - i ≤ gk ∧ Box wr gu 4 (usedA xs zs n i) ∧ Below gu W wr ∧ Hid (La xs zs i L))
  case atStart => exact ⟨0, -1, by go_num, by go_num, Nat.zero_le _, by omega, U0, Below.refl _ _, La.none _ _ _⟩
  case round =>
    obtain ⟨i, L, rfl, rfl, hin, hgk, hU, hb, hLa⟩ := hrel
    by_cases hlt : i < n
    · have hlti : (i : Int) < (n : Int) := by omega
      obtain ⟨p, hp, hpe, hpc, hpf, hpb, hpn⟩ := tk_find xs zs HSd.out i (by omega)
      have HPE := hideIt hpe
      have HPC := hideIt hpc
      have HPF := hideIt hpf
      have HPB := hideIt hpb
      have HPN := hideIt hpn
      clear hpe hpc hpf hpb hpn
      obtain ⟨y, hy⟩ : ∃ y, zs[i]! = y := ⟨_, rfl⟩
      have HY := hideIt hy
      have hyi : zs[i]? = some y := by rw [at_bang (by omega), hy]
      clear hy
      obtain ⟨I, hI⟩ : ∃ I, i - 1 = I := ⟨_, rfl⟩
      obtain ⟨z, hz⟩ : ∃ z, zs[I]! = z := ⟨_, rfl⟩
      have HZI := hideIt hz
      have hzi : zs[I]? = some z := by rw [at_bang (by omega), hz]
      clear hz
      have HIQ := hideIt hI
      obtain ⟨ad, hA, -⟩ := hRx6 i _ (at_bang (by omega))
      subst hA
      have i1 : (i : Int) < (n : Int) := hlti
      have hgu2 : gu ≤ wr.heap.size := by have := hU.inside; omega
      have hSl : 0 < i → ¬ LR y z := fun k => by
        have hI := HIQ.out
        have h1 := List.pairwise_iff_getElem.1 HSd.out.1 I i (by omega) (by omega) (by omega)
        rw [← getElem!_pos zs I (by omega), ← getElem!_pos zs i (by omega), HY.out, HZI.out] at h1
        exact h1
      go_upto_region 13 with fail
      go_cut [6, 51] from 30 to 118 (fun s6 s51 wx => s6 = .int .i64 i ∧ s51 = .bool false ∧ Box wx gu 4 (usedA xs zs n i) ∧ Below gu W wx)
      case first =>
        obtain ⟨y3, y0, -, -⟩ := (hRy6.call hb).zero hyi
        by_cases hi0 : i = 0
        · have hi0i : decide ((i : Int) > 0) = false := decide_eq_false (by omega)
          have hi0n : ¬ (0 : Int) < (i : Int) := by omega
          go_quiet (fail)
          go_wp2_with fail
          go_meet
          exact ⟨by first | rfl | simp [hi0], rfl, hU, below_drewN hb _⟩
        · have hi0i : (0 : Int) < (i : Int) := by omega
          have hi0p : 0 < i := by omega
          have w1 : IntKind.i64.wrap ((i : Int) - 1) = (I : Int) := by have := HIQ.out; rw [IntKind.wrap_i64]; omega
          have i2 : (I : Int) < (n : Int) := by have := HIQ.out; omega
          obtain ⟨-, z0, -, -⟩ := (hRy6.call hb).zero hzi
          have hq := bless_no (hSl (by omega))
          go_quiet (fail)
          go_wp2_with fail
          go_meet
          exact ⟨by first | rfl | simp [hi0], rfl, hU, below_drewN hb _⟩
      case rest =>
        obtain ⟨rfl, rfl, hU2, hb2⟩ := hcut
        generalize wc = W1 at *
        clear hU hb
        go_upto_region 15 with fail
        go_cut [6, 67] from 30 to 118 (fun s6 s67 wx => ∃ bq : Bool, s6 = .int .i64 i ∧ s67 = .bool bq ∧ Hid (bq = false → i = 0 ∨ keyR y = keyR z) ∧ Box wx gu 4 (usedA xs zs n i) ∧ Below gu W wx)
        case first =>
          obtain ⟨y3, y0, -, -⟩ := (hRy6.call hb2).zero hyi
          by_cases hi0 : i = 0
          · have hi0i : decide ((i : Int) > 0) = false := decide_eq_false (by omega)
            have hi0n : ¬ (0 : Int) < (i : Int) := by omega
            go_quiet (fail)
            go_wp2_with fail
            go_meet
            exact ⟨false, by first | rfl | simp [hi0], rfl, fun _ => .inl hi0, hU2, below_drewN hb2 _⟩
          · have hi0i : (0 : Int) < (i : Int) := by omega
            have hi0p : 0 < i := by omega
            have w1 : IntKind.i64.wrap ((i : Int) - 1) = (I : Int) := by have := HIQ.out; rw [IntKind.wrap_i64]; omega
            have i2 : (I : Int) < (n : Int) := by have := HIQ.out; omega
            obtain ⟨-, z0, -, -⟩ := (hRy6.call hb2).zero hzi
            by_cases hkk : keyR y = keyR z
            · have hq := same_id hkk
              go_quiet (fail)
              go_wp2_with fail
              go_meet
              exact ⟨false, rfl, rfl, fun _ => .inr hkk, hU2, below_drewN hb2 _⟩
            · have hq := other_id hkk
              go_quiet (fail)
              go_wp2_with fail
              go_meet
              exact ⟨true, rfl, rfl, fun k => Bool.noConfusion k, hU2, below_drewN hb2 _⟩
        case rest =>
          obtain ⟨bq, rfl, rfl, HB, hU3, hb3⟩ := hcut
          generalize wc = W2 at *
          clear hU2 hb2
          go_upto_if 67 with fail
          go_cut [5] from 30 to 118 (fun s5 wx => ∃ L' : Int, s5 = .int .i64 L' ∧ Hid (L' ≤ p) ∧ wx = W2)
          case first =>
            cases bq with
            | true =>
              go_wp2_with fail
              go_meet
              exact ⟨-1, rfl, (by show (-1 : Int) ≤ p; omega), rfl⟩
            | false =>
              go_wp2_with fail
              go_meet
              refine ⟨L, rfl, La.less hLa.out ?_ hp HPC.out, rfl⟩
              rcases HB.out (by simp) with k | k
              · rcases hLa.out with q | ⟨q, -, -, q2, -⟩
                · exact .inl q
                · omega
              · right
                have hI := HIQ.out
                rw [HY.out, hI, HZI.out]
                exact k
          case rest =>
            obtain ⟨L', rfl, HL, hwc⟩ := hcut
            have hwc' := hwc.symm
            clear hwc
            subst hwc'
            go_wp2
            go_loopg [7, 8] n (fun g3 vf vk wr => ∃ (f : Int) (k : Nat), vf = .int .i64 f ∧ vk = .int .i64 k ∧ k ≤ n ∧ n - k ≤ g3 ∧ Box wr gu 4 (usedA xs zs n i) ∧ Below gu W wr ∧ Hid ((f = -1 ∧ k ≤ p) ∨ (f = p ∧ k = p + 1)))
            case atStart => exact ⟨-1, 0, by go_num, by go_num, Nat.zero_le _, by omega, hU3, hb3, Or.inl ⟨rfl, Nat.zero_le _⟩⟩
            case round =>
              obtain ⟨f, k, rfl, rfl, hkn, hg3, hU4, hb4, HF⟩ := hrel
              obtain ⟨y3, y0, y1, y2⟩ := (hRy6.call hb4).zero hyi
              have hgw : gu < wr.heap.size := hU4.inside
              have hgg : g < wr.heap.size := by omega
              rcases HF.out with ⟨hf, hk⟩ | ⟨hf, hk⟩
              · subst hf
                have hkl : k < n := by omega
                have hki : (k : Int) < (n : Int) := by omega
                obtain ⟨x, hx⟩ : ∃ x, xs[k]! = x := ⟨_, rfl⟩
                obtain ⟨x3, x0, -, -⟩ := (hRx6.call hb4).some (i := k) (x := x) (by rw [at_bang (by omega), hx])
                have x4 : (ad.add (k * 3)).block < wr.heap.size := by omega
                obtain ⟨t, ht⟩ : ∃ t, tk xs zs i k = t := ⟨_, rfl⟩
                have t0 : wr.cell? ⟨gu, k, none⟩ = some (.bool t) := by
                  rw [Box.read hU4, used_at xs zs n i k hkl, ht]
                have HX := hideIt hx
                have HT := hideIt ht
                clear hx ht
                cases t with
                | true =>
                  have hkp : k ≠ p := fun e => by
                    have h1 := HT.out
                    have h2 := HPF.out
                    rw [e, h2] at h1
                    exact Bool.noConfusion h1
                  go_upto_region 21 with fail
                  go_quiet (fail)
                  go_wp2
                  go_roundg (n - (k + 1))
                  case measure => omega
                  case rel => exact ⟨-1, k + 1, rfl, by go_num, by omega, by omega, hU4, below_drewN hb4 _, Or.inl ⟨rfl, by omega⟩⟩
                | false =>
                  by_cases hkk : keyR x = keyR y
                  · have hq := same_id hkk
                    have hkp : k = p := by
                      by_cases e : k = p
                      · exact e
                      · have h1 := HPB.out k (by omega) (by rw [HX.out, HY.out]; exact hkk)
                        rw [HT.out] at h1
                        exact Bool.noConfusion h1
                    have HKP := hideIt hkp
                    clear hkp
                    go_upto_region 21 with fail
                    go_quiet (fail)
                    go_wp2
                    go_roundg (n - (k + 1))
                    case measure => omega
                    case rel => exact ⟨k, k + 1, rfl, by go_num, by omega, by omega, hU4, below_drewN hb4 _, Or.inr (by have := HKP.out; exact ⟨by omega, by omega⟩)⟩
                  · have hq := other_id hkk
                    have hkp : k ≠ p := fun e => hkk (by
                      have h1 := HPE.out
                      rw [← e, HX.out, HY.out] at h1
                      rw [h1])
                    go_upto_region 21 with fail
                    go_quiet (fail)
                    go_wp2
                    go_roundg (n - (k + 1))
                    case measure => omega
                    case rel => exact ⟨-1, k + 1, rfl, by go_num, by omega, by omega, hU4, below_drewN hb4 _, Or.inl ⟨rfl, by omega⟩⟩
              · subst hf
                have hp0 : ¬ (p : Int) < 0 := by omega
                have hp1 : (p : Int) < (n : Int) := by omega
                have hpL : ¬ (p : Int) < L' := by have := HL.out; omega
                obtain ⟨x3, x0, x1, x2⟩ := (hRx6.call hb4).some (i := p) (x := y) (by rw [at_bang (by omega), HPE.out, HY.out])
                have x4 : (ad.add (p * 3)).block < wr.heap.size := by omega
                have hq1 : ∀ u : World, (binOp .neq 26 (.agg #[.string y.id, .int .u64 y.h, .int .u64 y.l]) (.agg #[.string y.id, .int .u64 y.h, .int .u64 y.l])).run Tryd.prog u = .ok (.bool false) u := fun u => by
                  have h := run_neq_rw y y u
                  rw [Rw.same_self] at h
                  exact h
                have F1 : ∀ m, (wr.drewN m).cell? ⟨gu, p, none⟩ = some (.bool false) := fun m => by
                  rw [Box.read (show Box (wr.drewN m) gu 4 (usedA xs zs n i) from hU4), used_at xs zs n i p (by omega), HPF.out]
                have F2 : ∀ m, (wr.drewN m).frozen? ⟨gu, p, none⟩ = false := fun m => Box.free (show Box (wr.drewN m) gu 4 (usedA xs zs n i) from hU4) p
                by_cases hkl : k < n
                · have hki : (k : Int) < (n : Int) := by omega
                  go_upto_region 23 with fail
                  go_quiet (fail)
                  go_wp2
                  go_roundg (n - (i + 1))
                  case measure => omega
                  case rel =>
                    refine ⟨i + 1, p, rfl, by go_num, hlt, Nat.le_refl _, ?_, (below_drewN hb4 _).setCell (p := ⟨gu, p, none⟩) (Nat.le_refl _) _, La.next (by omega) hp HPE.out HPC.out⟩
                    rw [← used_next xs zs n i p (fun j hj => HPN.out j (by omega)) (by omega)]
                    exact Box.wrote (show Box (wr.drewN _) gu 4 (usedA xs zs n i) from hU4) p (.bool true)
                · have hki : ¬ (k : Int) < (n : Int) := by omega
                  go_upto_region 23 with fail
                  go_quiet (fail)
                  go_wp2
                  go_roundg (n - (i + 1))
                  case measure => omega
                  case rel =>
                    refine ⟨i + 1, p, rfl, by go_num, hlt, Nat.le_refl _, ?_, (below_drewN hb4 _).setCell (p := ⟨gu, p, none⟩) (Nat.le_refl _) _, La.next (by omega) hp HPE.out HPC.out⟩
                    rw [← used_next xs zs n i p (fun j hj => HPN.out j (by omega)) (by omega)]
                    exact Box.wrote (show Box (wr.drewN _) gu 4 (usedA xs zs n i) from hU4) p (.bool true)
    · have hlti : ¬ (i : Int) < (n : Int) := by omega
      go_wp2
      go_ret
      exact ⟨rfl, hL6.trans (hb.mono (by omega))⟩

theorem rowSorted_core (H : Type) (enc : TypeId × Value → H) (W : World) (base : Nat) (args : Array Value) (ds gs : List (DataW H)) (before : List MemPlace)
    (hval : ∀ (j : Nat) t v, Tryd.f8.params[j]? = some t → args[j]? = some v → Value.okWide Tryd.prog W .any base t v)
    (hW : DataW.Whole enc Tryd.prog Tryd.f8.params.toList Rows.rowSortedSpec.vars false W args.toList ds gs before) (hT : TabU W) :
    gs = [] ∧ ds.length = 1 ∧ Calls Tryd.prog 8 args W (Tells (.bool true) W.heap.size W) := by
  obtain ⟨p, q, hA, hV, -, -, -⟩ := hW
  obtain ⟨rfl, rfl⟩ := trodVars_none hV
  have hA : DataW.TrodAll enc Tryd.prog W 0 (fun _ => true) true Tryd.f8.params.toList args.toList ds p := hA
  rw [Tryd.params8] at hA hval
  obtain ⟨v0, vs0, d0, ds0, p0, ps0, e0, rfl, -, h0, hA⟩ := trodAll_cons hA
  obtain ⟨rfl, rfl, rfl⟩ := trodAll_nil hA
  obtain rfl : args = #[v0] := Array.ext' e0
  obtain ⟨A, c, xs, rfl, z1, -, -, z2, z3⟩ := open_rows (hval 0 41 v0 rfl rfl) h0
  refine ⟨rfl, rfl, ?_⟩
  cases hq : longR xs with
  | true => exact rsorted_long A c xs z1 hq W z3 hT
  | false => exact rsorted_short A c xs hq W z3 hT

set_option maxRecDepth 100000 in
theorem rowSorted_lifted (os : Os) (started : os.Started) (H : Type) (enc : TypeId × Value → H) :
    ReturnsInHanded {} Tryd.checked os 8 .any (fun w args => (Rows.rowSortedSpec.pre enc Tryd.prog Tryd.f8 [] false w args ∧ laidMetH Tryd.prog laidU w) ∧ sizedMet enc Tryd.prog Tryd.f8 (OpenSpec.ofChange Rows.rowSortedSpec) false w args)
      (Rows.rowSortedSpec.post enc Tryd.prog Tryd.f8 false true false false) := by
  refine returnsInHanded_of_change_and (C := Tryd.checked) (X := fun w _ => laidMetH Tryd.prog laidU w) (fun _ _ _ hh h => h.of_heap hh) own_knob started (by kernel_rfl) Tryd.func8
    (ChangeSpec.witness_shaped (enc := enc) (C := Tryd.checked) (os := os) (X := fun w _ => laidMetH Tryd.prog laidU w) false (World.laidAll Tryd.prog os laidU) #[.slice none 0 0] 8 (World.laidAll_os _ _ _) (World.shaped_of_ZipB (by kernel_rfl) (by kernel_rfl)) (by kernel_rfl) (by kernel_rfl) (by kernel_rfl) (met_U os _)) ?_
  intro W base args ds gs before hval0 hW _ hwt hL _
  have hval : ∀ (j : Nat) t v, Tryd.f8.params[j]? = some t → args[j]? = some v → Value.okWide Tryd.prog W .any base t v := hval0
  obtain ⟨hg, hlen, hc⟩ := rowSorted_core H enc W base args ds gs before hval hW (tab_of_laidU hL)
  subst hg
  have hr : (Tryd.f8.params.toList.all fun t => Tryd.prog.readableRec t && decide (t < Tryd.prog.types.size)) = true := by kernel_rfl
  have hread : ∀ t ∈ Tryd.f8.params.toList, Tryd.prog.readableRec t = true ∧ t < Tryd.prog.types.size := fun t ht => by
    have h := List.all_eq_true.1 hr t ht
    rw [Bool.and_eq_true, decide_eq_true_eq] at h
    exact h
  refine hc.mono fun e W' ⟨he, hb⟩ => ?_
  subst he
  match ds, hlen with
  | [d0], _ => exact ⟨_, rfl, law_post laid_out Tryd.underlying4 rfl hread rfl hW rfl rfl rfl hb⟩

theorem rowSorted_holds : Rows.RowSortedSaid :=
  OpenClaim.holds_of_wide 8 Tryd.f8 rfl rfl rfl rfl rfl rfl rfl ⟨rfl, rfl, rfl, rfl, rfl⟩ rfl rfl rfl rfl rfl (by kernel_rfl) Tryd.func8 (by kernel_rfl)
    (of_decide_eq_true (by kernel_rfl)) (by unfold Func.isWrapper; first | (rw [if_pos (by decide +kernel)]; kernel_rfl) | (rw [if_neg (by decide +kernel)]; exact ⟨rfl, rfl⟩))
    (fun os started H enc _ => rowSorted_lifted os started H enc)

theorem rowSorted_card : Rows.RowSortedCardSaid :=
  Claim7.holds_tied_plain_at .later [] [.data, .pinned] true _ false
    rowSorted_holds (fun _ h => by cases h) (by kernel_rfl) (fun _ h => by cases h) rowSorted_row_tie rfl ⟨rfl, rfl⟩ (by kernel_rfl) rfl
    (fun f fn hf hfn => by
      obtain rfl : f = 8 := Option.some.inj ((show Tryd.prog.funcNamed "paymaster/paymasterlaw10.RowSorted" = some 8 by kernel_rfl).symm.trans hf) |>.symm
      obtain rfl : fn = Tryd.f8 := (Option.some.inj (Tryd.func8.symm.trans hfn)).symm
      exact ⟨by kernel_rfl, fun j t ht => by
        have hm : t ∈ Tryd.f8.params.toList := by simpa using Array.mem_of_getElem? ht
        have hall : (Tryd.f8.params.toList.all fun u => !Tryd.prog.wantsStandIn u) = true := by kernel_rfl
        exact (show Tryd.prog.wantsStandIn t = false by simpa using List.all_eq_true.1 hall t hm)⟩)
    (by kernel_rfl)

end Go.Proofs.YtfnbehijnmbhjaaDoor
