/-
  The law of layer 2 on places: a number is each digit, times ten to its place, all together; its first digit isn't 0, unless it is 0 itself; any number, no condition.
-/
import Derived.Test.YtieieafjakcnpaaL2Back
import Derived.Deep.RegionHeld3
import Derived.Deep.CutRange
namespace Go.Proofs.Ytieieafjakcnpaa
set_option linter.unusedVariables false
set_option linter.unusedSimpArgs false
open Go.ChangeShapes Go.WideShapes Go.ChangeAt Go.RowKit

/-- The number of the lowest k digits. -/
theorem low_step (n k : Nat) : n % 10 ^ (k + 1) = n % 10 ^ k + 10 ^ k * (n / 10 ^ k % 10) := by
  rw [Nat.pow_succ, Nat.mod_mul]
theorem ten_39 {k : Nat} (h : k ≤ 38) : (10 : Nat) ^ k ≤ 100000000000000000000000000000000000000 := Nat.pow_le_pow_right (by decide) h
theorem digAt_top {n : Nat} (h : n ≠ 0) : n / 10 ^ ((decL n).length - 1) % 10 ≠ 0 := by
  have hp := decL_pos n
  have h1 : n < 10 ^ (decL n).length := (decL_len hp).1 (Nat.le_refl _)
  have h2 : 10 ^ ((decL n).length - 1) ≤ n := by
    rcases Nat.lt_or_ge 1 (decL n).length with h3 | h3
    · rcases Nat.lt_or_ge n (10 ^ ((decL n).length - 1)) with h4 | h4
      · exact absurd ((decL_len (by omega)).2 h4) (by omega)
      · exact h4
    · rw [show (decL n).length - 1 = 0 by omega]; simp; omega
  obtain ⟨m, hm⟩ : ∃ m, (decL n).length - 1 = m := ⟨_, rfl⟩
  rw [show (decL n).length = m + 1 by omega, Nat.pow_succ] at h1
  rw [hm] at h2 ⊢
  have h3 : 0 < 10 ^ m := Nat.pow_pos (by decide)
  have h4 : n / 10 ^ m < 10 := Nat.div_lt_of_lt_mul h1
  have h5 : 0 < n / 10 ^ m := Nat.div_pos h2 h3
  omega

theorem nv_eq2 {ah al bh bl : Int} (a1 : Word ah) (a0 : Word al) (b1 : Word bh) (b0 : Word bl) : (ah == bh && al == bl) = decide (nv ah al = nv bh bl) := by
  obtain ⟨_, _⟩ := a1; obtain ⟨_, _⟩ := a0; obtain ⟨_, _⟩ := b1; obtain ⟨_, _⟩ := b0
  rw [Bool.eq_iff_iff]
  simp only [Bool.and_eq_true, beq_iff_eq, decide_eq_true_eq]
  constructor
  · rintro ⟨rfl, rfl⟩; rfl
  · intro h; unfold nv at h; exact ⟨by omega, by omega⟩

set_option maxRecDepth 100000 in
set_option maxHeartbeats 16000000 in
theorem places_walk (ah al : Int) (a1 : Word ah) (a0 : Word al) (w : World) :
    Calls Try.prog 7 #[.agg #[.int .u64 ah, .int .u64 al]] w (Tells (.bool true) w.heap.size w) := by
  have P0 : OneIn w ah al (w.alloc (.cells #[.int .u64 ah, .int .u64 al] 24)) := ⟨Box.made w 24 #[.int .u64 ah, .int .u64 al], by repeat (first | exact Below.refl _ _ | apply Below.drew | apply below_drewN | refine Below.alloc ?_ (by simp; try omega) _ | refine Below.setCell ?_ (by simp; try omega) _)⟩
  have hnv := nv_word a1 a0
  have cN := fun u : World => ndigits_any ah al a1 a0 u
  have cD := fun (k : Int) (h1 : -9223372036854775808 ≤ k) (h2 : k < 9223372036854775808) (u : World) => ddigit_any ah al k a1 a0 h1 h2 u
  have hc := nv_toNat a1 a0
  obtain ⟨N, hN⟩ : ∃ N, (nv ah al).toNat = N := ⟨_, rfl⟩
  rw [hN] at cN cD hc
  have h39 : (decL N).length ≤ 39 := decL_39 (by omega)
  have hpos := decL_pos N
  have hlen := (decL_len (n := N) hpos).1 (Nat.le_refl _)
  have htop := @digAt_top N
  have hpast : digAt N ((decL N).length : Int) = 0 := digAt_past (Nat.le_refl _)
  obtain ⟨n, hn⟩ : ∃ n, (decL N).length = n := ⟨_, rfl⟩
  rw [hn] at cN h39 hpos hlen htop hpast
  have hq := fun u : World => run_neq_num ah al 0 0 u
  have hz : (!(ah == 0 && al == 0)) = decide (N ≠ 0) := by
    have := num_none (m := N) (room_iff.2 ⟨by omega, by omega⟩)
    rw [hc, rh_nv a1 a0, rl_nv a1 a0] at this
    exact this
  rw [hz] at hq
  have HN := hideIt hc
  have HL := hideIt hlen
  have HT := hideIt htop
  have HP := hideIt hpast
  have HNV := hideIt hnv
  clear hz hc hlen htop hpast hnv hN hn
  have n1 : ¬ (n : Int) < 1 := by omega
  have n2 : ¬ (39 : Int) < (n : Int) := by omega
  have v1 : IntKind.i64.wrap ((n : Int) - 1) = ((n - 1 : Nat) : Int) := by rw [show (n : Int) - 1 = ((n - 1 : Nat) : Int) by omega]; exact IntWalk.i64_in _ (by omega)
  have c1 := fun u : World => cD ((n - 1 : Nat) : Int) (by omega) (by omega) u
  have c2 := fun u : World => cD (n : Int) (by omega) (by omega) u
  have c3 := fun u : World => cD (-1) (by decide) (by decide) u
  rw [HP.out] at c2
  rw [digAt_neg (by decide)] at c3
  rw [digAt_nat] at c1
  obtain ⟨dd, hdd⟩ : ∃ dd, N / 10 ^ (n - 1) % 10 = dd := ⟨_, rfl⟩
  rw [hdd] at c1
  have hd0 : N ≠ 0 → dd ≠ 0 := fun h => by rw [← hdd]; exact HT.out h
  obtain ⟨z, hz⟩ : ∃ z, decide (N ≠ 0) = z := ⟨_, rfl⟩
  rw [hz] at hq
  have hzz : ((dd : Int) == 0 && z) = false := by
    cases z
    · simp
    · have h1 := hd0 (of_decide_eq_true hz)
      have : ((dd : Int) == 0) = false := by rw [beq_eq_false_iff_ne]; omega
      rw [this]; rfl
  obtain ⟨m1, hm1⟩ : ∃ m1, n - 1 = m1 := ⟨_, rfl⟩
  rw [hm1] at c1 v1
  clear hm1
  have HDD := hideIt hdd
  have HZ := hideIt hz
  have HD0 := hideIt hd0
  clear hdd hz hd0
  go_enter Try.func7, Try.ntmps7
  go_upto_region 5 with (first
    | (go_at_call 20; refine (dawake_any _).mono ?_; rintro e w1 ⟨rfl, h1⟩
       have P1 := (P0.call h1).past (.cells #[.int .u64 0, .int .u64 0] 24)
       have S1 := Box.made w1 24 #[.int .u64 0, .int .u64 0]
       obtain ⟨p1, p2, p3⟩ := P1.1.num)
    | (go_at_call 17; refine (cN _).mono ?_; rintro e w2 ⟨rfl, h2⟩))
  have P2 := P1.call h2
  have S2 := S1.call h2
  obtain ⟨g, eg⟩ : ∃ g, w1.heap.size = g := ⟨_, rfl⟩
  have hwg : w.heap.size < g := by have := (P0.call h1).1.inside; omega
  rw [eg] at S2 ⊢
  clear p1 p2 p3 P0 P1 S1 h1 h2 eg cN
  obtain ⟨p1, p2, p3⟩ := P2.1.num
  go_cut [45] from 17 to 46 (fun s45 wx => s45 = .bool false ∧ OneIn w ah al wx ∧ Box wx g 24 #[.int .u64 0, .int .u64 0])
  case first =>
    by_cases hdd : dd = 0
    · have hz0 : z = false := by
        subst hdd
        simpa using hzz
      subst hdd hz0
      clear hzz
      go_wp2_with (first
        | (go_at_call_of 18 (Value.int IntKind.i64 (m1 : Int)); refine (c1 _).mono ?_; rintro e w3 ⟨rfl, h3⟩
           have P3 := P2.call h3
           have S3 := S2.call h3
           obtain ⟨q1, q2, q3⟩ := P3.1.num)
        | (go_at_call_of 18 (Value.int IntKind.i64 (n : Int)); refine (c2 _).mono ?_; rintro e w4 ⟨rfl, h4⟩
           have P4 := P3.call h4
           have S4 := S3.call h4
           obtain ⟨r1, r2, r3⟩ := P4.1.num)
        | (go_at_call 18; refine (c3 _).mono ?_; rintro e w5 ⟨rfl, h5⟩
           have P5 := P4.call h5
           have S5 := S4.call h5))
      all_goals go_wp2_with fail
      all_goals go_meet
      exact ⟨by rw [decide_eq_false (by omega : ¬ (n : Int) < 1), decide_eq_false (by omega : ¬ (39 : Int) < (n : Int))]; rfl, P5, S5⟩
    · have hdd2 : ((dd : Int) == 0) = false := by rw [beq_eq_false_iff_ne]; omega
      clear hzz
      go_wp2_with (first
        | (go_at_call_of 18 (Value.int IntKind.i64 (m1 : Int)); refine (c1 _).mono ?_; rintro e w3 ⟨rfl, h3⟩
           have P3 := P2.call h3
           have S3 := S2.call h3
           obtain ⟨q1, q2, q3⟩ := P3.1.num)
        | (go_at_call_of 18 (Value.int IntKind.i64 (n : Int)); refine (c2 _).mono ?_; rintro e w4 ⟨rfl, h4⟩
           have P4 := P3.call h4
           have S4 := S3.call h4
           obtain ⟨r1, r2, r3⟩ := P4.1.num)
        | (go_at_call 18; refine (c3 _).mono ?_; rintro e w5 ⟨rfl, h5⟩
           have P5 := P4.call h5
           have S5 := S4.call h5))
      all_goals go_wp2_with fail
      all_goals go_meet
      exact ⟨by rw [decide_eq_false (by omega : ¬ (n : Int) < 1), decide_eq_false (by omega : ¬ (39 : Int) < (n : Int))]; rfl, P5, S5⟩
  case rest =>
    obtain ⟨rfl, P6, S6⟩ := hcut
    clear p1 p2 p3 P2 S2 c1 c2 c3 hq hzz
    have c2' := P6.1.inside
    go_upto_region 8 with fail
    go_wp2_with fail
    go_loopg [5] n (fun gk kv wr => ∃ (k : Nat) (x y : Int), k ≤ n ∧ gk = n - k ∧ kv = .int .i64 k ∧ rh ((N % 10 ^ k : Nat) : Int) = x ∧ rl ((N % 10 ^ k : Nat) : Int) = y ∧
      OneIn w ah al wr ∧ Box wr g 24 #[.int .u64 x, .int .u64 y])
    case atStart => exact ⟨0, 0, 0, Nat.zero_le _, rfl, rfl, by simp [Nat.mod_one, rh, room], by simp [Nat.mod_one, rl, room], P6, S6⟩
    case round =>
      obtain ⟨k, x, y, hk, hgk, rfl, hx, hy, P7, S7⟩ := hrel
      have HG := hideIt hgk
      have wx : Word x := by rw [← hx]; exact rh_word _
      have wy : Word y := by rw [← hy]; exact rl_word _
      have hNb : (N : Int) < 340282366920938463463374607431768211456 := by have := HNV.out; have := HN.out; omega
      have hlow : N % 10 ^ k ≤ N := Nat.mod_le _ _
      have hv : nv x y = ((N % 10 ^ k : Nat) : Int) := by rw [← hx, ← hy]; exact nv_r (room_iff.2 ⟨by omega, by omega⟩)
      clear hgk P6 S6 c2' hx hy
      obtain ⟨p1, p2, p3⟩ := P7.1.num
      obtain ⟨s1, s2, s3⟩ := S7.num
      by_cases hlt : k < n
      · have cDk := fun u : World => cD (k : Int) (by omega) (by omega) u
        rw [digAt_nat] at cDk
        have hstep := low_step N k
        have hlow2 : N % 10 ^ (k + 1) ≤ N := Nat.mod_le _ _
        have h38 := ten_39 (k := k) (by omega)
        obtain ⟨d, hd⟩ : ∃ d, N / 10 ^ k % 10 = d := ⟨_, rfl⟩
        have hd9 : d < 10 := by omega
        rw [hd] at cDk hstep
        have e10 : ((10 ^ k : Nat) : Int) = (10 : Int) ^ k := by simp
        obtain ⟨th, tl, wt1, wt0, ht⟩ := halves (s := (10 : Int) ^ k) (Int.le_of_lt (ten_pos k)) (by omega)
        have cTen := fun u : World => (ten_any (k : Int) (by omega) (by omega) u).mono fun e w' (hf : TenTells _ _ _ _ _) =>
          (⟨by rw [hf.1, (ten_nat k).1, (ten_nat k).2.1, (ten_nat k).2.2, ← ht, rh_nv wt1 wt0, rl_nv wt1 wt0, re_nv wt1 wt0], hf.2⟩ : e = .returned (.tuple #[.agg #[.int .u64 th, .int .u64 tl], .int .i64 0]) ∧ Below u.heap.size u w')
        have hpd : (10 : Int) ^ k * (d : Int) = ((10 ^ k * d : Nat) : Int) := by simp
        obtain ⟨ph, pl, wp1, wp0, hp⟩ := halves (s := (10 : Int) ^ k * (d : Int)) (by rw [hpd]; omega) (by rw [hpd]; omega)
        have cTi := fun u : World => (times_any th tl (d : Int) wt1 wt0 ⟨by omega, by omega⟩ u).mono fun e w' hf => Fit.yes (h := ph) (l := pl) (by rw [ht]; exact hp) wp1 wp0 hf
        obtain ⟨nh, nl, wn1, wn0, hn⟩ := halves (s := ((N % 10 ^ (k + 1) : Nat) : Int)) (by omega) (by omega)
        have cAd := fun u : World => (add_any x y ph pl wx wy wp1 wp0 u).mono fun e w' hf => Fit.yes (h := nh) (l := nl) (by rw [hn, hv, hp, hpd, hstep]; omega) wn1 wn0 hf
        have hnh : rh ((N % 10 ^ (k + 1) : Nat) : Int) = nh := by rw [← hn, rh_nv wn1 wn0]
        have hnl : rl ((N % 10 ^ (k + 1) : Nat) : Int) = nl := by rw [← hn, rl_nv wn1 wn0]
        have HNH := hideIt hnh
        have HNL := hideIt hnl
        have y1 : IntKind.u64.wrap (d : Int) = (d : Int) := by rw [IntKind.wrap_u64]; omega
        have d1 : ¬ (9 : Int) < (d : Int) := by omega
        have v2 : IntKind.i64.wrap ((k : Int) + 1) = (k : Int) + 1 := IntWalk.i64_in _ (by omega)
        have i1 : (k : Int) < (n : Int) := by omega
        obtain ⟨D, hD⟩ : ∃ D : Int, (d : Int) = D := ⟨_, rfl⟩
        rw [hD] at cDk cTi y1 d1
        clear hD hd9
        clear hd hstep hlow hlow2 h38 e10 ht hp hn hnh hnl hv hpd hNb
        go_upto_region 11 with (first
          | (go_at_call 18; refine (cDk _).mono ?_; rintro e w2 ⟨rfl, h2⟩))
        go_upto_region 12 with (first
          | (go_at_call 15; refine (cTen _).mono ?_; rintro e w3 ⟨rfl, h3⟩))
        have P8 := ((P7.call h2).call h3).past (.cells #[.int .u64 th, .int .u64 tl] 24)
        have S8 := ((S7.call h2).call h3).past (.cells #[.int .u64 th, .int .u64 tl] 24)
        have T8 := Box.made w3 24 #[.int .u64 th, .int .u64 tl]
        generalize w3.alloc (.cells #[.int .u64 th, .int .u64 tl] 24) = V at *
        clear p1 p2 p3 s1 s2 s3 P7 S7 h2 h3
        obtain ⟨q1, q2, q3⟩ := T8.num
        go_upto_region 13 with (first
          | (go_at_call 22; refine (cTi _).mono ?_; rintro e w4 ⟨rfl, h4⟩))
        have P9 := (P8.call h4).past (.cells #[.int .u64 ph, .int .u64 pl] 24)
        have S9 := (S8.call h4).past (.cells #[.int .u64 ph, .int .u64 pl] 24)
        have T9 := Box.made w4 24 #[.int .u64 ph, .int .u64 pl]
        generalize w4.alloc (.cells #[.int .u64 ph, .int .u64 pl] 24) = V2 at *
        clear q1 q2 q3 P8 S8 T8 h4
        obtain ⟨q1, q2, q3⟩ := T9.num
        obtain ⟨s1, s2, s3⟩ := S9.num
        go_upto_region 14 with (first
          | (go_at_call 23; refine (cAd _).mono ?_; rintro e w5 ⟨rfl, h5⟩))
        have P10 := (P9.call h5).past (.cells #[.int .u64 nh, .int .u64 nl] 24)
        have S10 := (S9.call h5).past (.cells #[.int .u64 nh, .int .u64 nl] 24)
        have T10 := Box.made w5 24 #[.int .u64 nh, .int .u64 nl]
        have hgz : g < w5.heap.size := (S9.call h5).inside
        generalize w5.alloc (.cells #[.int .u64 nh, .int .u64 nl] 24) = V3 at *
        clear q1 q2 q3 s1 s2 s3 P9 S9 T9 h5
        obtain ⟨q1, q2, q3⟩ := T10.num
        obtain ⟨s1, s2, s3⟩ := S10.num
        have s4 := S10.free 0
        have s5 := S10.free 1
        go_cut [85] from 72 to 86 (fun s85 wx => s85 = .bool false ∧ wx = V3)
        case first =>
          clear n1 n2 v1 hpos h39 cD wx wy
          have d2 : D ≤ 9 := by omega
          clear d1
          go_wp2_with fail
          all_goals go_meet
          exact ⟨by first | rfl | (rw [decide_eq_false (by omega : ¬ 9 < D)]) | (rw [decide_eq_false (by omega : ¬ 9 < D)]; rfl), rfl⟩
        case rest =>
        obtain ⟨rfl, rfl⟩ := hcut
        clear n1 n2 v1 hpos h39 cD wx wy
        go_wp2
        go_roundg (n - (k + 1))
        case measure => have := HG.out; omega
        case rel => exact ⟨k + 1, nh, nl, by omega, rfl, by go_num, HNH.out, HNL.out, (P10.set_ (by simp; omega) _).set_ (by simp; omega) _, (S10.wrote 0 _).wrote 1 _⟩
      · have e : k = n := by omega
        subst e
        have hNm : N % 10 ^ k = N := Nat.mod_eq_of_lt HL.out
        have hq2 := fun u : World => run_eql_num x y ah al u
        have hxy : (x == ah && y == al) = true := by
          rw [nv_eq2 wx wy a1 a0, hv, hNm, HN.out, decide_eq_true rfl]
        rw [hxy] at hq2
        clear hNm hxy hv hlow hNb n1 n2 v1 hk hlt hpos h39 cD wx wy
        go_wp2
        go_ret
        exact ⟨rfl, P7.2⟩

theorem decimalPlaces_core (H : Type) (enc : TypeId × Value → H) (W : World) (base : Nat) (args : Array Value) (ds gs : List (DataW H)) (before : List MemPlace)
    (hval : ∀ (j : Nat) t v, Try.f7.params[j]? = some t → args[j]? = some v → Value.okWide Try.prog W .any base t v)
    (hW : DataW.Whole enc Try.prog Try.f7.params.toList Rows.decimalPlacesSpec.vars false W args.toList ds gs before) :
    gs = [] ∧ ds.length = 1 ∧ Calls Try.prog 7 args W (Tells (.bool true) W.heap.size W) := by
  obtain ⟨p, q, hA, hV, -, -, -⟩ := hW
  obtain ⟨rfl, rfl⟩ := trodVars_none hV
  have hA : DataW.TrodAll enc Try.prog W 0 (fun _ => true) true Try.f7.params.toList args.toList ds p := hA
  rw [Try.params7] at hA hval
  obtain ⟨v0, d0, rfl, rfl, h0⟩ := trodAll_one hA
  obtain ⟨ah, al, rfl, a1, a0⟩ := open_num (hval 0 _ v0 rfl rfl) h0
  exact ⟨rfl, rfl, places_walk ah al a1 a0 W⟩

set_option maxRecDepth 100000 in
theorem decimalPlaces_lifted (os : Os) (started : os.Started) (H : Type) (enc : TypeId × Value → H) :
    ReturnsInHanded {} Try.checked os 7 .any (Rows.decimalPlacesSpec.pre6 enc Try.prog Try.f7 Rows.decimalPlacesRow.domain false) (Rows.decimalPlacesSpec.post enc Try.prog Try.f7 false true false false) := by
  refine returnsInHanded_of_change (C := Try.checked) own_knob started (by kernel_rfl) Try.func7
    (ChangeSpec.witness6 (enc := enc) (C := Try.checked) false ⟨#[], #[.agg #[.int .u64 0, .int .u64 0]], []⟩ 8 (by kernel_rfl) (by kernel_rfl) (by kernel_rfl) (by kernel_rfl)) ?_
  intro W base args ds gs before hval hW _ _
  obtain ⟨hg, hlen, hc⟩ := decimalPlaces_core H enc W base args ds gs before hval hW
  subst hg
  have hr : (Try.f7.params.toList.all fun t => Try.prog.readableRec t && decide (t < Try.prog.types.size)) = true := by kernel_rfl
  have hread : ∀ t ∈ Try.f7.params.toList, Try.prog.readableRec t = true ∧ t < Try.prog.types.size := fun t ht => by
    have h := List.all_eq_true.1 hr t ht
    rw [Bool.and_eq_true, decide_eq_true_eq] at h
    exact h
  refine hc.mono fun e W' ⟨he, hb⟩ => ?_
  subst he
  match ds, hlen with
  | [d0], _ => exact ⟨_, rfl, law_post laid_out Try.underlying4 rfl hread rfl hW rfl rfl rfl hb⟩

theorem decimalPlaces_holds : Rows.DecimalPlacesSaid :=
  OpenClaim.holds_of_wide 7 Try.f7 rfl rfl rfl rfl rfl rfl rfl ⟨rfl, rfl, rfl, rfl, rfl⟩ rfl rfl rfl rfl rfl (by kernel_rfl) Try.func7 (by kernel_rfl)
    (of_decide_eq_true (by kernel_rfl)) (by unfold Func.isWrapper; first | (rw [if_pos (by decide +kernel)]; kernel_rfl) | (rw [if_neg (by decide +kernel)]; exact ⟨rfl, rfl⟩))
    (fun os started H enc _ => decimalPlaces_lifted os started H enc)

end Go.Proofs.Ytieieafjakcnpaa
