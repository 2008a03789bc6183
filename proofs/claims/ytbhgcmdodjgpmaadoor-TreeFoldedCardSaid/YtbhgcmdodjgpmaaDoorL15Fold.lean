/-
  The law TreeFolded (the stage's theorem): the root is what 14 folds the leaves' nodes to; each node what it folds the nodes of its leaves to. Conditions: none.
-/
import Derived.Test.YtbhgcmdodjgpmaaDoorU15Awake
import Derived.Test.YtbhgcmdodjgpmaaDoorM14Fo
namespace Go.Proofs.YtbhgcmdodjgpmaaDoor
set_option linter.unusedVariables false
set_option linter.unusedSimpArgs false
set_option maxRecDepth 10000
open Go.ChangeShapes Go.WideShapes Go.ChangeAt Go.RowKit

theorem nds_drop15 {w : World} {B : Nat} {a : Addr} {xs : List Nd} (h : ndS.Row w B (some a) xs) (n : Nat) : ndS.Row w B (some (a.add (n * 3))) (xs.drop n) := fun i x hx => by
  rw [List.getElem?_drop] at hx
  obtain ⟨ad, e, hl, hc⟩ := h (n + i) x hx
  injection e with e
  subst e
  refine ⟨_, rfl, by rw [gen_block]; exact hl, ?_⟩
  change ndS.At w ((a.add (n * 3)).add (i * 3)) x
  rw [gen_add, ← Nat.add_mul]
  exact hc
theorem all15 {n : Int} {l : List Nd} (hw : mayW n = true) (h : ∀ x ∈ l, x.of n = true) : allW n l = true := by
  rw [allW, hw, Bool.true_and]
  exact List.all_eq_true.2 h
/-- What a block is folded to is what stands there. -/
theorem FairT.fold {n : Int} {l : List Lf} {k : Nat} (h : FairT n l k) (hk : k ≤ 8) {j i : Nat} (hj : j ≤ k) (hi : i < 2 ^ (k - j)) :
    foldN n (blk (l.map (nodeOf n)) j i) = (ndAt (upN n j (l.map (nodeOf n))) i, 0) := by
  have hl := blk_len h.nlen hj hi
  obtain ⟨g1, -, -⟩ := blk_good h.may h.nlen h.halved h.of h.room hj hi
  rw [foldN_pow (k := j) (all15 h.may (fun x hx => h.of x (blk_mem hx))) hl (by omega)]
  obtain ⟨-, h2⟩ := upN_at h.may h.nlen h.halved h.of h.room j hj
  rw [ndAt, List.getD_eq_getElem?_getD, h2 i hi]
  exact Prod.ext rfl g1
theorem FairT.foldAll {n : Int} {l : List Lf} {k : Nat} (h : FairT n l k) (hk : k ≤ 8) : foldN n (l.map (nodeOf n)) = (topN n l k, 0) := by
  have := h.fold hk (Nat.le_refl k) (i := 0) (by rw [Nat.sub_self]; decide)
  rwa [blk_all h.nlen] at this
theorem log_few {n : Int} {l : List Lf} {k : Nat} (h : FairT n l k) (hl : l.length ≤ 70) : k ≤ 6 := by
  by_cases hk : k ≤ 6
  · exact hk
  · have h1 : 2 ^ 7 ≤ 2 ^ k := Nat.pow_le_pow_right (by decide) (by omega)
    rw [← h.len] at h1
    omega
theorem run_neq_n15 (a b : Int) (u : World) : (binOp .neq 24 (.agg #[.int .u64 a, .int .u64 b]) (.agg #[.int .u64 a, .int .u64 b])).run Tryd.prog u = .ok (.bool false) u := by
  have e := equal_n7 9998 a b a b u
  rw [run_neq_struct, e]
  simp
theorem eql_nd_same (x : Nd) (u : World) : (binOp .eql 36 x.val x.val).run Tryd.prog u = .ok (.bool true) u := by rw [run_eql_nd, Nd.same_self]
set_option maxRecDepth 100000 in
set_option maxHeartbeats 8000000 in
theorem treeFolded_fair (n : Int) (A : Option Addr) (c : Nat) (l : List Lf) (lv pl : Nat) (hlv : lv < 256) (hpl : pl < 65536) (hc : l.length ≤ c) (hcm : c ≤ 9223372036854775807) (hg : greatLf l = false) (hF : FairT n l (Nat.log2 l.length))
    (w : World) (hR : lfS.Row w w.heap.size A l) (hK : Tab w) (hU : TabU w) :
    Calls Tryd.prog 4 #[.int .i64 n, .slice A l.length c, .int .u8 lv, .int .u16 pl] w (Tells (.bool true) w.heap.size w) := by
  obtain ⟨hl70, hsz⟩ := greatLf_no hg
  have hk := log_few hF hl70
  have cW := fun u hu hv => awake15_any u hu hv
  have cG := fun u hu => great15_any A c l (by omega) (fun x hx => ⟨by have := hsz x hx; omega, by have := hsz x hx; omega⟩) u hu
  rw [hg] at cG
  obtain ⟨k, hkk⟩ : ∃ k, Nat.log2 l.length = k := ⟨_, rfl⟩
  rw [hkk] at hF hk
  clear hkk
  have c1 := fun u hR hT hV => new15_fair n A c l u hF hR hT hV
  have hlen := hF.len
  have hnl := hF.nlen
  have hfall := hF.foldAll (by omega)
  have hof := hF.of
  have hhv := hF.halved
  have hall := hF.all
  have hbf := fun (j i : Nat) (hj : j ≤ k) (hi : i < 2 ^ (k - j)) => hF.fold (by omega) hj hi
  have HF := hideIt hF
  obtain ⟨ns, hns⟩ : ∃ ns, l.map (nodeOf n) = ns := ⟨_, rfl⟩
  rw [hns] at hnl hfall hof hhv hbf
  have HNS := hideIt hns
  have HBF := hideIt hbf
  have HNL := hideIt hnl
  obtain ⟨N, hN⟩ : ∃ N, l.length = N := ⟨_, rfl⟩
  rw [hN] at cG c1 hlen hl70 hc ⊢
  have HN := hideIt hN
  have HL := hideIt hlen
  have hN1 : 1 ≤ N := by rw [hlen]; exact Nat.two_pow_pos k
  have hnsN : ns.length = N := by rw [hnl, hlen]
  have HNSN := hideIt hnsN
  clear hg hF hns hbf hnl hN hlen hnsN
  have H0 := Has.start w
  go_enter Tryd.func4, Tryd.ntmps4
  go_upto_region 8 with (first
    | (go_at_call 16; refine (cW _ hK hU).mono ?_; rintro e w1 ⟨rfl, b1⟩; have K1 := H0.call b1)
    | (go_at_call 7; refine (cG _ (hR.on K1.below)).mono ?_; rintro e w2 ⟨rfl, rfl⟩)
    | (go_at_call 17; refine (c1 _ (hR.on K1.below) (hK.call K1.below) (hU.call K1.below)).mono ?_; rintro e w3 ⟨b3, q, rfl, hT3, hq3⟩; have K3 := K1.call b3)
    | fail)
  have hKw := K3.below
  have hR3 := hR.on hKw
  have hK3 := hK.call hKw
  have hU3 := hU.call hKw
  clear K1 K3 b1 b3 cW cG c1 H0 hR hK hU hq3
  go_wp2
  go_loopg [11, 12] N (fun gk v i wr => ∃ m : Nat, m ≤ N ∧ N - m ≤ gk ∧ i = .int .i64 m ∧ wr.ownsRow w3.heap.size 36 3 v m (ndS.flat (ns.take m)) ∧ Below w3.heap.size w3 wr)
  case atStart => exact ⟨0, Nat.zero_le _, by omega, rfl, by rw [List.take_zero]; exact World.ownsRow_nil _ _ _ _, Below.refl _ _⟩
  case round =>
    obtain ⟨m, hm, hgk, rfl, hown, hb⟩ := hrel
    have HG := hideIt hgk
    clear hgk
    by_cases hlt : m < N
    · obtain ⟨x, hx0⟩ : ∃ r, l[m]? = some r := ⟨_, List.getElem?_eq_getElem (by rw [HN.out]; omega)⟩
      have htk : ns.take (m + 1) = ns.take m ++ [nodeOf n x] := by rw [List.take_add_one, ← HNS.out, List.getElem?_map, hx0]; rfl
      obtain ⟨h1, h2⟩ := hsz x (List.mem_of_getElem? hx0)
      obtain ⟨-, h3, h4⟩ := hall x (List.mem_of_getElem? hx0)
      have cN := fun u hu hv => leafNode_any n x (by omega) (by omega) h3 h4 u hu hv
      obtain ⟨⟨js, jh, jl⟩, hJ⟩ : ∃ V, nodeOf n x = V := ⟨_, rfl⟩
      rw [hJ] at cN htk
      obtain ⟨ad, rfl, g1, p0, p1, p2, p3, p4⟩ := lf_get (hR3.on hb) hx0
      obtain ⟨xp, xi, xs, xh, xl⟩ := x
      simp only [Nd.val, Lf.val] at cN p0 p1 p2 p3 p4
      have HTK := hideIt htk
      have hlti : (m : Int) < (N : Int) := by omega
      have happ := fun W v ho hbb => ndE_app1 W w3.heap.size v m (ns.take m) ho ⟨js, jh, jl⟩ (by omega) hbb
      clear hx0 htk hJ h1 h2 h3 h4
      go_wp2_with (first
        | (go_at_call 18; refine (cN _ (hK3.call hb) (hU3.call hb)).mono ?_; rintro e w5 ⟨rfl, b5⟩; obtain ⟨v', w6, hrun, o6, -, b6⟩ := happ w5 u11 (own_below hown b5) (chain hb b5).size)
        | (at_builtin; refine gen_run rfl _ _ _ rfl _ _ rfl rfl _ w6 hrun ?_)
        | fail)
      go_roundg (N - (m + 1))
      case measure => have := HG.out; omega
      case rel => exact ⟨m + 1, by omega, Nat.le_refl _, by go_num, by rw [HTK.out]; exact o6, (chain hb b5).trans b6⟩
    · have e : m = N := by omega
      subst e
      have hlti : ¬ ((m : Int) < (m : Int)) := by omega
      rw [List.take_of_length_le (by rw [HNSN.out]; exact Nat.le_refl _), ← HNSN.out] at hown
      obtain ⟨gw, cw, rfl, hgw, hcw, Bw⟩ := Sh.Blk.of_own (S := ndS) hown (fun e => by have := HNSN.out; rw [e] at this; simp at this; omega)
      rw [HNSN.out] at hcw
      rw [HNSN.out]
      have cF := fun u hu hv => fold14_any n (some ⟨gw, 0, none⟩) cw ns (by rw [HNSN.out]; omega) hhv u hu hv
      rw [hfall, HNSN.out] at cF
      have hT4 := hT3.call hb
      have hK4 := hK3.call hb
      have cR := fun u (hu : TrAt u q n l k) => root15_any hu HF.out
      have cWd := fun u (hu : TrAt u q n l k) => width15_any hu
      have cHt := fun u (hu : TrAt u q n l k) => height15_any hu (by omega)
      generalize topN n l k = T at *
      obtain ⟨ts, th, tl⟩ := T
      simp only [Nd.val, rootV] at cF cR
      have en := fun u => run_neq_n15 th tl u
      have J0 := Has.start wr
      clear hown hfall hR3 hU3 hT3 hK3 hall hsz
      go_upto_region 14 with (first
        | (go_at_call 19; refine (cF _ Bw.row hK4).mono ?_; rintro e w4 ⟨rfl, b4⟩; have J1 := (J0.call b4).add 36 (ndB ts th tl))
        | fail)
      obtain ⟨g13, hg13⟩ : ∃ g, w4.heap.size = g := ⟨_, rfl⟩
      rw [hg13] at J1 ⊢
      change Code.wp _ _ _ _ (w4.alloc (.cells (ndB ts th tl) 36))
      generalize w4.alloc (.cells (ndB ts th tl) 36) = W4 at *
      clear cF b4 hg13
      go_upto_region 15 with (first
        | (go_at_call 10; refine (cR _ (hT4.call J1.below)).mono ?_; rintro e w5 ⟨rfl, b5⟩; have J2 := (J1.call b5).add 42 #[.string ts, .int .u64 th, .int .u64 tl, .int .i64 k])
        | fail)
      obtain ⟨g15, hg15⟩ : ∃ g, w5.heap.size = g := ⟨_, rfl⟩
      rw [hg15] at J2 ⊢
      change Code.wp _ _ _ _ (w5.alloc (.cells #[.string ts, .int .u64 th, .int .u64 tl, .int .i64 k] 42))
      generalize w5.alloc (.cells #[.string ts, .int .u64 th, .int .u64 tl, .int .i64 k] 42) = W5 at *
      clear cR b5 hg15 J1
      obtain ⟨⟨r0, r1, r2, r3⟩, -, rin⟩ := (J2.box 0).four4
      obtain ⟨y0, y1, y2, -, -, -, yin⟩ := (J2.box 1).three
      have hT5 := hT4.call J2.below
      have hK5 := hK4.call J2.below
      have Bw5 := Bw.call J2.below
      have hbw := chain hKw (chain hb J2.below)
      clear hT4 hK4 Bw hb
      obtain ⟨K1, hK1⟩ : ∃ K1, k + 1 = K1 := ⟨_, rfl⟩
      obtain ⟨j, hj⟩ : ∃ j, lv % K1 = j := ⟨_, rfl⟩
      have hjk : j ≤ k := by have := Nat.mod_lt lv (show 0 < K1 by omega); omega
      have e1 : IntKind.i64.wrap ((k : Int) + 1) = (K1 : Int) := by rw [IntKind.wrap_i64]; omega
      have e2 : Int.tmod (lv : Int) (K1 : Int) = (j : Int) := by rw [Int.tmod_eq_emod_of_nonneg (by omega)]; omega
      have e3 : ¬ (K1 : Int) = 0 := by omega
      have e4 : IntKind.i64.wrap (lv : Int) = (lv : Int) := by rw [IntKind.wrap_i64]; omega
      clear hK1 hj
      go_upto_region 18 with (first
        | (go_at_call 12; refine (cWd _ hT5).mono ?_; rintro e w6 ⟨rfl, rfl⟩)
        | (go_at_call 13; refine (cHt _ hT5).mono ?_; rintro e w6 ⟨rfl, rfl⟩)
        | fail)
      clear r0 r1 r2 r3 rin y0 y1 y2 yin en e2 e3 e4 cWd
      go_wp2
      go_loopg [17, 18] j (fun gk s i wr => ∃ t S : Nat, t ≤ j ∧ j - t ≤ gk ∧ s = .int .i64 S ∧ i = .int .i64 t ∧ S = 2 ^ t ∧ S ≤ 64 ∧ wr = W5)
      case atStart => exact ⟨0, 1, Nat.zero_le _, by omega, rfl, rfl, rfl, by omega, rfl⟩
      case round =>
        rename World => wq
        obtain ⟨t, S, ht, hgk, rfl, rfl, hS, hSb, rfl⟩ := hrel
        have HG2 := hideIt hgk
        have HS := hideIt hS
        clear hgk hS
        by_cases htl : t < j
        · have hti : (t : Int) < (j : Int) := by omega
          obtain ⟨S2, hS2⟩ : ∃ S2, 2 * S = S2 := ⟨_, rfl⟩
          have e5 : IntKind.i64.wrap (2 * (S : Int)) = (S2 : Int) := by rw [IntKind.wrap_i64]; omega
          have e6 : S2 = 2 ^ (t + 1) := by rw [← hS2, HS.out, Nat.pow_succ, Nat.mul_comm]
          have e7 : S2 ≤ 64 := by rw [e6]; exact Nat.le_trans (Nat.pow_le_pow_right (n := 2) (by decide) (by omega : t + 1 ≤ 6)) (by decide)
          have H6 := hideIt e6
          clear hS2 e6
          go_wp2
          go_roundg (j - (t + 1))
          case measure => have := HG2.out; omega
          case rel => exact ⟨t + 1, S2, by omega, Nat.le_refl _, rfl, by go_num, H6.out, e7, rfl⟩
        · have e : t = j := by omega
          subst e
          have hti : ¬ (t : Int) < (t : Int) := by omega
          obtain ⟨M, hM⟩ : ∃ M, 2 ^ (k - t) = M := ⟨_, rfl⟩
          have hM1 : 1 ≤ M := by rw [← hM]; exact Nat.two_pow_pos _
          have hS1 : 1 ≤ S := by rw [HS.out]; exact Nat.two_pow_pos _
          have hMS : m = M * S := by rw [HL.out, HS.out, ← hM, ← Nat.pow_add, Nat.sub_add_cancel hjk]
          have hdv : m / S = M := by rw [hMS, Nat.mul_div_cancel _ hS1]
          obtain ⟨pp, hpp⟩ : ∃ pp, pl % M = pp := ⟨_, rfl⟩
          have hpM : pp < M := by rw [← hpp]; exact Nat.mod_lt _ hM1
          have hMb : M ≤ 70 := by rw [← hdv]; exact Nat.le_trans (Nat.div_le_self _ _) hl70
          have d1 : Int.tdiv (m : Int) (S : Int) = (M : Int) := by rw [Int.tdiv_eq_ediv_of_nonneg (by omega)]; rw [← hdv]; norm_cast
          have d1b : (m : Int) / (S : Int) = (M : Int) := by rw [← hdv]; norm_cast
          have d2 : Int.tmod (pl : Int) (M : Int) = (pp : Int) := by rw [Int.tmod_eq_emod_of_nonneg (by omega), ← hpp]; norm_cast
          have d2b : (pl : Int) % (M : Int) = (pp : Int) := by rw [← hpp]; norm_cast
          have d3 : ¬ (S : Int) = 0 := by omega
          have d4 : ¬ (M : Int) = 0 := by omega
          have d5 : IntKind.i64.wrap (M : Int) = (M : Int) := by rw [IntKind.wrap_i64]; omega
          have d6 : IntKind.i64.wrap (pl : Int) = (pl : Int) := by rw [IntKind.wrap_i64]; omega
          obtain ⟨p1, hp1⟩ : ∃ p1, pp + 1 = p1 := ⟨_, rfl⟩
          obtain ⟨a, ha⟩ : ∃ a, pp * S = a := ⟨_, rfl⟩
          obtain ⟨b, hb⟩ : ∃ b, p1 * S = b := ⟨_, rfl⟩
          have hab : a + S = b := by rw [← ha, ← hb, ← hp1, Nat.add_mul, Nat.one_mul]
          have hbm : b ≤ m := by rw [← hb, hMS]; exact Nat.mul_le_mul_right _ (by omega)
          have d7 : IntKind.i64.wrap ((pp : Int) * (S : Int)) = (a : Int) := by rw [show (pp : Int) * (S : Int) = (a : Int) by rw [← ha]; norm_cast, IntKind.wrap_i64]; omega
          have d8 : IntKind.i64.wrap ((pp : Int) + 1) = (p1 : Int) := by rw [IntKind.wrap_i64]; omega
          have d9 : IntKind.i64.wrap ((p1 : Int) * (S : Int)) = (b : Int) := by rw [show (p1 : Int) * (S : Int) = (b : Int) by rw [← hb]; norm_cast, IntKind.wrap_i64]; omega
          have f1 : (a : Int) ≤ (b : Int) := by omega
          have f2 : (b : Int) ≤ (cw : Int) := by omega
          have f3 : ¬ cw = a := by omega
          have f4 : (0 : Int) ≤ (a : Int) := by omega
          have f5 : ¬ a = cw := by omega
          have f6 : b - a = S := by omega
          have f7 : a ≤ b := by omega
          have f8 : b ≤ cw := by omega
          have HMM := hideIt hM
          have HA := hideIt ha
          clear hM hMS hdv hpp hp1 ha hb
          have hblk : (ns.drop a).take S = blk ns t pp := by rw [blk, ← HA.out, HS.out]
          have hbl : (blk ns t pp).length = S := by rw [blk_len HNL.out hjk (by rw [HMM.out]; exact hpM), HS.out]
          have Rw := (nds_drop15 Bw5.row a).take S
          rw [hblk, gen_zero] at Rw
          have cF2 := fun u hu hv => fold14_any n (some ⟨gw, a * 3, none⟩) (cw - a) (blk ns t pp) (by rw [hbl]; omega) (fun x hx => hhv x (blk_mem hx)) u hu hv
          rw [HBF.out t pp hjk (by rw [HMM.out]; exact hpM), hbl] at cF2
          have cNd := fun u (hu : TrAt u q n l k) => node15_in hu HF.out hjk pp (by omega)
          rw [HNS.out, HMM.out, decide_eq_true hpM] at cNd
          generalize ndAt (upN n t ns) pp = X at *
          have eq := fun u => eql_nd_same X u
          obtain ⟨vs, vh, vl⟩ := X
          simp only [Nd.val] at cF2 cNd eq
          have d10 : IntKind.u64.wrap (pp : Int) = (pp : Int) := by rw [IntKind.wrap_u64]; omega
          have cF3 := cF2 _ Rw hK5
          have J0 := Has.start wq
          clear cF2 Rw hbl hblk J2
          go_upto_region 25 with (first
            | (go_at_call 19; refine cF3.mono ?_; rintro e w4 ⟨rfl, b4⟩; have J1 := (J0.call b4).add 36 (ndB vs vh vl))
            | fail)
          obtain ⟨g20, hg20⟩ : ∃ g, w4.heap.size = g := ⟨_, rfl⟩
          rw [hg20] at J1 ⊢
          change Code.wp _ _ _ _ (w4.alloc (.cells (ndB vs vh vl) 36))
          generalize w4.alloc (.cells (ndB vs vh vl) 36) = W6 at *
          go_upto_region 26 with (first
            | (go_at_call 8; refine (cNd _ (hT5.call J1.below)).mono ?_; rintro e w5 ⟨rfl, b5⟩; have J2 := (J1.call b5).add 36 (ndB vs vh vl))
            | fail)
          obtain ⟨g22, hg22⟩ : ∃ g, w5.heap.size = g := ⟨_, rfl⟩
          rw [hg22] at J2 ⊢
          change Code.wp _ _ _ _ (w5.alloc (.cells (ndB vs vh vl) 36))
          generalize w5.alloc (.cells (ndB vs vh vl) 36) = W7 at *
          obtain ⟨y0, y1, y2, -, -, -, yin⟩ := (J2.box 0).three
          obtain ⟨z0, z1, z2, -, -, -, zin⟩ := (J2.box 1).three
          clear cF3 cNd
          go_wp2
          go_ret
          exact ⟨rfl, chain hbw J2.below⟩
set_option maxRecDepth 100000 in
set_option maxHeartbeats 4000000 in
theorem treeFolded_any (n : Int) (A : Option Addr) (c : Nat) (l : List Lf) (lv pl : Nat) (hlv : lv < 256) (hpl : pl < 65536) (hc : l.length ≤ c) (hcm : c ≤ 9223372036854775807) (hs : ∀ x ∈ l, (x.id.size ≤ 9223372036854775807 ∧ x.salt.size ≤ 9223372036854775807) ∧ Word x.h ∧ Word x.l)
    (w : World) (hR : lfS.Row w w.heap.size A l) (hK : Tab w) (hU : TabU w) :
    Calls Tryd.prog 4 #[.int .i64 n, .slice A l.length c, .int .u8 lv, .int .u16 pl] w (Tells (.bool true) w.heap.size w) := by
  have cW := fun u hu hv => awake15_any u hu hv
  have cG := fun u hu => great15_any A c l (by omega) (fun x hx => (hs x hx).1) u hu
  have H0 := Has.start w
  cases hg : greatLf l with
  | true =>
    rw [hg] at cG
    clear hg
    go_enter Tryd.func4, Tryd.ntmps4
    go_wp2_with (first
      | (go_at_call 16; refine (cW _ hK hU).mono ?_; rintro e w1 ⟨rfl, b1⟩; have K1 := H0.call b1)
      | (go_at_call 7; refine (cG _ (hR.on K1.below)).mono ?_; rintro e w2 ⟨rfl, rfl⟩)
      | fail)
    go_ret
    exact ⟨rfl, K1.below⟩
  | false =>
    by_cases hE : newE n l = 0
    · exact treeFolded_fair n A c l lv pl hlv hpl hc hcm hg (newE_fair hE (fun x hx => (hs x hx).2)) w hR hK hU
    · rw [hg] at cG
      have c1 := fun u hR hT hV => new15_err n A c l u (by omega) (fun x hx => (hs x hx).1) (fun x hx => (hs x hx).2) hE hR hT hV
      generalize newE n l = E at *
      have q0 : (E != 0) = true := bne_iff_ne.2 hE
      clear hg
      go_enter Tryd.func4, Tryd.ntmps4
      go_wp2_with (first
        | (go_at_call 16; refine (cW _ hK hU).mono ?_; rintro e w1 ⟨rfl, b1⟩; have K1 := H0.call b1)
        | (go_at_call 7; refine (cG _ (hR.on K1.below)).mono ?_; rintro e w2 ⟨rfl, rfl⟩)
        | (go_at_call 17; refine (c1 _ (hR.on K1.below) (hK.call K1.below) (hU.call K1.below)).mono ?_; rintro e w3 ⟨rfl, b3⟩; have K3 := K1.call b3)
        | fail)
      go_ret
      exact ⟨rfl, K3.below⟩
end Go.Proofs.YtbhgcmdodjgpmaaDoor
