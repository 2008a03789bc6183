/-
  The law TreeBack: a tree in which a leaf was set is the one that is built of such leaves; set back, it is what it was; refused, all stays. Conditions: none.
-/
import Derived.Test.YtbhgcmdodjgpmaaDoorU15Awake
import Derived.Test.YtbhgcmdodjgpmaaDoorM15Law
namespace Go.Proofs.YtbhgcmdodjgpmaaDoor
set_option linter.unusedVariables false
set_option linter.unusedSimpArgs false
set_option maxRecDepth 10000
open Go.ChangeShapes Go.WideShapes Go.ChangeAt Go.RowKit

/-- A copy of leaves, appended to none. -/
theorem lf_copy15 (w : World) (A : Option Addr) (c : Nat) (xs : List Lf) (hne : xs ≠ []) (hm : xs.length ≤ 1000000) (hR : lfS.Row w w.heap.size A xs) :
    ∃ g c' w', (∀ ty, (Builtin.append_ #[28, 28] ty #[.slice (some ⟨w.heap.size, 0, none⟩) 0 0, .slice A xs.length c]).run Tryd.prog (w.alloc (.cells #[] 26)) = .ok (.slice (some ⟨g, 0, none⟩) xs.length c') w') ∧
      lfS.Blk w' 26 g xs ∧ w.heap.size ≤ g ∧ Below w.heap.size w w' := by
  have L0 : Below w.heap.size w (w.alloc (.cells #[] 26)) := chainA (Below.refl _ _) _
  cases A with
  | none => exact absurd hR.none_ hne
  | some ad =>
    have own0 : (w.alloc (.cells #[] 26)).ownsRow w.heap.size 26 5 (.slice (some ⟨w.heap.size, 0, none⟩) 0 0) 0 (lfS.flat []) :=
      ⟨rfl, .inr ⟨w.heap.size, 0, #[], rfl, Nat.le_refl _, Box.made w 26 #[], Nat.le_refl _, Nat.zero_le _, rfl, rfl⟩⟩
    obtain ⟨v', w', hr, h2, h3, -⟩ := lfE.app (w.alloc (.cells #[] 26)) w.heap.size _ 0 [] own0 ad xs.length c xs rfl ((hR.call L0).cells) (by omega) (by simp) (N := xs.length) (Nat.zero_add _)
    rw [List.nil_append] at h2
    obtain ⟨g, c2, rfl, hg, -, hB⟩ := Sh.Blk.of_own (S := lfS) h2 hne
    exact ⟨g, c2, w', hr, hB, hg, L0.grown h3 (by simp) (fun j hj => by injection hj with hj; subst hj; exact Nat.le_refl _)⟩
theorem eql_rt_same (s : ByteArray) (h l : Int) (k : Nat) (u : World) : (binOp .eql 42 (.agg #[.string s, .int .u64 h, .int .u64 l, .int .i64 k]) (.agg #[.string s, .int .u64 h, .int .u64 l, .int .i64 k])).run Tryd.prog u = .ok (.bool true) u := by
  have h1 := run_eql_rt ⟨s, h, l, k⟩ ⟨s, h, l, k⟩ u
  have h2 : RtP.same ⟨s, h, l, k⟩ ⟨s, h, l, k⟩ = true := (RtP.same_iff _ _).2 rfl
  rw [h2] at h1
  exact h1
theorem neq_rt_same (s : ByteArray) (h l : Int) (k : Nat) (u : World) : (binOp .neq 42 (.agg #[.string s, .int .u64 h, .int .u64 l, .int .i64 k]) (.agg #[.string s, .int .u64 h, .int .u64 l, .int .i64 k])).run Tryd.prog u = .ok (.bool false) u := by
  have h1 := run_neq_rt ⟨s, h, l, k⟩ ⟨s, h, l, k⟩ u
  have h2 : RtP.same ⟨s, h, l, k⟩ ⟨s, h, l, k⟩ = true := (RtP.same_iff _ _).2 rfl
  rw [h2] at h1
  exact h1
theorem eql_lf_same (x : Lf) (u : World) : (binOp .eql 26 x.val x.val).run Tryd.prog u = .ok (.bool true) u := by
  rw [run_eql_lf, (Lf.same_iff x x).2 rfl]
theorem neq_nd_same (x : Nd) (u : World) : (binOp .neq 36 x.val x.val).run Tryd.prog u = .ok (.bool false) u := by rw [run_neq_nd, Nd.same_self]; rfl
theorem log_few15 {n : Int} {l : List Lf} {k : Nat} (h : FairT n l k) (hl : l.length ≤ 70) : k ≤ 6 := by
  by_cases hk : k ≤ 6
  · exact hk
  · have h1 : 2 ^ 7 ≤ 2 ^ k := Nat.pow_le_pow_right (by decide) (by omega)
    rw [← h.len] at h1
    omega
/-- What Set tells, and what becomes of the tree. -/
def SetTo (q : TrG) (n : Int) (l l2 : List Lf) (k p : Nat) (x : Lf) (E : Int) : Prop := ∀ u, TrAt u q n l k → Tab u → TabU u →
  Calls Tryd.prog 11 #[.pointer (some ⟨q.g, 0, none⟩), .int .u64 p, x.val] u (fun e w' => e = .returned (.int .i64 E) ∧ TrAt w' q n l2 k ∧ Off q.turns u w')
theorem setTo_any (q : TrG) {n : Int} {l : List Lf} {k : Nat} (hF : FairT n l k) (hk : k ≤ 6) (p : Nat) (hp : p < 2 ^ k) (x : Lf) (hx : x.fine15) (hs : x.id.size ≤ 1000000 ∧ x.salt.size ≤ 1000000) :
    (newE n (l.set p x) = 0 ∧ FairT n (l.set p x) k ∧ SetTo q n l (l.set p x) k p x 0) ∨ (newE n (l.set p x) ≠ 0 ∧ SetTo q n l l k p x (newE n (l.set p x))) := by
  rcases newE_set hF p hp x hx.2 with ⟨h1, h2⟩ | ⟨h1, h2⟩ | ⟨h1, h2, h3⟩
  · exact Or.inl ⟨h1, h2, fun u hu hT hU => set15_yes hu hF p hp x h2 hT hU⟩
  · refine Or.inr ⟨by rw [h1]; decide, fun u hu hT hU => ?_⟩
    rw [h1]
    exact (set15_leaf hu hF p (by rw [hF.len]; exact hp) x h2 hs.1 hs.2 hU).mono fun e w' ⟨h, hb⟩ => ⟨h, hu.call hb, Off.of hb⟩
  · refine Or.inr ⟨by rw [h1]; decide, fun u hu hT hU => ?_⟩
    rw [h1]
    exact (set15_full hu hF p hp x ⟨h2, hx.2⟩ h3 hT hU).mono fun e w' ⟨h, hb⟩ => ⟨h, hu.call hb, Off.of hb⟩
set_option maxRecDepth 100000 in
set_option maxHeartbeats 8000000 in
theorem treeBack_fair (n : Int) (A : Option Addr) (c : Nat) (l : List Lf) (pz : Nat) (hpz : pz < 65536) (x : Lf) (hxf : x.fine15) (hc : l.length ≤ c) (hcm : c ≤ 9223372036854775807) (hg : greatLf l = false) (hg1 : greatLf [x] = false) (k : Nat) (hF : FairT n l k)
    (w : World) (hR : lfS.Row w w.heap.size A l) (hK : Tab w) (hU : TabU w) :
    Calls Tryd.prog 5 #[.int .i64 n, .slice A l.length c, .int .u16 pz, x.val] w (Tells (.bool true) w.heap.size w) := by
  obtain ⟨hl70, hsz⟩ := greatLf_no hg
  have hk := log_few15 hF hl70
  have hx200 := (greatLf_no hg1).2 x (by simp)
  have cW := fun u hu hv => awake15_any u hu hv
  have cG := fun u hu => great15_any A c l (by omega) (fun x hx => ⟨by have := hsz x hx; omega, by have := hsz x hx; omega⟩) u hu
  have cG1 := fun (u : World) hu => great15_any (some ⟨u.heap.size, 0, none⟩) 1 [x] (by simp) (fun y hy => by rw [List.mem_singleton.1 hy]; exact hxf.1) (u.alloc (.cells (lfS.flat [x]).toArray 26)) hu
  have hrow := fun u => lf_rowL u [x]
  rw [hg] at cG
  rw [hg1] at cG1
  have c1 := fun u hR hT hV => new15_fair n A c l u hF hR hT hV
  have hN1 : 1 ≤ l.length := hF.pos
  have hne : l ≠ [] := fun e => by rw [e] at hN1; simp at hN1
  have cR := fun u q (hu : TrAt u q n l k) => root15_any hu hF
  obtain ⟨p, hp⟩ : ∃ p, pz % l.length = p := ⟨_, rfl⟩
  have hpl : p < l.length := by rw [← hp]; exact Nat.mod_lt _ (by omega)
  have hset := fun q => setTo_any q hF hk p (by rw [← hF.len]; exact hpl) x hxf ⟨by omega, by omega⟩
  have cLf := fun u q (hu : TrAt u q n l k) => leaf15_any hu hF p (by omega)
  rw [decide_eq_true hpl] at cLf
  obtain ⟨y, hy⟩ : ∃ y, l[p]? = some y := ⟨_, List.getElem?_eq_getElem hpl⟩
  have eY : lfAt l p = y := by rw [lfAt, List.getD_eq_getElem?_getD, hy]; rfl
  rw [eY] at cLf
  have hyb : (l.set p x).set p y = l := by
    rw [List.set_set]
    apply List.ext_getElem?
    intro i
    by_cases e : p = i
    · subst e; rw [List.getElem?_set_self hpl, hy]
    · rw [List.getElem?_set_ne e]
  have hcopy := fun (u : World) hR => lf_copy15 u A c l hne (by omega) hR
  have hlen2 : (l.set p x).length = l.length := List.length_set ..
  obtain ⟨N, hN⟩ : ∃ N, l.length = N := ⟨_, rfl⟩
  have c2 := fun g c' u hE hR hT hV => new15_err n (some ⟨g, 0, none⟩) c' (l.set p x) u (by rw [hlen2]; omega) (fun z hz => by
      rcases List.mem_or_eq_of_mem_set hz with hz | rfl
      · exact ⟨by have := hsz z hz; omega, by have := hsz z hz; omega⟩
      · exact hxf.1) (fun z hz => by
      rcases List.mem_or_eq_of_mem_set hz with hz | rfl
      · exact (hF.all z hz).2
      · exact hxf.2) hE hR hT hV
  have c3 := fun g c' u hF2 hR hT hV => new15_fair n (some ⟨g, 0, none⟩) c' (l.set p x) u (k := k) hF2 hR hT hV
  rw [hN] at cG c1 hp hpl hcopy hlen2 hl70 hc hN1 ⊢
  rw [hlen2] at c2 c3
  have d1 : Int.tmod (pz : Int) (N : Int) = (p : Int) := by rw [Int.tmod_eq_emod_of_nonneg (by omega), ← hp]; norm_cast
  have d1b : (pz : Int) % (N : Int) = (p : Int) := by rw [← hp]; norm_cast
  have d2 : ¬ (N : Int) = 0 := by omega
  have d3 : IntKind.i64.wrap (pz : Int) = (pz : Int) := by rw [IntKind.wrap_i64]; omega
  have d4 : IntKind.u64.wrap (p : Int) = (p : Int) := by rw [IntKind.wrap_u64]; omega
  have HN := hideIt hN
  have HF := hideIt hF
  have HY := hideIt hy
  have HYB := hideIt hyb
  have HG1 := hideIt hg1
  have HLEN2 := hideIt hlen2
  obtain ⟨xp, xi, xs, xh, xl⟩ := x
  obtain ⟨yp, yi, ys, yh, yl⟩ := y
  simp only [Lf.val, List.length_cons, List.length_nil, Nat.zero_add] at cLf cG1
  show Calls _ _ #[_, _, _, .agg (lfB xp xi xs xh xl)] _ _
  have H0 := (Has.start w).add 26 (lfB xp xi xs xh xl)
  clear hN hF hg hg1 hp hy hyb hlen2 eY hsz hne
  go_enter Tryd.func5, Tryd.ntmps5
  go_upto_region 1 with fail
  change Code.wp _ _ _ _ (w.alloc (.cells (lfB xp xi xs xh xl) 26))
  obtain ⟨g7, hg7⟩ : ∃ g, w.heap.size = g := ⟨_, rfl⟩
  have hHG7 := hideIt hg7
  rw [hg7] at H0 ⊢
  generalize w.alloc (.cells (lfB xp xi xs xh xl) 26) = W0 at *
  go_upto_region 3 with (first
    | (go_at_call 16; refine (cW _ (hK.call H0.below) (hU.call H0.below)).mono ?_; rintro e w1 ⟨rfl, b1⟩; have K1 := H0.call b1)
    | fail)
  obtain ⟨⟨x0, x1, x2, x3, x4⟩, -, xin⟩ := (K1.box 0).five0
  have cG2 := cG1 w1 (hrow w1)
  have cG2 : Calls Tryd.prog 7 #[.slice (some ⟨w1.heap.size, 0, none⟩) 1 1] (w1.alloc (.cells (lfB xp xi xs xh xl) 26)) (Plain (.bool false) (w1.alloc (.cells (lfB xp xi xs xh xl) 26))) := cG2
  have K2 := K1.past (.cells (lfB xp xi xs xh xl) 26)
  clear cG1 hrow cW H0 b1
  go_upto_region 8 with (first
    | (go_at_call 7; ((with_reducible refine (cG _ (hR.on K1.below)).mono ?_); rintro e w2 ⟨rfl, rfl⟩))
    | (go_at_call 7; ((with_reducible refine cG2.mono ?_); rintro e w2 ⟨rfl, rfl⟩))
    | (go_at_call 17; refine (c1 _ (hR.on K2.below) (hK.call K2.below) (hU.call K2.below)).mono ?_; rintro e w3 ⟨b3, q, rfl, hT3, hq3⟩; have K3 := K2.call b3)
    | fail)
  have hlo := (K2.box 0).inside
  have hlow := K2.size
  generalize w1.alloc (.cells (lfB xp xi xs xh xl) 26) = W2 at *
  obtain ⟨lo, hloe⟩ : ∃ lo, W2.heap.size = lo := ⟨_, rfl⟩
  rw [hloe] at hlo hlow hq3
  have HW := hHG7.out
  generalize hTT : topN n l k = T at *
  obtain ⟨ts, th, tl⟩ := T
  have er := fun u => eql_rt_same ts th tl k u
  simp only [rootV] at cR
  clear K1 K2 b3 cG cG2 c1 hloe x0 x1 x2 x3 x4 xin
  go_upto_region 10 with (first
    | (go_at_call 10; refine (cR _ _ hT3).mono ?_; rintro e w4 ⟨rfl, b4⟩; have K4 := (K3.call b4).add 42 #[.string ts, .int .u64 th, .int .u64 tl, .int .i64 k])
    | fail)
  have hT4 := (hT3.call b4).past (.cells #[.string ts, .int .u64 th, .int .u64 tl, .int .i64 k] 42)
  have hs34 : w3.heap.size ≤ (w4.alloc (.cells #[.string ts, .int .u64 th, .int .u64 tl, .int .i64 k] 42)).heap.size := by have := b4.size; simp; omega
  have hg12w : w3.heap.size ≤ w4.heap.size := b4.size
  obtain ⟨g12, hg12⟩ : ∃ g, w4.heap.size = g := ⟨_, rfl⟩
  rw [hg12] at K4 hg12w ⊢
  change Code.wp _ _ _ _ (w4.alloc (.cells #[.string ts, .int .u64 th, .int .u64 tl, .int .i64 k] 42))
  generalize w4.alloc (.cells #[.string ts, .int .u64 th, .int .u64 tl, .int .i64 k] 42) = W4 at *
  have hK4 := hK.call K4.below
  have hU4 := hU.call K4.below
  have hl3w : lo ≤ w3.heap.size := by have := hq3.1; omega
  have hs := hset q
  clear hset K3 hT3 b4 hg12
  rcases hs with ⟨hE, hF2, cS⟩ | ⟨hE, cS⟩
  · have c3' := fun g c' u hR hT hV => c3 g c' u hF2 hR hT hV
    have HF2 := hideIt hF2
    clear c2 c3 hE hF2
    unfold SetTo at cS
    simp only [Lf.val] at cS
    obtain ⟨⟨x0, x1, x2, x3, x4⟩, -, xin⟩ := (K4.box 1).five0
    go_upto_region 11 with (first
      | (go_at_call 11; refine (cS _ hT4 hK4 hU4).mono ?_; rintro e w6 ⟨rfl, hT6, O6⟩)
      | fail)
    have K6 : Has w [(g12, 42, #[.string ts, .int .u64 th, .int .u64 tl, .int .i64 k]), (g7, 26, lfB xp xi xs xh xl)] w6 := K4.off O6 (fun i hi => by have := hq3.turns hi; omega) (fun z hz hi => by
      have hb := hq3.turns hi
      simp only [List.mem_cons, List.not_mem_nil, or_false] at hz
      rcases hz with rfl | rfl
      · have := hb.2; simp only at this; omega
      · have := hb.1; simp only at this; omega)
    obtain ⟨g14, c14, w7, hrun, B7, hg14, b7⟩ := hcopy w6 (hR.on K6.below)
    have K7 := K6.call b7
    have hT7 := hT6.call b7
    clear x0 x1 x2 x3 x4 xin
    obtain ⟨⟨x0, x1, x2, x3, x4⟩, -, xin⟩ := (K7.box 1).five0
    obtain ⟨zz, hzz, e0, e1, e2, e3, e4⟩ := lf_there B7 p (by rw [HN.out]; exact hpl)
    have f0 := B7.free (p * 5)
    have f1 := B7.free (p * 5 + 1)
    have f2 := B7.free (p * 5 + 2)
    have f3 := B7.free (p * 5 + 3)
    have f4 := B7.free (p * 5 + 4)
    have hin14 := B7.inside
    have hpi : (p : Int) < (N : Int) := by omega
    go_upto_region 13 with (first
      | (at_builtin; refine gen_run rfl _ _ _ rfl _ _ rfl rfl _ w7 hrun ?_)
      | fail)
    have B8 := lf_put B7 p ⟨xp, xi, xs, xh, xl⟩ (by rw [HN.out]; exact hpl)
    have O8 := putLf_off w7 g14 p ⟨xp, xi, xs, xh, xl⟩
    change Code.wp _ _ _ _ (putLf w7 g14 p ⟨xp, xi, xs, xh, xl⟩)
    have b68 : Below w6.heap.size w6 (putLf w7 g14 p ⟨xp, xi, xs, xh, xl⟩) := b7.trans (O8.below (fun i hi => by have : i = g14 := hi; omega) b7.size)
    generalize putLf w7 g14 p ⟨xp, xi, xs, xh, xl⟩ = W8 at *
    clear e0 e1 e2 e3 e4 f0 f1 f2 f3 f4 hin14 hzz x0 x1 x2 x3 x4 xin K7 hT7 B7 O8 b7 hrun
    have K8 := K6.call b68
    have hT8 := hT6.call b68
    have hK8 := hK.call K8.below
    have hU8 := hU.call K8.below
    have hR8 := hR.on K8.below
    have hs8 : w3.heap.size ≤ W8.heap.size := by have := hs34; have := O6.size; have := b68.size; omega
    clear K6 hT6 b68 hcopy cS
    have cR2 := fun u q' (hu : TrAt u q' n (l.set p ⟨xp, xi, xs, xh, xl⟩) k) => root15_any hu HF2.out
    have cHt := fun u (hu : TrAt u q n (l.set p ⟨xp, xi, xs, xh, xl⟩) k) => height15_any hu (by omega)
    have cNd := fun (m : Nat) (hm : m ≤ k) u q' (hu : TrAt u q' n (l.set p ⟨xp, xi, xs, xh, xl⟩) k) => node15_in hu HF2.out hm (p / 2 ^ m) (Nat.lt_of_le_of_lt (Nat.div_le_self _ _) (by omega))
    have cSb := fun u (hu : TrAt u q n (l.set p ⟨xp, xi, xs, xh, xl⟩) k) hT hU => set15_yes hu HF2.out p (by rw [← HF.out.len, HN.out]; exact hpl) ⟨yp, yi, ys, yh, yl⟩ (by rw [HYB.out]; exact HF.out) hT hU
    rw [HYB.out] at cSb
    simp only [Lf.val] at cSb
    generalize hT2T : topN n (l.set p ⟨xp, xi, xs, xh, xl⟩) k = T2 at *
    obtain ⟨vs, vh, vl⟩ := T2
    have er2 := fun u => neq_rt_same vs vh vl k u
    simp only [rootV] at cR2
    go_upto_region 19 with (first
      | (go_at_call 17; refine (c3' g14 c14 _ B8.row hK8 hU8).mono ?_; rintro e w9 ⟨b9, q2, rfl, hT9, hq9⟩)
      | fail)
    have K9 := K8.call b9
    have hTq := hT8.call b9
    have hR9 := hR.on K9.below
    have hK9 := hK.call K9.below
    have hU9 := hU.call K9.below
    have hs9 : w3.heap.size ≤ w9.heap.size := Nat.le_trans hs8 b9.size
    clear c3' hT8 K8 hR8 hK8 hU8 b9 hq9 B8
    go_upto_region 21 with (first
      | (go_at_call 10; ((with_reducible refine (cR2 _ q hTq).mono ?_); rintro e w10 ⟨rfl, b10⟩))
      | (go_at_call 10; ((with_reducible refine (cR2 _ q2 (hT9.call b10)).mono ?_); rintro e w11 ⟨rfl, b11⟩))
      | fail)
    have b911 := chain b10 b11
    have K11 := K9.call b911
    have hTq11 := hTq.call b911
    have hT11 := hT9.call b911
    have hR11 := hR9.on b911
    have hK11 := hK9.call b911
    have hU11 := hU9.call b911
    have hs11 : w3.heap.size ≤ w11.heap.size := Nat.le_trans hs9 b911.size
    clear K9 hTq hT9 hR9 hK9 hU9 b911 b10 b11 cR2 er2
    go_wp2
    go_loopg [19] (k + 1) (fun gk i wr => ∃ m : Nat, m ≤ k + 1 ∧ k + 1 - m ≤ gk ∧ i = .int .i64 m ∧ Below w11.heap.size w11 wr)
    case atStart => exact ⟨0, Nat.zero_le _, by omega, rfl, Below.refl _ _⟩
    case round =>
      obtain ⟨m, hm, hgk, rfl, hb⟩ := hrel
      have HG := hideIt hgk
      clear hgk
      have hTr := hTq11.call hb
      have hT2r := hT11.call hb
      by_cases hlt : m ≤ k
      · have hmi : (m : Int) ≤ (k : Int) := by omega
        have cN := cNd m hlt
        rw [decide_eq_true (place_fit (by rw [← HF.out.len, HN.out]; exact hpl) hlt)] at cN
        generalize ndAt (upN n m ((l.set p ⟨xp, xi, xs, xh, xl⟩).map (nodeOf n))) (p / 2 ^ m) = X at *
        have en := fun u => neq_nd_same X u
        obtain ⟨us, uh, ul⟩ := X
        simp only [Nd.val] at cN en
        obtain ⟨pm, hpm⟩ : ∃ pm, p / 2 ^ m = pm := ⟨_, rfl⟩
        have hsh : (p : Int) / 2 ^ m = (pm : Int) := by rw [← hpm]; norm_cast
        rw [hpm] at cN
        have hj64 : (m : Int) ≤ 64 := by omega
        have hj0 : ¬ (m : Int) < 0 := by omega
        have hjm : min m 64 = m := by omega
        have hjw : IntKind.u64.wrap (m : Int) = (m : Int) := by rw [IntKind.wrap_u64]; omega
        have J0 := Has.start wr
        clear hpm
        go_upto_region 25 with (first
          | (go_at_call 13; refine (cHt _ hTr).mono ?_; rintro e w12 ⟨rfl, rfl⟩)
          | (go_at_call 8; refine (cN _ q hTr).mono ?_; rintro e w12 ⟨rfl, b12⟩; have J1 := (J0.call b12).add 36 (ndB us uh ul))
          | fail)
        obtain ⟨g20, hg20⟩ : ∃ g, w12.heap.size = g := ⟨_, rfl⟩
        rw [hg20] at J1 ⊢
        change Code.wp _ _ _ _ (w12.alloc (.cells (ndB us uh ul) 36))
        generalize w12.alloc (.cells (ndB us uh ul) 36) = W12 at *
        go_upto_region 26 with (first
          | (go_at_call 8; refine (cN _ q2 (hT2r.call J1.below)).mono ?_; rintro e w13 ⟨rfl, b13⟩; have J2 := (J1.call b13).add 36 (ndB us uh ul))
          | fail)
        obtain ⟨g22, hg22⟩ : ∃ g, w13.heap.size = g := ⟨_, rfl⟩
        rw [hg22] at J2 ⊢
        change Code.wp _ _ _ _ (w13.alloc (.cells (ndB us uh ul) 36))
        generalize w13.alloc (.cells (ndB us uh ul) 36) = W13 at *
        obtain ⟨y0, y1, y2, -, -, -, yin⟩ := (J2.box 0).three
        obtain ⟨z0, z1, z2, -, -, -, zin⟩ := (J2.box 1).three
        go_wp2
        go_roundg (k + 1 - (m + 1))
        case measure => have := HG.out; omega
        case rel => exact ⟨m + 1, by omega, Nat.le_refl _, by go_num, chain hb J2.below⟩
      · have e : m = k + 1 := by omega
        subst e
        have hmi : ¬ (((k + 1 : Nat) : Int) ≤ (k : Int)) := by omega
        have hmi2 : ¬ ((k : Int) + 1 ≤ (k : Int)) := by omega
        go_upto_region 28 with (first
          | (go_at_call 13; refine (cHt _ hTr).mono ?_; rintro e w12 ⟨rfl, rfl⟩)
          | fail)
        have K12 := K11.call hb
        have hKr := hK11.call hb
        have hUr := hU11.call hb
        obtain ⟨ad, rfl, g1, -, -, -, -, -⟩ := lf_get (hR11.on hb) HY.out
        have hRw := hR
        have hSl : ∀ u, Below w.heap.size w u → (u.cell? (ad.add (p * 5)) = some (.bool yp) ∧ u.cell? ⟨(ad.add (p * 5)).block, (ad.add (p * 5)).off + 1, none⟩ = some (.string yi) ∧ u.cell? ⟨(ad.add (p * 5)).block, (ad.add (p * 5)).off + 2, none⟩ = some (.string ys) ∧ u.cell? ⟨(ad.add (p * 5)).block, (ad.add (p * 5)).off + 3, none⟩ = some (.int .u64 yh) ∧ u.cell? ⟨(ad.add (p * 5)).block, (ad.add (p * 5)).off + 4, none⟩ = some (.int .u64 yl)) ∧ (ad.add (p * 5)).block < u.heap.size := fun u hu => by
          obtain ⟨ad', e', g1', q0, q1, q2', q3, q4⟩ := lf_get (hRw.on hu) HY.out
          injection e' with e'
          subst e'
          exact ⟨⟨q0, q1, q2', q3, q4⟩, g1'⟩
        have hSx : ∀ u, Has w [(g12, 42, #[.string ts, .int .u64 th, .int .u64 tl, .int .i64 k]), (g7, 26, lfB xp xi xs xh xl)] u → ((u.cell? (ad.add (p * 5)) = some (.bool yp) ∧ u.cell? ⟨(ad.add (p * 5)).block, (ad.add (p * 5)).off + 1, none⟩ = some (.string yi) ∧ u.cell? ⟨(ad.add (p * 5)).block, (ad.add (p * 5)).off + 2, none⟩ = some (.string ys) ∧ u.cell? ⟨(ad.add (p * 5)).block, (ad.add (p * 5)).off + 3, none⟩ = some (.int .u64 yh) ∧ u.cell? ⟨(ad.add (p * 5)).block, (ad.add (p * 5)).off + 4, none⟩ = some (.int .u64 yl)) ∧ (ad.add (p * 5)).block < u.heap.size) ∧
            (u.cell? ⟨g12, 0, none⟩ = some (.string ts) ∧ u.cell? ⟨g12, 1, none⟩ = some (.int .u64 th) ∧ u.cell? ⟨g12, 2, none⟩ = some (.int .u64 tl) ∧ u.cell? ⟨g12, 3, none⟩ = some (.int .i64 k)) ∧ g12 < u.heap.size := fun u hu =>
          ⟨hSl u hu.below, (hu.box 0).four4.1, (hu.box 0).inside⟩
        have Kd := K12.drew
        have hTd := hTr.drew
        have hKd := hKr.call (Below.refl wr.heap.size wr).drew
        have hUd := hUr.call (Below.refl wr.heap.size wr).drew
        have hpli : (p : Int) < (N : Int) := by omega
        refine wp_region_held_drew (S := fun u => ((u.cell? (ad.add (p * 5)) = some (.bool yp) ∧ u.cell? ⟨(ad.add (p * 5)).block, (ad.add (p * 5)).off + 1, none⟩ = some (.string yi) ∧ u.cell? ⟨(ad.add (p * 5)).block, (ad.add (p * 5)).off + 2, none⟩ = some (.string ys) ∧ u.cell? ⟨(ad.add (p * 5)).block, (ad.add (p * 5)).off + 3, none⟩ = some (.int .u64 yh) ∧ u.cell? ⟨(ad.add (p * 5)).block, (ad.add (p * 5)).off + 4, none⟩ = some (.int .u64 yl)) ∧ (ad.add (p * 5)).block < u.heap.size) ∧
            (u.cell? ⟨g12, 0, none⟩ = some (.string ts) ∧ u.cell? ⟨g12, 1, none⟩ = some (.int .u64 th) ∧ u.cell? ⟨g12, 2, none⟩ = some (.int .u64 tl) ∧ u.cell? ⟨g12, 3, none⟩ = some (.int .i64 k)) ∧ g12 < u.heap.size) (by kernel_rfl) (hSx _ Kd) (fun hHeld => ?_)
        have hszd : w3.heap.size ≤ wr.drew.heap.size := by have := hb.size; simp; omega
        generalize wr.drew = Wd at *
        refine wpAnyH_take (i := 0) (v := ?_) rfl (by kernel_rfl) (by kernel_rfl) (by kernel_rfl) (fun _ _ _ h => h) (Or.inl ⟨by rfl, ?_⟩) (by assumption) ?_
        rotate_left 1
        · intro w hSw; (try dsimp only at hSw); go_simp; try with_reducible rfl
        try simp only [Act.put, List.getElem_toArray, List.getElem_cons_succ, List.getElem_cons_zero, List.setIfInBounds_toArray, List.set_cons_zero, List.set_cons_succ]
        refine wpAnyH_take (i := 1) (v := ?_) rfl (by kernel_rfl) (by kernel_rfl) (by kernel_rfl) (fun _ _ _ h => h) (Or.inl ⟨by rfl, ?_⟩) (by assumption) ?_
        rotate_left 1
        · intro w hSw; (try dsimp only at hSw); go_simp; try with_reducible rfl
        try simp only [Act.put, List.getElem_toArray, List.getElem_cons_succ, List.getElem_cons_zero, List.setIfInBounds_toArray, List.set_cons_zero, List.set_cons_succ]
        refine wpAnyH_take (i := 2) (v := ?_) rfl (by kernel_rfl) (by kernel_rfl) (by kernel_rfl) (fun _ _ _ h => h) (Or.inl ⟨by rfl, ?_⟩) (by assumption) ?_
        rotate_left 1
        · intro w hSw; (try dsimp only at hSw); go_simp; try with_reducible rfl
        try simp only [Act.put, List.getElem_toArray, List.getElem_cons_succ, List.getElem_cons_zero, List.setIfInBounds_toArray, List.set_cons_zero, List.set_cons_succ]
        refine wpAnyH_take (i := 3) (v := ?_) rfl (by kernel_rfl) (by kernel_rfl) (by kernel_rfl) (fun _ _ _ h => h) (Or.inl ⟨by rfl, ?_⟩) (by assumption) ?_
        rotate_left 1
        · intro w hSw; (try dsimp only at hSw); go_simp; try with_reducible rfl
        try simp only [Act.put, List.getElem_toArray, List.getElem_cons_succ, List.getElem_cons_zero, List.setIfInBounds_toArray, List.set_cons_zero, List.set_cons_succ]
        refine wpAnyH_take (i := 4) (v := ?_) rfl (by kernel_rfl) (by kernel_rfl) (by kernel_rfl) (fun _ _ _ h => h) (Or.inl ⟨by rfl, ?_⟩) (by assumption) ?_
        rotate_left 1
        · intro w hSw; (try dsimp only at hSw); go_simp; try with_reducible rfl
        try simp only [Act.put, List.getElem_toArray, List.getElem_cons_succ, List.getElem_cons_zero, List.setIfInBounds_toArray, List.set_cons_zero, List.set_cons_succ]
        refine wpAnyH_take (i := 5) (v := ?_) rfl (by kernel_rfl) (by kernel_rfl) (by kernel_rfl) (fun _ _ _ h => h) (Or.inl ⟨by rfl, ?_⟩) (by assumption) ?_
        rotate_left 1
        · intro w hSw; (try dsimp only at hSw); go_simp; try with_reducible rfl
        try simp only [Act.put, List.getElem_toArray, List.getElem_cons_succ, List.getElem_cons_zero, List.setIfInBounds_toArray, List.set_cons_zero, List.set_cons_succ]
        refine wpAnyH_take (i := 6) (v := ?_) rfl (by kernel_rfl) (by kernel_rfl) (by kernel_rfl) (fun _ _ _ h => h) (Or.inl ⟨by rfl, ?_⟩) (by assumption) ?_
        rotate_left 1
        · intro w hSw; (try dsimp only at hSw); go_simp; try with_reducible rfl
        try simp only [Act.put, List.getElem_toArray, List.getElem_cons_succ, List.getElem_cons_zero, List.setIfInBounds_toArray, List.set_cons_zero, List.set_cons_succ]
        refine wpAnyH_ready (rs := [7]) (by kernel_rfl) (by simp) (AllReadyH.cons rfl (fun K hK => ?_) AllReadyH.nil)
        go_simp
        go_at_call 11
        refine (cSb _ hTd hKd hUd).mono ?_
        rintro e w14 ⟨rfl, hT14, O14⟩
        have K14 : Has w [(g12, 42, #[.string ts, .int .u64 th, .int .u64 tl, .int .i64 k]), (g7, 26, lfB xp xi xs xh xl)] w14 := Kd.off O14 (fun i hi => by have := hq3.turns hi; omega) (fun z hz hi => by
          have hbb := hq3.turns hi
          simp only [List.mem_cons, List.not_mem_nil, or_false] at hz
          rcases hz with rfl | rfl
          · have := hbb.2; simp only at this; omega
          · have := hbb.1; simp only at this; omega)
        try simp only []
        refine hK.out _ _ (hSx _ K14) (fun hHeld => ?_)
        clear hK K
        try simp only [Act.put, List.getElem_toArray, List.getElem_cons_succ, List.getElem_cons_zero, List.setIfInBounds_toArray, List.set_cons_zero, List.set_cons_succ]
        refine wpAnyH_take (i := 8) (v := ?_) rfl (by kernel_rfl) (by kernel_rfl) (by kernel_rfl) (fun _ _ _ h => h) (Or.inl ⟨by rfl, ?_⟩) (by assumption) ?_
        rotate_left 1
        · intro w hSw; (try dsimp only at hSw); go_simp; try with_reducible rfl
        try simp only [Act.put, List.getElem_toArray, List.getElem_cons_succ, List.getElem_cons_zero, List.setIfInBounds_toArray, List.set_cons_zero, List.set_cons_succ]
        refine wpAnyH_take (i := 9) (v := ?_) rfl (by kernel_rfl) (by kernel_rfl) (by kernel_rfl) (fun _ _ _ h => h) (Or.inl ⟨by rfl, ?_⟩) (by assumption) ?_
        rotate_left 1
        · intro w hSw; (try dsimp only at hSw); go_simp; try with_reducible rfl
        try simp only [Act.put, List.getElem_toArray, List.getElem_cons_succ, List.getElem_cons_zero, List.setIfInBounds_toArray, List.set_cons_zero, List.set_cons_succ]
        refine wpAnyH_take (i := 10) (v := ?_) rfl (by kernel_rfl) (by kernel_rfl) (by kernel_rfl) (fun _ _ _ h => h) (Or.inl ⟨by rfl, ?_⟩) (by assumption) ?_
        rotate_left 1
        · intro w hSw; (try dsimp only at hSw); go_simp; try with_reducible rfl
        try simp only [Act.put, List.getElem_toArray, List.getElem_cons_succ, List.getElem_cons_zero, List.setIfInBounds_toArray, List.set_cons_zero, List.set_cons_succ]
        refine wpAnyH_take (i := 12) (v := ?_) rfl (by kernel_rfl) (by kernel_rfl) (by kernel_rfl) (fun _ _ _ h => h) (Or.inl ⟨by rfl, ?_⟩) (by assumption) ?_
        rotate_left 1
        · intro w hSw; (try dsimp only at hSw); go_simp; try with_reducible rfl
        try simp only [Act.put, List.getElem_toArray, List.getElem_cons_succ, List.getElem_cons_zero, List.setIfInBounds_toArray, List.set_cons_zero, List.set_cons_succ]
        refine wpAnyH_ready (rs := [11]) (by kernel_rfl) (by simp) (AllReadyH.cons rfl (fun K hK => ?_) AllReadyH.nil)
        go_simp
        go_at_call 10
        refine (cR _ q hT14).mono ?_
        rintro e w15 ⟨rfl, b15⟩
        have K15 := K14.call b15
        try simp only []
        refine hK.out _ _ (hSx _ K15) (fun hHeld => ?_)
        clear hK K
        try simp only [Act.put, List.getElem_toArray, List.getElem_cons_succ, List.getElem_cons_zero, List.setIfInBounds_toArray, List.set_cons_zero, List.set_cons_succ]
        refine wpAnyH_take (i := 13) (v := ?_) rfl (by kernel_rfl) (by kernel_rfl) (by kernel_rfl) (fun _ _ _ h => h) (Or.inl ⟨by rfl, ?_⟩) (by assumption) ?_
        rotate_left 1
        · intro w hSw; (try dsimp only at hSw); go_simp; try with_reducible rfl
        try simp only [Act.put, List.getElem_toArray, List.getElem_cons_succ, List.getElem_cons_zero, List.setIfInBounds_toArray, List.set_cons_zero, List.set_cons_succ]
        refine wpAnyH_take (i := 14) (v := ?_) rfl (by kernel_rfl) (by kernel_rfl) (by kernel_rfl) (fun _ _ _ h => h) (Or.inl ⟨by rfl, ?_⟩) (by assumption) ?_
        rotate_left 1
        · intro w hSw; (try dsimp only at hSw); go_simp; try with_reducible rfl
        try simp only [Act.put, List.getElem_toArray, List.getElem_cons_succ, List.getElem_cons_zero, List.setIfInBounds_toArray, List.set_cons_zero, List.set_cons_succ]
        refine wpAnyH_take (i := 15) (v := ?_) rfl (by kernel_rfl) (by kernel_rfl) (by kernel_rfl) (fun _ _ _ h => h) (Or.inl ⟨by rfl, ?_⟩) (by assumption) ?_
        rotate_left 1
        · intro w hSw; (try dsimp only at hSw); go_simp; try with_reducible rfl
        try simp only [Act.put, List.getElem_toArray, List.getElem_cons_succ, List.getElem_cons_zero, List.setIfInBounds_toArray, List.set_cons_zero, List.set_cons_succ]
        refine wpAnyH_done (by kernel_rfl) ?_ _
        go_wp2
        go_ret
        exact ⟨rfl, by have := K15.below; first | exact this | (rw [HW] at this; exact this)⟩
  · have c2' := fun g c' u hR hT hV => c2 g c' u hE hR hT hV
    clear c2 c3
    obtain ⟨E, hEE⟩ : ∃ E, newE n (l.set p ⟨xp, xi, xs, xh, xl⟩) = E := ⟨_, rfl⟩
    rw [hEE] at c2' hE cS
    have q0 : (E != 0) = true := bne_iff_ne.2 hE
    clear hEE
    unfold SetTo at cS
    simp only [Lf.val] at cS
    obtain ⟨⟨x0, x1, x2, x3, x4⟩, -, xin⟩ := (K4.box 1).five0
    go_upto_region 11 with (first
      | (go_at_call 11; refine (cS _ hT4 hK4 hU4).mono ?_; rintro e w6 ⟨rfl, hT6, O6⟩)
      | fail)
    have K6 : Has w [(g12, 42, #[.string ts, .int .u64 th, .int .u64 tl, .int .i64 k]), (g7, 26, lfB xp xi xs xh xl)] w6 := K4.off O6 (fun i hi => by have := hq3.turns hi; omega) (fun z hz hi => by
      have hb := hq3.turns hi
      simp only [List.mem_cons, List.not_mem_nil, or_false] at hz
      rcases hz with rfl | rfl
      · have := hb.2; simp only at this; omega
      · have := hb.1; simp only at this; omega)
    obtain ⟨g14, c14, w7, hrun, B7, hg14, b7⟩ := hcopy w6 (hR.on K6.below)
    have K7 := K6.call b7
    have hT7 := hT6.call b7
    clear x0 x1 x2 x3 x4 xin
    obtain ⟨⟨x0, x1, x2, x3, x4⟩, -, xin⟩ := (K7.box 1).five0
    obtain ⟨zz, hzz, e0, e1, e2, e3, e4⟩ := lf_there B7 p (by rw [HN.out]; exact hpl)
    have f0 := B7.free (p * 5)
    have f1 := B7.free (p * 5 + 1)
    have f2 := B7.free (p * 5 + 2)
    have f3 := B7.free (p * 5 + 3)
    have f4 := B7.free (p * 5 + 4)
    have hin14 := B7.inside
    have hpi : (p : Int) < (N : Int) := by omega
    go_upto_region 13 with (first
      | (at_builtin; refine gen_run rfl _ _ _ rfl _ _ rfl rfl _ w7 hrun ?_)
      | fail)
    have B8 := lf_put B7 p ⟨xp, xi, xs, xh, xl⟩ (by rw [HN.out]; exact hpl)
    have O8 := putLf_off w7 g14 p ⟨xp, xi, xs, xh, xl⟩
    change Code.wp _ _ _ _ (putLf w7 g14 p ⟨xp, xi, xs, xh, xl⟩)
    have b68 : Below w6.heap.size w6 (putLf w7 g14 p ⟨xp, xi, xs, xh, xl⟩) := b7.trans (O8.below (fun i hi => by have : i = g14 := hi; omega) b7.size)
    generalize putLf w7 g14 p ⟨xp, xi, xs, xh, xl⟩ = W8 at *
    clear e0 e1 e2 e3 e4 f0 f1 f2 f3 f4 hin14 hzz x0 x1 x2 x3 x4 xin K7 hT7 B7 O8 b7 hrun
    have K8 := K6.call b68
    have hT8 := hT6.call b68
    have hK8 := hK.call K8.below
    have hU8 := hU.call K8.below
    have hR8 := hR.on K8.below
    have hs8 : w3.heap.size ≤ W8.heap.size := by have := hs34; have := O6.size; have := b68.size; omega
    clear K6 hT6 b68 hcopy cS
    go_upto_region 17 with (first
      | (go_at_call 17; refine (c2' g14 c14 _ B8.row hK8 hU8).mono ?_; rintro e w9 ⟨rfl, b9⟩)
      | fail)
    have K9 := K8.call b9
    have hTq := hT8.call b9
    clear c2' hT8 K8 hR8 hK8 hU8 B8
    go_upto_region 18 with (first
      | (go_at_call 9; refine (cLf _ q hTq).mono ?_; rintro e w10 ⟨rfl, b10⟩; have K10 := (K9.call b10).add 26 (lfB yp yi ys yh yl))
      | fail)
    have hT10 := (hTq.call b10).past (.cells (lfB yp yi ys yh yl) 26)
    obtain ⟨g17, hg17⟩ : ∃ g, w10.heap.size = g := ⟨_, rfl⟩
    rw [hg17] at K10 ⊢
    change Code.wp _ _ _ _ (w10.alloc (.cells (lfB yp yi ys yh yl) 26))
    generalize w10.alloc (.cells (lfB yp yi ys yh yl) 26) = W10 at *
    have el := fun u => eql_lf_same ⟨yp, yi, ys, yh, yl⟩ u
    simp only [Lf.val] at el
    obtain ⟨ad, rfl, g1, -, -, -, -, -⟩ := lf_get (hR.on K10.below) HY.out
    have hRw := hR
    have hSl : ∀ u, Below w.heap.size w u → (u.cell? (ad.add (p * 5)) = some (.bool yp) ∧ u.cell? ⟨(ad.add (p * 5)).block, (ad.add (p * 5)).off + 1, none⟩ = some (.string yi) ∧ u.cell? ⟨(ad.add (p * 5)).block, (ad.add (p * 5)).off + 2, none⟩ = some (.string ys) ∧ u.cell? ⟨(ad.add (p * 5)).block, (ad.add (p * 5)).off + 3, none⟩ = some (.int .u64 yh) ∧ u.cell? ⟨(ad.add (p * 5)).block, (ad.add (p * 5)).off + 4, none⟩ = some (.int .u64 yl)) ∧ (ad.add (p * 5)).block < u.heap.size := fun u hu => by
      obtain ⟨ad', e', g1', q0, q1, q2', q3, q4⟩ := lf_get (hRw.on hu) HY.out
      injection e' with e'
      subst e'
      exact ⟨⟨q0, q1, q2', q3, q4⟩, g1'⟩
    have hSx : ∀ u, Has w [(g17, 26, lfB yp yi ys yh yl), (g12, 42, #[.string ts, .int .u64 th, .int .u64 tl, .int .i64 k]), (g7, 26, lfB xp xi xs xh xl)] u → ((u.cell? (ad.add (p * 5)) = some (.bool yp) ∧ u.cell? ⟨(ad.add (p * 5)).block, (ad.add (p * 5)).off + 1, none⟩ = some (.string yi) ∧ u.cell? ⟨(ad.add (p * 5)).block, (ad.add (p * 5)).off + 2, none⟩ = some (.string ys) ∧ u.cell? ⟨(ad.add (p * 5)).block, (ad.add (p * 5)).off + 3, none⟩ = some (.int .u64 yh) ∧ u.cell? ⟨(ad.add (p * 5)).block, (ad.add (p * 5)).off + 4, none⟩ = some (.int .u64 yl)) ∧ (ad.add (p * 5)).block < u.heap.size) ∧
        ((u.cell? ⟨g12, 0, none⟩ = some (.string ts) ∧ u.cell? ⟨g12, 1, none⟩ = some (.int .u64 th) ∧ u.cell? ⟨g12, 2, none⟩ = some (.int .u64 tl) ∧ u.cell? ⟨g12, 3, none⟩ = some (.int .i64 k)) ∧ g12 < u.heap.size) ∧
        (u.cell? ⟨g17, 0, none⟩ = some (.bool yp) ∧ u.cell? ⟨g17, 1, none⟩ = some (.string yi) ∧ u.cell? ⟨g17, 2, none⟩ = some (.string ys) ∧ u.cell? ⟨g17, 3, none⟩ = some (.int .u64 yh) ∧ u.cell? ⟨g17, 4, none⟩ = some (.int .u64 yl)) ∧ g17 < u.heap.size := fun u hu =>
      ⟨hSl u hu.below, ⟨(hu.box 1).four4.1, (hu.box 1).inside⟩, (hu.box 0).five0.1, (hu.box 0).inside⟩
    have Kd := K10.drew
    have hTd := hT10.drew
    have hpli : (p : Int) < (N : Int) := by omega
    refine wp_region_held_drew (S := fun u => ((u.cell? (ad.add (p * 5)) = some (.bool yp) ∧ u.cell? ⟨(ad.add (p * 5)).block, (ad.add (p * 5)).off + 1, none⟩ = some (.string yi) ∧ u.cell? ⟨(ad.add (p * 5)).block, (ad.add (p * 5)).off + 2, none⟩ = some (.string ys) ∧ u.cell? ⟨(ad.add (p * 5)).block, (ad.add (p * 5)).off + 3, none⟩ = some (.int .u64 yh) ∧ u.cell? ⟨(ad.add (p * 5)).block, (ad.add (p * 5)).off + 4, none⟩ = some (.int .u64 yl)) ∧ (ad.add (p * 5)).block < u.heap.size) ∧
        ((u.cell? ⟨g12, 0, none⟩ = some (.string ts) ∧ u.cell? ⟨g12, 1, none⟩ = some (.int .u64 th) ∧ u.cell? ⟨g12, 2, none⟩ = some (.int .u64 tl) ∧ u.cell? ⟨g12, 3, none⟩ = some (.int .i64 k)) ∧ g12 < u.heap.size) ∧
        (u.cell? ⟨g17, 0, none⟩ = some (.bool yp) ∧ u.cell? ⟨g17, 1, none⟩ = some (.string yi) ∧ u.cell? ⟨g17, 2, none⟩ = some (.string ys) ∧ u.cell? ⟨g17, 3, none⟩ = some (.int .u64 yh) ∧ u.cell? ⟨g17, 4, none⟩ = some (.int .u64 yl)) ∧ g17 < u.heap.size) (by kernel_rfl) (hSx _ Kd) (fun hHeld => ?_)
    generalize W10.drew = Wd at *
    refine wpAnyH_take (i := 0) (v := ?_) rfl (by kernel_rfl) (by kernel_rfl) (by kernel_rfl) (fun _ _ _ h => h) (Or.inl ⟨by rfl, ?_⟩) (by assumption) ?_
    rotate_left 1
    · intro w hSw; (try dsimp only at hSw); go_simp; try with_reducible rfl
    try simp only [Act.put, List.getElem_toArray, List.getElem_cons_succ, List.getElem_cons_zero, List.setIfInBounds_toArray, List.set_cons_zero, List.set_cons_succ]
    refine wpAnyH_take (i := 2) (v := ?_) rfl (by kernel_rfl) (by kernel_rfl) (by kernel_rfl) (fun _ _ _ h => h) (Or.inl ⟨by rfl, ?_⟩) (by assumption) ?_
    rotate_left 1
    · intro w hSw; (try dsimp only at hSw); go_simp; try with_reducible rfl
    try simp only [Act.put, List.getElem_toArray, List.getElem_cons_succ, List.getElem_cons_zero, List.setIfInBounds_toArray, List.set_cons_zero, List.set_cons_succ]
    refine wpAnyH_ready (rs := [1]) (by kernel_rfl) (by simp) (AllReadyH.cons rfl (fun K hK => ?_) AllReadyH.nil)
    go_simp
    go_at_call 10
    refine (cR _ q hTd).mono ?_
    rintro e w15 ⟨rfl, b15⟩
    have K15 := Kd.call b15
    try simp only []
    refine hK.out _ _ (hSx _ K15) (fun hHeld => ?_)
    clear hK K
    try simp only [Act.put, List.getElem_toArray, List.getElem_cons_succ, List.getElem_cons_zero, List.setIfInBounds_toArray, List.set_cons_zero, List.set_cons_succ]
    refine wpAnyH_take (i := 3) (v := ?_) rfl (by kernel_rfl) (by kernel_rfl) (by kernel_rfl) (fun _ _ _ h => h) (Or.inl ⟨by rfl, ?_⟩) (by assumption) ?_
    rotate_left 1
    · intro w hSw; (try dsimp only at hSw); go_simp; try with_reducible rfl
    try simp only [Act.put, List.getElem_toArray, List.getElem_cons_succ, List.getElem_cons_zero, List.setIfInBounds_toArray, List.set_cons_zero, List.set_cons_succ]
    refine wpAnyH_take (i := 4) (v := ?_) rfl (by kernel_rfl) (by kernel_rfl) (by kernel_rfl) (fun _ _ _ h => h) (Or.inl ⟨by rfl, ?_⟩) (by assumption) ?_
    rotate_left 1
    · intro w hSw; (try dsimp only at hSw); go_simp; try with_reducible rfl
    try simp only [Act.put, List.getElem_toArray, List.getElem_cons_succ, List.getElem_cons_zero, List.setIfInBounds_toArray, List.set_cons_zero, List.set_cons_succ]
    refine wpAnyH_take (i := 5) (v := ?_) rfl (by kernel_rfl) (by kernel_rfl) (by kernel_rfl) (fun _ _ _ h => h) (Or.inl ⟨by rfl, ?_⟩) (by assumption) ?_
    rotate_left 1
    · intro w hSw; (try dsimp only at hSw); go_simp; try with_reducible rfl
    try simp only [Act.put, List.getElem_toArray, List.getElem_cons_succ, List.getElem_cons_zero, List.setIfInBounds_toArray, List.set_cons_zero, List.set_cons_succ]
    refine wpAnyH_take (i := 6) (v := ?_) rfl (by kernel_rfl) (by kernel_rfl) (by kernel_rfl) (fun _ _ _ h => h) (Or.inl ⟨by rfl, ?_⟩) (by assumption) ?_
    rotate_left 1
    · intro w hSw; (try dsimp only at hSw); go_simp; try with_reducible rfl
    try simp only [Act.put, List.getElem_toArray, List.getElem_cons_succ, List.getElem_cons_zero, List.setIfInBounds_toArray, List.set_cons_zero, List.set_cons_succ]
    refine wpAnyH_take (i := 7) (v := ?_) rfl (by kernel_rfl) (by kernel_rfl) (by kernel_rfl) (fun _ _ _ h => h) (Or.inl ⟨by rfl, ?_⟩) (by assumption) ?_
    rotate_left 1
    · intro w hSw; (try dsimp only at hSw); go_simp; try with_reducible rfl
    try simp only [Act.put, List.getElem_toArray, List.getElem_cons_succ, List.getElem_cons_zero, List.setIfInBounds_toArray, List.set_cons_zero, List.set_cons_succ]
    refine wpAnyH_take (i := 8) (v := ?_) rfl (by kernel_rfl) (by kernel_rfl) (by kernel_rfl) (fun _ _ _ h => h) (Or.inl ⟨by rfl, ?_⟩) (by assumption) ?_
    rotate_left 1
    · intro w hSw; (try dsimp only at hSw); go_simp; try with_reducible rfl
    try simp only [Act.put, List.getElem_toArray, List.getElem_cons_succ, List.getElem_cons_zero, List.setIfInBounds_toArray, List.set_cons_zero, List.set_cons_succ]
    refine wpAnyH_take (i := 9) (v := ?_) rfl (by kernel_rfl) (by kernel_rfl) (by kernel_rfl) (fun _ _ _ h => h) (Or.inl ⟨by rfl, ?_⟩) (by assumption) ?_
    rotate_left 1
    · intro w hSw; (try dsimp only at hSw); go_simp; try with_reducible rfl
    try simp only [Act.put, List.getElem_toArray, List.getElem_cons_succ, List.getElem_cons_zero, List.setIfInBounds_toArray, List.set_cons_zero, List.set_cons_succ]
    refine wpAnyH_take (i := 10) (v := ?_) rfl (by kernel_rfl) (by kernel_rfl) (by kernel_rfl) (fun _ _ _ h => h) (Or.inl ⟨by rfl, ?_⟩) (by assumption) ?_
    rotate_left 1
    · intro w hSw; (try dsimp only at hSw); go_simp; try with_reducible rfl
    try simp only [Act.put, List.getElem_toArray, List.getElem_cons_succ, List.getElem_cons_zero, List.setIfInBounds_toArray, List.set_cons_zero, List.set_cons_succ]
    refine wpAnyH_take (i := 11) (v := ?_) rfl (by kernel_rfl) (by kernel_rfl) (by kernel_rfl) (fun _ _ _ h => h) (Or.inl ⟨by rfl, ?_⟩) (by assumption) ?_
    rotate_left 1
    · intro w hSw; (try dsimp only at hSw); go_simp; try with_reducible rfl
    try simp only [Act.put, List.getElem_toArray, List.getElem_cons_succ, List.getElem_cons_zero, List.setIfInBounds_toArray, List.set_cons_zero, List.set_cons_succ]
    refine wpAnyH_take (i := 12) (v := ?_) rfl (by kernel_rfl) (by kernel_rfl) (by kernel_rfl) (fun _ _ _ h => h) (Or.inl ⟨by rfl, ?_⟩) (by assumption) ?_
    rotate_left 1
    · intro w hSw; (try dsimp only at hSw); go_simp; try with_reducible rfl
    try simp only [Act.put, List.getElem_toArray, List.getElem_cons_succ, List.getElem_cons_zero, List.setIfInBounds_toArray, List.set_cons_zero, List.set_cons_succ]
    refine wpAnyH_take (i := 13) (v := ?_) rfl (by kernel_rfl) (by kernel_rfl) (by kernel_rfl) (fun _ _ _ h => h) (Or.inl ⟨by rfl, ?_⟩) (by assumption) ?_
    rotate_left 1
    · intro w hSw; (try dsimp only at hSw); go_simp; try with_reducible rfl
    try simp only [Act.put, List.getElem_toArray, List.getElem_cons_succ, List.getElem_cons_zero, List.setIfInBounds_toArray, List.set_cons_zero, List.set_cons_succ]
    refine wpAnyH_take (i := 14) (v := ?_) rfl (by kernel_rfl) (by kernel_rfl) (by kernel_rfl) (fun _ _ _ h => h) (Or.inl ⟨by rfl, ?_⟩) (by assumption) ?_
    rotate_left 1
    · intro w hSw; (try dsimp only at hSw); go_simp; try with_reducible rfl
    try simp only [Act.put, List.getElem_toArray, List.getElem_cons_succ, List.getElem_cons_zero, List.setIfInBounds_toArray, List.set_cons_zero, List.set_cons_succ]
    refine wpAnyH_take (i := 15) (v := ?_) rfl (by kernel_rfl) (by kernel_rfl) (by kernel_rfl) (fun _ _ _ h => h) (Or.inl ⟨by rfl, ?_⟩) (by assumption) ?_
    rotate_left 1
    · intro w hSw; (try dsimp only at hSw); go_simp; try with_reducible rfl
    try simp only [Act.put, List.getElem_toArray, List.getElem_cons_succ, List.getElem_cons_zero, List.setIfInBounds_toArray, List.set_cons_zero, List.set_cons_succ]
    refine wpAnyH_done (by kernel_rfl) ?_ _
    go_wp2
    go_ret
    exact ⟨rfl, by have := K15.below; first | exact this | (rw [HW] at this; exact this)⟩
end Go.Proofs.YtbhgcmdodjgpmaaDoor
