/- Several of my texts, laid as one. -/
import Derived.Test.YtbhgcmdodjgpmaaGreatDoorM15R
import Derived.Test.YtbhgcmdodjgpmaaGreatDoorM15Law
/-
  The law TreeSets: whatever leaves are set: what is answered, the root, the leaves, are those that the chapter says; a copy goes on alone. Conditions: none.
-/
namespace Go.Proofs.YtbhgcmdodjgpmaaGreatDoor
set_option linter.unusedVariables false
set_option linter.unusedSimpArgs false
set_option maxRecDepth 10000
open Go.ChangeShapes Go.WideShapes Go.ChangeAt Go.RowKit

/-- What Set tells, and what becomes of the tree. -/
def SetTo (q : TrG) (n : Int) (l l2 : List Lf) (k p : Nat) (x : Lf) (E : Int) : Prop := ∀ u, TrAt u q n l k → Tab u → TabU u →
  Calls Tryz.prog 19 #[.pointer (some ⟨q.g, 0, none⟩), .int .u64 p, x.val] u (fun e w' => e = .returned (.int .i64 E) ∧ TrAt w' q n l2 k ∧ Off q.turns u w')
def RSetTo (n : Int) (l l2 : List Lf) (p : Nat) (x : Lf) (E : Int) : Prop := ∀ u g gl d, RTr u g gl d n l →
  Calls Tryz.prog 20 #[.pointer (some ⟨g, 0, none⟩), .int .u64 p, x.val] u (fun e w' => Below u.heap.size u w' ∧ ∃ g' gl' d', e = .returned (.tuple #[.pointer (some ⟨g', 0, none⟩), .int .i64 E]) ∧ RTr w' g' gl' d' n l2 ∧ (g' = g ∨ u.heap.size ≤ g') ∧ (gl' = gl ∨ u.heap.size ≤ gl'))
theorem rset_same {n : Int} {l : List Lf} {p : Nat} {x : Lf} {E : Int} (h : ∀ u g gl d, RTr u g gl d n l → Calls Tryz.prog 20 #[.pointer (some ⟨g, 0, none⟩), .int .u64 p, x.val] u (Tells (.tuple #[.pointer (some ⟨g, 0, none⟩), .int .i64 E]) u.heap.size u)) : RSetTo n l l p x E :=
  fun u g gl d hu => (h u g gl d hu).mono fun e w' ⟨he, hb⟩ => ⟨hb, g, gl, d, he, hu.call hb, Or.inl rfl, Or.inl rfl⟩
theorem set_same {q : TrG} {n : Int} {l : List Lf} {k p : Nat} {x : Lf} {E : Int} (h : ∀ u, TrAt u q n l k → Tab u → TabU u → Calls Tryz.prog 19 #[.pointer (some ⟨q.g, 0, none⟩), .int .u64 p, x.val] u (Tells (.int .i64 E) u.heap.size u)) : SetTo q n l l k p x E :=
  fun u hu hT hU => (h u hu hT hU).mono fun e w' ⟨he, hb⟩ => ⟨he, hu.call hb, Off.of hb⟩
/-- Whatever is set, the chapter and the program tell the same, and go on with the same leaves. -/
theorem sets_any {n : Int} {l : List Lf} {k : Nat} (hF : FairT n l k) (hk : k ≤ 6) (p : Nat) (hp : p < 18446744073709551616) (x : Lf) (hx : x.fine15) (hs : x.id.size ≤ 1000000 ∧ x.salt.size ≤ 1000000) :
    ∃ (E : Int) (l2 : List Lf), FairT n l2 k ∧ (∀ q, SetTo q n l l2 k p x E) ∧ RSetTo n l l2 p x E := by
  by_cases hpl : p < l.length
  · have hpk : p < 2 ^ k := by rw [← hF.len]; exact hpl
    rcases newE_set hF p hpk x hx.2 with ⟨h1, h2⟩ | ⟨h1, h2⟩ | ⟨h1, h2, h3⟩
    · exact ⟨0, l.set p x, h2, fun q u hu hT hU => set15_yes hu hF p hpk x h2 hT hU, fun u g gl d hu => (rset15_yes hu hF hk p hpl x h2).mono fun e w' ⟨hb, g', gl', d', he, hr, h3, h4⟩ => ⟨hb, g', gl', d', he, hr, Or.inr h3, Or.inr h4⟩⟩
    · have h0 : newE n (l.set p x) ≠ 0 := by rw [h1]; decide
      exact ⟨130, l, hF, fun q => set_same fun u hu hT hU => set15_leaf hu hF p hpl x h2 hs.1 hs.2 hU, rset_same fun u g gl d hu => by rw [← h1]; exact rset15_no hu hF hk p hpl x hx hs h0⟩
    · have h0 : newE n (l.set p x) ≠ 0 := by rw [h1]; decide
      exact ⟨10, l, hF, fun q => set_same fun u hu hT hU => set15_full hu hF p hpk x ⟨h2, hx.2⟩ h3 hT hU, rset_same fun u g gl d hu => by rw [← h1]; exact rset15_no hu hF hk p hpl x hx hs h0⟩
  · exact ⟨2, l, hF, fun q => set_same fun u hu hT hU => set15_arg hu hF p hp hpl x, rset_same fun u g gl d hu => rset15_arg hu (by have := hF.most; omega) p hp hpl x⟩
set_option maxRecDepth 100000 in
set_option maxHeartbeats 8000000 in
theorem treeSets_no (n : Int) (A : Option Addr) (c : Nat) (l : List Lf) (B : Option Addr) (cb : Nat) (m : Nat) (hm : m ≤ 9223372036854775807) (hc : l.length ≤ c) (hcm : c ≤ 9223372036854775807) (hs : ∀ x ∈ l, x.fine15) (hor : (greatLf l = true ∨ 20 < m) ∨ newE n l ≠ 0)
    (w : World) (hR : lfS.Row w w.heap.size A l) (hK : Tab w) (hU : TabU w) :
    Calls Tryz.prog 4 #[.int .i64 n, .slice A l.length c, .slice B m cb] w (Tells (.bool true) w.heap.size w) := by
  have cG := great15_any A c l (by omega) (fun x hx => (hs x hx).1) w hR
  have K0 := Has.start w
  cases hg : greatLf l with
  | true =>
    rw [hg] at cG
    clear hor hg
    go_enter Tryz.func4, Tryz.ntmps4
    go_wp2_with (first
      | (go_at_call 5; refine cG.mono ?_; rintro e w2 ⟨rfl, rfl⟩)
      | fail)
    go_ret
    exact ⟨rfl, Below.refl _ _⟩
  | false =>
    rw [hg] at cG hor
    by_cases hm20 : 20 < m
    · have hmi : (20 : Int) < (m : Int) := by omega
      clear hor hg
      go_enter Tryz.func4, Tryz.ntmps4
      go_wp2_with (first
        | (go_at_call 5; refine cG.mono ?_; rintro e w2 ⟨rfl, rfl⟩)
        | fail)
      go_ret
      exact ⟨rfl, Below.refl _ _⟩
    · have hmi : ¬ (20 : Int) < (m : Int) := by omega
      have hE : newE n l ≠ 0 := by
        rcases hor with (h | h) | h
        · cases h
        · exact absurd h hm20
        · exact h
      obtain ⟨hl70, hsz⟩ := greatLf_no hg
      have c1 := fun u hR hT hV => new15_err n A c l u (by omega) (fun x hx => (hs x hx).1) (fun x hx => (hs x hx).2) hE hR hT hV
      have c2 := fun u hR => rnew15_err n A c l u (by omega) (fun x hx => ⟨by have := hsz x hx; omega, by have := hsz x hx; omega⟩) (fun x hx => (hs x hx).2) hE hR
      generalize newE n l = E at *
      have q0 : (E != 0) = true := bne_iff_ne.2 hE
      clear hor hg hsz
      go_enter Tryz.func4, Tryz.ntmps4
      go_wp2_with (first
        | (go_at_call 5; refine cG.mono ?_; rintro e w2 ⟨rfl, rfl⟩)
        | (go_at_call 6; refine (c1 _ hR hK hU).mono ?_; rintro e w5 ⟨rfl, b5⟩; have K5 := K0.call b5)
        | (go_at_call 7; refine (c2 _ (hR.on K5.below)).mono ?_; rintro e w6 ⟨rfl, b6⟩; have K6 := K5.call b6)
        | fail)
      go_ret
      exact ⟨rfl, K6.below⟩
theorem cells_act {u : World} {g : Nat} {t : TypeId} {v0 v1 v2 v3 v4 v5 v6 : Value} (h : Box u g t #[v0, v1, v2, v3, v4, v5, v6]) : u.cell? ⟨g, 0, none⟩ = some v0 ∧ u.cell? ⟨g, 1, none⟩ = some v1 ∧ u.cell? ⟨g, 2, none⟩ = some v2 ∧ u.cell? ⟨g, 3, none⟩ = some v3 ∧ u.cell? ⟨g, 4, none⟩ = some v4 ∧ u.cell? ⟨g, 5, none⟩ = some v5 :=
  ⟨h.read 0, h.read 1, h.read 2, h.read 3, h.read 4, h.read 5⟩
theorem neq_lf_self15 (x : Lf) (u : World) : (binOp .neq 36 x.val x.val).run Tryz.prog u = .ok (.bool false) u := by rw [run_neq_lf, Lf.same_self]; rfl
set_option maxRecDepth 100000 in
set_option maxHeartbeats 16000000 in
theorem treeSets_fair (n : Int) (A : Option Addr) (c : Nat) (l : List Lf) (B : Option Addr) (cb : Nat) (acts : List ActP) (hm20 : acts.length ≤ 20) (hc : l.length ≤ c) (hcm : c ≤ 9223372036854775807) (hg : greatLf l = false) (k : Nat) (hF : FairT n l k) (hfa : ∀ x ∈ acts, x.fine)
    (w : World) (hR : lfS.Row w w.heap.size A l) (hQ : actS.Row w w.heap.size B acts) (hK : Tab w) (hU : TabU w) :
    Calls Tryz.prog 4 #[.int .i64 n, .slice A l.length c, .slice B acts.length cb] w (Tells (.bool true) w.heap.size w) := by
  obtain ⟨hl70, hsz⟩ := greatLf_no hg
  have hk : k ≤ 6 := by
    by_cases hk : k ≤ 6
    · exact hk
    · have h1 : 2 ^ 7 ≤ 2 ^ k := Nat.pow_le_pow_right (by decide) (by omega)
      rw [← hF.len] at h1
      omega
  have cG := great15_any A c l (by omega) (fun x hx => ⟨by have := hsz x hx; omega, by have := hsz x hx; omega⟩) w hR
  rw [hg] at cG
  have c1 := fun u hR hT hV => new15_fair n A c l u hF hR hT hV
  have c2 := fun u hR => rnew15_fair n A c l u hF hk hR
  obtain ⟨N, hN⟩ : ∃ N, l.length = N := ⟨_, rfl⟩
  obtain ⟨MA, hMA⟩ : ∃ MA, acts.length = MA := ⟨_, rfl⟩
  have hFN : N = 2 ^ k := hN.symm.trans hF.len
  rw [hN] at cG c1 c2 hl70 ⊢
  rw [hMA] at hm20 ⊢
  have HMA := hideIt hMA
  have HFN := hideIt hFN
  have HF := hideIt hF
  have HFA := hideIt hfa
  have K0 := Has.start w
  have hmi : ¬ (20 : Int) < (MA : Int) := by omega
  clear hg hN hMA hF hsz hFN hfa
  go_enter Tryz.func4, Tryz.ntmps4
  go_upto_region 7 with (first
    | (go_at_call 5; refine cG.mono ?_; rintro e w2 ⟨rfl, rfl⟩)
    | (go_at_call 6; refine (c1 _ hR hK hU).mono ?_; rintro e w5 ⟨b5, q, rfl, hT5, hq5⟩; have K5 := K0.call b5)
    | (go_at_call 7; refine (c2 _ (hR.on K5.below)).mono ?_; rintro e w6 ⟨b6, gr, grl, dr, rfl, hr6, hgr6, hgrl6⟩; have K6 := K5.call b6; have hT6 := hT5.call b6)
    | fail)
  have B6 := K6.below
  have hs56 : w5.heap.size ≤ w6.heap.size := b6.size
  have hw5 : w.heap.size ≤ w5.heap.size := b5.size
  clear K0 K5 K6 hT5 b5 b6 cG c1 c2
  go_wp2
  go_loopg [7, 9, 11] MA (fun gk tv wv i wr => ∃ (m : Nat) (q : TrG) (l' : List Lf) (gr grl dr lo hi : Nat), m ≤ MA ∧ MA - m ≤ gk ∧ i = .int .i64 m ∧ tv = .pointer (some ⟨q.g, 0, none⟩) ∧ wv = .pointer (some ⟨gr, 0, none⟩) ∧ FairT n l' k ∧ TrAt wr q n l' k ∧ RTr wr gr grl dr n l' ∧ q.within lo hi ∧ w.heap.size ≤ lo ∧ hi ≤ wr.heap.size ∧ (gr < lo ∨ hi ≤ gr) ∧ (grl < lo ∨ hi ≤ grl) ∧ Below w.heap.size w wr)
  case atStart => exact ⟨0, q, l, gr, grl, dr, w.heap.size, w5.heap.size, Nat.zero_le _, by omega, rfl, rfl, rfl, HF.out, hT6, hr6, hq5, Nat.le_refl _, hs56, Or.inr hgr6, Or.inr hgrl6, B6⟩
  case round =>
    clear hT6 hr6 hq5 hs56 hgr6 hgrl6 B6 hw5 HF
    obtain ⟨m, q, l', gr, grl, dr, lo, hi, hm, hgk, rfl, rfl, rfl, hF, hT, hr, hq, hlo, hhi, hgr, hgrl, hB⟩ := hrel
    have HG := hideIt hgk
    clear hgk
    by_cases hlt : m < MA
    · have hmi2 : (m : Int) < (MA : Int) := by omega
      have hl' : l'.length = N := hF.len.trans HFN.out.symm
      obtain ⟨x, hx⟩ : ∃ x, acts[m]? = some x := ⟨_, List.getElem?_eq_getElem (by rw [HMA.out]; exact hlt)⟩
      obtain ⟨hx1, hx2⟩ := HFA.out x (List.mem_of_getElem? hx)
      obtain ⟨ad, rfl, g1, p0, p1, p2, p3, p4, p5, p6⟩ := act_get (hQ.on hB) hx
      obtain ⟨ps, y, cp⟩ := x
      simp only at hx1 hx2 p0 p1 p2 p3 p4 p5 p6
      obtain ⟨p, rfl⟩ := Int.eq_ofNat_of_zero_le hx1.1
      have hp : p < 18446744073709551616 := by have := hx1.2; omega
      have cG1 := fun (u : World) hu => great15_any (some ⟨u.heap.size, 0, none⟩) 1 [y] (by simp) (fun z hz => by rw [List.mem_singleton.1 hz]; exact hx2.1) (u.alloc (.cells (lfS.flat [y]).toArray 36)) hu
      have hrow := fun u => lf_rowL u [y]
      obtain ⟨V, hV⟩ : ∃ V, greatLf [y] = V := ⟨_, rfl⟩
      rw [hV] at cG1
      have HV := hideIt hV
      have HX2 := hideIt hx2
      clear hx hx1 hx2 hV
      obtain ⟨xp, xi, xs, xh, xl⟩ := y
      simp only [List.length_cons, List.length_nil, Nat.zero_add] at cG1 p0 p1 p2 p3 p4 p5 p6
      have hpi0 : 0 ≤ (p : Int) := by omega
      have K1 := ((Has.start w).call hB).add 52 #[.int .u64 p, .bool xp, .string xi, .string xs, .int .u64 xh, .int .u64 xl, .bool cp]
      have hT1 := hT.past (.cells #[.int .u64 p, .bool xp, .string xi, .string xs, .int .u64 xh, .int .u64 xl, .bool cp] 52)
      have hr1 := hr.past (.cells #[.int .u64 p, .bool xp, .string xi, .string xs, .int .u64 xh, .int .u64 xl, .bool cp] 52)
      have hgrw : gr < wr.heap.size := hr.1.inside
      have hgrlw : grl < wr.heap.size := hr.2.inside
      go_upto_region 11 with fail
      obtain ⟨g12, hg12⟩ : ∃ g, wr.heap.size = g := ⟨_, rfl⟩
      rw [hg12] at K1 hgrw hgrlw hhi ⊢
      change Code.wp _ _ _ _ (wr.alloc (.cells #[.int .u64 p, .bool xp, .string xi, .string xs, .int .u64 xh, .int .u64 xl, .bool cp] 52))
      generalize wr.alloc (.cells #[.int .u64 p, .bool xp, .string xi, .string xs, .int .u64 xh, .int .u64 xl, .bool cp] 52) = W1 at *
      have hin := (K1.box 0).inside
      obtain ⟨x0, x1, x2, x3, x4, x5, x6⟩ : W1.cell? ⟨g12, 0, none⟩ = some (.int .u64 p) ∧ W1.cell? ⟨g12, 1, none⟩ = some (.bool xp) ∧ W1.cell? ⟨g12, 2, none⟩ = some (.string xi) ∧ W1.cell? ⟨g12, 3, none⟩ = some (.string xs) ∧ W1.cell? ⟨g12, 4, none⟩ = some (.int .u64 xh) ∧ W1.cell? ⟨g12, 5, none⟩ = some (.int .u64 xl) ∧ W1.cell? ⟨g12, 6, none⟩ = some (.bool cp) := ⟨(K1.box 0).read 0, (K1.box 0).read 1, (K1.box 0).read 2, (K1.box 0).read 3, (K1.box 0).read 4, (K1.box 0).read 5, (K1.box 0).read 6⟩
      have cG2 := cG1 W1 (hrow W1)
      have cG2 : Calls Tryz.prog 5 #[.slice (some ⟨W1.heap.size, 0, none⟩) 1 1] (W1.alloc (.cells (lfB xp xi xs xh xl) 36)) (Plain (.bool V) (W1.alloc (.cells (lfB xp xi xs xh xl) 36))) := cG2
      have K2 := K1.past (.cells (lfB xp xi xs xh xl) 36)
      clear cG1 hrow p0 p1 p2 p3 p4 p5 p6 g1 hT hr
      cases V with
      | true =>
        go_wp2_with (first
          | (go_at_call 5; ((with_reducible refine cG2.mono ?_); rintro e w2 ⟨rfl, rfl⟩))
          | fail)
        go_ret
        exact ⟨rfl, K2.below⟩
      | false =>
        obtain ⟨-, hs⟩ := greatLf_no HV.out
        obtain ⟨hs1, hs2⟩ := hs _ (List.mem_singleton.2 rfl)
        obtain ⟨E, l2, hF2, cS, cRS⟩ := sets_any hF hk p hp ⟨xp, xi, xs, xh, xl⟩ HX2.out ⟨Nat.le_trans hs1 (by decide), Nat.le_trans hs2 (by decide)⟩
        have hT2 := hT1.past (.cells (lfB xp xi xs xh xl) 36)
        have hr2 := hr1.past (.cells (lfB xp xi xs xh xl) 36)
        clear hs hs1 hs2 hT1 hr1
        unfold SetTo at cS
        unfold RSetTo at cRS
        simp only [Lf.val] at cS cRS
        cases cp with
        | false =>
          go_upto_region 19 with (first
            | (go_at_call 5; ((with_reducible refine cG2.mono ?_); rintro e w2 ⟨rfl, rfl⟩))
            | fail)
          generalize W1.alloc (.cells (lfB xp xi xs xh xl) 36) = Wc at *
          have Kc := K2
          have hTc := hT2
          have hrc := hr2
          rename TrG => q2
          obtain ⟨lo2, hi2, hq2, hlo2, hhi2, hgr2, hgrl2, hhg⟩ : ∃ lo2 hi2, q2.within lo2 hi2 ∧ w.heap.size ≤ lo2 ∧ hi2 ≤ Wc.heap.size ∧ (gr < lo2 ∨ hi2 ≤ gr) ∧ (grl < lo2 ∨ hi2 ≤ grl) ∧ (g12 < lo2 ∨ hi2 ≤ g12) :=
            ⟨lo, hi, hq, hlo, by have := (K2.box 0).inside; omega, hgr, hgrl, Or.inr hhi⟩
          clear x0 x1 x2 x3 x4 x5 x6 K1 K2 hT2 hr2 cG2 hq hlo hhi hgr hgrl hin
          obtain ⟨cpv, Kc⟩ : ∃ cpv : Value, Has w [(g12, 52, #[.int .u64 p, .bool xp, .string xi, .string xs, .int .u64 xh, .int .u64 xl, cpv])] Wc := ⟨_, Kc⟩
          have hcell := fun u (hu : Box u g12 52 #[.int .u64 p, .bool xp, .string xi, .string xs, .int .u64 xh, .int .u64 xl, cpv]) => cells_act hu
          obtain ⟨z0, z1, z2, z3, z4, z5⟩ := hcell _ (Kc.box 0)
          have zin := (Kc.box 0).inside
          go_upto_region 20 with (first
            | (go_at_call 20; refine (cRS _ gr grl dr hrc).mono ?_; rintro e w5 ⟨b5, g', gl', d', rfl, hr5, hg', hgl'⟩)
            | fail)
          have K5 := Kc.call b5
          have hT5 := hTc.call b5
          have hs5 : Wc.heap.size ≤ w5.heap.size := b5.size
          have hg2' : g' < lo2 ∨ hi2 ≤ g' := by rcases hg' with h | h <;> omega
          have hgl2' : gl' < lo2 ∨ hi2 ≤ gl' := by rcases hgl' with h | h <;> omega
          clear z0 z1 z2 z3 z4 z5 zin hg' hgl' b5
          obtain ⟨z0, z1, z2, z3, z4, z5⟩ := hcell _ (K5.box 0)
          have zin := (K5.box 0).inside
          go_upto_region 22 with (first
            | (go_at_call 19; refine (cS q2 _ hT5 (hK.call K5.below) (hU.call K5.below)).mono ?_; rintro e w6 ⟨rfl, hT6, O6⟩)
            | fail)
          have K6 := K5.off O6 (fun i hi => by have := hq2.turns hi; omega) (fun z hz hi => by
            have hbb := hq2.turns hi
            simp only [List.mem_cons, List.not_mem_nil, or_false] at hz
            subst hz
            simp only at hbb
            omega)
          have hr6 := hr5.off O6 (fun hi => by have := hq2.turns hi; omega) (fun hi => by have := hq2.turns hi; omega)
          have hs6 : w5.heap.size ≤ w6.heap.size := O6.size
          clear z0 z1 z2 z3 z4 z5 zin
          obtain ⟨z0, z1, z2, z3, z4, z5⟩ := hcell _ (K6.box 0)
          have zin := (K6.box 0).inside
          have hl2 : l2.length = N := hF2.len.trans HFN.out.symm
          have cLf := fun u (hu : TrAt u q2 n l2 k) => leaf15_any hu hF2 p hp
          rw [hl2] at cLf
          have cRt := fun u (hu : TrAt u q2 n l2 k) => root15_any hu hF2
          have cRr := fun u g gl d (hu : RTr u g gl d n l2) => rroot15_any hu hF2 hk
          have cLv := fun u (hu : TrAt u q2 n l2 k) => leaves15_any hu hF2
          have c3 := fun A A' d d' u hR hQ => rsame15_any A A' d d' l2 l2 (by omega) (by omega) u hR hQ
          rw [hl2] at cLv c3
          rw [decide_eq_true rfl] at c3
          obtain ⟨ts, th, tl⟩ := topN n l2 k
          have er := fun u => neq_rt_self ts th tl k u
          simp only [rootV] at cRt cRr
          have e1 : IntKind.u64.wrap (N : Int) = (N : Int) := by rw [IntKind.wrap_u64]; omega
          by_cases hpl : p < N
          · have hpli : (p : Int) < (N : Int) := by omega
            obtain ⟨y2, hy2⟩ : ∃ y, l2[p]? = some y := ⟨_, List.getElem?_eq_getElem (by omega)⟩
            have eY : lfAt l2 p = y2 := by rw [lfAt, List.getD_eq_getElem?_getD, hy2]; rfl
            rw [eY, decide_eq_true hpl] at cLf
            have el := fun u => neq_lf_self15 y2 u
            have HY2 := hideIt hy2
            obtain ⟨yp, yi, ys, yh, yl⟩ := y2
            simp only [Lf.val] at cLf el
            clear hy2 eY
            go_upto_region 24 with (first
              | (go_at_call 21; refine (cLf _ hT6).mono ?_; rintro e w7 ⟨rfl, b7⟩)
              | fail)
            have K7 := (K6.call b7).add 36 (lfB yp yi ys yh yl)
            have hT7 := (hT6.call b7).past (.cells (lfB yp yi ys yh yl) 36)
            have hr7 := (hr6.call b7).past (.cells (lfB yp yi ys yh yl) 36)
            have hs7 : hi2 ≤ (w7.alloc (.cells (lfB yp yi ys yh yl) 36)).heap.size := by have := b7.size; simp; omega
            obtain ⟨g16, hg16⟩ : ∃ g, w7.heap.size = g := ⟨_, rfl⟩
            rw [hg16] at K7 ⊢
            change Code.wp _ _ _ _ (w7.alloc (.cells (lfB yp yi ys yh yl) 36))
            generalize w7.alloc (.cells (lfB yp yi ys yh yl) 36) = W7 at *
            have hSx : ∀ u, Has w [(g16, 36, lfB yp yi ys yh yl), (g12, 52, #[.int .u64 p, .bool xp, .string xi, .string xs, .int .u64 xh, .int .u64 xl, cpv])] u → RTr u g' gl' d' n l2 → (u.cell? ⟨g12, 0, none⟩ = some (.int .u64 p) ∧ g12 < u.heap.size) ∧ (u.cell? ⟨g', 1, none⟩ = some (.slice (some ⟨gl', 0, none⟩) N d') ∧ g' < u.heap.size) ∧ ((u.cell? ⟨g16, 0, none⟩ = some (.bool yp) ∧ u.cell? ⟨g16, 1, none⟩ = some (.string yi) ∧ u.cell? ⟨g16, 2, none⟩ = some (.string ys) ∧ u.cell? ⟨g16, 3, none⟩ = some (.int .u64 yh) ∧ u.cell? ⟨g16, 4, none⟩ = some (.int .u64 yl)) ∧ g16 < u.heap.size) ∧ ((u.cell? ⟨gl', p * 5, none⟩ = some (.bool yp) ∧ u.cell? ⟨gl', p * 5 + 1, none⟩ = some (.string yi) ∧ u.cell? ⟨gl', p * 5 + 2, none⟩ = some (.string ys) ∧ u.cell? ⟨gl', p * 5 + 3, none⟩ = some (.int .u64 yh) ∧ u.cell? ⟨gl', p * 5 + 4, none⟩ = some (.int .u64 yl)) ∧ gl' < u.heap.size) := fun u hu hru =>
              ⟨⟨(hu.box 1).read 0, (hu.box 1).inside⟩, ⟨by rw [← hl2]; exact hru.cells.2.1, hru.cells.2.2⟩, ⟨(hu.box 0).five0.1, (hu.box 0).inside⟩,
                (by
                  obtain ⟨y', hy', r0, r1, r2, r3, r4⟩ := lf_there hru.2 p (by omega)
                  rw [HY2.out] at hy'
                  injection hy' with hy'
                  subst hy'
                  exact ⟨⟨r0, r1, r2, r3, r4⟩, hru.2.inside⟩)⟩
            have Kd := K7.drew
            have hTd := hT7.drew
            have hrd := hr7.drew
            have hsd : hi2 ≤ W7.drew.heap.size := by simpa using hs7
            clear z0 z1 z2 z3 z4 z5 zin K7 hT7 hr7 hs7 K6 hT6 hr6 K5 hT5 hr5 Kc hTc hrc cS cRS cLf O6 hcell
            refine wp_region_held_drew (S := fun u => (u.cell? ⟨g12, 0, none⟩ = some (.int .u64 p) ∧ g12 < u.heap.size) ∧ (u.cell? ⟨g', 1, none⟩ = some (.slice (some ⟨gl', 0, none⟩) N d') ∧ g' < u.heap.size) ∧ ((u.cell? ⟨g16, 0, none⟩ = some (.bool yp) ∧ u.cell? ⟨g16, 1, none⟩ = some (.string yi) ∧ u.cell? ⟨g16, 2, none⟩ = some (.string ys) ∧ u.cell? ⟨g16, 3, none⟩ = some (.int .u64 yh) ∧ u.cell? ⟨g16, 4, none⟩ = some (.int .u64 yl)) ∧ g16 < u.heap.size) ∧ ((u.cell? ⟨gl', p * 5, none⟩ = some (.bool yp) ∧ u.cell? ⟨gl', p * 5 + 1, none⟩ = some (.string yi) ∧ u.cell? ⟨gl', p * 5 + 2, none⟩ = some (.string ys) ∧ u.cell? ⟨gl', p * 5 + 3, none⟩ = some (.int .u64 yh) ∧ u.cell? ⟨gl', p * 5 + 4, none⟩ = some (.int .u64 yl)) ∧ gl' < u.heap.size)) (by kernel_rfl) (hSx _ Kd hrd) (fun hHeld => ?_)
            generalize W7.drew = Wd at *
            refine wpAnyH_take (i := 0) (v := ?_) rfl (by kernel_rfl) (by kernel_rfl) (by kernel_rfl) (fun _ _ _ h => h) (Or.inl ⟨by rfl, ?_⟩) (by assumption) ?_
            rotate_left 1
            · intro w hSw; (try dsimp only at hSw); go_simp; try with_reducible rfl
            try simp only [Act.put, List.getElem_toArray, List.getElem_cons_succ, List.getElem_cons_zero, List.setIfInBounds_toArray, List.set_cons_zero, List.set_cons_succ]
            refine wpAnyH_take (i := 1) (v := ?_) rfl (by kernel_rfl) (by kernel_rfl) (by kernel_rfl) (fun _ _ _ h => h) (Or.inl ⟨by rfl, ?_⟩) (by assumption) ?_
            rotate_left 1
            · intro w hSw; (try dsimp only at hSw); go_simp; try with_reducible rfl
            try simp only [Act.put, List.getElem_toArray, List.getElem_cons_succ, List.getElem_cons_zero, List.setIfInBounds_toArray, List.set_cons_zero, List.set_cons_succ]
            refine wpAnyH_take (i := 2) (v := ?_) rfl (by kernel_rfl) (by kernel_rfl) (by kernel_rfl) (fun _ _ _ h => h) (Or.inl ⟨by rfl, ?_⟩) (by assumption) ?_
            rotate_left 1
            · intro w hSw; (try dsimp only at hSw); go_simp; try with_reducible rfl
            try simp only [Act.put, List.getElem_toArray, List.getElem_cons_succ, List.getElem_cons_zero, List.setIfInBounds_toArray, List.set_cons_zero, List.set_cons_succ]
            refine wpAnyH_take (i := 3) (v := ?_) rfl (by kernel_rfl) (by kernel_rfl) (by kernel_rfl) (fun _ _ _ h => h) (Or.inl ⟨by rfl, ?_⟩) (by assumption) ?_
            rotate_left 1
            · intro w hSw; (try dsimp only at hSw); go_simp; try with_reducible rfl
            try simp only [Act.put, List.getElem_toArray, List.getElem_cons_succ, List.getElem_cons_zero, List.setIfInBounds_toArray, List.set_cons_zero, List.set_cons_succ]
            refine wpAnyH_take (i := 4) (v := ?_) rfl (by kernel_rfl) (by kernel_rfl) (by kernel_rfl) (fun _ _ _ h => h) (Or.inl ⟨by rfl, ?_⟩) (by assumption) ?_
            rotate_left 1
            · intro w hSw; (try dsimp only at hSw); go_simp; try with_reducible rfl
            try simp only [Act.put, List.getElem_toArray, List.getElem_cons_succ, List.getElem_cons_zero, List.setIfInBounds_toArray, List.set_cons_zero, List.set_cons_succ]
            refine wpAnyH_take (i := 5) (v := ?_) rfl (by kernel_rfl) (by kernel_rfl) (by kernel_rfl) (fun _ _ _ h => h) (Or.inl ⟨by rfl, ?_⟩) (by assumption) ?_
            rotate_left 1
            · intro w hSw; (try dsimp only at hSw); go_simp; try with_reducible rfl
            try simp only [Act.put, List.getElem_toArray, List.getElem_cons_succ, List.getElem_cons_zero, List.setIfInBounds_toArray, List.set_cons_zero, List.set_cons_succ]
            refine wpAnyH_take (i := 6) (v := ?_) rfl (by kernel_rfl) (by kernel_rfl) (by kernel_rfl) (fun _ _ _ h => h) (Or.inl ⟨by rfl, ?_⟩) (by assumption) ?_
            rotate_left 1
            · intro w hSw; (try dsimp only at hSw); go_simp; try with_reducible rfl
            try simp only [Act.put, List.getElem_toArray, List.getElem_cons_succ, List.getElem_cons_zero, List.setIfInBounds_toArray, List.set_cons_zero, List.set_cons_succ]
            refine wpAnyH_take (i := 7) (v := ?_) rfl (by kernel_rfl) (by kernel_rfl) (by kernel_rfl) (fun _ _ _ h => h) (Or.inl ⟨by rfl, ?_⟩) (by assumption) ?_
            rotate_left 1
            · intro w hSw; (try dsimp only at hSw); go_simp; try with_reducible rfl
            try simp only [Act.put, List.getElem_toArray, List.getElem_cons_succ, List.getElem_cons_zero, List.setIfInBounds_toArray, List.set_cons_zero, List.set_cons_succ]
            refine wpAnyH_take (i := 8) (v := ?_) rfl (by kernel_rfl) (by kernel_rfl) (by kernel_rfl) (fun _ _ _ h => h) (Or.inl ⟨by rfl, ?_⟩) (by assumption) ?_
            rotate_left 1
            · intro w hSw; (try dsimp only at hSw); go_simp; try with_reducible rfl
            try simp only [Act.put, List.getElem_toArray, List.getElem_cons_succ, List.getElem_cons_zero, List.setIfInBounds_toArray, List.set_cons_zero, List.set_cons_succ]
            refine wpAnyH_take (i := 9) (v := ?_) rfl (by kernel_rfl) (by kernel_rfl) (by kernel_rfl) (fun _ _ _ h => h) (Or.inl ⟨by rfl, ?_⟩) (by assumption) ?_
            rotate_left 1
            · intro w hSw; (try dsimp only at hSw); go_simp; try with_reducible rfl
            try simp only [Act.put, List.getElem_toArray, List.getElem_cons_succ, List.getElem_cons_zero, List.setIfInBounds_toArray, List.set_cons_zero, List.set_cons_succ]
            refine wpAnyH_take (i := 10) (v := ?_) rfl (by kernel_rfl) (by kernel_rfl) (by kernel_rfl) (fun _ _ _ h => h) (Or.inl ⟨by rfl, ?_⟩) (by assumption) ?_
            rotate_left 1
            · intro w hSw; (try dsimp only at hSw); go_simp; try with_reducible rfl
            try simp only [Act.put, List.getElem_toArray, List.getElem_cons_succ, List.getElem_cons_zero, List.setIfInBounds_toArray, List.set_cons_zero, List.set_cons_succ]
            refine wpAnyH_take (i := 11) (v := ?_) rfl (by kernel_rfl) (by kernel_rfl) (by kernel_rfl) (fun _ _ _ h => h) (Or.inl ⟨by rfl, ?_⟩) (by assumption) ?_
            rotate_left 1
            · intro w hSw; (try dsimp only at hSw); go_simp; try with_reducible rfl
            try simp only [Act.put, List.getElem_toArray, List.getElem_cons_succ, List.getElem_cons_zero, List.setIfInBounds_toArray, List.set_cons_zero, List.set_cons_succ]
            refine wpAnyH_take (i := 12) (v := ?_) rfl (by kernel_rfl) (by kernel_rfl) (by kernel_rfl) (fun _ _ _ h => h) (Or.inl ⟨by rfl, ?_⟩) (by assumption) ?_
            rotate_left 1
            · intro w hSw; (try dsimp only at hSw); go_simp; try with_reducible rfl
            try simp only [Act.put, List.getElem_toArray, List.getElem_cons_succ, List.getElem_cons_zero, List.setIfInBounds_toArray, List.set_cons_zero, List.set_cons_succ]
            refine wpAnyH_take (i := 13) (v := ?_) rfl (by kernel_rfl) (by kernel_rfl) (by kernel_rfl) (fun _ _ _ h => h) (Or.inl ⟨by rfl, ?_⟩) (by assumption) ?_
            rotate_left 1
            · intro w hSw; (try dsimp only at hSw); go_simp; try with_reducible rfl
            try simp only [Act.put, List.getElem_toArray, List.getElem_cons_succ, List.getElem_cons_zero, List.setIfInBounds_toArray, List.set_cons_zero, List.set_cons_succ]
            refine wpAnyH_take (i := 14) (v := ?_) rfl (by kernel_rfl) (by kernel_rfl) (by kernel_rfl) (fun _ _ _ h => h) (Or.inl ⟨by rfl, ?_⟩) (by assumption) ?_
            rotate_left 1
            · intro w hSw; (try dsimp only at hSw); go_simp; try with_reducible rfl
            try simp only [Act.put, List.getElem_toArray, List.getElem_cons_succ, List.getElem_cons_zero, List.setIfInBounds_toArray, List.set_cons_zero, List.set_cons_succ]
            refine wpAnyH_take (i := 15) (v := ?_) rfl (by kernel_rfl) (by kernel_rfl) (by kernel_rfl) (fun _ _ _ h => h) (Or.inl ⟨by rfl, ?_⟩) (by assumption) ?_
            rotate_left 1
            · intro w hSw; (try dsimp only at hSw); go_simp; try with_reducible rfl
            try simp only [Act.put, List.getElem_toArray, List.getElem_cons_succ, List.getElem_cons_zero, List.setIfInBounds_toArray, List.set_cons_zero, List.set_cons_succ]
            refine wpAnyH_take (i := 16) (v := ?_) rfl (by kernel_rfl) (by kernel_rfl) (by kernel_rfl) (fun _ _ _ h => h) (Or.inl ⟨by rfl, ?_⟩) (by assumption) ?_
            rotate_left 1
            · intro w hSw; (try dsimp only at hSw); go_simp; try with_reducible rfl
            try simp only [Act.put, List.getElem_toArray, List.getElem_cons_succ, List.getElem_cons_zero, List.setIfInBounds_toArray, List.set_cons_zero, List.set_cons_succ]
            refine wpAnyH_take (i := 17) (v := ?_) rfl (by kernel_rfl) (by kernel_rfl) (by kernel_rfl) (fun _ _ _ h => h) (Or.inl ⟨by rfl, ?_⟩) (by assumption) ?_
            rotate_left 1
            · intro w hSw; (try dsimp only at hSw); go_simp; try with_reducible rfl
            try simp only [Act.put, List.getElem_toArray, List.getElem_cons_succ, List.getElem_cons_zero, List.setIfInBounds_toArray, List.set_cons_zero, List.set_cons_succ]
            refine wpAnyH_take (i := 18) (v := ?_) rfl (by kernel_rfl) (by kernel_rfl) (by kernel_rfl) (fun _ _ _ h => h) (Or.inl ⟨by rfl, ?_⟩) (by assumption) ?_
            rotate_left 1
            · intro w hSw; (try dsimp only at hSw); go_simp; try with_reducible rfl
            try simp only [Act.put, List.getElem_toArray, List.getElem_cons_succ, List.getElem_cons_zero, List.setIfInBounds_toArray, List.set_cons_zero, List.set_cons_succ]
            refine wpAnyH_take (i := 19) (v := ?_) rfl (by kernel_rfl) (by kernel_rfl) (by kernel_rfl) (fun _ _ _ h => h) (Or.inl ⟨by rfl, ?_⟩) (by assumption) ?_
            rotate_left 1
            · intro w hSw; (try dsimp only at hSw); go_simp; try with_reducible rfl
            try simp only [Act.put, List.getElem_toArray, List.getElem_cons_succ, List.getElem_cons_zero, List.setIfInBounds_toArray, List.set_cons_zero, List.set_cons_succ]
            refine wpAnyH_take (i := 20) (v := ?_) rfl (by kernel_rfl) (by kernel_rfl) (by kernel_rfl) (fun _ _ _ h => h) (Or.inl ⟨by rfl, ?_⟩) (by assumption) ?_
            rotate_left 1
            · intro w hSw; (try dsimp only at hSw); go_simp; try with_reducible rfl
            try simp only [Act.put, List.getElem_toArray, List.getElem_cons_succ, List.getElem_cons_zero, List.setIfInBounds_toArray, List.set_cons_zero, List.set_cons_succ]
            refine wpAnyH_take (i := 21) (v := ?_) rfl (by kernel_rfl) (by kernel_rfl) (by kernel_rfl) (fun _ _ _ h => h) (Or.inl ⟨by rfl, ?_⟩) (by assumption) ?_
            rotate_left 1
            · intro w hSw; (try dsimp only at hSw); go_simp; try with_reducible rfl
            try simp only [Act.put, List.getElem_toArray, List.getElem_cons_succ, List.getElem_cons_zero, List.setIfInBounds_toArray, List.set_cons_zero, List.set_cons_succ]
            refine wpAnyH_take (i := 22) (v := ?_) rfl (by kernel_rfl) (by kernel_rfl) (by kernel_rfl) (fun _ _ _ h => h) (Or.inl ⟨by rfl, ?_⟩) (by assumption) ?_
            rotate_left 1
            · intro w hSw; (try dsimp only at hSw); go_simp; try with_reducible rfl
            try simp only [Act.put, List.getElem_toArray, List.getElem_cons_succ, List.getElem_cons_zero, List.setIfInBounds_toArray, List.set_cons_zero, List.set_cons_succ]
            refine wpAnyH_take (i := 23) (v := ?_) rfl (by kernel_rfl) (by kernel_rfl) (by kernel_rfl) (fun _ _ _ h => h) (Or.inl ⟨by rfl, ?_⟩) (by assumption) ?_
            rotate_left 1
            · intro w hSw; (try dsimp only at hSw); go_simp; try with_reducible rfl
            try simp only [Act.put, List.getElem_toArray, List.getElem_cons_succ, List.getElem_cons_zero, List.setIfInBounds_toArray, List.set_cons_zero, List.set_cons_succ]
            refine wpAnyH_take (i := 24) (v := ?_) rfl (by kernel_rfl) (by kernel_rfl) (by kernel_rfl) (fun _ _ _ h => h) (Or.inl ⟨by rfl, ?_⟩) (by assumption) ?_
            rotate_left 1
            · intro w hSw; (try dsimp only at hSw); go_simp; try with_reducible rfl
            try simp only [Act.put, List.getElem_toArray, List.getElem_cons_succ, List.getElem_cons_zero, List.setIfInBounds_toArray, List.set_cons_zero, List.set_cons_succ]
            refine wpAnyH_take (i := 26) (v := ?_) rfl (by kernel_rfl) (by kernel_rfl) (by kernel_rfl) (fun _ _ _ h => h) (Or.inl ⟨by rfl, ?_⟩) (by assumption) ?_
            rotate_left 1
            · intro w hSw; (try dsimp only at hSw); go_simp; try with_reducible rfl
            try simp only [Act.put, List.getElem_toArray, List.getElem_cons_succ, List.getElem_cons_zero, List.setIfInBounds_toArray, List.set_cons_zero, List.set_cons_succ]
            refine wpAnyH_ready (rs := [25]) (by kernel_rfl) (by simp) (AllReadyH.cons rfl (fun K hK => ?_) AllReadyH.nil)
            go_simp
            go_at_call 13
            refine (cRt _ hTd).mono ?_
            rintro e w8 ⟨rfl, b8⟩
            have K8 := Kd.call b8
            have hT8 := hTd.call b8
            have hr8 := hrd.call b8
            try simp only []
            refine hK.out _ _ (hSx _ K8 hr8) (fun hHeld => ?_)
            clear hK K
            try simp only [Act.put, List.getElem_toArray, List.getElem_cons_succ, List.getElem_cons_zero, List.setIfInBounds_toArray, List.set_cons_zero, List.set_cons_succ]
            refine wpAnyH_ready (rs := [27]) (by kernel_rfl) (by simp) (AllReadyH.cons rfl (fun K hK => ?_) AllReadyH.nil)
            go_simp
            go_at_call 14
            refine (cRr _ g' gl' d' hr8).mono ?_
            rintro e w9 ⟨rfl, b9⟩
            have K9 := K8.call b9
            have hT9 := hT8.call b9
            have hr9 := hr8.call b9
            try simp only []
            refine hK.out _ _ (hSx _ K9 hr9) (fun hHeld => ?_)
            clear hK K
            try simp only [Act.put, List.getElem_toArray, List.getElem_cons_succ, List.getElem_cons_zero, List.setIfInBounds_toArray, List.set_cons_zero, List.set_cons_succ]
            refine wpAnyH_take (i := 28) (v := ?_) rfl (by kernel_rfl) (by kernel_rfl) (by kernel_rfl) (fun _ _ _ h => h) (Or.inl ⟨by rfl, ?_⟩) (by assumption) ?_
            rotate_left 1
            · intro w hSw; (try dsimp only at hSw); go_simp; try with_reducible rfl
            try simp only [Act.put, List.getElem_toArray, List.getElem_cons_succ, List.getElem_cons_zero, List.setIfInBounds_toArray, List.set_cons_zero, List.set_cons_succ]
            refine wpAnyH_take (i := 29) (v := ?_) rfl (by kernel_rfl) (by kernel_rfl) (by kernel_rfl) (fun _ _ _ h => h) (Or.inl ⟨by rfl, ?_⟩) (by assumption) ?_
            rotate_left 1
            · intro w hSw; (try dsimp only at hSw); go_simp; try with_reducible rfl
            try simp only [Act.put, List.getElem_toArray, List.getElem_cons_succ, List.getElem_cons_zero, List.setIfInBounds_toArray, List.set_cons_zero, List.set_cons_succ]
            refine wpAnyH_take (i := 30) (v := ?_) rfl (by kernel_rfl) (by kernel_rfl) (by kernel_rfl) (fun _ _ _ h => h) (Or.inl ⟨by rfl, ?_⟩) (by assumption) ?_
            rotate_left 1
            · intro w hSw; (try dsimp only at hSw); go_simp; try with_reducible rfl
            try simp only [Act.put, List.getElem_toArray, List.getElem_cons_succ, List.getElem_cons_zero, List.setIfInBounds_toArray, List.set_cons_zero, List.set_cons_succ]
            refine wpAnyH_take (i := 31) (v := ?_) rfl (by kernel_rfl) (by kernel_rfl) (by kernel_rfl) (fun _ _ _ h => h) (Or.inl ⟨by rfl, ?_⟩) (by assumption) ?_
            rotate_left 1
            · intro w hSw; (try dsimp only at hSw); go_simp; try with_reducible rfl
            try simp only [Act.put, List.getElem_toArray, List.getElem_cons_succ, List.getElem_cons_zero, List.setIfInBounds_toArray, List.set_cons_zero, List.set_cons_succ]
            refine wpAnyH_take (i := 33) (v := ?_) rfl (by kernel_rfl) (by kernel_rfl) (by kernel_rfl) (fun _ _ _ h => h) (Or.inl ⟨by rfl, ?_⟩) (by assumption) ?_
            rotate_left 1
            · intro w hSw; (try dsimp only at hSw); go_simp; try with_reducible rfl
            try simp only [Act.put, List.getElem_toArray, List.getElem_cons_succ, List.getElem_cons_zero, List.setIfInBounds_toArray, List.set_cons_zero, List.set_cons_succ]
            refine wpAnyH_take (i := 34) (v := ?_) rfl (by kernel_rfl) (by kernel_rfl) (by kernel_rfl) (fun _ _ _ h => h) (Or.inl ⟨by rfl, ?_⟩) (by assumption) ?_
            rotate_left 1
            · intro w hSw; (try dsimp only at hSw); go_simp; try with_reducible rfl
            try simp only [Act.put, List.getElem_toArray, List.getElem_cons_succ, List.getElem_cons_zero, List.setIfInBounds_toArray, List.set_cons_zero, List.set_cons_succ]
            refine wpAnyH_take (i := 35) (v := ?_) rfl (by kernel_rfl) (by kernel_rfl) (by kernel_rfl) (fun _ _ _ h => h) (Or.inl ⟨by rfl, ?_⟩) (by assumption) ?_
            rotate_left 1
            · intro w hSw; (try dsimp only at hSw); go_simp; try with_reducible rfl
            try simp only [Act.put, List.getElem_toArray, List.getElem_cons_succ, List.getElem_cons_zero, List.setIfInBounds_toArray, List.set_cons_zero, List.set_cons_succ]
            refine wpAnyH_take (i := 36) (v := ?_) rfl (by kernel_rfl) (by kernel_rfl) (by kernel_rfl) (fun _ _ _ h => h) (Or.inl ⟨by rfl, ?_⟩) (by assumption) ?_
            rotate_left 1
            · intro w hSw; (try dsimp only at hSw); go_simp; try with_reducible rfl
            try simp only [Act.put, List.getElem_toArray, List.getElem_cons_succ, List.getElem_cons_zero, List.setIfInBounds_toArray, List.set_cons_zero, List.set_cons_succ]
            refine wpAnyH_ready (rs := [32]) (by kernel_rfl) (by simp) (AllReadyH.cons rfl (fun K hK => ?_) AllReadyH.nil)
            go_simp
            go_at_call 9
            refine (cLv _ hT9).mono ?_
            rintro e w10 ⟨b10, g30, rfl, hg30, B30⟩
            have K10 := K9.call b10
            have hT10 := hT9.call b10
            have hr10 := hr9.call b10
            try simp only []
            refine hK.out _ _ (hSx _ K10 hr10) (fun hHeld => ?_)
            clear hK K
            try simp only [Act.put, List.getElem_toArray, List.getElem_cons_succ, List.getElem_cons_zero, List.setIfInBounds_toArray, List.set_cons_zero, List.set_cons_succ]
            refine wpAnyH_ready (rs := [37]) (by kernel_rfl) (by simp) (AllReadyH.cons rfl (fun K hK => ?_) AllReadyH.nil)
            go_simp
            go_at_call 8
            refine (c3 _ _ _ _ _ B30.row hr10.2.row).mono ?_
            rintro e w11 ⟨rfl, b11⟩
            have K11 := K10.call b11
            have hT11 := hT10.call b11
            have hr11 := hr10.call b11
            try simp only []
            refine hK.out _ _ (hSx _ K11 hr11) (fun hHeld => ?_)
            clear hK K
            try simp only [Act.put, List.getElem_toArray, List.getElem_cons_succ, List.getElem_cons_zero, List.setIfInBounds_toArray, List.set_cons_zero, List.set_cons_succ]
            refine wpAnyH_take (i := 38) (v := ?_) rfl (by kernel_rfl) (by kernel_rfl) (by kernel_rfl) (fun _ _ _ h => h) (Or.inl ⟨by rfl, ?_⟩) (by assumption) ?_
            rotate_left 1
            · intro w hSw; (try dsimp only at hSw); go_simp; try with_reducible rfl
            try simp only [Act.put, List.getElem_toArray, List.getElem_cons_succ, List.getElem_cons_zero, List.setIfInBounds_toArray, List.set_cons_zero, List.set_cons_succ]
            refine wpAnyH_take (i := 39) (v := ?_) rfl (by kernel_rfl) (by kernel_rfl) (by kernel_rfl) (fun _ _ _ h => h) (Or.inl ⟨by rfl, ?_⟩) (by assumption) ?_
            rotate_left 1
            · intro w hSw; (try dsimp only at hSw); go_simp; try with_reducible rfl
            try simp only [Act.put, List.getElem_toArray, List.getElem_cons_succ, List.getElem_cons_zero, List.setIfInBounds_toArray, List.set_cons_zero, List.set_cons_succ]
            refine wpAnyH_done (by kernel_rfl) ?_ _
            have hs11 : hi2 ≤ w11.heap.size := by have := b8.size; have := b9.size; have := b10.size; have := b11.size; omega
            go_wp2
            go_roundg (MA - (m + 1))
            case measure => have := HG.out; omega
            case rel => exact ⟨m + 1, q2, l2, g', gl', d', lo2, hi2, by omega, Nat.le_refl _, by go_num, rfl, rfl, hF2, hT11, hr11, hq2, hlo2, hs11, hg2', hgl2', K11.below⟩
          · have hpli : ¬ (p : Int) < (N : Int) := by omega
            obtain ⟨y2, hy2⟩ : ∃ y, lfAt l2 p = y := ⟨_, rfl⟩
            rw [hy2, decide_eq_false hpl] at cLf
            have el := fun u => neq_lf_self15 y2 u
            have HY2 := hideIt hy2
            obtain ⟨yp, yi, ys, yh, yl⟩ := y2
            simp only [Lf.val] at cLf el
            clear hy2
            go_upto_region 24 with (first
              | (go_at_call 21; refine (cLf _ hT6).mono ?_; rintro e w7 ⟨rfl, b7⟩)
              | fail)
            have K7 := (K6.call b7).add 36 (lfB yp yi ys yh yl)
            have hT7 := (hT6.call b7).past (.cells (lfB yp yi ys yh yl) 36)
            have hr7 := (hr6.call b7).past (.cells (lfB yp yi ys yh yl) 36)
            have hs7 : hi2 ≤ (w7.alloc (.cells (lfB yp yi ys yh yl) 36)).heap.size := by have := b7.size; simp; omega
            obtain ⟨g16, hg16⟩ : ∃ g, w7.heap.size = g := ⟨_, rfl⟩
            rw [hg16] at K7 ⊢
            change Code.wp _ _ _ _ (w7.alloc (.cells (lfB yp yi ys yh yl) 36))
            generalize w7.alloc (.cells (lfB yp yi ys yh yl) 36) = W7 at *
            have hSx : ∀ u, Has w [(g16, 36, lfB yp yi ys yh yl), (g12, 52, #[.int .u64 p, .bool xp, .string xi, .string xs, .int .u64 xh, .int .u64 xl, cpv])] u → RTr u g' gl' d' n l2 → (u.cell? ⟨g12, 0, none⟩ = some (.int .u64 p) ∧ g12 < u.heap.size) ∧ (u.cell? ⟨g', 1, none⟩ = some (.slice (some ⟨gl', 0, none⟩) N d') ∧ g' < u.heap.size) ∧ ((u.cell? ⟨g16, 0, none⟩ = some (.bool yp) ∧ u.cell? ⟨g16, 1, none⟩ = some (.string yi) ∧ u.cell? ⟨g16, 2, none⟩ = some (.string ys) ∧ u.cell? ⟨g16, 3, none⟩ = some (.int .u64 yh) ∧ u.cell? ⟨g16, 4, none⟩ = some (.int .u64 yl)) ∧ g16 < u.heap.size) := fun u hu hru =>
              ⟨⟨(hu.box 1).read 0, (hu.box 1).inside⟩, ⟨by rw [← hl2]; exact hru.cells.2.1, hru.cells.2.2⟩, ⟨(hu.box 0).five0.1, (hu.box 0).inside⟩⟩
            have Kd := K7.drew
            have hTd := hT7.drew
            have hrd := hr7.drew
            have hsd : hi2 ≤ W7.drew.heap.size := by simpa using hs7
            clear z0 z1 z2 z3 z4 z5 zin K7 hT7 hr7 hs7 K6 hT6 hr6 K5 hT5 hr5 Kc hTc hrc cS cRS cLf O6 hcell
            refine wp_region_held_drew (S := fun u => (u.cell? ⟨g12, 0, none⟩ = some (.int .u64 p) ∧ g12 < u.heap.size) ∧ (u.cell? ⟨g', 1, none⟩ = some (.slice (some ⟨gl', 0, none⟩) N d') ∧ g' < u.heap.size) ∧ ((u.cell? ⟨g16, 0, none⟩ = some (.bool yp) ∧ u.cell? ⟨g16, 1, none⟩ = some (.string yi) ∧ u.cell? ⟨g16, 2, none⟩ = some (.string ys) ∧ u.cell? ⟨g16, 3, none⟩ = some (.int .u64 yh) ∧ u.cell? ⟨g16, 4, none⟩ = some (.int .u64 yl)) ∧ g16 < u.heap.size)) (by kernel_rfl) (hSx _ Kd hrd) (fun hHeld => ?_)
            generalize W7.drew = Wd at *
            refine wpAnyH_take (i := 0) (v := ?_) rfl (by kernel_rfl) (by kernel_rfl) (by kernel_rfl) (fun _ _ _ h => h) (Or.inl ⟨by rfl, ?_⟩) (by assumption) ?_
            rotate_left 1
            · intro w hSw; (try dsimp only at hSw); go_simp; try with_reducible rfl
            try simp only [Act.put, List.getElem_toArray, List.getElem_cons_succ, List.getElem_cons_zero, List.setIfInBounds_toArray, List.set_cons_zero, List.set_cons_succ]
            refine wpAnyH_take (i := 1) (v := ?_) rfl (by kernel_rfl) (by kernel_rfl) (by kernel_rfl) (fun _ _ _ h => h) (Or.inl ⟨by rfl, ?_⟩) (by assumption) ?_
            rotate_left 1
            · intro w hSw; (try dsimp only at hSw); go_simp; try with_reducible rfl
            try simp only [Act.put, List.getElem_toArray, List.getElem_cons_succ, List.getElem_cons_zero, List.setIfInBounds_toArray, List.set_cons_zero, List.set_cons_succ]
            refine wpAnyH_take (i := 2) (v := ?_) rfl (by kernel_rfl) (by kernel_rfl) (by kernel_rfl) (fun _ _ _ h => h) (Or.inl ⟨by rfl, ?_⟩) (by assumption) ?_
            rotate_left 1
            · intro w hSw; (try dsimp only at hSw); go_simp; try with_reducible rfl
            try simp only [Act.put, List.getElem_toArray, List.getElem_cons_succ, List.getElem_cons_zero, List.setIfInBounds_toArray, List.set_cons_zero, List.set_cons_succ]
            refine wpAnyH_take (i := 3) (v := ?_) rfl (by kernel_rfl) (by kernel_rfl) (by kernel_rfl) (fun _ _ _ h => h) (Or.inl ⟨by rfl, ?_⟩) (by assumption) ?_
            rotate_left 1
            · intro w hSw; (try dsimp only at hSw); go_simp; try with_reducible rfl
            try simp only [Act.put, List.getElem_toArray, List.getElem_cons_succ, List.getElem_cons_zero, List.setIfInBounds_toArray, List.set_cons_zero, List.set_cons_succ]
            refine wpAnyH_take (i := 4) (v := ?_) rfl (by kernel_rfl) (by kernel_rfl) (by kernel_rfl) (fun _ _ _ h => h) (Or.inl ⟨by rfl, ?_⟩) (by assumption) ?_
            rotate_left 1
            · intro w hSw; (try dsimp only at hSw); go_simp; try with_reducible rfl
            try simp only [Act.put, List.getElem_toArray, List.getElem_cons_succ, List.getElem_cons_zero, List.setIfInBounds_toArray, List.set_cons_zero, List.set_cons_succ]
            refine wpAnyH_take (i := 5) (v := ?_) rfl (by kernel_rfl) (by kernel_rfl) (by kernel_rfl) (fun _ _ _ h => h) (Or.inl ⟨by rfl, ?_⟩) (by assumption) ?_
            rotate_left 1
            · intro w hSw; (try dsimp only at hSw); go_simp; try with_reducible rfl
            try simp only [Act.put, List.getElem_toArray, List.getElem_cons_succ, List.getElem_cons_zero, List.setIfInBounds_toArray, List.set_cons_zero, List.set_cons_succ]
            refine wpAnyH_take (i := 6) (v := ?_) rfl (by kernel_rfl) (by kernel_rfl) (by kernel_rfl) (fun _ _ _ h => h) (Or.inl ⟨by rfl, ?_⟩) (by assumption) ?_
            rotate_left 1
            · intro w hSw; (try dsimp only at hSw); go_simp; try with_reducible rfl
            try simp only [Act.put, List.getElem_toArray, List.getElem_cons_succ, List.getElem_cons_zero, List.setIfInBounds_toArray, List.set_cons_zero, List.set_cons_succ]
            refine wpAnyH_take (i := 7) (v := ?_) rfl (by kernel_rfl) (by kernel_rfl) (by kernel_rfl) (fun _ _ _ h => h) (Or.inl ⟨by rfl, ?_⟩) (by assumption) ?_
            rotate_left 1
            · intro w hSw; (try dsimp only at hSw); go_simp; try with_reducible rfl
            try simp only [Act.put, List.getElem_toArray, List.getElem_cons_succ, List.getElem_cons_zero, List.setIfInBounds_toArray, List.set_cons_zero, List.set_cons_succ]
            refine wpAnyH_take (i := 8) (v := ?_) rfl (by kernel_rfl) (by kernel_rfl) (by kernel_rfl) (fun _ _ _ h => h) (Or.inl ⟨by rfl, ?_⟩) (by assumption) ?_
            rotate_left 1
            · intro w hSw; (try dsimp only at hSw); go_simp; try with_reducible rfl
            try simp only [Act.put, List.getElem_toArray, List.getElem_cons_succ, List.getElem_cons_zero, List.setIfInBounds_toArray, List.set_cons_zero, List.set_cons_succ]
            refine wpAnyH_take (i := 9) (v := ?_) rfl (by kernel_rfl) (by kernel_rfl) (by kernel_rfl) (fun _ _ _ h => h) (Or.inl ⟨by rfl, ?_⟩) (by assumption) ?_
            rotate_left 1
            · intro w hSw; (try dsimp only at hSw); go_simp; try with_reducible rfl
            try simp only [Act.put, List.getElem_toArray, List.getElem_cons_succ, List.getElem_cons_zero, List.setIfInBounds_toArray, List.set_cons_zero, List.set_cons_succ]
            refine wpAnyH_take (i := 10) (v := ?_) rfl (by kernel_rfl) (by kernel_rfl) (by kernel_rfl) (fun _ _ _ h => h) (Or.inl ⟨by rfl, ?_⟩) (by assumption) ?_
            rotate_left 1
            · intro w hSw; (try dsimp only at hSw); go_simp; try with_reducible rfl
            try simp only [Act.put, List.getElem_toArray, List.getElem_cons_succ, List.getElem_cons_zero, List.setIfInBounds_toArray, List.set_cons_zero, List.set_cons_succ]
            refine wpAnyH_take (i := 11) (v := undef) rfl (by kernel_rfl) (by kernel_rfl) (by kernel_rfl) (fun _ _ _ h => h) (Or.inr ⟨by rfl, rfl⟩) (by assumption) ?_
            try simp only [Act.put, List.getElem_toArray, List.getElem_cons_succ, List.getElem_cons_zero, List.setIfInBounds_toArray, List.set_cons_zero, List.set_cons_succ]
            refine wpAnyH_take (i := 12) (v := undef) rfl (by kernel_rfl) (by kernel_rfl) (by kernel_rfl) (fun _ _ _ h => h) (Or.inr ⟨by rfl, rfl⟩) (by assumption) ?_
            try simp only [Act.put, List.getElem_toArray, List.getElem_cons_succ, List.getElem_cons_zero, List.setIfInBounds_toArray, List.set_cons_zero, List.set_cons_succ]
            refine wpAnyH_take (i := 13) (v := undef) rfl (by kernel_rfl) (by kernel_rfl) (by kernel_rfl) (fun _ _ _ h => h) (Or.inr ⟨by rfl, rfl⟩) (by assumption) ?_
            try simp only [Act.put, List.getElem_toArray, List.getElem_cons_succ, List.getElem_cons_zero, List.setIfInBounds_toArray, List.set_cons_zero, List.set_cons_succ]
            refine wpAnyH_take (i := 14) (v := undef) rfl (by kernel_rfl) (by kernel_rfl) (by kernel_rfl) (fun _ _ _ h => h) (Or.inr ⟨by rfl, rfl⟩) (by assumption) ?_
            try simp only [Act.put, List.getElem_toArray, List.getElem_cons_succ, List.getElem_cons_zero, List.setIfInBounds_toArray, List.set_cons_zero, List.set_cons_succ]
            refine wpAnyH_take (i := 15) (v := undef) rfl (by kernel_rfl) (by kernel_rfl) (by kernel_rfl) (fun _ _ _ h => h) (Or.inr ⟨by rfl, rfl⟩) (by assumption) ?_
            try simp only [Act.put, List.getElem_toArray, List.getElem_cons_succ, List.getElem_cons_zero, List.setIfInBounds_toArray, List.set_cons_zero, List.set_cons_succ]
            refine wpAnyH_take (i := 16) (v := undef) rfl (by kernel_rfl) (by kernel_rfl) (by kernel_rfl) (fun _ _ _ h => h) (Or.inr ⟨by rfl, rfl⟩) (by assumption) ?_
            try simp only [Act.put, List.getElem_toArray, List.getElem_cons_succ, List.getElem_cons_zero, List.setIfInBounds_toArray, List.set_cons_zero, List.set_cons_succ]
            refine wpAnyH_take (i := 17) (v := undef) rfl (by kernel_rfl) (by kernel_rfl) (by kernel_rfl) (fun _ _ _ h => h) (Or.inr ⟨by rfl, rfl⟩) (by assumption) ?_
            try simp only [Act.put, List.getElem_toArray, List.getElem_cons_succ, List.getElem_cons_zero, List.setIfInBounds_toArray, List.set_cons_zero, List.set_cons_succ]
            refine wpAnyH_take (i := 18) (v := undef) rfl (by kernel_rfl) (by kernel_rfl) (by kernel_rfl) (fun _ _ _ h => h) (Or.inr ⟨by rfl, rfl⟩) (by assumption) ?_
            try simp only [Act.put, List.getElem_toArray, List.getElem_cons_succ, List.getElem_cons_zero, List.setIfInBounds_toArray, List.set_cons_zero, List.set_cons_succ]
            refine wpAnyH_take (i := 19) (v := undef) rfl (by kernel_rfl) (by kernel_rfl) (by kernel_rfl) (fun _ _ _ h => h) (Or.inr ⟨by rfl, rfl⟩) (by assumption) ?_
            try simp only [Act.put, List.getElem_toArray, List.getElem_cons_succ, List.getElem_cons_zero, List.setIfInBounds_toArray, List.set_cons_zero, List.set_cons_succ]
            refine wpAnyH_take (i := 20) (v := undef) rfl (by kernel_rfl) (by kernel_rfl) (by kernel_rfl) (fun _ _ _ h => h) (Or.inr ⟨by rfl, rfl⟩) (by assumption) ?_
            try simp only [Act.put, List.getElem_toArray, List.getElem_cons_succ, List.getElem_cons_zero, List.setIfInBounds_toArray, List.set_cons_zero, List.set_cons_succ]
            refine wpAnyH_take (i := 21) (v := ?_) rfl (by kernel_rfl) (by kernel_rfl) (by kernel_rfl) (fun _ _ _ h => h) (Or.inl ⟨by rfl, ?_⟩) (by assumption) ?_
            rotate_left 1
            · intro w hSw; (try dsimp only at hSw); go_simp; try with_reducible rfl
            try simp only [Act.put, List.getElem_toArray, List.getElem_cons_succ, List.getElem_cons_zero, List.setIfInBounds_toArray, List.set_cons_zero, List.set_cons_succ]
            refine wpAnyH_take (i := 22) (v := ?_) rfl (by kernel_rfl) (by kernel_rfl) (by kernel_rfl) (fun _ _ _ h => h) (Or.inl ⟨by rfl, ?_⟩) (by assumption) ?_
            rotate_left 1
            · intro w hSw; (try dsimp only at hSw); go_simp; try with_reducible rfl
            try simp only [Act.put, List.getElem_toArray, List.getElem_cons_succ, List.getElem_cons_zero, List.setIfInBounds_toArray, List.set_cons_zero, List.set_cons_succ]
            refine wpAnyH_take (i := 23) (v := ?_) rfl (by kernel_rfl) (by kernel_rfl) (by kernel_rfl) (fun _ _ _ h => h) (Or.inl ⟨by rfl, ?_⟩) (by assumption) ?_
            rotate_left 1
            · intro w hSw; (try dsimp only at hSw); go_simp; try with_reducible rfl
            try simp only [Act.put, List.getElem_toArray, List.getElem_cons_succ, List.getElem_cons_zero, List.setIfInBounds_toArray, List.set_cons_zero, List.set_cons_succ]
            refine wpAnyH_take (i := 24) (v := ?_) rfl (by kernel_rfl) (by kernel_rfl) (by kernel_rfl) (fun _ _ _ h => h) (Or.inl ⟨by rfl, ?_⟩) (by assumption) ?_
            rotate_left 1
            · intro w hSw; (try dsimp only at hSw); go_simp; try with_reducible rfl
            try simp only [Act.put, List.getElem_toArray, List.getElem_cons_succ, List.getElem_cons_zero, List.setIfInBounds_toArray, List.set_cons_zero, List.set_cons_succ]
            refine wpAnyH_take (i := 26) (v := ?_) rfl (by kernel_rfl) (by kernel_rfl) (by kernel_rfl) (fun _ _ _ h => h) (Or.inl ⟨by rfl, ?_⟩) (by assumption) ?_
            rotate_left 1
            · intro w hSw; (try dsimp only at hSw); go_simp; try with_reducible rfl
            try simp only [Act.put, List.getElem_toArray, List.getElem_cons_succ, List.getElem_cons_zero, List.setIfInBounds_toArray, List.set_cons_zero, List.set_cons_succ]
            refine wpAnyH_ready (rs := [25]) (by kernel_rfl) (by simp) (AllReadyH.cons rfl (fun K hK => ?_) AllReadyH.nil)
            go_simp
            go_at_call 13
            refine (cRt _ hTd).mono ?_
            rintro e w8 ⟨rfl, b8⟩
            have K8 := Kd.call b8
            have hT8 := hTd.call b8
            have hr8 := hrd.call b8
            try simp only []
            refine hK.out _ _ (hSx _ K8 hr8) (fun hHeld => ?_)
            clear hK K
            try simp only [Act.put, List.getElem_toArray, List.getElem_cons_succ, List.getElem_cons_zero, List.setIfInBounds_toArray, List.set_cons_zero, List.set_cons_succ]
            refine wpAnyH_ready (rs := [27]) (by kernel_rfl) (by simp) (AllReadyH.cons rfl (fun K hK => ?_) AllReadyH.nil)
            go_simp
            go_at_call 14
            refine (cRr _ g' gl' d' hr8).mono ?_
            rintro e w9 ⟨rfl, b9⟩
            have K9 := K8.call b9
            have hT9 := hT8.call b9
            have hr9 := hr8.call b9
            try simp only []
            refine hK.out _ _ (hSx _ K9 hr9) (fun hHeld => ?_)
            clear hK K
            try simp only [Act.put, List.getElem_toArray, List.getElem_cons_succ, List.getElem_cons_zero, List.setIfInBounds_toArray, List.set_cons_zero, List.set_cons_succ]
            refine wpAnyH_take (i := 28) (v := ?_) rfl (by kernel_rfl) (by kernel_rfl) (by kernel_rfl) (fun _ _ _ h => h) (Or.inl ⟨by rfl, ?_⟩) (by assumption) ?_
            rotate_left 1
            · intro w hSw; (try dsimp only at hSw); go_simp; try with_reducible rfl
            try simp only [Act.put, List.getElem_toArray, List.getElem_cons_succ, List.getElem_cons_zero, List.setIfInBounds_toArray, List.set_cons_zero, List.set_cons_succ]
            refine wpAnyH_take (i := 29) (v := ?_) rfl (by kernel_rfl) (by kernel_rfl) (by kernel_rfl) (fun _ _ _ h => h) (Or.inl ⟨by rfl, ?_⟩) (by assumption) ?_
            rotate_left 1
            · intro w hSw; (try dsimp only at hSw); go_simp; try with_reducible rfl
            try simp only [Act.put, List.getElem_toArray, List.getElem_cons_succ, List.getElem_cons_zero, List.setIfInBounds_toArray, List.set_cons_zero, List.set_cons_succ]
            refine wpAnyH_take (i := 30) (v := ?_) rfl (by kernel_rfl) (by kernel_rfl) (by kernel_rfl) (fun _ _ _ h => h) (Or.inl ⟨by rfl, ?_⟩) (by assumption) ?_
            rotate_left 1
            · intro w hSw; (try dsimp only at hSw); go_simp; try with_reducible rfl
            try simp only [Act.put, List.getElem_toArray, List.getElem_cons_succ, List.getElem_cons_zero, List.setIfInBounds_toArray, List.set_cons_zero, List.set_cons_succ]
            refine wpAnyH_take (i := 31) (v := ?_) rfl (by kernel_rfl) (by kernel_rfl) (by kernel_rfl) (fun _ _ _ h => h) (Or.inl ⟨by rfl, ?_⟩) (by assumption) ?_
            rotate_left 1
            · intro w hSw; (try dsimp only at hSw); go_simp; try with_reducible rfl
            try simp only [Act.put, List.getElem_toArray, List.getElem_cons_succ, List.getElem_cons_zero, List.setIfInBounds_toArray, List.set_cons_zero, List.set_cons_succ]
            refine wpAnyH_take (i := 33) (v := ?_) rfl (by kernel_rfl) (by kernel_rfl) (by kernel_rfl) (fun _ _ _ h => h) (Or.inl ⟨by rfl, ?_⟩) (by assumption) ?_
            rotate_left 1
            · intro w hSw; (try dsimp only at hSw); go_simp; try with_reducible rfl
            try simp only [Act.put, List.getElem_toArray, List.getElem_cons_succ, List.getElem_cons_zero, List.setIfInBounds_toArray, List.set_cons_zero, List.set_cons_succ]
            refine wpAnyH_take (i := 34) (v := ?_) rfl (by kernel_rfl) (by kernel_rfl) (by kernel_rfl) (fun _ _ _ h => h) (Or.inl ⟨by rfl, ?_⟩) (by assumption) ?_
            rotate_left 1
            · intro w hSw; (try dsimp only at hSw); go_simp; try with_reducible rfl
            try simp only [Act.put, List.getElem_toArray, List.getElem_cons_succ, List.getElem_cons_zero, List.setIfInBounds_toArray, List.set_cons_zero, List.set_cons_succ]
            refine wpAnyH_take (i := 35) (v := ?_) rfl (by kernel_rfl) (by kernel_rfl) (by kernel_rfl) (fun _ _ _ h => h) (Or.inl ⟨by rfl, ?_⟩) (by assumption) ?_
            rotate_left 1
            · intro w hSw; (try dsimp only at hSw); go_simp; try with_reducible rfl
            try simp only [Act.put, List.getElem_toArray, List.getElem_cons_succ, List.getElem_cons_zero, List.setIfInBounds_toArray, List.set_cons_zero, List.set_cons_succ]
            refine wpAnyH_take (i := 36) (v := ?_) rfl (by kernel_rfl) (by kernel_rfl) (by kernel_rfl) (fun _ _ _ h => h) (Or.inl ⟨by rfl, ?_⟩) (by assumption) ?_
            rotate_left 1
            · intro w hSw; (try dsimp only at hSw); go_simp; try with_reducible rfl
            try simp only [Act.put, List.getElem_toArray, List.getElem_cons_succ, List.getElem_cons_zero, List.setIfInBounds_toArray, List.set_cons_zero, List.set_cons_succ]
            refine wpAnyH_ready (rs := [32]) (by kernel_rfl) (by simp) (AllReadyH.cons rfl (fun K hK => ?_) AllReadyH.nil)
            go_simp
            go_at_call 9
            refine (cLv _ hT9).mono ?_
            rintro e w10 ⟨b10, g30, rfl, hg30, B30⟩
            have K10 := K9.call b10
            have hT10 := hT9.call b10
            have hr10 := hr9.call b10
            try simp only []
            refine hK.out _ _ (hSx _ K10 hr10) (fun hHeld => ?_)
            clear hK K
            try simp only [Act.put, List.getElem_toArray, List.getElem_cons_succ, List.getElem_cons_zero, List.setIfInBounds_toArray, List.set_cons_zero, List.set_cons_succ]
            refine wpAnyH_ready (rs := [37]) (by kernel_rfl) (by simp) (AllReadyH.cons rfl (fun K hK => ?_) AllReadyH.nil)
            go_simp
            go_at_call 8
            refine (c3 _ _ _ _ _ B30.row hr10.2.row).mono ?_
            rintro e w11 ⟨rfl, b11⟩
            have K11 := K10.call b11
            have hT11 := hT10.call b11
            have hr11 := hr10.call b11
            try simp only []
            refine hK.out _ _ (hSx _ K11 hr11) (fun hHeld => ?_)
            clear hK K
            try simp only [Act.put, List.getElem_toArray, List.getElem_cons_succ, List.getElem_cons_zero, List.setIfInBounds_toArray, List.set_cons_zero, List.set_cons_succ]
            refine wpAnyH_take (i := 38) (v := ?_) rfl (by kernel_rfl) (by kernel_rfl) (by kernel_rfl) (fun _ _ _ h => h) (Or.inl ⟨by rfl, ?_⟩) (by assumption) ?_
            rotate_left 1
            · intro w hSw; (try dsimp only at hSw); go_simp; try with_reducible rfl
            try simp only [Act.put, List.getElem_toArray, List.getElem_cons_succ, List.getElem_cons_zero, List.setIfInBounds_toArray, List.set_cons_zero, List.set_cons_succ]
            refine wpAnyH_take (i := 39) (v := ?_) rfl (by kernel_rfl) (by kernel_rfl) (by kernel_rfl) (fun _ _ _ h => h) (Or.inl ⟨by rfl, ?_⟩) (by assumption) ?_
            rotate_left 1
            · intro w hSw; (try dsimp only at hSw); go_simp; try with_reducible rfl
            try simp only [Act.put, List.getElem_toArray, List.getElem_cons_succ, List.getElem_cons_zero, List.setIfInBounds_toArray, List.set_cons_zero, List.set_cons_succ]
            refine wpAnyH_done (by kernel_rfl) ?_ _
            have hs11 : hi2 ≤ w11.heap.size := by have := b8.size; have := b9.size; have := b10.size; have := b11.size; omega
            go_wp2
            go_roundg (MA - (m + 1))
            case measure => have := HG.out; omega
            case rel => exact ⟨m + 1, q2, l2, g', gl', d', lo2, hi2, by omega, Nat.le_refl _, by go_num, rfl, rfl, hF2, hT11, hr11, hq2, hlo2, hs11, hg2', hgl2', K11.below⟩
        | true =>
          obtain ⟨E0, l0, -, cS0, -⟩ := sets_any hF hk 0 (by decide) ⟨true, ⟨#[]⟩, ⟨#[111, 116, 104, 101, 114]⟩, 0, 0⟩ ⟨⟨by decide, by decide⟩, ⟨by decide, by decide⟩, ⟨by decide, by decide⟩⟩ ⟨by decide, by decide⟩
          have cS1 := cS0 q
          unfold SetTo at cS1
          simp only [Lf.val] at cS1
          have cCp := fun u (hu : TrAt u q n l' k) => copy15_any hu hF
          go_upto_region 14 with (first
            | (go_at_call 5; ((with_reducible refine cG2.mono ?_); rintro e w2 ⟨rfl, rfl⟩))
            | fail)
          generalize W1.alloc (.cells (lfB xp xi xs xh xl) 36) = W2 at *
          go_upto_region 16 with (first
            | (go_at_call 18; refine (cCp _ hT2).mono ?_; rintro e w3 ⟨b3, q2, rfl, hT3, hq3⟩)
            | fail)
          have K3 := K2.call b3
          have hTo := hT2.call b3
          have hr3 := hr2.call b3
          have hs12 : g12 < W2.heap.size := (K2.box 0).inside
          go_upto_region 19 with (first
            | (go_at_call 19; refine (cS1 _ hTo (hK.call K3.below) (hU.call K3.below)).mono ?_; rintro e w4 ⟨rfl, -, O4⟩)
            | fail)
          have Kc := K3.off O4 (fun i hi => by have := hq.turns hi; omega) (fun z hz hi => by
            have hbb := hq.turns hi
            simp only [List.mem_cons, List.not_mem_nil, or_false] at hz
            subst hz
            simp only at hbb
            omega)
          have hTc := hT3.off hq3 O4 (fun b hb => Or.inl (by have := hq.turns hb; omega))
          have hrc := hr3.off O4 (fun hi => by have := hq.turns hi; omega) (fun hi => by have := hq.turns hi; omega)
          have hs34 : w3.heap.size ≤ w4.heap.size := O4.size
          obtain ⟨lo2, hi2, hq2, hlo2, hhi2, hgr2, hgrl2, hhg⟩ : ∃ lo2 hi2, q2.within lo2 hi2 ∧ w.heap.size ≤ lo2 ∧ hi2 ≤ w4.heap.size ∧ (gr < lo2 ∨ hi2 ≤ gr) ∧ (grl < lo2 ∨ hi2 ≤ grl) ∧ (g12 < lo2 ∨ hi2 ≤ g12) :=
            ⟨W2.heap.size, w3.heap.size, hq3, K2.size, hs34, Or.inl (by omega), Or.inl (by omega), Or.inl hs12⟩
          clear x0 x1 x2 x3 x4 x5 x6 K1 K2 K3 hT2 hr2 hT3 hr3 hTo cG2 hq hlo hhi hgr hgrl hin cS0 cS1 cCp O4 hq3 b3 hs12
          rename World => Wc
          obtain ⟨cpv, Kc⟩ : ∃ cpv : Value, Has w [(g12, 52, #[.int .u64 p, .bool xp, .string xi, .string xs, .int .u64 xh, .int .u64 xl, cpv])] Wc := ⟨_, Kc⟩
          have hcell := fun u (hu : Box u g12 52 #[.int .u64 p, .bool xp, .string xi, .string xs, .int .u64 xh, .int .u64 xl, cpv]) => cells_act hu
          obtain ⟨z0, z1, z2, z3, z4, z5⟩ := hcell _ (Kc.box 0)
          have zin := (Kc.box 0).inside
          go_upto_region 20 with (first
            | (go_at_call 20; refine (cRS _ gr grl dr hrc).mono ?_; rintro e w5 ⟨b5, g', gl', d', rfl, hr5, hg', hgl'⟩)
            | fail)
          have K5 := Kc.call b5
          have hT5 := hTc.call b5
          have hs5 : Wc.heap.size ≤ w5.heap.size := b5.size
          have hg2' : g' < lo2 ∨ hi2 ≤ g' := by rcases hg' with h | h <;> omega
          have hgl2' : gl' < lo2 ∨ hi2 ≤ gl' := by rcases hgl' with h | h <;> omega
          clear z0 z1 z2 z3 z4 z5 zin hg' hgl' b5
          obtain ⟨z0, z1, z2, z3, z4, z5⟩ := hcell _ (K5.box 0)
          have zin := (K5.box 0).inside
          go_upto_region 22 with (first
            | (go_at_call 19; refine (cS q2 _ hT5 (hK.call K5.below) (hU.call K5.below)).mono ?_; rintro e w6 ⟨rfl, hT6, O6⟩)
            | fail)
          have K6 := K5.off O6 (fun i hi => by have := hq2.turns hi; omega) (fun z hz hi => by
            have hbb := hq2.turns hi
            simp only [List.mem_cons, List.not_mem_nil, or_false] at hz
            subst hz
            simp only at hbb
            omega)
          have hr6 := hr5.off O6 (fun hi => by have := hq2.turns hi; omega) (fun hi => by have := hq2.turns hi; omega)
          have hs6 : w5.heap.size ≤ w6.heap.size := O6.size
          clear z0 z1 z2 z3 z4 z5 zin
          obtain ⟨z0, z1, z2, z3, z4, z5⟩ := hcell _ (K6.box 0)
          have zin := (K6.box 0).inside
          have hl2 : l2.length = N := hF2.len.trans HFN.out.symm
          have cLf := fun u (hu : TrAt u q2 n l2 k) => leaf15_any hu hF2 p hp
          rw [hl2] at cLf
          have cRt := fun u (hu : TrAt u q2 n l2 k) => root15_any hu hF2
          have cRr := fun u g gl d (hu : RTr u g gl d n l2) => rroot15_any hu hF2 hk
          have cLv := fun u (hu : TrAt u q2 n l2 k) => leaves15_any hu hF2
          have c3 := fun A A' d d' u hR hQ => rsame15_any A A' d d' l2 l2 (by omega) (by omega) u hR hQ
          rw [hl2] at cLv c3
          rw [decide_eq_true rfl] at c3
          obtain ⟨ts, th, tl⟩ := topN n l2 k
          have er := fun u => neq_rt_self ts th tl k u
          simp only [rootV] at cRt cRr
          have e1 : IntKind.u64.wrap (N : Int) = (N : Int) := by rw [IntKind.wrap_u64]; omega
          by_cases hpl : p < N
          · have hpli : (p : Int) < (N : Int) := by omega
            obtain ⟨y2, hy2⟩ : ∃ y, l2[p]? = some y := ⟨_, List.getElem?_eq_getElem (by omega)⟩
            have eY : lfAt l2 p = y2 := by rw [lfAt, List.getD_eq_getElem?_getD, hy2]; rfl
            rw [eY, decide_eq_true hpl] at cLf
            have el := fun u => neq_lf_self15 y2 u
            have HY2 := hideIt hy2
            obtain ⟨yp, yi, ys, yh, yl⟩ := y2
            simp only [Lf.val] at cLf el
            clear hy2 eY
            go_upto_region 24 with (first
              | (go_at_call 21; refine (cLf _ hT6).mono ?_; rintro e w7 ⟨rfl, b7⟩)
              | fail)
            have K7 := (K6.call b7).add 36 (lfB yp yi ys yh yl)
            have hT7 := (hT6.call b7).past (.cells (lfB yp yi ys yh yl) 36)
            have hr7 := (hr6.call b7).past (.cells (lfB yp yi ys yh yl) 36)
            have hs7 : hi2 ≤ (w7.alloc (.cells (lfB yp yi ys yh yl) 36)).heap.size := by have := b7.size; simp; omega
            obtain ⟨g16, hg16⟩ : ∃ g, w7.heap.size = g := ⟨_, rfl⟩
            rw [hg16] at K7 ⊢
            change Code.wp _ _ _ _ (w7.alloc (.cells (lfB yp yi ys yh yl) 36))
            generalize w7.alloc (.cells (lfB yp yi ys yh yl) 36) = W7 at *
            have hSx : ∀ u, Has w [(g16, 36, lfB yp yi ys yh yl), (g12, 52, #[.int .u64 p, .bool xp, .string xi, .string xs, .int .u64 xh, .int .u64 xl, cpv])] u → RTr u g' gl' d' n l2 → (u.cell? ⟨g12, 0, none⟩ = some (.int .u64 p) ∧ g12 < u.heap.size) ∧ (u.cell? ⟨g', 1, none⟩ = some (.slice (some ⟨gl', 0, none⟩) N d') ∧ g' < u.heap.size) ∧ ((u.cell? ⟨g16, 0, none⟩ = some (.bool yp) ∧ u.cell? ⟨g16, 1, none⟩ = some (.string yi) ∧ u.cell? ⟨g16, 2, none⟩ = some (.string ys) ∧ u.cell? ⟨g16, 3, none⟩ = some (.int .u64 yh) ∧ u.cell? ⟨g16, 4, none⟩ = some (.int .u64 yl)) ∧ g16 < u.heap.size) ∧ ((u.cell? ⟨gl', p * 5, none⟩ = some (.bool yp) ∧ u.cell? ⟨gl', p * 5 + 1, none⟩ = some (.string yi) ∧ u.cell? ⟨gl', p * 5 + 2, none⟩ = some (.string ys) ∧ u.cell? ⟨gl', p * 5 + 3, none⟩ = some (.int .u64 yh) ∧ u.cell? ⟨gl', p * 5 + 4, none⟩ = some (.int .u64 yl)) ∧ gl' < u.heap.size) := fun u hu hru =>
              ⟨⟨(hu.box 1).read 0, (hu.box 1).inside⟩, ⟨by rw [← hl2]; exact hru.cells.2.1, hru.cells.2.2⟩, ⟨(hu.box 0).five0.1, (hu.box 0).inside⟩,
                (by
                  obtain ⟨y', hy', r0, r1, r2, r3, r4⟩ := lf_there hru.2 p (by omega)
                  rw [HY2.out] at hy'
                  injection hy' with hy'
                  subst hy'
                  exact ⟨⟨r0, r1, r2, r3, r4⟩, hru.2.inside⟩)⟩
            have Kd := K7.drew
            have hTd := hT7.drew
            have hrd := hr7.drew
            have hsd : hi2 ≤ W7.drew.heap.size := by simpa using hs7
            clear z0 z1 z2 z3 z4 z5 zin K7 hT7 hr7 hs7 K6 hT6 hr6 K5 hT5 hr5 Kc hTc hrc cS cRS cLf O6 hcell
            refine wp_region_held_drew (S := fun u => (u.cell? ⟨g12, 0, none⟩ = some (.int .u64 p) ∧ g12 < u.heap.size) ∧ (u.cell? ⟨g', 1, none⟩ = some (.slice (some ⟨gl', 0, none⟩) N d') ∧ g' < u.heap.size) ∧ ((u.cell? ⟨g16, 0, none⟩ = some (.bool yp) ∧ u.cell? ⟨g16, 1, none⟩ = some (.string yi) ∧ u.cell? ⟨g16, 2, none⟩ = some (.string ys) ∧ u.cell? ⟨g16, 3, none⟩ = some (.int .u64 yh) ∧ u.cell? ⟨g16, 4, none⟩ = some (.int .u64 yl)) ∧ g16 < u.heap.size) ∧ ((u.cell? ⟨gl', p * 5, none⟩ = some (.bool yp) ∧ u.cell? ⟨gl', p * 5 + 1, none⟩ = some (.string yi) ∧ u.cell? ⟨gl', p * 5 + 2, none⟩ = some (.string ys) ∧ u.cell? ⟨gl', p * 5 + 3, none⟩ = some (.int .u64 yh) ∧ u.cell? ⟨gl', p * 5 + 4, none⟩ = some (.int .u64 yl)) ∧ gl' < u.heap.size)) (by kernel_rfl) (hSx _ Kd hrd) (fun hHeld => ?_)
            generalize W7.drew = Wd at *
            refine wpAnyH_take (i := 0) (v := ?_) rfl (by kernel_rfl) (by kernel_rfl) (by kernel_rfl) (fun _ _ _ h => h) (Or.inl ⟨by rfl, ?_⟩) (by assumption) ?_
            rotate_left 1
            · intro w hSw; (try dsimp only at hSw); go_simp; try with_reducible rfl
            try simp only [Act.put, List.getElem_toArray, List.getElem_cons_succ, List.getElem_cons_zero, List.setIfInBounds_toArray, List.set_cons_zero, List.set_cons_succ]
            refine wpAnyH_take (i := 1) (v := ?_) rfl (by kernel_rfl) (by kernel_rfl) (by kernel_rfl) (fun _ _ _ h => h) (Or.inl ⟨by rfl, ?_⟩) (by assumption) ?_
            rotate_left 1
            · intro w hSw; (try dsimp only at hSw); go_simp; try with_reducible rfl
            try simp only [Act.put, List.getElem_toArray, List.getElem_cons_succ, List.getElem_cons_zero, List.setIfInBounds_toArray, List.set_cons_zero, List.set_cons_succ]
            refine wpAnyH_take (i := 2) (v := ?_) rfl (by kernel_rfl) (by kernel_rfl) (by kernel_rfl) (fun _ _ _ h => h) (Or.inl ⟨by rfl, ?_⟩) (by assumption) ?_
            rotate_left 1
            · intro w hSw; (try dsimp only at hSw); go_simp; try with_reducible rfl
            try simp only [Act.put, List.getElem_toArray, List.getElem_cons_succ, List.getElem_cons_zero, List.setIfInBounds_toArray, List.set_cons_zero, List.set_cons_succ]
            refine wpAnyH_take (i := 3) (v := ?_) rfl (by kernel_rfl) (by kernel_rfl) (by kernel_rfl) (fun _ _ _ h => h) (Or.inl ⟨by rfl, ?_⟩) (by assumption) ?_
            rotate_left 1
            · intro w hSw; (try dsimp only at hSw); go_simp; try with_reducible rfl
            try simp only [Act.put, List.getElem_toArray, List.getElem_cons_succ, List.getElem_cons_zero, List.setIfInBounds_toArray, List.set_cons_zero, List.set_cons_succ]
            refine wpAnyH_take (i := 4) (v := ?_) rfl (by kernel_rfl) (by kernel_rfl) (by kernel_rfl) (fun _ _ _ h => h) (Or.inl ⟨by rfl, ?_⟩) (by assumption) ?_
            rotate_left 1
            · intro w hSw; (try dsimp only at hSw); go_simp; try with_reducible rfl
            try simp only [Act.put, List.getElem_toArray, List.getElem_cons_succ, List.getElem_cons_zero, List.setIfInBounds_toArray, List.set_cons_zero, List.set_cons_succ]
            refine wpAnyH_take (i := 5) (v := ?_) rfl (by kernel_rfl) (by kernel_rfl) (by kernel_rfl) (fun _ _ _ h => h) (Or.inl ⟨by rfl, ?_⟩) (by assumption) ?_
            rotate_left 1
            · intro w hSw; (try dsimp only at hSw); go_simp; try with_reducible rfl
            try simp only [Act.put, List.getElem_toArray, List.getElem_cons_succ, List.getElem_cons_zero, List.setIfInBounds_toArray, List.set_cons_zero, List.set_cons_succ]
            refine wpAnyH_take (i := 6) (v := ?_) rfl (by kernel_rfl) (by kernel_rfl) (by kernel_rfl) (fun _ _ _ h => h) (Or.inl ⟨by rfl, ?_⟩) (by assumption) ?_
            rotate_left 1
            · intro w hSw; (try dsimp only at hSw); go_simp; try with_reducible rfl
            try simp only [Act.put, List.getElem_toArray, List.getElem_cons_succ, List.getElem_cons_zero, List.setIfInBounds_toArray, List.set_cons_zero, List.set_cons_succ]
            refine wpAnyH_take (i := 7) (v := ?_) rfl (by kernel_rfl) (by kernel_rfl) (by kernel_rfl) (fun _ _ _ h => h) (Or.inl ⟨by rfl, ?_⟩) (by assumption) ?_
            rotate_left 1
            · intro w hSw; (try dsimp only at hSw); go_simp; try with_reducible rfl
            try simp only [Act.put, List.getElem_toArray, List.getElem_cons_succ, List.getElem_cons_zero, List.setIfInBounds_toArray, List.set_cons_zero, List.set_cons_succ]
            refine wpAnyH_take (i := 8) (v := ?_) rfl (by kernel_rfl) (by kernel_rfl) (by kernel_rfl) (fun _ _ _ h => h) (Or.inl ⟨by rfl, ?_⟩) (by assumption) ?_
            rotate_left 1
            · intro w hSw; (try dsimp only at hSw); go_simp; try with_reducible rfl
            try simp only [Act.put, List.getElem_toArray, List.getElem_cons_succ, List.getElem_cons_zero, List.setIfInBounds_toArray, List.set_cons_zero, List.set_cons_succ]
            refine wpAnyH_take (i := 9) (v := ?_) rfl (by kernel_rfl) (by kernel_rfl) (by kernel_rfl) (fun _ _ _ h => h) (Or.inl ⟨by rfl, ?_⟩) (by assumption) ?_
            rotate_left 1
            · intro w hSw; (try dsimp only at hSw); go_simp; try with_reducible rfl
            try simp only [Act.put, List.getElem_toArray, List.getElem_cons_succ, List.getElem_cons_zero, List.setIfInBounds_toArray, List.set_cons_zero, List.set_cons_succ]
            refine wpAnyH_take (i := 10) (v := ?_) rfl (by kernel_rfl) (by kernel_rfl) (by kernel_rfl) (fun _ _ _ h => h) (Or.inl ⟨by rfl, ?_⟩) (by assumption) ?_
            rotate_left 1
            · intro w hSw; (try dsimp only at hSw); go_simp; try with_reducible rfl
            try simp only [Act.put, List.getElem_toArray, List.getElem_cons_succ, List.getElem_cons_zero, List.setIfInBounds_toArray, List.set_cons_zero, List.set_cons_succ]
            refine wpAnyH_take (i := 11) (v := ?_) rfl (by kernel_rfl) (by kernel_rfl) (by kernel_rfl) (fun _ _ _ h => h) (Or.inl ⟨by rfl, ?_⟩) (by assumption) ?_
            rotate_left 1
            · intro w hSw; (try dsimp only at hSw); go_simp; try with_reducible rfl
            try simp only [Act.put, List.getElem_toArray, List.getElem_cons_succ, List.getElem_cons_zero, List.setIfInBounds_toArray, List.set_cons_zero, List.set_cons_succ]
            refine wpAnyH_take (i := 12) (v := ?_) rfl (by kernel_rfl) (by kernel_rfl) (by kernel_rfl) (fun _ _ _ h => h) (Or.inl ⟨by rfl, ?_⟩) (by assumption) ?_
            rotate_left 1
            · intro w hSw; (try dsimp only at hSw); go_simp; try with_reducible rfl
            try simp only [Act.put, List.getElem_toArray, List.getElem_cons_succ, List.getElem_cons_zero, List.setIfInBounds_toArray, List.set_cons_zero, List.set_cons_succ]
            refine wpAnyH_take (i := 13) (v := ?_) rfl (by kernel_rfl) (by kernel_rfl) (by kernel_rfl) (fun _ _ _ h => h) (Or.inl ⟨by rfl, ?_⟩) (by assumption) ?_
            rotate_left 1
            · intro w hSw; (try dsimp only at hSw); go_simp; try with_reducible rfl
            try simp only [Act.put, List.getElem_toArray, List.getElem_cons_succ, List.getElem_cons_zero, List.setIfInBounds_toArray, List.set_cons_zero, List.set_cons_succ]
            refine wpAnyH_take (i := 14) (v := ?_) rfl (by kernel_rfl) (by kernel_rfl) (by kernel_rfl) (fun _ _ _ h => h) (Or.inl ⟨by rfl, ?_⟩) (by assumption) ?_
            rotate_left 1
            · intro w hSw; (try dsimp only at hSw); go_simp; try with_reducible rfl
            try simp only [Act.put, List.getElem_toArray, List.getElem_cons_succ, List.getElem_cons_zero, List.setIfInBounds_toArray, List.set_cons_zero, List.set_cons_succ]
            refine wpAnyH_take (i := 15) (v := ?_) rfl (by kernel_rfl) (by kernel_rfl) (by kernel_rfl) (fun _ _ _ h => h) (Or.inl ⟨by rfl, ?_⟩) (by assumption) ?_
            rotate_left 1
            · intro w hSw; (try dsimp only at hSw); go_simp; try with_reducible rfl
            try simp only [Act.put, List.getElem_toArray, List.getElem_cons_succ, List.getElem_cons_zero, List.setIfInBounds_toArray, List.set_cons_zero, List.set_cons_succ]
            refine wpAnyH_take (i := 16) (v := ?_) rfl (by kernel_rfl) (by kernel_rfl) (by kernel_rfl) (fun _ _ _ h => h) (Or.inl ⟨by rfl, ?_⟩) (by assumption) ?_
            rotate_left 1
            · intro w hSw; (try dsimp only at hSw); go_simp; try with_reducible rfl
            try simp only [Act.put, List.getElem_toArray, List.getElem_cons_succ, List.getElem_cons_zero, List.setIfInBounds_toArray, List.set_cons_zero, List.set_cons_succ]
            refine wpAnyH_take (i := 17) (v := ?_) rfl (by kernel_rfl) (by kernel_rfl) (by kernel_rfl) (fun _ _ _ h => h) (Or.inl ⟨by rfl, ?_⟩) (by assumption) ?_
            rotate_left 1
            · intro w hSw; (try dsimp only at hSw); go_simp; try with_reducible rfl
            try simp only [Act.put, List.getElem_toArray, List.getElem_cons_succ, List.getElem_cons_zero, List.setIfInBounds_toArray, List.set_cons_zero, List.set_cons_succ]
            refine wpAnyH_take (i := 18) (v := ?_) rfl (by kernel_rfl) (by kernel_rfl) (by kernel_rfl) (fun _ _ _ h => h) (Or.inl ⟨by rfl, ?_⟩) (by assumption) ?_
            rotate_left 1
            · intro w hSw; (try dsimp only at hSw); go_simp; try with_reducible rfl
            try simp only [Act.put, List.getElem_toArray, List.getElem_cons_succ, List.getElem_cons_zero, List.setIfInBounds_toArray, List.set_cons_zero, List.set_cons_succ]
            refine wpAnyH_take (i := 19) (v := ?_) rfl (by kernel_rfl) (by kernel_rfl) (by kernel_rfl) (fun _ _ _ h => h) (Or.inl ⟨by rfl, ?_⟩) (by assumption) ?_
            rotate_left 1
            · intro w hSw; (try dsimp only at hSw); go_simp; try with_reducible rfl
            try simp only [Act.put, List.getElem_toArray, List.getElem_cons_succ, List.getElem_cons_zero, List.setIfInBounds_toArray, List.set_cons_zero, List.set_cons_succ]
            refine wpAnyH_take (i := 20) (v := ?_) rfl (by kernel_rfl) (by kernel_rfl) (by kernel_rfl) (fun _ _ _ h => h) (Or.inl ⟨by rfl, ?_⟩) (by assumption) ?_
            rotate_left 1
            · intro w hSw; (try dsimp only at hSw); go_simp; try with_reducible rfl
            try simp only [Act.put, List.getElem_toArray, List.getElem_cons_succ, List.getElem_cons_zero, List.setIfInBounds_toArray, List.set_cons_zero, List.set_cons_succ]
            refine wpAnyH_take (i := 21) (v := ?_) rfl (by kernel_rfl) (by kernel_rfl) (by kernel_rfl) (fun _ _ _ h => h) (Or.inl ⟨by rfl, ?_⟩) (by assumption) ?_
            rotate_left 1
            · intro w hSw; (try dsimp only at hSw); go_simp; try with_reducible rfl
            try simp only [Act.put, List.getElem_toArray, List.getElem_cons_succ, List.getElem_cons_zero, List.setIfInBounds_toArray, List.set_cons_zero, List.set_cons_succ]
            refine wpAnyH_take (i := 22) (v := ?_) rfl (by kernel_rfl) (by kernel_rfl) (by kernel_rfl) (fun _ _ _ h => h) (Or.inl ⟨by rfl, ?_⟩) (by assumption) ?_
            rotate_left 1
            · intro w hSw; (try dsimp only at hSw); go_simp; try with_reducible rfl
            try simp only [Act.put, List.getElem_toArray, List.getElem_cons_succ, List.getElem_cons_zero, List.setIfInBounds_toArray, List.set_cons_zero, List.set_cons_succ]
            refine wpAnyH_take (i := 23) (v := ?_) rfl (by kernel_rfl) (by kernel_rfl) (by kernel_rfl) (fun _ _ _ h => h) (Or.inl ⟨by rfl, ?_⟩) (by assumption) ?_
            rotate_left 1
            · intro w hSw; (try dsimp only at hSw); go_simp; try with_reducible rfl
            try simp only [Act.put, List.getElem_toArray, List.getElem_cons_succ, List.getElem_cons_zero, List.setIfInBounds_toArray, List.set_cons_zero, List.set_cons_succ]
            refine wpAnyH_take (i := 24) (v := ?_) rfl (by kernel_rfl) (by kernel_rfl) (by kernel_rfl) (fun _ _ _ h => h) (Or.inl ⟨by rfl, ?_⟩) (by assumption) ?_
            rotate_left 1
            · intro w hSw; (try dsimp only at hSw); go_simp; try with_reducible rfl
            try simp only [Act.put, List.getElem_toArray, List.getElem_cons_succ, List.getElem_cons_zero, List.setIfInBounds_toArray, List.set_cons_zero, List.set_cons_succ]
            refine wpAnyH_take (i := 26) (v := ?_) rfl (by kernel_rfl) (by kernel_rfl) (by kernel_rfl) (fun _ _ _ h => h) (Or.inl ⟨by rfl, ?_⟩) (by assumption) ?_
            rotate_left 1
            · intro w hSw; (try dsimp only at hSw); go_simp; try with_reducible rfl
            try simp only [Act.put, List.getElem_toArray, List.getElem_cons_succ, List.getElem_cons_zero, List.setIfInBounds_toArray, List.set_cons_zero, List.set_cons_succ]
            refine wpAnyH_ready (rs := [25]) (by kernel_rfl) (by simp) (AllReadyH.cons rfl (fun K hK => ?_) AllReadyH.nil)
            go_simp
            go_at_call 13
            refine (cRt _ hTd).mono ?_
            rintro e w8 ⟨rfl, b8⟩
            have K8 := Kd.call b8
            have hT8 := hTd.call b8
            have hr8 := hrd.call b8
            try simp only []
            refine hK.out _ _ (hSx _ K8 hr8) (fun hHeld => ?_)
            clear hK K
            try simp only [Act.put, List.getElem_toArray, List.getElem_cons_succ, List.getElem_cons_zero, List.setIfInBounds_toArray, List.set_cons_zero, List.set_cons_succ]
            refine wpAnyH_ready (rs := [27]) (by kernel_rfl) (by simp) (AllReadyH.cons rfl (fun K hK => ?_) AllReadyH.nil)
            go_simp
            go_at_call 14
            refine (cRr _ g' gl' d' hr8).mono ?_
            rintro e w9 ⟨rfl, b9⟩
            have K9 := K8.call b9
            have hT9 := hT8.call b9
            have hr9 := hr8.call b9
            try simp only []
            refine hK.out _ _ (hSx _ K9 hr9) (fun hHeld => ?_)
            clear hK K
            try simp only [Act.put, List.getElem_toArray, List.getElem_cons_succ, List.getElem_cons_zero, List.setIfInBounds_toArray, List.set_cons_zero, List.set_cons_succ]
            refine wpAnyH_take (i := 28) (v := ?_) rfl (by kernel_rfl) (by kernel_rfl) (by kernel_rfl) (fun _ _ _ h => h) (Or.inl ⟨by rfl, ?_⟩) (by assumption) ?_
            rotate_left 1
            · intro w hSw; (try dsimp only at hSw); go_simp; try with_reducible rfl
            try simp only [Act.put, List.getElem_toArray, List.getElem_cons_succ, List.getElem_cons_zero, List.setIfInBounds_toArray, List.set_cons_zero, List.set_cons_succ]
            refine wpAnyH_take (i := 29) (v := ?_) rfl (by kernel_rfl) (by kernel_rfl) (by kernel_rfl) (fun _ _ _ h => h) (Or.inl ⟨by rfl, ?_⟩) (by assumption) ?_
            rotate_left 1
            · intro w hSw; (try dsimp only at hSw); go_simp; try with_reducible rfl
            try simp only [Act.put, List.getElem_toArray, List.getElem_cons_succ, List.getElem_cons_zero, List.setIfInBounds_toArray, List.set_cons_zero, List.set_cons_succ]
            refine wpAnyH_take (i := 30) (v := ?_) rfl (by kernel_rfl) (by kernel_rfl) (by kernel_rfl) (fun _ _ _ h => h) (Or.inl ⟨by rfl, ?_⟩) (by assumption) ?_
            rotate_left 1
            · intro w hSw; (try dsimp only at hSw); go_simp; try with_reducible rfl
            try simp only [Act.put, List.getElem_toArray, List.getElem_cons_succ, List.getElem_cons_zero, List.setIfInBounds_toArray, List.set_cons_zero, List.set_cons_succ]
            refine wpAnyH_take (i := 31) (v := ?_) rfl (by kernel_rfl) (by kernel_rfl) (by kernel_rfl) (fun _ _ _ h => h) (Or.inl ⟨by rfl, ?_⟩) (by assumption) ?_
            rotate_left 1
            · intro w hSw; (try dsimp only at hSw); go_simp; try with_reducible rfl
            try simp only [Act.put, List.getElem_toArray, List.getElem_cons_succ, List.getElem_cons_zero, List.setIfInBounds_toArray, List.set_cons_zero, List.set_cons_succ]
            refine wpAnyH_take (i := 33) (v := ?_) rfl (by kernel_rfl) (by kernel_rfl) (by kernel_rfl) (fun _ _ _ h => h) (Or.inl ⟨by rfl, ?_⟩) (by assumption) ?_
            rotate_left 1
            · intro w hSw; (try dsimp only at hSw); go_simp; try with_reducible rfl
            try simp only [Act.put, List.getElem_toArray, List.getElem_cons_succ, List.getElem_cons_zero, List.setIfInBounds_toArray, List.set_cons_zero, List.set_cons_succ]
            refine wpAnyH_take (i := 34) (v := ?_) rfl (by kernel_rfl) (by kernel_rfl) (by kernel_rfl) (fun _ _ _ h => h) (Or.inl ⟨by rfl, ?_⟩) (by assumption) ?_
            rotate_left 1
            · intro w hSw; (try dsimp only at hSw); go_simp; try with_reducible rfl
            try simp only [Act.put, List.getElem_toArray, List.getElem_cons_succ, List.getElem_cons_zero, List.setIfInBounds_toArray, List.set_cons_zero, List.set_cons_succ]
            refine wpAnyH_take (i := 35) (v := ?_) rfl (by kernel_rfl) (by kernel_rfl) (by kernel_rfl) (fun _ _ _ h => h) (Or.inl ⟨by rfl, ?_⟩) (by assumption) ?_
            rotate_left 1
            · intro w hSw; (try dsimp only at hSw); go_simp; try with_reducible rfl
            try simp only [Act.put, List.getElem_toArray, List.getElem_cons_succ, List.getElem_cons_zero, List.setIfInBounds_toArray, List.set_cons_zero, List.set_cons_succ]
            refine wpAnyH_take (i := 36) (v := ?_) rfl (by kernel_rfl) (by kernel_rfl) (by kernel_rfl) (fun _ _ _ h => h) (Or.inl ⟨by rfl, ?_⟩) (by assumption) ?_
            rotate_left 1
            · intro w hSw; (try dsimp only at hSw); go_simp; try with_reducible rfl
            try simp only [Act.put, List.getElem_toArray, List.getElem_cons_succ, List.getElem_cons_zero, List.setIfInBounds_toArray, List.set_cons_zero, List.set_cons_succ]
            refine wpAnyH_ready (rs := [32]) (by kernel_rfl) (by simp) (AllReadyH.cons rfl (fun K hK => ?_) AllReadyH.nil)
            go_simp
            go_at_call 9
            refine (cLv _ hT9).mono ?_
            rintro e w10 ⟨b10, g30, rfl, hg30, B30⟩
            have K10 := K9.call b10
            have hT10 := hT9.call b10
            have hr10 := hr9.call b10
            try simp only []
            refine hK.out _ _ (hSx _ K10 hr10) (fun hHeld => ?_)
            clear hK K
            try simp only [Act.put, List.getElem_toArray, List.getElem_cons_succ, List.getElem_cons_zero, List.setIfInBounds_toArray, List.set_cons_zero, List.set_cons_succ]
            refine wpAnyH_ready (rs := [37]) (by kernel_rfl) (by simp) (AllReadyH.cons rfl (fun K hK => ?_) AllReadyH.nil)
            go_simp
            go_at_call 8
            refine (c3 _ _ _ _ _ B30.row hr10.2.row).mono ?_
            rintro e w11 ⟨rfl, b11⟩
            have K11 := K10.call b11
            have hT11 := hT10.call b11
            have hr11 := hr10.call b11
            try simp only []
            refine hK.out _ _ (hSx _ K11 hr11) (fun hHeld => ?_)
            clear hK K
            try simp only [Act.put, List.getElem_toArray, List.getElem_cons_succ, List.getElem_cons_zero, List.setIfInBounds_toArray, List.set_cons_zero, List.set_cons_succ]
            refine wpAnyH_take (i := 38) (v := ?_) rfl (by kernel_rfl) (by kernel_rfl) (by kernel_rfl) (fun _ _ _ h => h) (Or.inl ⟨by rfl, ?_⟩) (by assumption) ?_
            rotate_left 1
            · intro w hSw; (try dsimp only at hSw); go_simp; try with_reducible rfl
            try simp only [Act.put, List.getElem_toArray, List.getElem_cons_succ, List.getElem_cons_zero, List.setIfInBounds_toArray, List.set_cons_zero, List.set_cons_succ]
            refine wpAnyH_take (i := 39) (v := ?_) rfl (by kernel_rfl) (by kernel_rfl) (by kernel_rfl) (fun _ _ _ h => h) (Or.inl ⟨by rfl, ?_⟩) (by assumption) ?_
            rotate_left 1
            · intro w hSw; (try dsimp only at hSw); go_simp; try with_reducible rfl
            try simp only [Act.put, List.getElem_toArray, List.getElem_cons_succ, List.getElem_cons_zero, List.setIfInBounds_toArray, List.set_cons_zero, List.set_cons_succ]
            refine wpAnyH_done (by kernel_rfl) ?_ _
            have hs11 : hi2 ≤ w11.heap.size := by have := b8.size; have := b9.size; have := b10.size; have := b11.size; omega
            go_wp2
            go_roundg (MA - (m + 1))
            case measure => have := HG.out; omega
            case rel => exact ⟨m + 1, q2, l2, g', gl', d', lo2, hi2, by omega, Nat.le_refl _, by go_num, rfl, rfl, hF2, hT11, hr11, hq2, hlo2, hs11, hg2', hgl2', K11.below⟩
          · have hpli : ¬ (p : Int) < (N : Int) := by omega
            obtain ⟨y2, hy2⟩ : ∃ y, lfAt l2 p = y := ⟨_, rfl⟩
            rw [hy2, decide_eq_false hpl] at cLf
            have el := fun u => neq_lf_self15 y2 u
            have HY2 := hideIt hy2
            obtain ⟨yp, yi, ys, yh, yl⟩ := y2
            simp only [Lf.val] at cLf el
            clear hy2
            go_upto_region 24 with (first
              | (go_at_call 21; refine (cLf _ hT6).mono ?_; rintro e w7 ⟨rfl, b7⟩)
              | fail)
            have K7 := (K6.call b7).add 36 (lfB yp yi ys yh yl)
            have hT7 := (hT6.call b7).past (.cells (lfB yp yi ys yh yl) 36)
            have hr7 := (hr6.call b7).past (.cells (lfB yp yi ys yh yl) 36)
            have hs7 : hi2 ≤ (w7.alloc (.cells (lfB yp yi ys yh yl) 36)).heap.size := by have := b7.size; simp; omega
            obtain ⟨g16, hg16⟩ : ∃ g, w7.heap.size = g := ⟨_, rfl⟩
            rw [hg16] at K7 ⊢
            change Code.wp _ _ _ _ (w7.alloc (.cells (lfB yp yi ys yh yl) 36))
            generalize w7.alloc (.cells (lfB yp yi ys yh yl) 36) = W7 at *
            have hSx : ∀ u, Has w [(g16, 36, lfB yp yi ys yh yl), (g12, 52, #[.int .u64 p, .bool xp, .string xi, .string xs, .int .u64 xh, .int .u64 xl, cpv])] u → RTr u g' gl' d' n l2 → (u.cell? ⟨g12, 0, none⟩ = some (.int .u64 p) ∧ g12 < u.heap.size) ∧ (u.cell? ⟨g', 1, none⟩ = some (.slice (some ⟨gl', 0, none⟩) N d') ∧ g' < u.heap.size) ∧ ((u.cell? ⟨g16, 0, none⟩ = some (.bool yp) ∧ u.cell? ⟨g16, 1, none⟩ = some (.string yi) ∧ u.cell? ⟨g16, 2, none⟩ = some (.string ys) ∧ u.cell? ⟨g16, 3, none⟩ = some (.int .u64 yh) ∧ u.cell? ⟨g16, 4, none⟩ = some (.int .u64 yl)) ∧ g16 < u.heap.size) := fun u hu hru =>
              ⟨⟨(hu.box 1).read 0, (hu.box 1).inside⟩, ⟨by rw [← hl2]; exact hru.cells.2.1, hru.cells.2.2⟩, ⟨(hu.box 0).five0.1, (hu.box 0).inside⟩⟩
            have Kd := K7.drew
            have hTd := hT7.drew
            have hrd := hr7.drew
            have hsd : hi2 ≤ W7.drew.heap.size := by simpa using hs7
            clear z0 z1 z2 z3 z4 z5 zin K7 hT7 hr7 hs7 K6 hT6 hr6 K5 hT5 hr5 Kc hTc hrc cS cRS cLf O6 hcell
            refine wp_region_held_drew (S := fun u => (u.cell? ⟨g12, 0, none⟩ = some (.int .u64 p) ∧ g12 < u.heap.size) ∧ (u.cell? ⟨g', 1, none⟩ = some (.slice (some ⟨gl', 0, none⟩) N d') ∧ g' < u.heap.size) ∧ ((u.cell? ⟨g16, 0, none⟩ = some (.bool yp) ∧ u.cell? ⟨g16, 1, none⟩ = some (.string yi) ∧ u.cell? ⟨g16, 2, none⟩ = some (.string ys) ∧ u.cell? ⟨g16, 3, none⟩ = some (.int .u64 yh) ∧ u.cell? ⟨g16, 4, none⟩ = some (.int .u64 yl)) ∧ g16 < u.heap.size)) (by kernel_rfl) (hSx _ Kd hrd) (fun hHeld => ?_)
            generalize W7.drew = Wd at *
            refine wpAnyH_take (i := 0) (v := ?_) rfl (by kernel_rfl) (by kernel_rfl) (by kernel_rfl) (fun _ _ _ h => h) (Or.inl ⟨by rfl, ?_⟩) (by assumption) ?_
            rotate_left 1
            · intro w hSw; (try dsimp only at hSw); go_simp; try with_reducible rfl
            try simp only [Act.put, List.getElem_toArray, List.getElem_cons_succ, List.getElem_cons_zero, List.setIfInBounds_toArray, List.set_cons_zero, List.set_cons_succ]
            refine wpAnyH_take (i := 1) (v := ?_) rfl (by kernel_rfl) (by kernel_rfl) (by kernel_rfl) (fun _ _ _ h => h) (Or.inl ⟨by rfl, ?_⟩) (by assumption) ?_
            rotate_left 1
            · intro w hSw; (try dsimp only at hSw); go_simp; try with_reducible rfl
            try simp only [Act.put, List.getElem_toArray, List.getElem_cons_succ, List.getElem_cons_zero, List.setIfInBounds_toArray, List.set_cons_zero, List.set_cons_succ]
            refine wpAnyH_take (i := 2) (v := ?_) rfl (by kernel_rfl) (by kernel_rfl) (by kernel_rfl) (fun _ _ _ h => h) (Or.inl ⟨by rfl, ?_⟩) (by assumption) ?_
            rotate_left 1
            · intro w hSw; (try dsimp only at hSw); go_simp; try with_reducible rfl
            try simp only [Act.put, List.getElem_toArray, List.getElem_cons_succ, List.getElem_cons_zero, List.setIfInBounds_toArray, List.set_cons_zero, List.set_cons_succ]
            refine wpAnyH_take (i := 3) (v := ?_) rfl (by kernel_rfl) (by kernel_rfl) (by kernel_rfl) (fun _ _ _ h => h) (Or.inl ⟨by rfl, ?_⟩) (by assumption) ?_
            rotate_left 1
            · intro w hSw; (try dsimp only at hSw); go_simp; try with_reducible rfl
            try simp only [Act.put, List.getElem_toArray, List.getElem_cons_succ, List.getElem_cons_zero, List.setIfInBounds_toArray, List.set_cons_zero, List.set_cons_succ]
            refine wpAnyH_take (i := 4) (v := ?_) rfl (by kernel_rfl) (by kernel_rfl) (by kernel_rfl) (fun _ _ _ h => h) (Or.inl ⟨by rfl, ?_⟩) (by assumption) ?_
            rotate_left 1
            · intro w hSw; (try dsimp only at hSw); go_simp; try with_reducible rfl
            try simp only [Act.put, List.getElem_toArray, List.getElem_cons_succ, List.getElem_cons_zero, List.setIfInBounds_toArray, List.set_cons_zero, List.set_cons_succ]
            refine wpAnyH_take (i := 5) (v := ?_) rfl (by kernel_rfl) (by kernel_rfl) (by kernel_rfl) (fun _ _ _ h => h) (Or.inl ⟨by rfl, ?_⟩) (by assumption) ?_
            rotate_left 1
            · intro w hSw; (try dsimp only at hSw); go_simp; try with_reducible rfl
            try simp only [Act.put, List.getElem_toArray, List.getElem_cons_succ, List.getElem_cons_zero, List.setIfInBounds_toArray, List.set_cons_zero, List.set_cons_succ]
            refine wpAnyH_take (i := 6) (v := ?_) rfl (by kernel_rfl) (by kernel_rfl) (by kernel_rfl) (fun _ _ _ h => h) (Or.inl ⟨by rfl, ?_⟩) (by assumption) ?_
            rotate_left 1
            · intro w hSw; (try dsimp only at hSw); go_simp; try with_reducible rfl
            try simp only [Act.put, List.getElem_toArray, List.getElem_cons_succ, List.getElem_cons_zero, List.setIfInBounds_toArray, List.set_cons_zero, List.set_cons_succ]
            refine wpAnyH_take (i := 7) (v := ?_) rfl (by kernel_rfl) (by kernel_rfl) (by kernel_rfl) (fun _ _ _ h => h) (Or.inl ⟨by rfl, ?_⟩) (by assumption) ?_
            rotate_left 1
            · intro w hSw; (try dsimp only at hSw); go_simp; try with_reducible rfl
            try simp only [Act.put, List.getElem_toArray, List.getElem_cons_succ, List.getElem_cons_zero, List.setIfInBounds_toArray, List.set_cons_zero, List.set_cons_succ]
            refine wpAnyH_take (i := 8) (v := ?_) rfl (by kernel_rfl) (by kernel_rfl) (by kernel_rfl) (fun _ _ _ h => h) (Or.inl ⟨by rfl, ?_⟩) (by assumption) ?_
            rotate_left 1
            · intro w hSw; (try dsimp only at hSw); go_simp; try with_reducible rfl
            try simp only [Act.put, List.getElem_toArray, List.getElem_cons_succ, List.getElem_cons_zero, List.setIfInBounds_toArray, List.set_cons_zero, List.set_cons_succ]
            refine wpAnyH_take (i := 9) (v := ?_) rfl (by kernel_rfl) (by kernel_rfl) (by kernel_rfl) (fun _ _ _ h => h) (Or.inl ⟨by rfl, ?_⟩) (by assumption) ?_
            rotate_left 1
            · intro w hSw; (try dsimp only at hSw); go_simp; try with_reducible rfl
            try simp only [Act.put, List.getElem_toArray, List.getElem_cons_succ, List.getElem_cons_zero, List.setIfInBounds_toArray, List.set_cons_zero, List.set_cons_succ]
            refine wpAnyH_take (i := 10) (v := ?_) rfl (by kernel_rfl) (by kernel_rfl) (by kernel_rfl) (fun _ _ _ h => h) (Or.inl ⟨by rfl, ?_⟩) (by assumption) ?_
            rotate_left 1
            · intro w hSw; (try dsimp only at hSw); go_simp; try with_reducible rfl
            try simp only [Act.put, List.getElem_toArray, List.getElem_cons_succ, List.getElem_cons_zero, List.setIfInBounds_toArray, List.set_cons_zero, List.set_cons_succ]
            refine wpAnyH_take (i := 11) (v := undef) rfl (by kernel_rfl) (by kernel_rfl) (by kernel_rfl) (fun _ _ _ h => h) (Or.inr ⟨by rfl, rfl⟩) (by assumption) ?_
            try simp only [Act.put, List.getElem_toArray, List.getElem_cons_succ, List.getElem_cons_zero, List.setIfInBounds_toArray, List.set_cons_zero, List.set_cons_succ]
            refine wpAnyH_take (i := 12) (v := undef) rfl (by kernel_rfl) (by kernel_rfl) (by kernel_rfl) (fun _ _ _ h => h) (Or.inr ⟨by rfl, rfl⟩) (by assumption) ?_
            try simp only [Act.put, List.getElem_toArray, List.getElem_cons_succ, List.getElem_cons_zero, List.setIfInBounds_toArray, List.set_cons_zero, List.set_cons_succ]
            refine wpAnyH_take (i := 13) (v := undef) rfl (by kernel_rfl) (by kernel_rfl) (by kernel_rfl) (fun _ _ _ h => h) (Or.inr ⟨by rfl, rfl⟩) (by assumption) ?_
            try simp only [Act.put, List.getElem_toArray, List.getElem_cons_succ, List.getElem_cons_zero, List.setIfInBounds_toArray, List.set_cons_zero, List.set_cons_succ]
            refine wpAnyH_take (i := 14) (v := undef) rfl (by kernel_rfl) (by kernel_rfl) (by kernel_rfl) (fun _ _ _ h => h) (Or.inr ⟨by rfl, rfl⟩) (by assumption) ?_
            try simp only [Act.put, List.getElem_toArray, List.getElem_cons_succ, List.getElem_cons_zero, List.setIfInBounds_toArray, List.set_cons_zero, List.set_cons_succ]
            refine wpAnyH_take (i := 15) (v := undef) rfl (by kernel_rfl) (by kernel_rfl) (by kernel_rfl) (fun _ _ _ h => h) (Or.inr ⟨by rfl, rfl⟩) (by assumption) ?_
            try simp only [Act.put, List.getElem_toArray, List.getElem_cons_succ, List.getElem_cons_zero, List.setIfInBounds_toArray, List.set_cons_zero, List.set_cons_succ]
            refine wpAnyH_take (i := 16) (v := undef) rfl (by kernel_rfl) (by kernel_rfl) (by kernel_rfl) (fun _ _ _ h => h) (Or.inr ⟨by rfl, rfl⟩) (by assumption) ?_
            try simp only [Act.put, List.getElem_toArray, List.getElem_cons_succ, List.getElem_cons_zero, List.setIfInBounds_toArray, List.set_cons_zero, List.set_cons_succ]
            refine wpAnyH_take (i := 17) (v := undef) rfl (by kernel_rfl) (by kernel_rfl) (by kernel_rfl) (fun _ _ _ h => h) (Or.inr ⟨by rfl, rfl⟩) (by assumption) ?_
            try simp only [Act.put, List.getElem_toArray, List.getElem_cons_succ, List.getElem_cons_zero, List.setIfInBounds_toArray, List.set_cons_zero, List.set_cons_succ]
            refine wpAnyH_take (i := 18) (v := undef) rfl (by kernel_rfl) (by kernel_rfl) (by kernel_rfl) (fun _ _ _ h => h) (Or.inr ⟨by rfl, rfl⟩) (by assumption) ?_
            try simp only [Act.put, List.getElem_toArray, List.getElem_cons_succ, List.getElem_cons_zero, List.setIfInBounds_toArray, List.set_cons_zero, List.set_cons_succ]
            refine wpAnyH_take (i := 19) (v := undef) rfl (by kernel_rfl) (by kernel_rfl) (by kernel_rfl) (fun _ _ _ h => h) (Or.inr ⟨by rfl, rfl⟩) (by assumption) ?_
            try simp only [Act.put, List.getElem_toArray, List.getElem_cons_succ, List.getElem_cons_zero, List.setIfInBounds_toArray, List.set_cons_zero, List.set_cons_succ]
            refine wpAnyH_take (i := 20) (v := undef) rfl (by kernel_rfl) (by kernel_rfl) (by kernel_rfl) (fun _ _ _ h => h) (Or.inr ⟨by rfl, rfl⟩) (by assumption) ?_
            try simp only [Act.put, List.getElem_toArray, List.getElem_cons_succ, List.getElem_cons_zero, List.setIfInBounds_toArray, List.set_cons_zero, List.set_cons_succ]
            refine wpAnyH_take (i := 21) (v := ?_) rfl (by kernel_rfl) (by kernel_rfl) (by kernel_rfl) (fun _ _ _ h => h) (Or.inl ⟨by rfl, ?_⟩) (by assumption) ?_
            rotate_left 1
            · intro w hSw; (try dsimp only at hSw); go_simp; try with_reducible rfl
            try simp only [Act.put, List.getElem_toArray, List.getElem_cons_succ, List.getElem_cons_zero, List.setIfInBounds_toArray, List.set_cons_zero, List.set_cons_succ]
            refine wpAnyH_take (i := 22) (v := ?_) rfl (by kernel_rfl) (by kernel_rfl) (by kernel_rfl) (fun _ _ _ h => h) (Or.inl ⟨by rfl, ?_⟩) (by assumption) ?_
            rotate_left 1
            · intro w hSw; (try dsimp only at hSw); go_simp; try with_reducible rfl
            try simp only [Act.put, List.getElem_toArray, List.getElem_cons_succ, List.getElem_cons_zero, List.setIfInBounds_toArray, List.set_cons_zero, List.set_cons_succ]
            refine wpAnyH_take (i := 23) (v := ?_) rfl (by kernel_rfl) (by kernel_rfl) (by kernel_rfl) (fun _ _ _ h => h) (Or.inl ⟨by rfl, ?_⟩) (by assumption) ?_
            rotate_left 1
            · intro w hSw; (try dsimp only at hSw); go_simp; try with_reducible rfl
            try simp only [Act.put, List.getElem_toArray, List.getElem_cons_succ, List.getElem_cons_zero, List.setIfInBounds_toArray, List.set_cons_zero, List.set_cons_succ]
            refine wpAnyH_take (i := 24) (v := ?_) rfl (by kernel_rfl) (by kernel_rfl) (by kernel_rfl) (fun _ _ _ h => h) (Or.inl ⟨by rfl, ?_⟩) (by assumption) ?_
            rotate_left 1
            · intro w hSw; (try dsimp only at hSw); go_simp; try with_reducible rfl
            try simp only [Act.put, List.getElem_toArray, List.getElem_cons_succ, List.getElem_cons_zero, List.setIfInBounds_toArray, List.set_cons_zero, List.set_cons_succ]
            refine wpAnyH_take (i := 26) (v := ?_) rfl (by kernel_rfl) (by kernel_rfl) (by kernel_rfl) (fun _ _ _ h => h) (Or.inl ⟨by rfl, ?_⟩) (by assumption) ?_
            rotate_left 1
            · intro w hSw; (try dsimp only at hSw); go_simp; try with_reducible rfl
            try simp only [Act.put, List.getElem_toArray, List.getElem_cons_succ, List.getElem_cons_zero, List.setIfInBounds_toArray, List.set_cons_zero, List.set_cons_succ]
            refine wpAnyH_ready (rs := [25]) (by kernel_rfl) (by simp) (AllReadyH.cons rfl (fun K hK => ?_) AllReadyH.nil)
            go_simp
            go_at_call 13
            refine (cRt _ hTd).mono ?_
            rintro e w8 ⟨rfl, b8⟩
            have K8 := Kd.call b8
            have hT8 := hTd.call b8
            have hr8 := hrd.call b8
            try simp only []
            refine hK.out _ _ (hSx _ K8 hr8) (fun hHeld => ?_)
            clear hK K
            try simp only [Act.put, List.getElem_toArray, List.getElem_cons_succ, List.getElem_cons_zero, List.setIfInBounds_toArray, List.set_cons_zero, List.set_cons_succ]
            refine wpAnyH_ready (rs := [27]) (by kernel_rfl) (by simp) (AllReadyH.cons rfl (fun K hK => ?_) AllReadyH.nil)
            go_simp
            go_at_call 14
            refine (cRr _ g' gl' d' hr8).mono ?_
            rintro e w9 ⟨rfl, b9⟩
            have K9 := K8.call b9
            have hT9 := hT8.call b9
            have hr9 := hr8.call b9
            try simp only []
            refine hK.out _ _ (hSx _ K9 hr9) (fun hHeld => ?_)
            clear hK K
            try simp only [Act.put, List.getElem_toArray, List.getElem_cons_succ, List.getElem_cons_zero, List.setIfInBounds_toArray, List.set_cons_zero, List.set_cons_succ]
            refine wpAnyH_take (i := 28) (v := ?_) rfl (by kernel_rfl) (by kernel_rfl) (by kernel_rfl) (fun _ _ _ h => h) (Or.inl ⟨by rfl, ?_⟩) (by assumption) ?_
            rotate_left 1
            · intro w hSw; (try dsimp only at hSw); go_simp; try with_reducible rfl
            try simp only [Act.put, List.getElem_toArray, List.getElem_cons_succ, List.getElem_cons_zero, List.setIfInBounds_toArray, List.set_cons_zero, List.set_cons_succ]
            refine wpAnyH_take (i := 29) (v := ?_) rfl (by kernel_rfl) (by kernel_rfl) (by kernel_rfl) (fun _ _ _ h => h) (Or.inl ⟨by rfl, ?_⟩) (by assumption) ?_
            rotate_left 1
            · intro w hSw; (try dsimp only at hSw); go_simp; try with_reducible rfl
            try simp only [Act.put, List.getElem_toArray, List.getElem_cons_succ, List.getElem_cons_zero, List.setIfInBounds_toArray, List.set_cons_zero, List.set_cons_succ]
            refine wpAnyH_take (i := 30) (v := ?_) rfl (by kernel_rfl) (by kernel_rfl) (by kernel_rfl) (fun _ _ _ h => h) (Or.inl ⟨by rfl, ?_⟩) (by assumption) ?_
            rotate_left 1
            · intro w hSw; (try dsimp only at hSw); go_simp; try with_reducible rfl
            try simp only [Act.put, List.getElem_toArray, List.getElem_cons_succ, List.getElem_cons_zero, List.setIfInBounds_toArray, List.set_cons_zero, List.set_cons_succ]
            refine wpAnyH_take (i := 31) (v := ?_) rfl (by kernel_rfl) (by kernel_rfl) (by kernel_rfl) (fun _ _ _ h => h) (Or.inl ⟨by rfl, ?_⟩) (by assumption) ?_
            rotate_left 1
            · intro w hSw; (try dsimp only at hSw); go_simp; try with_reducible rfl
            try simp only [Act.put, List.getElem_toArray, List.getElem_cons_succ, List.getElem_cons_zero, List.setIfInBounds_toArray, List.set_cons_zero, List.set_cons_succ]
            refine wpAnyH_take (i := 33) (v := ?_) rfl (by kernel_rfl) (by kernel_rfl) (by kernel_rfl) (fun _ _ _ h => h) (Or.inl ⟨by rfl, ?_⟩) (by assumption) ?_
            rotate_left 1
            · intro w hSw; (try dsimp only at hSw); go_simp; try with_reducible rfl
            try simp only [Act.put, List.getElem_toArray, List.getElem_cons_succ, List.getElem_cons_zero, List.setIfInBounds_toArray, List.set_cons_zero, List.set_cons_succ]
            refine wpAnyH_take (i := 34) (v := ?_) rfl (by kernel_rfl) (by kernel_rfl) (by kernel_rfl) (fun _ _ _ h => h) (Or.inl ⟨by rfl, ?_⟩) (by assumption) ?_
            rotate_left 1
            · intro w hSw; (try dsimp only at hSw); go_simp; try with_reducible rfl
            try simp only [Act.put, List.getElem_toArray, List.getElem_cons_succ, List.getElem_cons_zero, List.setIfInBounds_toArray, List.set_cons_zero, List.set_cons_succ]
            refine wpAnyH_take (i := 35) (v := ?_) rfl (by kernel_rfl) (by kernel_rfl) (by kernel_rfl) (fun _ _ _ h => h) (Or.inl ⟨by rfl, ?_⟩) (by assumption) ?_
            rotate_left 1
            · intro w hSw; (try dsimp only at hSw); go_simp; try with_reducible rfl
            try simp only [Act.put, List.getElem_toArray, List.getElem_cons_succ, List.getElem_cons_zero, List.setIfInBounds_toArray, List.set_cons_zero, List.set_cons_succ]
            refine wpAnyH_take (i := 36) (v := ?_) rfl (by kernel_rfl) (by kernel_rfl) (by kernel_rfl) (fun _ _ _ h => h) (Or.inl ⟨by rfl, ?_⟩) (by assumption) ?_
            rotate_left 1
            · intro w hSw; (try dsimp only at hSw); go_simp; try with_reducible rfl
            try simp only [Act.put, List.getElem_toArray, List.getElem_cons_succ, List.getElem_cons_zero, List.setIfInBounds_toArray, List.set_cons_zero, List.set_cons_succ]
            refine wpAnyH_ready (rs := [32]) (by kernel_rfl) (by simp) (AllReadyH.cons rfl (fun K hK => ?_) AllReadyH.nil)
            go_simp
            go_at_call 9
            refine (cLv _ hT9).mono ?_
            rintro e w10 ⟨b10, g30, rfl, hg30, B30⟩
            have K10 := K9.call b10
            have hT10 := hT9.call b10
            have hr10 := hr9.call b10
            try simp only []
            refine hK.out _ _ (hSx _ K10 hr10) (fun hHeld => ?_)
            clear hK K
            try simp only [Act.put, List.getElem_toArray, List.getElem_cons_succ, List.getElem_cons_zero, List.setIfInBounds_toArray, List.set_cons_zero, List.set_cons_succ]
            refine wpAnyH_ready (rs := [37]) (by kernel_rfl) (by simp) (AllReadyH.cons rfl (fun K hK => ?_) AllReadyH.nil)
            go_simp
            go_at_call 8
            refine (c3 _ _ _ _ _ B30.row hr10.2.row).mono ?_
            rintro e w11 ⟨rfl, b11⟩
            have K11 := K10.call b11
            have hT11 := hT10.call b11
            have hr11 := hr10.call b11
            try simp only []
            refine hK.out _ _ (hSx _ K11 hr11) (fun hHeld => ?_)
            clear hK K
            try simp only [Act.put, List.getElem_toArray, List.getElem_cons_succ, List.getElem_cons_zero, List.setIfInBounds_toArray, List.set_cons_zero, List.set_cons_succ]
            refine wpAnyH_take (i := 38) (v := ?_) rfl (by kernel_rfl) (by kernel_rfl) (by kernel_rfl) (fun _ _ _ h => h) (Or.inl ⟨by rfl, ?_⟩) (by assumption) ?_
            rotate_left 1
            · intro w hSw; (try dsimp only at hSw); go_simp; try with_reducible rfl
            try simp only [Act.put, List.getElem_toArray, List.getElem_cons_succ, List.getElem_cons_zero, List.setIfInBounds_toArray, List.set_cons_zero, List.set_cons_succ]
            refine wpAnyH_take (i := 39) (v := ?_) rfl (by kernel_rfl) (by kernel_rfl) (by kernel_rfl) (fun _ _ _ h => h) (Or.inl ⟨by rfl, ?_⟩) (by assumption) ?_
            rotate_left 1
            · intro w hSw; (try dsimp only at hSw); go_simp; try with_reducible rfl
            try simp only [Act.put, List.getElem_toArray, List.getElem_cons_succ, List.getElem_cons_zero, List.setIfInBounds_toArray, List.set_cons_zero, List.set_cons_succ]
            refine wpAnyH_done (by kernel_rfl) ?_ _
            have hs11 : hi2 ≤ w11.heap.size := by have := b8.size; have := b9.size; have := b10.size; have := b11.size; omega
            go_wp2
            go_roundg (MA - (m + 1))
            case measure => have := HG.out; omega
            case rel => exact ⟨m + 1, q2, l2, g', gl', d', lo2, hi2, by omega, Nat.le_refl _, by go_num, rfl, rfl, hF2, hT11, hr11, hq2, hlo2, hs11, hg2', hgl2', K11.below⟩
    · have e : m = MA := by omega
      subst e
      have hmi2 : ¬ (m : Int) < (m : Int) := by omega
      go_wp2
      go_ret
      exact ⟨rfl, hB⟩
end Go.Proofs.YtbhgcmdodjgpmaaGreatDoor
/-
  The law TreeSets, for all inputs, and its card. Conditions: none.
-/
namespace Go.Proofs.YtbhgcmdodjgpmaaGreatDoor
set_option linter.unusedVariables false
set_option linter.unusedSimpArgs false
set_option maxRecDepth 10000
open Go.ChangeShapes Go.WideShapes Go.ChangeAt Go.RowKit

theorem treeSets_any (n : Int) (A : Option Addr) (c : Nat) (l : List Lf) (B : Option Addr) (cb : Nat) (acts : List ActP) (hm : acts.length ≤ 9223372036854775807) (hc : l.length ≤ c) (hcm : c ≤ 9223372036854775807) (hs : ∀ x ∈ l, x.fine15) (hfa : ∀ x ∈ acts, x.fine)
    (w : World) (hR : lfS.Row w w.heap.size A l) (hQ : actS.Row w w.heap.size B acts) (hK : Tab w) (hU : TabU w) :
    Calls Tryz.prog 4 #[.int .i64 n, .slice A l.length c, .slice B acts.length cb] w (Tells (.bool true) w.heap.size w) := by
  cases hg : greatLf l with
  | true => exact treeSets_no n A c l B cb _ hm hc hcm hs (Or.inl (Or.inl hg)) w hR hK hU
  | false =>
    by_cases h20 : 20 < acts.length
    · exact treeSets_no n A c l B cb _ hm hc hcm hs (Or.inl (Or.inr h20)) w hR hK hU
    · by_cases hE : newE n l = 0
      · exact treeSets_fair n A c l B cb acts (by omega) hc hcm hg _ (newE_fair hE (fun x hx => (hs x hx).2)) hfa w hR hQ hK hU
      · exact treeSets_no n A c l B cb _ hm hc hcm hs (Or.inr hE) w hR hK hU
theorem treeSets_core (H : Type) (enc : TypeId × Value → H) (W : World) (base : Nat) (args : Array Value) (ds gs : List (DataW H)) (before : List MemPlace)
    (hval : ∀ (j : Nat) t v, Tryz.f4.params[j]? = some t → args[j]? = some v → Value.okWide Tryz.prog W .any base t v)
    (hW : DataW.Whole enc Tryz.prog Tryz.f4.params.toList Rows.treeSetsSpec.vars false W args.toList ds gs before) (hT : Tab W ∧ TabU W) :
    gs = [] ∧ ds.length = 3 ∧ Calls Tryz.prog 4 args W (Tells (.bool true) W.heap.size W) := by
  obtain ⟨p, q, hA, hV, -, -, -⟩ := hW
  obtain ⟨rfl, rfl⟩ := trodVars_none hV
  have hA : DataW.TrodAll enc Tryz.prog W 0 (fun _ => true) true Tryz.f4.params.toList args.toList ds p := hA
  rw [Tryz.params4] at hA hval
  obtain ⟨v0, vs0, d0, ds0, p0, ps0, e0, rfl, -, h0, hA⟩ := trodAll_cons hA
  obtain ⟨v1, vs1, d1, ds1, p1, ps1, rfl, rfl, -, h1, hA⟩ := trodAll_cons hA
  obtain ⟨v2, vs2, d2, ds2, p2, ps2, rfl, rfl, -, h2, hA⟩ := trodAll_cons hA
  obtain ⟨rfl, rfl, rfl⟩ := trodAll_nil hA
  obtain rfl : args = #[v0, v1, v2] := Array.ext' e0
  obtain ⟨n, rfl, -, -, -⟩ := open_int Tryz.underlying3 (hval 0 3 v0 rfl rfl) h0
  obtain ⟨A, c, l, rfl, hc, hcm, hx, hR⟩ := open_lfs15 (hval 1 22 v1 rfl rfl) h1
  obtain ⟨B, cb, acts, rfl, hm, ha, hQ⟩ := open_acts (hval 2 50 v2 rfl rfl) h2
  exact ⟨rfl, rfl, treeSets_any n A c l B cb acts hm hc hcm hx ha W hR hQ hT.1 hT.2⟩

set_option maxRecDepth 100000 in
theorem treeSets_lifted (os : Os) (started : os.Started) (H : Type) (enc : TypeId × Value → H) :
    ReturnsInHanded {} Tryz.checked os 4 .any (fun w args => (Rows.treeSetsSpec.pre enc Tryz.prog Tryz.f4 [] false w args ∧ laidMetH Tryz.prog laidA w) ∧ sizedMet enc Tryz.prog Tryz.f4 (OpenSpec.ofChange Rows.treeSetsSpec) false w args)
      (Rows.treeSetsSpec.post enc Tryz.prog Tryz.f4 false true false false) := by
  refine returnsInHanded_of_change_and (C := Tryz.checked) (X := fun w _ => laidMetH Tryz.prog laidA w) (fun _ _ _ hh h => h.of_heap hh) own_knob started (by kernel_rfl) Tryz.func4
    (ChangeSpec.witness_shaped (enc := enc) (C := Tryz.checked) (os := os) (X := fun w _ => laidMetH Tryz.prog laidA w) false (World.laidAll Tryz.prog os laidA) #[.int .i64 0, .slice none 0 0, .slice none 0 0] 8 (World.laidAll_os _ _ _) (World.shaped_of_ZipB (by kernel_rfl) (by kernel_rfl)) (by kernel_rfl) (by kernel_rfl) (by kernel_rfl) (met_A os _)) ?_
  intro W base args ds gs before hval0 hW _ hwt hL _
  have hval : ∀ (j : Nat) t v, Tryz.f4.params[j]? = some t → args[j]? = some v → Value.okWide Tryz.prog W .any base t v := hval0
  obtain ⟨hg, hlen, hc⟩ := treeSets_core H enc W base args ds gs before hval hW (tab_of_laidA hL)
  subst hg
  have hr : (Tryz.f4.params.toList.all fun t => Tryz.prog.readableRec t && decide (t < Tryz.prog.types.size)) = true := by kernel_rfl
  have hread : ∀ t ∈ Tryz.f4.params.toList, Tryz.prog.readableRec t = true ∧ t < Tryz.prog.types.size := fun t ht => by
    have h := List.all_eq_true.1 hr t ht
    rw [Bool.and_eq_true, decide_eq_true_eq] at h
    exact h
  refine hc.mono fun e W' ⟨he, hb⟩ => ?_
  subst he
  match ds, hlen with
  | [d0, d1, d2], _ => exact ⟨_, rfl, law_post laid_out Tryz.underlying4 rfl hread rfl hW rfl rfl rfl hb⟩

theorem treeSets_holds : Rows.TreeSetsSaid :=
  OpenClaim.holds_of_wide 4 Tryz.f4 rfl rfl rfl rfl rfl rfl rfl ⟨rfl, rfl, rfl, rfl, rfl⟩ rfl rfl rfl rfl rfl (by kernel_rfl) Tryz.func4 (by kernel_rfl)
    (of_decide_eq_true (by kernel_rfl)) (by unfold Func.isWrapper; first | (rw [if_pos (by decide +kernel)]; kernel_rfl) | (rw [if_neg (by decide +kernel)]; exact ⟨rfl, rfl⟩))
    (fun os started H enc _ => treeSets_lifted os started H enc)

theorem treeSets_card : Rows.TreeSetsCardSaid :=
  Claim7.holds_tied_plain_at .later [] [.data, .data, .pinned] true _ false
    treeSets_holds (fun _ h => by cases h) (by kernel_rfl) (fun _ h => by cases h) treeSets_row_tie rfl ⟨rfl, rfl⟩ (by kernel_rfl) rfl
    (fun f fn hf hfn => by
      obtain rfl : f = 4 := Option.some.inj ((show Tryz.prog.funcNamed "paymaster/paymasterlaw15.TreeSets" = some 4 by kernel_rfl).symm.trans hf) |>.symm
      obtain rfl : fn = Tryz.f4 := (Option.some.inj (Tryz.func4.symm.trans hfn)).symm
      exact ⟨by kernel_rfl, fun j t ht => by
        have hm : t ∈ Tryz.f4.params.toList := by simpa using Array.mem_of_getElem? ht
        have hall : (Tryz.f4.params.toList.all fun u => !Tryz.prog.wantsStandIn u) = true := by kernel_rfl
        exact (show Tryz.prog.wantsStandIn t = false by simpa using List.all_eq_true.1 hall t hm)⟩)
    (by kernel_rfl)

end Go.Proofs.YtbhgcmdodjgpmaaGreatDoor
