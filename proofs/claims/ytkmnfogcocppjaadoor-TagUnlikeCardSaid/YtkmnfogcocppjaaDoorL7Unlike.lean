/-
  The law TagUnlike: unlike leaves that may be have unlike texts; no leaf's text is a node's; nodes with digests of one width below them have unlike texts, unless they have the same below them.
  Conditions: block's table of constants and utf8's two tables hold what their texts lay (tied by the card; one is the form's constant).
-/
import Derived.Test.YtkmnfogcocppjaaDoorU7Awake
import Derived.Test.YtkmnfogcocppjaaDoorW7Laid
import Derived.Deep.LoopGhost
namespace Go.Proofs.YtkmnfogcocppjaaDoor
set_option linter.unusedVariables false
set_option linter.unusedSimpArgs false
set_option maxRecDepth 10000
open Go.ChangeShapes Go.WideShapes Go.ChangeAt Go.RowKit

/-- Four nodes' cells, by their digests. -/
def ndC (F : Nat → ByteArray) (G : Nat → Int × Int) : Array Value :=
  #[.string (F 0), .int .u64 (G 0).1, .int .u64 (G 0).2, .string (F 1), .int .u64 (G 1).1, .int .u64 (G 1).2, .string (F 2), .int .u64 (G 2).1, .int .u64 (G 2).2, .string (F 3), .int .u64 (G 3).1, .int .u64 (G 3).2]
def upd (F : Nat → ByteArray) (k : Nat) (z : ByteArray) : Nat → ByteArray := fun j => if j = k then z else F j
theorem ndC_set (F : Nat → ByteArray) (G : Nat → Int × Int) (k : Nat) (hk : k < 4) (z : ByteArray) : (ndC F G).setIfInBounds (k * 3) (.string z) = ndC (upd F k z) G := by
  rcases (show k = 0 ∨ k = 1 ∨ k = 2 ∨ k = 3 by omega) with rfl | rfl | rfl | rfl <;> rfl
theorem ndC_get (F : Nat → ByteArray) (G : Nat → Int × Int) (k : Nat) (hk : k < 4) : (ndC F G)[k * 3]? = some (.string (F k)) := by
  rcases (show k = 0 ∨ k = 1 ∨ k = 2 ∨ k = 3 by omega) with rfl | rfl | rfl | rfl <;> rfl
/-- A text with so many x behind it. -/
def padX (s : ByteArray) (t : Nat) : ByteArray := ⟨(s.data.toList ++ List.replicate t 120).toArray⟩
theorem padX_size (s : ByteArray) (t : Nat) : (padX s t).size = s.size + t := by
  rw [← ba_size]
  show (s.data.toList ++ List.replicate t 120).length = _
  rw [List.length_append, List.length_replicate, ba_size]
theorem padX_zero (s : ByteArray) : padX s 0 = s := ba_ext (by simp [padX])
theorem padX_step (s : ByteArray) (t : Nat) : padX s t ++ ⟨#[120]⟩ = padX s (t + 1) := by
  apply ba_ext
  rw [ByteArray.data_append, Array.toList_append]
  show s.data.toList ++ List.replicate t 120 ++ [120] = s.data.toList ++ List.replicate (t + 1) 120
  rw [List.append_assoc, List.replicate_succ']
/-- A digest, filled up, or cut, to a width. -/
def fitX (W : Nat) (s : ByteArray) : ByteArray := (padX s (W - s.size)).extract 0 W
theorem fitX_size (W : Nat) (s : ByteArray) : (fitX W s).size = W := by rw [fitX, ByteArray.size_extract, padX_size]; omega
def fitF (W : Nat) (F : Nat → ByteArray) (k : Nat) : Nat → ByteArray := fun j => if j < k then fitX W (F j) else F j
theorem upd_same (F : Nat → ByteArray) (k : Nat) : upd F k (F k) = F := by
  funext j
  unfold upd
  split
  · subst_vars; rfl
  · rfl
theorem upd_upd (F : Nat → ByteArray) (k : Nat) (y z : ByteArray) : upd (upd F k y) k z = upd F k z := by
  funext j
  unfold upd
  split <;> simp_all
theorem upd_at (F : Nat → ByteArray) (k : Nat) (z : ByteArray) : upd F k z k = z := if_pos rfl
theorem fitF_zero (W : Nat) (F : Nat → ByteArray) : fitF W F 0 = F := by
  funext j
  exact if_neg (by omega)
theorem fitF_at (W : Nat) (F : Nat → ByteArray) (k : Nat) : fitF W F k k = F k := if_neg (by omega)
theorem fitF_step (W : Nat) (F : Nat → ByteArray) (k : Nat) : upd (fitF W F k) k (fitX W (F k)) = fitF W F (k + 1) := by
  funext j
  unfold upd fitF
  by_cases h : j = k
  · subst h; rw [if_pos rfl, if_pos (by omega)]
  · rw [if_neg h]
    by_cases h2 : j < k
    · rw [if_pos h2, if_pos (by omega)]
    · rw [if_neg h2, if_neg (by omega)]

theorem textOf_inj {h l h' l' : Int} (a : Word h) (b : Word l) (c : Word h') (d : Word l') (e : textOf h l = textOf h' l') : h = h' ∧ l = l' := by
  have e1 := textOf_fromH (l := l) a
  have e2 := textOf_fromL (h := h) b
  rw [e] at e1 e2
  exact ⟨e1.symm.trans (textOf_fromH c), e2.symm.trans (textOf_fromL d)⟩
theorem ndText_list (a b : Nd) : (ndText a b).data.toList = 1 :: (a.hash.data.toList ++ ((textOf a.h a.l).data.toList ++ (b.hash.data.toList ++ (textOf b.h b.l).data.toList))) := by
  unfold ndText
  simp only [ByteArray.data_append, Array.toList_append, List.append_assoc]
  rfl
/-- Nodes with digests of one width below them have unlike texts, unless they have the same below them. -/
theorem ndText_inj (a b c d : Nd) (V : Nat) (ha : a.hash.size = V) (hb : b.hash.size = V) (hc : c.hash.size = V) (hd : d.hash.size = V) (a1 : Word a.h ∧ Word a.l) (b1 : Word b.h ∧ Word b.l) (c1 : Word c.h ∧ Word c.l) (d1 : Word d.h ∧ Word d.l)
    (e : ndText a b = ndText c d) : a = c ∧ b = d := by
  have e1 := congrArg (fun x => x.data.toList) e
  simp only [ndText_list] at e1
  have e2 := (List.cons.inj e1).2
  obtain ⟨p1, e3⟩ := List.append_inj e2 (by rw [ba_size, ba_size, ha, hc])
  obtain ⟨p2, e4⟩ := List.append_inj e3 (by rw [ba_size, ba_size, textOf_size, textOf_size])
  obtain ⟨p3, p4⟩ := List.append_inj e4 (by rw [ba_size, ba_size, hb, hd])
  obtain ⟨q1, q2⟩ := textOf_inj a1.1 a1.2 c1.1 c1.2 (ba_ext p2)
  obtain ⟨q3, q4⟩ := textOf_inj b1.1 b1.2 d1.1 d1.2 (ba_ext p4)
  obtain ⟨s, h, l⟩ := a
  obtain ⟨s', h', l'⟩ := b
  obtain ⟨s2, h2, l2⟩ := c
  obtain ⟨s3, h3, l3⟩ := d
  simp only at p1 p3 q1 q2 q3 q4
  rw [ba_ext p1, ba_ext p3, q1, q2, q3, q4]
  exact ⟨rfl, rfl⟩
/-- No leaf's text is a node's. -/
theorem text_ne_node (x : Lf) (a b : Nd) : x.text ≠ ndText a b := by
  intro e
  have e1 := congrArg (fun x => x.data.toList) e
  simp only [ndText_list, Lf.text_list] at e1
  unfold Lf.list at e1
  split at e1
  · split at e1
    · exact absurd (List.cons.inj e1).1 (by decide)
    · exact absurd (List.cons.inj e1).1 (by decide)
  · cases e1

set_option maxRecDepth 100000 in
set_option maxHeartbeats 8000000 in
theorem unlike_walk (a b : Lf) (F : Nat → ByteArray) (G : Nat → Int × Int) (n : Int) (U V : Nat) (hU : n % 18446744073709551616 = (U : Int)) (hV : 1 + U % 32 = V) (ha1 : a.id.size ≤ 9223372036854775807) (ha2 : a.salt.size ≤ 9223372036854775807)
    (hb1 : b.id.size ≤ 9223372036854775807) (hb2 : b.salt.size ≤ 9223372036854775807) (hF : ∀ j, (F j).size ≤ 9223372036854775807) (hG : ∀ j, Word (G j).1 ∧ Word (G j).2) (aw : Word a.h ∧ Word a.l) (bw : Word b.h ∧ Word b.l) (w : World) (hK : Tab w) (hT : TabU w) :
    Calls Tryd.prog 6 #[a.val, b.val, .agg (ndC F G), .int .i64 n] w (Tells (.bool true) w.heap.size w) := by
  have cA := fun u hu hv => awake7_any u hu hv
  have l1 := fun u => long_any a ha1 ha2 u
  have l2 := fun u => long_any b hb1 hb2 u
  obtain ⟨p, i, s, h, l⟩ := a
  obtain ⟨p', i', s', h', l'⟩ := b
  simp only at aw bw ha1 ha2 hb1 hb2 l1 l2
  have ev : Lf.val ⟨p, i, s, h, l⟩ = .agg (lfB p i s h l) := rfl
  have ev' : Lf.val ⟨p', i', s', h', l'⟩ = .agg (lfB p' i' s' h' l') := rfl
  rw [ev] at l1
  rw [ev'] at l2
  rw [ev, ev']
  have H0 : Has w [(w.heap.size + 1 + 1, 45, ndC F G), (w.heap.size + 1, 26, lfB p' i' s' h' l'), (w.heap.size, 26, lfB p i s h l)]
      (((w.alloc (.cells (lfB p i s h l) 26)).alloc (.cells (lfB p' i' s' h' l') 26)).alloc (.cells (ndC F G) 45)) :=
    (((Has.start w).add 26 (lfB p i s h l)).addAt 26 (lfB p' i' s' h' l') (by simp)).addAt 45 (ndC F G) (by simp)
  have hUw : IntKind.u64.wrap n = (U : Int) := by rw [IntKind.wrap_u64]; exact hU
  have hUH : (U : Int).tmod 32 = ((U % 32 : Nat) : Int) := by rw [Int.tmod_eq_emod_of_nonneg (by omega)]; omega
  obtain ⟨Y, hY⟩ : ∃ Y, U % 32 = Y := ⟨_, rfl⟩
  rw [hY] at hV hUH
  have hVi : (1 : Int) + (Y : Int) = (V : Int) := by omega
  have hV1 : V ≤ 32 ∧ 1 ≤ V := by omega
  clear hU hY hV ev ev'
  go_enter Tryd.func6, Tryd.ntmps6
  go_upto_region 1 with fail
  change Code.wp _ _ _ _ (((w.alloc (.cells (lfB p i s h l) 26)).alloc (.cells (lfB p' i' s' h' l') 26)).alloc (.cells (ndC F G) 45))
  generalize ((w.alloc (.cells (lfB p i s h l) 26)).alloc (.cells (lfB p' i' s' h' l') 26)).alloc (.cells (ndC F G) 45) = W at *
  go_upto_region 4 with (first
    | (go_at_call 35; refine (cA _ (hK.call H0.below) (hT.call H0.below)).mono ?_; rintro e w1 ⟨rfl, j1⟩)
    | fail)
  have H1 := H0.call j1
  clear H0 hUw hUH hVi cA j1
  obtain ⟨⟨y0, y1, y2, y3, y4⟩, -, hin1⟩ := (H1.box 2).five0
  generalize hA : (decide (300 < i.size) || decide (300 < s.size)) = A at *
  generalize hB : (decide (300 < i'.size) || decide (300 < s'.size)) = B at *
  cases A with
  | true =>
    go_wp2_with (first | (go_at_call 10; refine (l1 _).mono ?_; rintro e w2 ⟨rfl, j2⟩))
    go_ret
    exact ⟨rfl, chain H1.below j2⟩
  | false =>
    have fact : ∀ u, Below w1.heap.size w1 u → (u.cell? ⟨w.heap.size + 1, 0, none⟩ = some (.bool p') ∧ u.cell? ⟨w.heap.size + 1, 1, none⟩ = some (.string i') ∧ u.cell? ⟨w.heap.size + 1, 2, none⟩ = some (.string s') ∧ u.cell? ⟨w.heap.size + 1, 3, none⟩ = some (.int .u64 h') ∧ u.cell? ⟨w.heap.size + 1, 4, none⟩ = some (.int .u64 l')) ∧ w.heap.size + 1 < u.heap.size :=
      fun u hb => ⟨((H1.call hb).box 1).five0.1, ((H1.call hb).box 1).inside⟩
    cases B with
    | true =>
      go_wp2_with (first
        | (go_at_call 10; (with_reducible refine (l1 _).mono ?_); rintro e w2 ⟨rfl, j2⟩; obtain ⟨⟨k0, k1, k2, k3, k4⟩, kin⟩ := fact _ j2)
        | (go_at_call 10; (with_reducible refine (l2 _).mono ?_); rintro e w3 ⟨rfl, j3⟩))
      go_ret
      exact ⟨rfl, chain (chain H1.below j2) j3⟩
    | false =>
      go_upto_region 6 with (first
        | (go_at_call 10; (with_reducible refine (l1 _).mono ?_); rintro e w2 ⟨rfl, j2⟩; obtain ⟨⟨k0, k1, k2, k3, k4⟩, kin⟩ := fact _ j2)
        | (go_at_call 10; (with_reducible refine (l2 _).mono ?_); rintro e w3 ⟨rfl, j3⟩)
        | fail)
      have H3 := (H1.call j2).call j3
      clear y0 y1 y2 y3 y4 hin1 k0 k1 k2 k3 k4 kin fact H1 j2 j3 l1 l2
      go_wp2
      have f0 := fitF_zero V F
      have F0 := hideIt f0
      clear f0
      go_loopg [10] 4 (fun gk v wr => ∃ k : Nat, k ≤ 4 ∧ gk = 4 - k ∧ v = .int .i64 k ∧ Has w [(w.heap.size + 1 + 1, 45, ndC (fitF V F k) G), (w.heap.size + 1, 26, lfB p' i' s' h' l'), (w.heap.size, 26, lfB p i s h l)] wr ∧ ∀ j, j < k → (F j).size ≤ 100)
      case atStart => exact ⟨0, by omega, rfl, rfl, by rw [F0.out]; exact H3, fun j hj => absurd hj (by omega)⟩
      case round =>
        obtain ⟨k, hk, hg, rfl, HX, hsz⟩ := hrel
        have HG := hideIt hg
        clear hg H3
        by_cases hlt : k < 4
        · have hlti : (k : Int) < 4 := by omega
          go_upto_region 9 with fail
          have c1 := ndC_get (fitF V F k) G k hlt
          rw [fitF_at] at c1
          have c2 := (HX.box 0).read (k * 3)
          rw [c1] at c2
          have hin := (HX.box 0).inside
          have hFk := hF k
          obtain ⟨f, hf⟩ : ∃ f, F k = f := ⟨_, rfl⟩
          have HF := hideIt hf
          rw [hf] at c1 c2 hFk
          clear hf c1
          by_cases h100 : (100 : Int) < (f.size : Int)
          · go_wp2
            go_ret
            exact ⟨rfl, HX.below⟩
          · go_wp2
            have HX0 : Has w [(w.heap.size + 1 + 1, 45, ndC (upd (fitF V F k) k (padX f 0)) G), (w.heap.size + 1, 26, lfB p' i' s' h' l'), (w.heap.size, 26, lfB p i s h l)] wr := by
              have e := upd_same (fitF V F k) k
              rw [fitF_at, HF.out] at e
              rw [padX_zero, e]
              exact HX
            have HB := hideIt (show f.size ≤ 100 by omega)
            clear c2 hin HX
            generalize hE : fitF V F k = E at *
            have HE := hideIt hE
            clear hE
            go_loopg [] V (fun gk2 wr2 => ∃ t : Nat, t ≤ V - f.size ∧ gk2 = V - t ∧ Has w [(w.heap.size + 1 + 1, 45, ndC (upd E k (padX f t)) G), (w.heap.size + 1, 26, lfB p' i' s' h' l'), (w.heap.size, 26, lfB p i s h l)] wr2)
            case atStart => exact ⟨0, by omega, by omega, HX0⟩
            case round =>
              obtain ⟨t, htl, hg2, HI⟩ := hrel
              have HG2 := hideIt hg2
              clear hg2 HX0
              have c := ndC_get (upd E k (padX f t)) G k hlt
              rw [upd_at] at c
              have c2 := (HI.box 0).read (k * 3)
              rw [c] at c2
              have hin := (HI.box 0).inside
              have hfr := (HI.box 0).free (k * 3)
              have zP := padX_size f t
              clear c
              by_cases hlt2 : f.size + t < V
              · have hcx := add_any (padX f t) ⟨#[120]⟩ (padX f (t + 1)) (padX_step f t) (by omega) (by decide)
                have HW := HI.wrote (by omega) (by simp; omega) (k * 3) (.string (padX f (t + 1)))
                rw [ndC_set _ _ _ hlt, upd_upd] at HW
                have HHW := hideIt HW
                have q1 : ((padX f t).size : Int) < (V : Int) := by omega
                clear HW HI zP
                obtain ⟨P1, hP1⟩ : ∃ P1, padX f (t + 1) = P1 := ⟨_, rfl⟩
                rw [hP1] at hcx HHW
                have HP1 := hideIt hP1
                clear hP1
                generalize padX f t = P0 at *
                go_wp2
                go_roundg (V - (t + 1))
                case measure => have := HG2.out; omega
                case rel => exact ⟨t + 1, by omega, rfl, by rw [HP1.out]; exact HHW.out⟩
              · have htt : t = V - f.size := by omega
                have q1 : ¬ ((padX f t).size : Int) < (V : Int) := by omega
                have q2 : (V : Int) ≤ ((padX f t).size : Int) := by omega
                have hfit : (padX f t).extract 0 V = fitX V f := by rw [htt]; rfl
                have HW := HI.wrote (by omega) (by simp; omega) (k * 3) (.string (fitX V f))
                rw [ndC_set _ _ _ hlt, upd_upd, ← HE.out, show upd (fitF V F k) k (fitX V f) = fitF V F (k + 1) by rw [← HF.out]; exact fitF_step V F k] at HW
                have HHW := hideIt HW
                clear HW HI zP htt htl
                obtain ⟨Q, hQ⟩ : ∃ Q, fitX V f = Q := ⟨_, rfl⟩
                rw [hQ] at hfit HHW
                clear hQ
                generalize padX f t = P0 at *
                have hV0 : (0 : Int) ≤ (V : Int) := by omega
                clear HG2
                go_wp2
                go_roundg (4 - (k + 1))
                case measure => have := HG.out; omega
                case rel => exact ⟨k + 1, by omega, rfl, by go_num, HHW.out, fun j hj => by
                  by_cases hjk : j < k
                  · exact hsz j hjk
                  · obtain rfl : j = k := by omega
                    rw [HF.out]; exact HB.out⟩
        · have hlti : ¬ (k : Int) < 4 := by omega
          have hk4 : k = 4 := by omega
          subst hk4
          have hV0 : (1 : Int) ≤ (V : Int) ∧ (V : Int) ≤ 32 := by omega
          have zi : i.size ≤ 300 ∧ s.size ≤ 300 := by
            rw [Bool.or_eq_false_iff, decide_eq_false_iff_not, decide_eq_false_iff_not] at hA
            omega
          have zi' : i'.size ≤ 300 ∧ s'.size ≤ 300 := by
            rw [Bool.or_eq_false_iff, decide_eq_false_iff_not, decide_eq_false_iff_not] at hB
            omega
          clear hA hB HG F0 hk
          have e4 : ndC (fitF V F 4) G = #[.string (fitX V (F 0)), .int .u64 (G 0).1, .int .u64 (G 0).2, .string (fitX V (F 1)), .int .u64 (G 1).1, .int .u64 (G 1).2, .string (fitX V (F 2)), .int .u64 (G 2).1, .int .u64 (G 2).2, .string (fitX V (F 3)), .int .u64 (G 3).1, .int .u64 (G 3).2] := rfl
          rw [e4] at HX
          clear e4
          have t0 := fitX_size V (F 0)
          have t1 := fitX_size V (F 1)
          have t2 := fitX_size V (F 2)
          have t3 := fitX_size V (F 3)
          have g0 := hG 0
          have g1 := hG 1
          have g2 := hG 2
          have g3 := hG 3
          generalize fitX V (F 0) = s0 at *
          generalize fitX V (F 1) = s1 at *
          generalize fitX V (F 2) = s2 at *
          generalize fitX V (F 3) = s3 at *
          generalize (G 0).1 = h0 at *
          generalize (G 0).2 = l0 at *
          generalize (G 1).1 = h1 at *
          generalize (G 1).2 = l1 at *
          generalize (G 2).1 = h2 at *
          generalize (G 2).2 = l2 at *
          generalize (G 3).1 = h3 at *
          generalize (G 3).2 = l3 at *
          clear hsz hF hG
          have fAB : ∀ u, Has w [(w.heap.size + 1 + 1, 45, #[.string s0, .int .u64 h0, .int .u64 l0, .string s1, .int .u64 h1, .int .u64 l1, .string s2, .int .u64 h2, .int .u64 l2, .string s3, .int .u64 h3, .int .u64 l3]), (w.heap.size + 1, 26, lfB p' i' s' h' l'), (w.heap.size, 26, lfB p i s h l)] u →
              (u.cell? ⟨w.heap.size, 0, none⟩ = some (.bool p) ∧ u.cell? ⟨w.heap.size, 1, none⟩ = some (.string i) ∧ u.cell? ⟨w.heap.size, 2, none⟩ = some (.string s) ∧ u.cell? ⟨w.heap.size, 3, none⟩ = some (.int .u64 h) ∧ u.cell? ⟨w.heap.size, 4, none⟩ = some (.int .u64 l)) ∧
              (u.cell? ⟨w.heap.size + 1, 0, none⟩ = some (.bool p') ∧ u.cell? ⟨w.heap.size + 1, 1, none⟩ = some (.string i') ∧ u.cell? ⟨w.heap.size + 1, 2, none⟩ = some (.string s') ∧ u.cell? ⟨w.heap.size + 1, 3, none⟩ = some (.int .u64 h') ∧ u.cell? ⟨w.heap.size + 1, 4, none⟩ = some (.int .u64 l')) ∧ w.heap.size + 1 < u.heap.size ∧ w.heap.size < u.heap.size :=
            fun u H => ⟨(H.box 2).five0.1, (H.box 1).five0.1, (H.box 1).inside, (H.box 2).inside⟩
          have fN : ∀ u, Has w [(w.heap.size + 1 + 1, 45, #[.string s0, .int .u64 h0, .int .u64 l0, .string s1, .int .u64 h1, .int .u64 l1, .string s2, .int .u64 h2, .int .u64 l2, .string s3, .int .u64 h3, .int .u64 l3]), (w.heap.size + 1, 26, lfB p' i' s' h' l'), (w.heap.size, 26, lfB p i s h l)] u →
              (u.cell? ⟨w.heap.size + 1 + 1, 0, none⟩ = some (.string s0) ∧ u.cell? ⟨w.heap.size + 1 + 1, 1, none⟩ = some (.int .u64 h0) ∧ u.cell? ⟨w.heap.size + 1 + 1, 2, none⟩ = some (.int .u64 l0)) ∧
              (u.cell? ⟨w.heap.size + 1 + 1, 3, none⟩ = some (.string s1) ∧ u.cell? ⟨w.heap.size + 1 + 1, 4, none⟩ = some (.int .u64 h1) ∧ u.cell? ⟨w.heap.size + 1 + 1, 5, none⟩ = some (.int .u64 l1)) ∧
              (u.cell? ⟨w.heap.size + 1 + 1, 6, none⟩ = some (.string s2) ∧ u.cell? ⟨w.heap.size + 1 + 1, 7, none⟩ = some (.int .u64 h2) ∧ u.cell? ⟨w.heap.size + 1 + 1, 8, none⟩ = some (.int .u64 l2)) ∧
              (u.cell? ⟨w.heap.size + 1 + 1, 9, none⟩ = some (.string s3) ∧ u.cell? ⟨w.heap.size + 1 + 1, 10, none⟩ = some (.int .u64 h3) ∧ u.cell? ⟨w.heap.size + 1 + 1, 11, none⟩ = some (.int .u64 l3)) ∧ w.heap.size + 1 + 1 < u.heap.size :=
            fun u H => ⟨⟨(H.box 0).read 0, (H.box 0).read 1, (H.box 0).read 2⟩, ⟨(H.box 0).read 3, (H.box 0).read 4, (H.box 0).read 5⟩, ⟨(H.box 0).read 6, (H.box 0).read 7, (H.box 0).read 8⟩, ⟨(H.box 0).read 9, (H.box 0).read 10, (H.box 0).read 11⟩, (H.box 0).inside⟩
          obtain ⟨LL, hLL⟩ : ∃ LL, [(w.heap.size + 1 + 1, 45, #[Value.string s0, .int .u64 h0, .int .u64 l0, .string s1, .int .u64 h1, .int .u64 l1, .string s2, .int .u64 h2, .int .u64 l2, .string s3, .int .u64 h3, .int .u64 l3]), (w.heap.size + 1, 26, lfB p' i' s' h' l'), (w.heap.size, 26, lfB p i s h l)] = LL := ⟨_, rfl⟩
          rw [hLL] at HX fAB fN
          clear hLL
          have cX := fun u hu => leafText_any ⟨p, i, s, h, l⟩ (show i.size ≤ _ by omega) (show s.size ≤ _ by omega) aw.1 aw.2 u hu
          have cY := fun u hu => leafText_any ⟨p', i', s', h', l'⟩ (show i'.size ≤ _ by omega) (show s'.size ≤ _ by omega) bw.1 bw.2 u hu
          have cP := fun u => nodeText_any ⟨s0, h0, l0⟩ ⟨s1, h1, l1⟩ (show s0.size ≤ _ by omega) (show s1.size ≤ _ by omega) g0.1 g0.2 g1.1 g1.2 u
          have cQ := fun u => nodeText_any ⟨s2, h2, l2⟩ ⟨s3, h3, l3⟩ (show s2.size ≤ _ by omega) (show s3.size ≤ _ by omega) g2.1 g2.2 g3.1 g3.2 u
          have cM := fun u hu => mayLeaf_any ⟨p, i, s, h, l⟩ ha1 ha2 u hu
          have cM' := fun u hu => mayLeaf_any ⟨p', i', s', h', l'⟩ hb1 hb2 u hu
          -- what is known of the four texts
          have kA : Lf.may ⟨p, i, s, h, l⟩ = true → Lf.may ⟨p', i', s', h', l'⟩ = true → ((Lf.text ⟨p, i, s, h, l⟩).toList == (Lf.text ⟨p', i', s', h', l'⟩).toList) = Lf.same ⟨p, i, s, h, l⟩ ⟨p', i', s', h', l'⟩ := fun m m' => by
            rw [same_str7, Bool.eq_iff_iff, decide_eq_true_eq, Lf.same_iff]
            exact ⟨fun e => text_inj _ _ m m' aw.1 aw.2 bw.1 bw.2 e, fun e => by rw [e]⟩
          have kB : Lf.may ⟨p, i, s, h, l⟩ = true → (Lf.text ⟨p, i, s, h, l⟩).size ≠ 0 := fun m => Lf.text_size _ m
          have kC : Lf.may ⟨p, i, s, h, l⟩ = false → Lf.text ⟨p, i, s, h, l⟩ = ⟨#[]⟩ := fun m => text_not _ m
          have kD : ((Lf.text ⟨p, i, s, h, l⟩).toList == (ndText ⟨s0, h0, l0⟩ ⟨s1, h1, l1⟩).toList) = false := by rw [same_str7]; exact decide_eq_false (text_ne_node _ _ _)
          have kE : ((ndText ⟨s0, h0, l0⟩ ⟨s1, h1, l1⟩).toList == (ndText ⟨s2, h2, l2⟩ ⟨s3, h3, l3⟩).toList) = (Nd.same ⟨s0, h0, l0⟩ ⟨s2, h2, l2⟩ && Nd.same ⟨s1, h1, l1⟩ ⟨s3, h3, l3⟩) := by
            rw [same_str7, Bool.eq_iff_iff, decide_eq_true_eq, Bool.and_eq_true, Nd.same_iff, Nd.same_iff]
            exact ⟨fun e => ndText_inj _ _ _ _ V t0 t1 t2 t3 g0 g1 g2 g3 e, fun e => by rw [e.1, e.2]⟩
          have kF := ndText_size ⟨s0, h0, l0⟩ ⟨s1, h1, l1⟩
          have qS := fun u => run_eql_lf ⟨p, i, s, h, l⟩ ⟨p', i', s', h', l'⟩ u
          have q02 := fun u => run_eql_nd ⟨s0, h0, l0⟩ ⟨s2, h2, l2⟩ u
          have q13 := fun u => run_eql_nd ⟨s1, h1, l1⟩ ⟨s3, h3, l3⟩ u
          simp only [t0, t1] at kF
          generalize Lf.text ⟨p, i, s, h, l⟩ = X at *
          generalize Lf.text ⟨p', i', s', h', l'⟩ = Yt at *
          generalize ndText ⟨s0, h0, l0⟩ ⟨s1, h1, l1⟩ = P at *
          generalize ndText ⟨s2, h2, l2⟩ ⟨s3, h3, l3⟩ = Q at *
          generalize Lf.may ⟨p, i, s, h, l⟩ = mA at *
          generalize Lf.may ⟨p', i', s', h', l'⟩ = mB at *
          generalize Lf.same ⟨p, i, s, h, l⟩ ⟨p', i', s', h', l'⟩ = q at *
          generalize Nd.same ⟨s0, h0, l0⟩ ⟨s2, h2, l2⟩ = r1 at *
          generalize Nd.same ⟨s1, h1, l1⟩ ⟨s3, h3, l3⟩ = r2 at *
          simp only [Lf.val, Nd.val] at cX cY cM cM' cP cQ qS q02 q13
          have hlen : (P.size : Int) = 33 + 2 * (V : Int) := by omega
          clear kF g0 g1 g2 g3 t0 t1 t2 t3 zi zi' ha1 ha2 hb1 hb2 aw bw
          go_upto_region 14 with fail
          go_cut [11, 12] (fun x y W' => x = .string X ∧ y = .string Yt ∧ Has w LL W')
          case first =>
            clear kA kB kC kD kE hlen cP cQ cM cM' qS q02 q13
            go_region_held3 (fun u => Has w LL u ∧ ((u.cell? ⟨w.heap.size, 0, none⟩ = some (.bool p) ∧ u.cell? ⟨w.heap.size, 1, none⟩ = some (.string i) ∧ u.cell? ⟨w.heap.size, 2, none⟩ = some (.string s) ∧ u.cell? ⟨w.heap.size, 3, none⟩ = some (.int .u64 h) ∧ u.cell? ⟨w.heap.size, 4, none⟩ = some (.int .u64 l)) ∧
                (u.cell? ⟨w.heap.size + 1, 0, none⟩ = some (.bool p') ∧ u.cell? ⟨w.heap.size + 1, 1, none⟩ = some (.string i') ∧ u.cell? ⟨w.heap.size + 1, 2, none⟩ = some (.string s') ∧ u.cell? ⟨w.heap.size + 1, 3, none⟩ = some (.int .u64 h') ∧ u.cell? ⟨w.heap.size + 1, 4, none⟩ = some (.int .u64 l')) ∧ w.heap.size + 1 < u.heap.size ∧ w.heap.size < u.heap.size))
              (first
                | with_reducible exact held_drew fAB HX
                | with_reducible exact held_keep fAB (by assumption) (by assumption)
                | with_reducible assumption
                | fail)
              (first
                | (go_at_call 19; (with_reducible refine (cX _ (hT.call (Has.below (And.left (by assumption))))).mono ?_); rintro e v1 ⟨rfl, q1⟩)
                | (go_at_call 19; (with_reducible refine (cY _ (hT.call (Has.below (And.left (by assumption))))).mono ?_); rintro e v2 ⟨rfl, q2⟩)
                | fail)
            all_goals go_wp2
            all_goals go_meet
            all_goals exact ⟨rfl, rfl, And.left (by assumption)⟩
          case rest =>
            obtain ⟨rfl, rfl, HY⟩ := hcut
            clear HX cX cY
            go_upto_region 15 with fail
            go_cut [13, 14] (fun x y W' => x = .string P ∧ y = .string Q ∧ Has w LL W')
            case first =>
              clear kA kB kC kD kE hlen cM cM' qS q02 q13
              go_region_held3 (fun u => Has w LL u ∧ ((u.cell? ⟨w.heap.size + 1 + 1, 0, none⟩ = some (.string s0) ∧ u.cell? ⟨w.heap.size + 1 + 1, 1, none⟩ = some (.int .u64 h0) ∧ u.cell? ⟨w.heap.size + 1 + 1, 2, none⟩ = some (.int .u64 l0)) ∧
                (u.cell? ⟨w.heap.size + 1 + 1, 3, none⟩ = some (.string s1) ∧ u.cell? ⟨w.heap.size + 1 + 1, 4, none⟩ = some (.int .u64 h1) ∧ u.cell? ⟨w.heap.size + 1 + 1, 5, none⟩ = some (.int .u64 l1)) ∧
                (u.cell? ⟨w.heap.size + 1 + 1, 6, none⟩ = some (.string s2) ∧ u.cell? ⟨w.heap.size + 1 + 1, 7, none⟩ = some (.int .u64 h2) ∧ u.cell? ⟨w.heap.size + 1 + 1, 8, none⟩ = some (.int .u64 l2)) ∧
                (u.cell? ⟨w.heap.size + 1 + 1, 9, none⟩ = some (.string s3) ∧ u.cell? ⟨w.heap.size + 1 + 1, 10, none⟩ = some (.int .u64 h3) ∧ u.cell? ⟨w.heap.size + 1 + 1, 11, none⟩ = some (.int .u64 l3)) ∧ w.heap.size + 1 + 1 < u.heap.size))
                (first
                  | with_reducible exact held_drew fN HY
                  | with_reducible exact held_keep fN (by assumption) (by assumption)
                  | with_reducible assumption
                  | fail)
                (first
                  | (go_at_call 21; (with_reducible refine (cP _).mono ?_); rintro e v1 ⟨rfl, q1⟩)
                  | (go_at_call 21; (with_reducible refine (cQ _).mono ?_); rintro e v2 ⟨rfl, q2⟩)
                  | fail)
              all_goals go_wp2
              all_goals go_meet
              all_goals exact ⟨rfl, rfl, And.left (by assumption)⟩
            case rest =>
              obtain ⟨rfl, rfl, HZ⟩ := hcut
              clear HY cP cQ
              obtain ⟨⟨a0, a1, a2, a3, a4⟩, ⟨b0, b1, b2, b3, b4⟩, ib, ia⟩ := fAB _ HZ
              go_upto_region 16 with fail
              go_cut [102] (fun v W' => v = .bool false ∧ Has w LL W')
              case first =>
                obtain ⟨m1, m2⟩ := ne_nil (i := P) (by omega)
                clear kE hlen fN q02 q13 hV0
                cases mA with
                | true =>
                  obtain ⟨n1, n2⟩ := ne_nil (kB rfl)
                  cases mB with
                  | true =>
                    have kA := kA rfl rfl
                    clear kB kC
                    cases q with
                    | true =>
                      go_wp2_with (first
                  | (go_at_call 17; (with_reducible refine (cM _ (hT.call (Has.below (by assumption)))).mono ?_); rintro e v ⟨rfl, jv⟩; have Hv : Has w LL v := Has.call (by assumption) jv; obtain ⟨⟨a0, a1, a2, a3, a4⟩, ⟨b0, b1, b2, b3, b4⟩, ib, ia⟩ := fAB _ Hv)
                  | (go_at_call 17; (with_reducible refine (cM' _ (hT.call (Has.below (by assumption)))).mono ?_); rintro e v ⟨rfl, jv⟩; have Hv : Has w LL v := Has.call (by assumption) jv; obtain ⟨⟨a0, a1, a2, a3, a4⟩, ⟨b0, b1, b2, b3, b4⟩, ib, ia⟩ := fAB _ Hv))
                      go_meet
                      exact ⟨rfl, by assumption⟩
                    | false =>
                      go_wp2_with (first
                  | (go_at_call 17; (with_reducible refine (cM _ (hT.call (Has.below (by assumption)))).mono ?_); rintro e v ⟨rfl, jv⟩; have Hv : Has w LL v := Has.call (by assumption) jv; obtain ⟨⟨a0, a1, a2, a3, a4⟩, ⟨b0, b1, b2, b3, b4⟩, ib, ia⟩ := fAB _ Hv)
                  | (go_at_call 17; (with_reducible refine (cM' _ (hT.call (Has.below (by assumption)))).mono ?_); rintro e v ⟨rfl, jv⟩; have Hv : Has w LL v := Has.call (by assumption) jv; obtain ⟨⟨a0, a1, a2, a3, a4⟩, ⟨b0, b1, b2, b3, b4⟩, ib, ia⟩ := fAB _ Hv))
                      go_meet
                      exact ⟨rfl, by assumption⟩
                  | false =>
                    clear kA kB kC qS
                    go_wp2_with (first
                  | (go_at_call 17; (with_reducible refine (cM _ (hT.call (Has.below (by assumption)))).mono ?_); rintro e v ⟨rfl, jv⟩; have Hv : Has w LL v := Has.call (by assumption) jv; obtain ⟨⟨a0, a1, a2, a3, a4⟩, ⟨b0, b1, b2, b3, b4⟩, ib, ia⟩ := fAB _ Hv)
                  | (go_at_call 17; (with_reducible refine (cM' _ (hT.call (Has.below (by assumption)))).mono ?_); rintro e v ⟨rfl, jv⟩; have Hv : Has w LL v := Has.call (by assumption) jv; obtain ⟨⟨a0, a1, a2, a3, a4⟩, ⟨b0, b1, b2, b3, b4⟩, ib, ia⟩ := fAB _ Hv))
                    go_meet
                    exact ⟨rfl, by assumption⟩
                | false =>
                  obtain rfl := kC rfl
                  clear kA kB kC qS
                  go_wp2_with (first
                  | (go_at_call 17; (with_reducible refine (cM _ (hT.call (Has.below (by assumption)))).mono ?_); rintro e v ⟨rfl, jv⟩; have Hv : Has w LL v := Has.call (by assumption) jv; obtain ⟨⟨a0, a1, a2, a3, a4⟩, ⟨b0, b1, b2, b3, b4⟩, ib, ia⟩ := fAB _ Hv)
                  | (go_at_call 17; (with_reducible refine (cM' _ (hT.call (Has.below (by assumption)))).mono ?_); rintro e v ⟨rfl, jv⟩; have Hv : Has w LL v := Has.call (by assumption) jv; obtain ⟨⟨a0, a1, a2, a3, a4⟩, ⟨b0, b1, b2, b3, b4⟩, ib, ia⟩ := fAB _ Hv))
                  go_meet
                  exact ⟨rfl, by assumption⟩
              case rest =>
                obtain ⟨rfl, HR⟩ := hcut
                clear HZ a0 a1 a2 a3 a4 b0 b1 b2 b3 b4 ia ib kA kB kC kD fAB cM cM' qS
                obtain ⟨⟨c0, c1, c2⟩, ⟨c3, c4, c5⟩, ⟨c6, c7, c8⟩, ⟨c9, c10, c11⟩, ic⟩ := fN _ HR
                clear fN
                cases r1 with
                | false =>
                  have kE : (P.toList == Q.toList) = false := kE
                  go_wp2
                  go_ret
                  exact ⟨rfl, Has.below (by assumption)⟩
                | true =>
                  cases r2 with
                  | false =>
                    have kE : (P.toList == Q.toList) = false := kE
                    go_wp2
                    go_ret
                    exact ⟨rfl, Has.below (by assumption)⟩
                  | true =>
                    have kE : (P.toList == Q.toList) = true := kE
                    go_wp2
                    go_ret
                    exact ⟨rfl, Has.below (by assumption)⟩
theorem tagUnlike_core (H : Type) (enc : TypeId × Value → H) (W : World) (base : Nat) (args : Array Value) (ds gs : List (DataW H)) (before : List MemPlace)
    (hval : ∀ (j : Nat) t v, Tryd.f6.params[j]? = some t → args[j]? = some v → Value.okWide Tryd.prog W .any base t v)
    (hW : DataW.Whole enc Tryd.prog Tryd.f6.params.toList Rows.tagUnlikeSpec.vars false W args.toList ds gs before) (hT : Tab W ∧ TabU W) :
    gs = [] ∧ ds.length = 4 ∧ Calls Tryd.prog 6 args W (Tells (.bool true) W.heap.size W) := by
  obtain ⟨p, q, hA, hV, -, -, -⟩ := hW
  obtain ⟨rfl, rfl⟩ := trodVars_none hV
  have hA : DataW.TrodAll enc Tryd.prog W 0 (fun _ => true) true Tryd.f6.params.toList args.toList ds p := hA
  rw [Tryd.params6] at hA hval
  obtain ⟨v0, vs0, d0, ds0, p0, ps0, e0, rfl, -, h0, hA⟩ := trodAll_cons hA
  obtain ⟨v1, vs1, d1, ds1, p1, ps1, rfl, rfl, -, h1, hA⟩ := trodAll_cons hA
  obtain ⟨v2, vs2, d2, ds2, p2, ps2, rfl, rfl, -, h2, hA⟩ := trodAll_cons hA
  obtain ⟨v3, vs3, d3, ds3, p3, ps3, rfl, rfl, -, h3, hA⟩ := trodAll_cons hA
  obtain ⟨rfl, rfl, rfl⟩ := trodAll_nil hA
  obtain rfl : args = #[v0, v1, v2, v3] := Array.ext' e0
  obtain ⟨x, rfl, z1, z2, z3, z4⟩ := open_leaf (hval 0 26 v0 rfl rfl) h0
  obtain ⟨y, rfl, z5, z6, z7, z8⟩ := open_leaf (hval 1 26 v1 rfl rfl) h1
  obtain ⟨a, b, c, e, rfl, za, zb, zc, ze⟩ := open_four (hval 2 45 v2 rfl rfl) h2
  obtain ⟨n, rfl, -, -, bn⟩ := open_int Tryd.underlying3 (hval 3 3 v3 rfl rfl) h3
  refine ⟨rfl, rfl, ?_⟩
  obtain ⟨U, hU⟩ := Int.eq_ofNat_of_zero_le (Int.emod_nonneg n (by decide : (18446744073709551616 : Int) ≠ 0))
  exact unlike_walk x y (fun j => match j with | 0 => a.hash | 1 => b.hash | 2 => c.hash | _ => e.hash) (fun j => match j with | 0 => (a.h, a.l) | 1 => (b.h, b.l) | 2 => (c.h, c.l) | _ => (e.h, e.l)) n U _ hU rfl z1 z2 z5 z6
    (fun j => match j with | 0 => za.1 | 1 => zb.1 | 2 => zc.1 | _ + 3 => ze.1) (fun j => match j with | 0 => za.2 | 1 => zb.2 | 2 => zc.2 | _ + 3 => ze.2) ⟨z3, z4⟩ ⟨z7, z8⟩ W hT.1 hT.2

set_option maxRecDepth 100000 in
theorem tagUnlike_lifted (os : Os) (started : os.Started) (H : Type) (enc : TypeId × Value → H) :
    ReturnsInHanded {} Tryd.checked os 6 .any (fun w args => (Rows.tagUnlikeSpec.pre enc Tryd.prog Tryd.f6 [] false w args ∧ laidMetH Tryd.prog laidA w) ∧ sizedMet enc Tryd.prog Tryd.f6 (OpenSpec.ofChange Rows.tagUnlikeSpec) false w args)
      (Rows.tagUnlikeSpec.post enc Tryd.prog Tryd.f6 false true false false) := by
  refine returnsInHanded_of_change_and (C := Tryd.checked) (X := fun w _ => laidMetH Tryd.prog laidA w) (fun _ _ _ hh h => h.of_heap hh) own_knob started (by kernel_rfl) Tryd.func6
    (ChangeSpec.witness_shaped (enc := enc) (C := Tryd.checked) (os := os) (X := fun w _ => laidMetH Tryd.prog laidA w) false (World.laidAll Tryd.prog os laidA) #[.agg #[.bool false, .string ⟨#[]⟩, .string ⟨#[]⟩, .int .u64 0, .int .u64 0], .agg #[.bool false, .string ⟨#[]⟩, .string ⟨#[]⟩, .int .u64 0, .int .u64 0], .agg #[.string ⟨#[]⟩, .int .u64 0, .int .u64 0, .string ⟨#[]⟩, .int .u64 0, .int .u64 0, .string ⟨#[]⟩, .int .u64 0, .int .u64 0, .string ⟨#[]⟩, .int .u64 0, .int .u64 0], .int .i64 0] 8 (World.laidAll_os _ _ _) (World.shaped_of_ZipB (by kernel_rfl) (by kernel_rfl)) (by kernel_rfl) (by kernel_rfl) (by kernel_rfl) (met_A os _)) ?_
  intro W base args ds gs before hval0 hW _ hwt hL _
  have hval : ∀ (j : Nat) t v, Tryd.f6.params[j]? = some t → args[j]? = some v → Value.okWide Tryd.prog W .any base t v := hval0
  obtain ⟨hg, hlen, hc⟩ := tagUnlike_core H enc W base args ds gs before hval hW (tab_of_laidA hL)
  subst hg
  have hr : (Tryd.f6.params.toList.all fun t => Tryd.prog.readableRec t && decide (t < Tryd.prog.types.size)) = true := by kernel_rfl
  have hread : ∀ t ∈ Tryd.f6.params.toList, Tryd.prog.readableRec t = true ∧ t < Tryd.prog.types.size := fun t ht => by
    have h := List.all_eq_true.1 hr t ht
    rw [Bool.and_eq_true, decide_eq_true_eq] at h
    exact h
  refine hc.mono fun e W' ⟨he, hb⟩ => ?_
  subst he
  match ds, hlen with
  | [d0, d1, d2, d3], _ => exact ⟨_, rfl, law_post laid_out Tryd.underlying4 rfl hread rfl hW rfl rfl rfl hb⟩

theorem tagUnlike_holds : Rows.TagUnlikeSaid :=
  OpenClaim.holds_of_wide 6 Tryd.f6 rfl rfl rfl rfl rfl rfl rfl ⟨rfl, rfl, rfl, rfl, rfl⟩ rfl rfl rfl rfl rfl (by kernel_rfl) Tryd.func6 (by kernel_rfl)
    (of_decide_eq_true (by kernel_rfl)) (by unfold Func.isWrapper; first | (rw [if_pos (by decide +kernel)]; kernel_rfl) | (rw [if_neg (by decide +kernel)]; exact ⟨rfl, rfl⟩))
    (fun os started H enc _ => tagUnlike_lifted os started H enc)

theorem tagUnlike_card : Rows.TagUnlikeCardSaid :=
  Claim7.holds_tied_plain_at .later [] [.data, .data, .pinned] true _ false
    tagUnlike_holds (fun _ h => by cases h) (by kernel_rfl) (fun _ h => by cases h) tagUnlike_row_tie rfl ⟨rfl, rfl⟩ (by kernel_rfl) rfl
    (fun f fn hf hfn => by
      obtain rfl : f = 6 := Option.some.inj ((show Tryd.prog.funcNamed "paymaster/paymasterlaw07.TagUnlike" = some 6 by kernel_rfl).symm.trans hf) |>.symm
      obtain rfl : fn = Tryd.f6 := (Option.some.inj (Tryd.func6.symm.trans hfn)).symm
      exact ⟨by kernel_rfl, fun j t ht => by
        have hm : t ∈ Tryd.f6.params.toList := by simpa using Array.mem_of_getElem? ht
        have hall : (Tryd.f6.params.toList.all fun u => !Tryd.prog.wantsStandIn u) = true := by kernel_rfl
        exact (show Tryd.prog.wantsStandIn t = false by simpa using List.all_eq_true.1 hall t hm)⟩)
    (by kernel_rfl)

end Go.Proofs.YtkmnfogcocppjaaDoor
