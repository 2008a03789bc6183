/-
  The law LedgerFinds: what is found of any Id, and who goes, stays and comes between any two rows of rows, is what the chapter says. Conditions: none.
-/
import Derived.Test.YthindbmgnkohhaaU11Betw
import Derived.Test.YthindbmgnkohhaaR11Only
import Derived.Test.YthindbmgnkohhaaS10Same
import Derived.Test.YthindbmgnkohhaaW0Lift
import Derived.ChangeMaps
namespace Go.Proofs.Ythindbmgnkohhaa
set_option linter.unusedVariables false
set_option linter.unusedSimpArgs false
set_option maxRecDepth 10000
open Go.ChangeShapes Go.WideShapes Go.ChangeAt Go.RowKit Go.Sort

set_option maxRecDepth 100000 in
set_option maxHeartbeats 2000000 in
theorem lfinds_long (A B : Option Addr) (c d : Nat) (xs ys : List Rw) (s : ByteArray) (hm : xs.length ≤ 9223372036854775807) (hn : ys.length ≤ 9223372036854775807) (h : longR xs = true ∨ longR ys = true ∨ 200 < s.size) (w : World) (hR : RwRow w w.heap.size A xs) (hS : RwRow w w.heap.size B ys) :
    Calls Try.prog 3 #[.slice A xs.length c, .slice B ys.length d, .string s] w (Tells (.bool true) w.heap.size w) := by
  have cX := fun u hu => longR_any A c xs hm u hu
  have cY := fun u hu => longR_any B d ys hn u hu
  cases hx : longR xs with
  | true =>
    rw [hx] at cX
    clear h hx
    go_enter Try.func3, Try.ntmps3
    go_wp2_with (first
      | (go_at_call 4; refine (cX _ hR).mono ?_; rintro e w2 ⟨rfl, rfl⟩)
      | fail)
    go_ret
    exact ⟨rfl, Below.refl _ _⟩
  | false =>
    rw [hx] at cX h
    cases hy : longR ys with
    | true =>
      rw [hy] at cY
      clear h hx hy
      go_enter Try.func3, Try.ntmps3
      go_wp2_with (first
        | (go_at_call 4; (with_reducible refine (cX _ hR).mono ?_); rintro e w2 ⟨rfl, rfl⟩)
        | (go_at_call 4; (with_reducible refine (cY _ hS).mono ?_); rintro e w2 ⟨rfl, rfl⟩)
        | fail)
      go_ret
      exact ⟨rfl, Below.refl _ _⟩
    | false =>
      rw [hy] at cY h
      have hs : (200 : Int) < (s.size : Int) := by
        rcases h with h | h | h
        · cases h
        · cases h
        · omega
      clear h hx hy
      go_enter Try.func3, Try.ntmps3
      go_wp2_with (first
        | (go_at_call 4; (with_reducible refine (cX _ hR).mono ?_); rintro e w2 ⟨rfl, rfl⟩)
        | (go_at_call 4; (with_reducible refine (cY _ hS).mono ?_); rintro e w2 ⟨rfl, rfl⟩)
        | fail)
      go_ret
      exact ⟨rfl, Below.refl _ _⟩

set_option maxRecDepth 100000 in
set_option maxHeartbeats 4000000 in
theorem lfinds_short (A B : Option Addr) (c d : Nat) (xs ys : List Rw) (s : ByteArray) (h1 : longR xs = false) (h2 : longR ys = false) (hs : s.size ≤ 200) (w : World) (hR : RwRow w w.heap.size A xs) (hS : RwRow w w.heap.size B ys) :
    Calls Try.prog 3 #[.slice A xs.length c, .slice B ys.length d, .string s] w (Tells (.bool true) w.heap.size w) := by
  obtain ⟨m1, z1⟩ := longR_no h1
  obtain ⟨m2, z2⟩ := longR_no h2
  have cX := fun u hu => longR_any A c xs (by omega) u hu
  have cY := fun u hu => longR_any B d ys (by omega) u hu
  rw [h1] at cX
  rw [h2] at cY
  have hsi : ¬ ((200 : Int) < (s.size : Int)) := by omega
  have cF := fun u hu => find_any A c xs s (by omega) (fun x hx => by have := z1 x hx; omega) u hu
  have cG := fun u hu => rfind_any A c xs s (by omega) u hu
  obtain ⟨V, hV⟩ : ∃ V : Rw × Bool, findR xs s.data.toList = V := ⟨_, rfl⟩
  rw [hV] at cF cG
  obtain ⟨y, q⟩ := V
  simp only [Rw.val] at cF cG
  have cB := fun u hu hv => between_any A B c d xs ys (by omega) (by omega) (fun x hx => by have := z1 x hx; omega) (fun x hx => by have := z2 x hx; omega) u hu hv
  have hq : ∀ (u : World), (binOp .eql 28 (.agg #[.string y.id, .int .u64 y.h, .int .u64 y.l]) (.agg #[.string y.id, .int .u64 y.h, .int .u64 y.l])).run Try.prog u = .ok (.bool true) u := fun u => by
    have h := run_eql_rw y y u
    rw [Rw.same_self] at h
    exact h
  have a1 := outL_len xs ys
  have a2 := inL_len ys xs
  have a3 := outL_len ys xs
  clear hV h1 h2
  go_enter Try.func3, Try.ntmps3
  go_upto_region 3 with (first
    | (go_at_call 4; (with_reducible refine (cX _ hR).mono ?_); rintro e w2 ⟨rfl, rfl⟩)
    | (go_at_call 4; (with_reducible refine (cY _ hS).mono ?_); rintro e w2 ⟨rfl, rfl⟩)
    | fail)
  clear cX cY hsi
  have H0 := Has.start w
  go_upto_region 4 with (first
    | (go_at_call 5; refine (cF _ hR).mono ?_; rintro e w1 ⟨rfl, j1⟩)
    | fail)
  have H1 := (H0.call j1).add 28 #[.string y.id, .int .u64 y.h, .int .u64 y.l]
  change Code.wp _ _ _ _ (w1.alloc (.cells #[.string y.id, .int .u64 y.h, .int .u64 y.l] 28))
  generalize w1.alloc (.cells #[.string y.id, .int .u64 y.h, .int .u64 y.l] 28) = W1 at *
  generalize w1.heap.size = g1 at *
  go_upto_region 5 with (first
    | (go_at_call 6; refine (cG _ ((hR.call H1.below).more H1.size)).mono ?_; rintro e w2 ⟨rfl, j2⟩)
    | fail)
  have H2 := (H1.call j2).add 28 #[.string y.id, .int .u64 y.h, .int .u64 y.l]
  change Code.wp _ _ _ _ (w2.alloc (.cells #[.string y.id, .int .u64 y.h, .int .u64 y.l] 28))
  generalize w2.alloc (.cells #[.string y.id, .int .u64 y.h, .int .u64 y.l] 28) = W2 at *
  generalize w2.heap.size = g2 at *
  go_upto_region 6 with (first
    | (go_at_call 7; refine (cB _ ((hR.call H2.below).more H2.size) ((hS.call H2.below).more H2.size)).mono ?_; rintro e w3 ⟨v1, v2, v3, l1, l2, l3, rfl, S1, S2, S3, j3⟩)
    | fail)
  have H3 := H2.call j3
  clear cF cG cB H0 H1 H2 j1 j2 j3
  obtain ⟨r0, r1, r2, -, -, -, hin2⟩ := (H3.box 0).three
  obtain ⟨t0, t1, t2, -, -, -, hin1⟩ := (H3.box 1).three
  have e1 := S1.2.1
  have e2 := S2.2.1
  have e3 := S3.2.1
  obtain ⟨A1, rfl, R1⟩ := S1.row
  obtain ⟨A2, rfl, R2⟩ := S2.row
  obtain ⟨A3, rfl, R3⟩ := S3.row
  have K1 := hideIt S1.1
  have K2 := hideIt S2.1
  have K3 := hideIt S3.1
  obtain ⟨N1, hN1⟩ : ∃ N, l1.length = N := ⟨_, rfl⟩
  obtain ⟨N2, hN2⟩ : ∃ N, l2.length = N := ⟨_, rfl⟩
  obtain ⟨N3, hN3⟩ : ∃ N, l3.length = N := ⟨_, rfl⟩
  have cO := fun (X Y : Option Addr) (a b : Nat) (ks ls : List Rw) (q : Bool) (zs : List Rw) (hk : ks.length ≤ 1000000) (hl : ls.length ≤ 1000000) (hz : Sd (onlyL ks ls q) zs) (u : World) (hu : RwRow u u.heap.size X ks) (hv : RwRow u u.heap.size Y ls) =>
    (ronly_any X Y a b ks ls q hk hl u hu hv).mono fun e w' (h : ∃ v, e = .returned v ∧ ∃ zs, zs.length = (onlyL ks ls q).length ∧ w'.ownsRow u.heap.size 28 3 v zs.length (rowCs zs) ∧ Below u.heap.size u w' ∧ Sd (onlyL ks ls q) zs) => (by
      obtain ⟨v, h1, zs', h2, h3, h4, h5⟩ := h
      obtain rfl := h5.same hz
      obtain ⟨A', c', hv, -, hr⟩ := rows_of_own h3
      exact ⟨A', c', by rw [h1, hv], hr, h4⟩ : ∃ A' c', e = .returned (.slice A' zs.length c') ∧ RwRow w' w'.heap.size A' zs ∧ Below u.heap.size u w')
  have cO1 := fun u hu hv => cO A B c d xs ys false l1 (by omega) (by omega) K1.out u hu hv
  have cO2 := fun u hu hv => cO B A d c ys xs true l2 (by omega) (by omega) K2.out u hu hv
  have cO3 := fun u hu hv => cO B A d c ys xs false l3 (by omega) (by omega) K3.out u hu hv
  have cS := fun (X Y : Option Addr) (a b : Nat) (l : List Rw) (hl : l.length ≤ 1000000000) u hu hv => rsame_any X Y a b l hl u hu hv
  have cS1 := fun X a b u hu hv => cS A1 X a b l1 (by omega) u hu hv
  have cS2 := fun X a b u hu hv => cS A2 X a b l2 (by omega) u hu hv
  have cS3 := fun X a b u hu hv => cS A3 X a b l3 (by omega) u hu hv
  simp only [hN1] at cO1 cS1
  simp only [hN2] at cO2 cS2
  simp only [hN3] at cO3 cS3
  rw [hN1, hN2, hN3]
  clear cO cS S1 S2 S3 e1 e2 e3 hN1 hN2 hN3
  have fX := fun u (h : Below w3.heap.size w3 u) => (hR.call (H3.call h).below).more (H3.call h).size
  have fY := fun u (h : Below w3.heap.size w3 u) => (hS.call (H3.call h).below).more (H3.call h).size
  have f1 := fun u (h : Below w3.heap.size w3 u) => (R1.call h).more h.size
  have f2 := fun u (h : Below w3.heap.size w3 u) => (R2.call h).more h.size
  have f3 := fun u (h : Below w3.heap.size w3 u) => (R3.call h).more h.size
  have j4 := Below.refl w3.heap.size w3
  clear R1 R2 R3
  cases q <;>
  · go_wp2_with (first
      | (go_at_call_of 9 (Value.bool true); (with_reducible refine (cO2 _ (fY _ j6) (fX _ j6)).mono ?_); rintro e w7 ⟨X2, b2, rfl, q2, j7⟩; have i7 := j6.trans (j7.mono j6.size))
      | (go_at_call 9; (with_reducible refine (cO1 _ (fX _ j4) (fY _ j4)).mono ?_); rintro e w5 ⟨X1, b1, rfl, q1, j5⟩)
      | (go_at_call 9; (with_reducible refine (cO3 _ (fY _ j8) (fX _ j8)).mono ?_); rintro e w9 ⟨X3, b3, rfl, q3, j9⟩; have i9 := j8.trans (j9.mono j8.size))
      | (go_at_call_of 8 (Value.slice A1 N1 N1); (with_reducible refine (cS1 _ _ _ _ (f1 _ j5) q1).mono ?_); rintro e w6 ⟨rfl, k6⟩; have j6 := j5.trans (k6.mono j5.size))
      | (go_at_call_of 8 (Value.slice A2 N2 N2); (with_reducible refine (cS2 _ _ _ _ (f2 _ i7) q2).mono ?_); rintro e w8 ⟨rfl, k8⟩; have j8 := i7.trans (k8.mono i7.size))
      | (go_at_call_of 8 (Value.slice A3 N3 N3); (with_reducible refine (cS3 _ _ _ _ (f3 _ i9) q3).mono ?_); rintro e w10 ⟨rfl, k10⟩; have j10 := i9.trans (k10.mono i9.size))
      | fail)
    go_ret
    exact ⟨rfl, (H3.call j10).below⟩

theorem ledgerFinds_core (H : Type) (enc : TypeId × Value → H) (W : World) (base : Nat) (args : Array Value) (ds gs : List (DataW H)) (before : List MemPlace)
    (hval : ∀ (j : Nat) t v, Try.f3.params[j]? = some t → args[j]? = some v → Value.okWide Try.prog W .any base t v)
    (hW : DataW.Whole enc Try.prog Try.f3.params.toList Rows.ledgerFindsSpec.vars false W args.toList ds gs before) :
    gs = [] ∧ ds.length = 3 ∧ Calls Try.prog 3 args W (Tells (.bool true) W.heap.size W) := by
  obtain ⟨p, q, hA, hV, -, -, -⟩ := hW
  obtain ⟨rfl, rfl⟩ := trodVars_none hV
  have hA : DataW.TrodAll enc Try.prog W 0 (fun _ => true) true Try.f3.params.toList args.toList ds p := hA
  rw [Try.params3] at hA hval
  obtain ⟨v0, vs0, d0, ds0, p0, ps0, e0, rfl, -, h0, hA⟩ := trodAll_cons hA
  obtain ⟨v1, vs1, d1, ds1, p1, ps1, rfl, rfl, -, h1, hA⟩ := trodAll_cons hA
  obtain ⟨v2, vs2, d2, ds2, p2, ps2, rfl, rfl, -, h2, hA⟩ := trodAll_cons hA
  obtain ⟨rfl, rfl, rfl⟩ := trodAll_nil hA
  obtain rfl : args = #[v0, v1, v2] := Array.ext' e0
  obtain ⟨A, c, xs, rfl, x1, -, -, x2, x3⟩ := open_rows (hval 0 22 v0 rfl rfl) h0
  obtain ⟨B, d, ys, rfl, y1, -, -, y2, y3⟩ := open_rows (hval 1 22 v1 rfl rfl) h1
  obtain ⟨s, rfl, rfl, rfl, z5⟩ := Go.ChangeMaps.open_string Try.underlying9 (hval 2 9 v2 rfl rfl) h2
  refine ⟨rfl, rfl, ?_⟩
  by_cases h : longR xs = true ∨ longR ys = true ∨ 200 < s.size
  · exact lfinds_long A B c d xs ys s x1 y1 h W x3 y3
  · rw [not_or, not_or] at h
    obtain ⟨h1, h2, h3⟩ := h
    exact lfinds_short A B c d xs ys s (by cases e : longR xs; rfl; exact absurd e h1) (by cases e : longR ys; rfl; exact absurd e h2) (by omega) W x3 y3

set_option maxRecDepth 100000 in
theorem ledgerFinds_lifted (os : Os) (started : os.Started) (H : Type) (enc : TypeId × Value → H) :
    ReturnsInHanded {} Try.checked os 3 .any (Rows.ledgerFindsSpec.pre6 enc Try.prog Try.f3 Rows.ledgerFindsRow.domain false) (Rows.ledgerFindsSpec.post enc Try.prog Try.f3 false true false false) := by
  refine returnsInHanded_of_change (C := Try.checked) own_knob started (by kernel_rfl) Try.func3
    (ChangeSpec.witness6 (enc := enc) (C := Try.checked) false ⟨#[], #[.slice none 0 0, .slice none 0 0, .string ⟨#[]⟩], []⟩ 8 (by kernel_rfl) (by kernel_rfl) (by kernel_rfl) (by kernel_rfl)) ?_
  intro W base args ds gs before hval hW _ _
  obtain ⟨hg, hlen, hc⟩ := ledgerFinds_core H enc W base args ds gs before hval hW
  subst hg
  have hr : (Try.f3.params.toList.all fun t => Try.prog.readableRec t && decide (t < Try.prog.types.size)) = true := by kernel_rfl
  have hread : ∀ t ∈ Try.f3.params.toList, Try.prog.readableRec t = true ∧ t < Try.prog.types.size := fun t ht => by
    have h := List.all_eq_true.1 hr t ht
    rw [Bool.and_eq_true, decide_eq_true_eq] at h
    exact h
  refine hc.mono fun e W' ⟨he, hb⟩ => ?_
  subst he
  match ds, hlen with
  | [d0, d1, d2], _ => exact ⟨_, rfl, law_post laid_out Try.underlying4 rfl hread rfl hW rfl rfl rfl hb⟩

theorem ledgerFinds_holds : Rows.LedgerFindsSaid :=
  OpenClaim.holds_of_wide 3 Try.f3 rfl rfl rfl rfl rfl rfl rfl ⟨rfl, rfl, rfl, rfl, rfl⟩ rfl rfl rfl rfl rfl (by kernel_rfl) Try.func3 (by kernel_rfl)
    (of_decide_eq_true (by kernel_rfl)) (by unfold Func.isWrapper; first | (rw [if_pos (by decide +kernel)]; kernel_rfl) | (rw [if_neg (by decide +kernel)]; exact ⟨rfl, rfl⟩))
    (fun os started H enc _ => ledgerFinds_lifted os started H enc)

end Go.Proofs.Ythindbmgnkohhaa
