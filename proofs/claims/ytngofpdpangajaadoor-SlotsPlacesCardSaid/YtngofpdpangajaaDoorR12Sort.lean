/-
  paymasterref12's Sort, walked: each account is put in behind all whose Ids are not greater.
-/
import Derived.Test.YtngofpdpangajaaDoorD12Sort
import Derived.Test.YtngofpdpangajaaDoorM12Set
import Derived.Test.YtngofpdpangajaaDoorM12Plc
namespace Go.Proofs.YtngofpdpangajaaDoor
set_option linter.unusedVariables false
set_option linter.unusedSimpArgs false
set_option maxRecDepth 10000
open Go.RowKit Go.Sort

theorem gtrA_run (x y : Ac) (u : World) : (binOp .gtr 9 (.string y.id) (.string x.id)).run Tryd.prog u = .ok (.bool (ltR (rowA x) (rowA y))) u := gtr_run (rowA x) (rowA y) u
theorem AcRow.cells {w : World} {B : Nat} {a : Addr} {xs : List Ac} (h : AcRow w B (some a) xs) : ∀ j v, (accCs xs)[j]? = some v → w.cell? (a.add j) = some v := fun j v hv => by
  have hj : j < xs.length * 5 := by
    have := (List.getElem?_eq_some_iff.1 hv).1
    rw [accCs_len] at this
    exact this
  obtain ⟨x, hx⟩ : ∃ x, xs[j / 5]? = some x := ⟨_, List.getElem?_eq_getElem (by omega)⟩
  obtain ⟨ad, e, -, c0, c1, c2, c3, c4⟩ := h _ _ hx
  injection e with e
  subst e
  have ej : j = j / 5 * 5 + j % 5 := by omega
  have hm : j % 5 < 5 := Nat.mod_lt _ (by omega)
  rw [ej, accCs_at xs _ x hx _ hm] at hv
  have key : ∀ k, k < 5 → x.cells[k]? = some v → w.cell? (a.add (j / 5 * 5 + k)) = some v := fun k hk hc => by
    rw [← o10_add]
    match k, hk with
    | 0, _ =>
      obtain rfl : Value.string x.id = v := by simpa [Ac.cells] using hc
      rw [show (a.add (j / 5 * 5)).add 0 = a.add (j / 5 * 5) by rw [o10_add, Nat.add_zero]]
      exact c0
    | 1, _ =>
      obtain rfl : Value.int .u64 x.h = v := by simpa [Ac.cells] using hc
      exact c1
    | 2, _ =>
      obtain rfl : Value.int .u64 x.l = v := by simpa [Ac.cells] using hc
      exact c2
    | 3, _ =>
      obtain rfl : Value.string x.salt = v := by simpa [Ac.cells] using hc
      exact c3
    | 4, _ =>
      obtain rfl : Value.int .u64 x.slot = v := by simpa [Ac.cells] using hc
      exact c4
  rw [ej]
  exact key _ hm hv
theorem own_prefixA {W : World} {B n k g c : Nat} {ys : List Ac} (h : W.ownsRow B 38 5 (.slice (some ⟨g, 0, none⟩) n c) n (accCs ys)) (hn : ys.length = n) (hk : k ≤ n) :
    W.ownsRow B 38 5 (.slice (some ⟨g, 0, none⟩) k c) k (accCs (ys.take k)) := by
  refine ⟨by rw [accCs_len, List.length_take]; omega, .inr ?_⟩
  rcases h.2 with ⟨h1, -⟩ | ⟨g', cap, cur, hv, hg, hh, hc, hm, hsz, hcur⟩
  · cases h1
  · injection hv with e1 e2 e3
    injection e1 with e1
    injection e1 with e1
    subst e1 e3
    refine ⟨g, c, cur, rfl, hg, hh, by omega, hm, hsz, ?_⟩
    have e : accCs ys = accCs (ys.take k) ++ accCs (ys.drop k) := by rw [← accCs_app, List.take_append_drop]
    have h2 : (cur.toList.take (n * 5)).take (k * 5) = (accCs ys).take (k * 5) := by rw [hcur]
    rw [List.take_take, Nat.min_eq_left (by omega)] at h2
    rw [h2, e, List.take_append_of_le_length (by rw [accCs_len, List.length_take]; omega), List.take_of_length_le (by rw [accCs_len, List.length_take]; omega)]
theorem own_formA {W : World} {B n : Nat} {v : Value} {l : List Value} (h : W.ownsRow B 38 5 v n l) (hn : 0 < n) : ∃ g c, v = .slice (some ⟨g, 0, none⟩) n c ∧ n ≤ c ∧ B ≤ g ∧ g < W.heap.size := by
  rcases h.2 with ⟨-, h0⟩ | ⟨g, cap, cur, hv, hg, hh, hc, -⟩
  · omega
  · exact ⟨g, cap, hv, hc, hg, (Array.getElem?_eq_some_iff.1 hh).1⟩
theorem app_accs (w : World) (base : Nat) (v : Value) (n : Nat) (ys : List Ac) (hown : w.ownsRow base 38 5 v n (accCs ys)) (ad : Addr) (m c : Nat) (zs : List Ac) (hz : zs.length = m)
    (hc : ∀ j u, (accCs zs)[j]? = some u → w.cell? (ad.add j) = some u) (hm : n + m ≤ 1000000000) (hb : base ≤ w.heap.size) {N : Nat} (hN : n + m = N) :
    ∃ v' w', (∀ ty, (Builtin.append_ #[22, 22] ty #[v, .slice (some ad) m c]).run Tryd.prog w = .ok v' w') ∧ w'.ownsRow base 38 5 v' N (accCs (ys ++ zs)) ∧ w.grownBy w' v.ownBlock := by
  subst hN
  obtain ⟨i0, hi, hz0, hz1, hz2⟩ := info_parts infoS_acc
  obtain ⟨v', w', hr, h2, h3, -⟩ := run_append_own_at (P := Tryd.prog) w base 22 0 38 i0 _ 5 56 Tryd.underlying22 hi hz0 hz1 hz2 rfl (by decide) v n (accCs ys) hown ad m c (accCs zs) (by rw [accCs_len, hz]) hc (accCs_one zs)
    (by unfold maxLen; omega) (by omega) hb
  rw [← accCs_app] at h2
  exact ⟨v', w', fun ty => (run_append_ty w 22 ty 0 v _).trans hr, h2, h3⟩
theorem app_noneA (w : World) (v : Value) (n c : Nat) (hv : v = .slice none 0 0 ∨ ∃ g cap, v = .slice (some ⟨g, 0, none⟩) n cap ∧ n ≤ cap) (ty : TypeId) :
    (Builtin.append_ #[22, 22] ty #[v, .slice none 0 c]).run Tryd.prog w = .ok v w := by
  obtain ⟨i0, hi, hz0, hz1, hz2⟩ := info_parts infoS_acc
  rcases hv with rfl | ⟨g, cap, rfl, hc⟩
  · simp [Builtin.append_, Builtin.lenOf, Builtin.firstCells, run_underlying Tryd.underlying22, sizeOf, typeInfo, hi, hz1]
  · simp [Builtin.append_, Builtin.lenOf, Builtin.firstCells, run_underlying Tryd.underlying22, sizeOf, typeInfo, hi, hz1, hc, storeCells]
theorem app_ownA (w : World) (base b2 : Nat) (v vx : Value) (n m : Nat) (ys zs : List Ac) (hown : w.ownsRow base 38 5 v n (accCs ys)) (hx : w.ownsRow b2 38 5 vx m (accCs zs))
    (hm : n + m ≤ 1000000000) (hb : base ≤ w.heap.size) {N : Nat} (hN : n + m = N) :
    ∃ v' w', (∀ ty, (Builtin.append_ #[22, 22] ty #[v, vx]).run Tryd.prog w = .ok v' w') ∧ w'.ownsRow base 38 5 v' N (accCs (ys ++ zs)) ∧ w.grownBy w' v.ownBlock := by
  have hzl : zs.length = m := by
    have := hx.1
    rw [accCs_len] at this
    omega
  rcases hx.2 with ⟨rfl, h0⟩ | ⟨g, cap, cur, rfl, hg, hh, hc, hmx, hsz, hcur⟩
  · subst h0
    have e : zs = [] := List.eq_nil_of_length_eq_zero hzl
    subst e
    refine ⟨v, w, fun ty => app_noneA w v n 0 ?_ ty, ?_, World.grownBy.refl _ _⟩
    · rcases hown.2 with ⟨h1, -⟩ | ⟨g, cap, cur, h1, -, -, h2, -⟩
      · exact .inl h1
      · exact .inr ⟨g, cap, h1, h2⟩
    · rw [List.append_nil, ← hN, Nat.add_zero]
      exact hown
  · refine app_accs w base v n ys hown ⟨g, 0, none⟩ m cap zs hzl (fun j u hu => ?_) hm hb hN
    have e1 : (⟨g, 0, none⟩ : Addr).add j = ⟨g, j, none⟩ := by simp [Addr.add]; exact fun hj => hj.symm
    rw [e1, cell_of_row w g j cur _ _ hh]
    have hj : j < m * 5 := by
      have := (List.getElem?_eq_some_iff.1 hu).1
      rw [accCs_len] at this
      omega
    rw [← hcur, List.getElem?_take_of_lt hj] at hu
    rw [← hu]
    simp
theorem AcRow.zero2 {w : World} {B g : Nat} {l : List Ac} (h : AcRow w B (some ⟨g, 0, none⟩) l) {i : Nat} {x : Ac} (hx : l[i]? = some x) : g < B ∧ AcAt w ⟨g, i * 5, none⟩ x := by
  obtain ⟨ad, e, hl, hc⟩ := h i x hx
  injection e with e
  subst e
  have e1 : (⟨g, 0, none⟩ : Addr).add (i * 5) = ⟨g, i * 5, none⟩ := by simp [Addr.add]; exact fun hj => hj.symm
  rw [e1] at hc
  exact ⟨hl, hc⟩
theorem AcRow.some2 {w : World} {B : Nat} {ad : Addr} {l : List Ac} (h : AcRow w B (some ad) l) {i : Nat} {x : Ac} (hx : l[i]? = some x) : (ad.add (i * 5)).block < B ∧ AcAt w (ad.add (i * 5)) x := by
  obtain ⟨ad', e, hl, c⟩ := h i x hx
  injection e with e
  subst e
  exact ⟨by rw [o10_block]; exact hl, c⟩
set_option maxRecDepth 100000 in
set_option maxHeartbeats 4000000 in
theorem rsortA_any (A : Option Addr) (c : Nat) (xs : List Ac) (hm : xs.length ≤ 1000000) (w : World) (hR : AcRow w w.heap.size A xs) :
    Calls Tryd.prog 47 #[.slice A xs.length c] w fun e w' => ∃ v, e = .returned v ∧ ∃ ys, ys.length = xs.length ∧ w'.ownsRow w.heap.size 38 5 v ys.length (accCs ys) ∧ Below w.heap.size w w' ∧ SdA xs ys := by
  obtain ⟨n, hn⟩ : ∃ n, xs.length = n := ⟨_, rfl⟩
  rw [hn]
  go_enter Tryd.func47, Tryd.ntmps47
  go_wp2
  go_loopg [3, 4] n (fun gk v vi wr => ∃ (i : Nat) (ys : List Ac), vi = .int .i64 i ∧ i ≤ n ∧ n - i ≤ gk ∧ ys.length = i ∧ ((i = 0 ∧ v = .slice none 0 0) ∨ (0 < i ∧ ∃ g c, v = .slice (some ⟨g, 0, none⟩) i c ∧ i ≤ c ∧ w.heap.size ≤ g ∧ g < wr.heap.size ∧ wr.ownsRow w.heap.size 38 5 v i (accCs ys))) ∧ Below w.heap.size w wr ∧ Hid (SdA (xs.take i) ys))
  case atStart => exact ⟨0, [], by go_num, Nat.zero_le _, by omega, rfl, .inl ⟨rfl, rfl⟩, Below.refl _ _, ⟨List.Perm.refl _, List.Pairwise.nil⟩⟩
  case round =>
    obtain ⟨i, ys, rfl, hin, hgk, hyl, hown, hb, hSd⟩ := hrel
    generalize wr = WO at *
    by_cases hlt : i < n
    · obtain ⟨x, hx⟩ : ∃ x, xs[i]? = some x := ⟨_, List.getElem?_eq_getElem (by omega)⟩
      obtain ⟨ad, hA, hadl, -⟩ := hR i x hx
      subst hA
      have htk : xs.take (i + 1) = xs.take i ++ [x] := by rw [List.take_add_one, hx]; rfl
      have HTK := hideIt htk
      clear htk
      rcases hown with ⟨hi0, hv⟩ | ⟨hi0, g, c2, hv, hc2, hgB, hgl, hown⟩
      · subst hi0 hv
        have hy0 : ys = [] := List.eq_nil_of_length_eq_zero hyl
        subst hy0
        have hlti : (0 : Int) < (n : Int) := by omega
        go_wp2
        go_loopg [5] 0 (fun g2 vk wq => vk = .int .i64 0 ∧ Below WO.heap.size WO wq)
        case atStart => exact ⟨by go_num, Below.refl _ _⟩
        case round =>
          obtain ⟨rfl, hbq⟩ := hrel
          go_upto_region 6 with fail
          go_quiet (fail)
          have hbw0 := hb.trans ((below_drewN hbq nq).mono hb.size)
          generalize wr.drewN nq = W at *
          go_upto_region 8 with fail
          have hbw := hbw0
          have HX := hideIt hx
          have HY := hideIt hyl
          have HB : Hid (0 = 0 ∨ LR (rowA x) (rowA ([] : List Ac)[0]!)) := Or.inl rfl
          have HA : Hid (0 = 0 ∨ ¬ LR (rowA x) (rowA ([] : List Ac)[0 - 1]!)) := Or.inl rfl
          obtain ⟨vr, w1, hr, hownr, hgr⟩ : ∃ vr w1, (∀ ty, (Builtin.append_ #[22, 22] ty #[.slice (some ⟨W.heap.size, 0, none⟩) 0 0, .slice none 0 0]).run Tryd.prog (W.alloc (.cells #[] 38)) = .ok vr w1) ∧ w1.ownsRow W.heap.size 38 5 vr (0 - 0) (accCs (([] : List Ac).drop 0)) ∧
              (W.alloc (.cells #[] 38)).grownBy w1 (Value.slice (some ⟨W.heap.size, 0, none⟩) 0 0).ownBlock :=
            ⟨_, _, fun ty => app_noneA _ _ 0 0 (Or.inr ⟨_, _, rfl, Nat.le_refl _⟩) ty, ⟨rfl, .inr ⟨W.heap.size, 0, #[], rfl, Nat.le_refl _, Box.made W 38 #[], Nat.le_refl _, Nat.zero_le _, rfl, rfl⟩⟩, World.grownBy.refl _ _⟩
          have HP : W.ownsRow w.heap.size 38 5 (.slice none 0 0) 0 (accCs (([] : List Ac).take 0)) := World.ownsRow_nil _ _ _ _
          go_upto_region 9 with (at_builtin; refine wpList_run rfl _ _ _ rfl _ _ rfl rfl vr w1 hr ?_)
          have L1 : Below W.heap.size W w1 := (chainA (Below.refl _ _) _).grown hgr (by simp) (fun k hk => by injection hk with hk; simp only at hk; omega)
          have hL1s := L1.size
          have hWs := hbw.size
          obtain ⟨x3, x0, x1, x2, x5, x6⟩ := (hR.call (hbw.trans (L1.mono hWs))).some2 HX.out
          have ea : ad.add (0 * 5) = ad := by simp [Addr.add]
          rw [ea] at x0 x1 x2 x3 x5 x6
          have x4 : ad.block < w1.heap.size := by omega
          have LU : Below W.heap.size W (w1.drew.alloc (.cells (acB x.id x.h x.l x.salt x.slot) 38)) := (L1.drew).alloc (by show _ ≤ w1.heap.size; omega) _
          have BU := Box.made w1.drew 38 (acB x.id x.h x.l x.salt x.slot)
          have LR1 : Below w1.heap.size w1 (w1.drew.alloc (.cells (acB x.id x.h x.l x.salt x.slot) 38)) := ((Below.refl _ _).drew).alloc (Nat.le_refl _) _
          have cU : ∀ j u, (accCs [x])[j]? = some u → (w1.drew.alloc (.cells (acB x.id x.h x.l x.salt x.slot) 38)).cell? ((⟨w1.drew.heap.size, 0, none⟩ : Addr).add j) = some u := fun j u hu => cells_new4 w1.drew 38 x.cells j u (by simpa [accCs, Ac.cells] using hu)
          have hUs : (w1.drew.alloc (.cells (acB x.id x.h x.l x.salt x.slot) 38)).heap.size = w1.heap.size + 1 := by rw [World.size_alloc]; rfl
          have hrU := own_below hownr LR1
          obtain ⟨va, wa, hra, howna, hga⟩ := app_accs (w1.drew.alloc (.cells (acB x.id x.h x.l x.salt x.slot) 38)) w.heap.size (.slice none 0 0) 0 (([] : List Ac).take 0) (own_below HP LU) ⟨w1.drew.heap.size, 0, none⟩ 1 1 [x] rfl cU (by omega) (by omega) (N := 0 + 1) rfl
          have hrA := hrU.kept hga (by
            cases ho : vr.ownBlock with
            | none => exact .inl rfl
            | some q =>
              right
              have := (hownr.lt q ho).1
              intro e
              cases e)
          obtain ⟨vb, wb, hrb, hownb, hgb⟩ := app_ownA wa w.heap.size W.heap.size va vr (0 + 1) (0 - 0) (([] : List Ac).take 0 ++ [x]) (([] : List Ac).drop 0) howna hrA (by omega) (by have := hga.size; omega) (N := 0 + 1) (by omega)
          have LA : Below w.heap.size w wa := ((hbw.trans (LU.mono hWs))).grown hga (by omega) (fun k hk => (HP.lt k hk).1)
          have LB : Below w.heap.size w wb := LA.grown hgb (by have := hga.size; omega) (fun k hk => (howna.lt k hk).1)
          obtain ⟨g', c', hvb, hc', hgB', hgl'⟩ := own_formA hownb (Nat.succ_pos _)
          subst hvb
          clear LA LU BU LR1 cU hrU hga hrA hgb howna hownr hgr
          have hnx : IntKind.i64.wrap ((0 : Nat) + 1 : Int) = ((0 + 1 : Nat) : Int) := by rw [IntKind.wrap_i64]; omega
          have hsd : SdA (xs.take (0 + 1)) (putA [] 0 x) := by
            rw [HTK.out]
            exact putA_sorted hSd.out (by have := HY.out; omega) HA.out (by
              have h1 := HB.out
              rcases h1 with h1 | h1
              · exact .inl (by have := HY.out; omega)
              · exact .inr h1)
          have HSD := hideIt hsd
          have hpl : (putA [] 0 x).length = 0 + 1 := by rw [putA_len (by have := HY.out; omega), HY.out]
          have HPL := hideIt hpl
          clear hsd hpl
          go_region_law (first
            | refine step_run rfl _ _ _ rfl _ _ rfl rfl va wa hra ?_
            | refine step_run rfl _ _ _ rfl _ _ rfl rfl _ wb hrb ?_)
          all_goals go_wp2
          all_goals go_roundg (n - (0 + 1))
          all_goals first
            | omega
            | exact ⟨0 + 1, putA [] 0 x, by go_num, by omega, Nat.le_refl _, HPL.out, .inr ⟨Nat.succ_pos _, g', c', rfl, hc', hgB', hgl', hownb⟩, LB, HSD⟩
      · have hlti : (i : Int) < (n : Int) := by omega
        have HX := hideIt hx
        have HY := hideIt hyl
        clear hx hyl
        subst hv
        have hRy : AcRow WO WO.heap.size (some ⟨g, 0, none⟩) ys := by
          have h1 := hown
          rw [← HY.out] at h1
          obtain ⟨A2, c3, h2, -, h3⟩ := accs_of_own h1
          injection h2 with h2
          rw [h2]
          exact h3
        go_wp2
        go_loopg [5] i (fun g2 vk wq => ∃ k : Nat, vk = .int .i64 k ∧ k ≤ i ∧ k ≤ g2 ∧ Below WO.heap.size WO wq ∧ Hid (k = i ∨ LR (rowA x) (rowA ys[k]!)))
        case atStart => exact ⟨i, by go_num, Nat.le_refl _, Nat.le_refl _, Below.refl _ _, Or.inl rfl⟩
        case round =>
          obtain ⟨k, rfl, hki, hg2, hbq, HB⟩ := hrel
          go_upto_region 6 with fail
          go_cut [5, 30] from 15 to 32 (fun s5 s30 wx => s5 = .int .i64 k ∧ ∃ bq : Bool, s30 = .bool bq ∧ Hid (bq = true → 0 < k ∧ LR (rowA x) (rowA ys[k - 1]!)) ∧ Hid (bq = false → k = 0 ∨ ¬ LR (rowA x) (rowA ys[k - 1]!)) ∧ Below WO.heap.size WO wx)
          case first =>
            obtain ⟨x3, x0, -⟩ := (hR.call (hb.trans (hbq.mono hb.size))).some2 HX.out
            have hbs := hbq.size
            have hbz := hb.size
            have x4 : (ad.add (i * 5)).block < wr.heap.size := by omega
            by_cases hk : 0 < k
            · have hki0 : (0 : Int) < (k : Int) := by omega
              obtain ⟨I, hI⟩ : ∃ I, k - 1 = I := ⟨_, rfl⟩
              have w1 : IntKind.i64.wrap ((k : Int) - 1) = (I : Int) := by rw [IntKind.wrap_i64]; omega
              have i2 : (I : Int) < (i : Int) := by omega
              have i3 : I < i := by omega
              obtain ⟨y, hy⟩ : ∃ y, ys[I]? = some y := ⟨_, List.getElem?_eq_getElem (by have := HY.out; omega)⟩
              have hyb : ys[I]! = y := by
                rw [acc_bang (by have := HY.out; omega)] at hy
                injection hy
              obtain ⟨y3, y0, -⟩ := (hRy.call hbq).zero2 hy
              have hgw : g < wr.heap.size := by omega
              have HI := hideIt hI
              have HYB := hideIt hyb
              clear hI hyb hy
              by_cases hc : LR (rowA x) (rowA y)
              · have hq : ∀ u : World, (binOp .gtr 9 (.string y.id) (.string x.id)).run Tryd.prog u = .ok (.bool true) u := fun u => by rw [gtrA_run, show ltR (rowA x) (rowA y) = true from hc]
                go_quiet (fail)
                go_wp2_with fail
                go_meet
                exact ⟨rfl, true, rfl, fun _ => ⟨hk, by rw [HI.out, HYB.out]; exact hc⟩, fun h => Bool.noConfusion h, below_drewN hbq _⟩
              · have hq : ∀ u : World, (binOp .gtr 9 (.string y.id) (.string x.id)).run Tryd.prog u = .ok (.bool false) u := fun u => by rw [gtrA_run, show ltR (rowA x) (rowA y) = false by cases hb : ltR (rowA x) (rowA y) with | false => rfl | true => exact absurd hb hc]
                go_quiet (fail)
                go_wp2_with fail
                go_meet
                exact ⟨rfl, false, rfl, fun h => Bool.noConfusion h, fun _ => .inr (by rw [HI.out, HYB.out]; exact hc), below_drewN hbq _⟩
            · have hk0 : k = 0 := by omega
              go_quiet (fail)
              go_wp2_with fail
              go_meet
              exact ⟨by first | rfl | simp [hk0], false, rfl, fun h => Bool.noConfusion h, fun _ => .inl hk0, below_drewN hbq _⟩
          case rest =>
            obtain ⟨rfl, bq, rfl, HT, HF, hbq2⟩ := hcut
            generalize wc = W at *
            cases bq with
            | true =>
              obtain ⟨hk, hLR⟩ := HT.out (by rfl)
              have HL := hideIt hLR
              clear HT HF hLR
              obtain ⟨I, hI⟩ : ∃ I, k - 1 = I := ⟨_, rfl⟩
              have w1 : IntKind.i64.wrap ((k : Int) - 1) = (I : Int) := by rw [IntKind.wrap_i64]; omega
              have HI := hideIt hI
              clear hI
              go_wp2
              go_roundg I
              case measure => have := HI.out; omega
              case rel => exact ⟨I, rfl, by have := HI.out; omega, Nat.le_refl _, hbq2, Or.inr (by rw [← HI.out]; exact HL.out)⟩
            | false =>
              have HA := hideIt (HF.out (by rfl))
              clear HT HF
              go_upto_region 8 with fail
              have hbw := hb.trans (hbq2.mono hb.size)
              have HP := own_prefixA (own_below hown hbq2) HY.out hki
              have hbs := hbq2.size
              have own0 : (W.alloc (.cells #[] 38)).ownsRow W.heap.size 38 5 (.slice (some ⟨W.heap.size, 0, none⟩) 0 0) 0 (accCs []) :=
                ⟨rfl, .inr ⟨W.heap.size, 0, #[], rfl, Nat.le_refl _, Box.made W 38 #[], Nat.le_refl _, Nat.zero_le _, rfl, rfl⟩⟩
              have hdc : ∀ j u, (accCs (ys.drop k))[j]? = some u → (W.alloc (.cells #[] 38)).cell? ((⟨g, k * 5, none⟩ : Addr).add j) = some u := fun j u hu => by
                have h1 := (hRy.call (chainA hbq2 (.cells #[] 38))).cells (k * 5 + j) u (by
                  have e : accCs ys = accCs (ys.take k) ++ accCs (ys.drop k) := by rw [← accCs_app, List.take_append_drop]
                  rw [e, List.getElem?_append_right (by rw [accCs_len, List.length_take]; have := HY.out; omega), accCs_len, List.length_take, Nat.min_eq_left (by have := HY.out; omega), Nat.add_sub_cancel_left]
                  exact hu)
                rw [← o10_add] at h1
                have e1 : (⟨g, 0, none⟩ : Addr).add (k * 5) = ⟨g, k * 5, none⟩ := by simp [Addr.add]; exact fun hj => hj.symm
                rw [e1] at h1
                exact h1
              have hdl : (ys.drop k).length = i - k := by rw [List.length_drop, HY.out]
              by_cases hck : c2 = k
              · subst hck
                have hik : i - c2 = 0 := by omega
                have hd0 : ys.drop c2 = [] := List.eq_nil_of_length_eq_zero (by rw [hdl, hik])
                obtain ⟨vr, w1, hr, hownr, hgr⟩ := app_accs (W.alloc (.cells #[] 38)) W.heap.size (.slice (some ⟨W.heap.size, 0, none⟩) 0 0) 0 [] own0 ⟨g, 0, none⟩ 0 0 [] rfl (fun j u hu => by simp [accCs] at hu) (by omega) (by simp) (N := i - c2) (by omega)
                rw [List.nil_append, ← hd0] at hownr
                have hkc : c2 ≤ c2 := Nat.le_refl _
                clear hdc hd0
                go_upto_region 9 with (at_builtin; refine wpList_run rfl _ _ _ rfl _ _ rfl rfl vr w1 hr ?_)
                have L1 : Below W.heap.size W w1 := (chainA (Below.refl _ _) _).grown hgr (by simp) (fun k hk => by injection hk with hk; simp only at hk; omega)
                have hL1s := L1.size
                have hWs := hbw.size
                obtain ⟨x3, x0, x1, x2, x5, x6⟩ := (hR.call (hbw.trans (L1.mono hWs))).some2 HX.out
                have x4 : (ad.add (i * 5)).block < w1.heap.size := by omega
                have LU : Below W.heap.size W (w1.drew.alloc (.cells (acB x.id x.h x.l x.salt x.slot) 38)) := (L1.drew).alloc (by show _ ≤ w1.heap.size; omega) _
                have BU := Box.made w1.drew 38 (acB x.id x.h x.l x.salt x.slot)
                have LR1 : Below w1.heap.size w1 (w1.drew.alloc (.cells (acB x.id x.h x.l x.salt x.slot) 38)) := ((Below.refl _ _).drew).alloc (Nat.le_refl _) _
                have cU : ∀ j u, (accCs [x])[j]? = some u → (w1.drew.alloc (.cells (acB x.id x.h x.l x.salt x.slot) 38)).cell? ((⟨w1.drew.heap.size, 0, none⟩ : Addr).add j) = some u := fun j u hu => cells_new4 w1.drew 38 x.cells j u (by simpa [accCs, Ac.cells] using hu)
                have hUs : (w1.drew.alloc (.cells (acB x.id x.h x.l x.salt x.slot) 38)).heap.size = w1.heap.size + 1 := by rw [World.size_alloc]; rfl
                have hrU := own_below hownr LR1
                obtain ⟨va, wa, hra, howna, hga⟩ := app_accs (w1.drew.alloc (.cells (acB x.id x.h x.l x.salt x.slot) 38)) w.heap.size (.slice (some ⟨g, 0, none⟩) c2 c2) c2 (ys.take c2) (own_below HP LU) ⟨w1.drew.heap.size, 0, none⟩ 1 1 [x] rfl cU (by omega) (by omega) (N := c2 + 1) rfl
                have hrA := hrU.kept hga (by
                  cases ho : vr.ownBlock with
                  | none => exact .inl rfl
                  | some q =>
                    right
                    have := (hownr.lt q ho).1
                    intro e
                    (injection e with e; simp only at e; omega))
                obtain ⟨vb, wb, hrb, hownb, hgb⟩ := app_ownA wa w.heap.size W.heap.size va vr (c2 + 1) (i - c2) (ys.take c2 ++ [x]) (ys.drop c2) howna hrA (by omega) (by have := hga.size; omega) (N := i + 1) (by omega)
                have LA : Below w.heap.size w wa := ((hbw.trans (LU.mono hWs))).grown hga (by omega) (fun k hk => (HP.lt k hk).1)
                have LB : Below w.heap.size w wb := LA.grown hgb (by have := hga.size; omega) (fun k hk => (howna.lt k hk).1)
                obtain ⟨g', c', hvb, hc', hgB', hgl'⟩ := own_formA hownb (Nat.succ_pos _)
                subst hvb
                clear LA LU BU LR1 cU hrU hga hrA hgb howna hownr hgr
                have HK0 := hideIt hik
                clear hik
                have hnx : IntKind.i64.wrap ((i : Nat) + 1 : Int) = ((i + 1 : Nat) : Int) := by rw [IntKind.wrap_i64]; omega
                have hsd : SdA (xs.take (i + 1)) (putA ys c2 x) := by
                  rw [HTK.out]
                  exact putA_sorted hSd.out (by have := HY.out; omega) HA.out (by
                    have h1 := HB.out
                    rcases h1 with h1 | h1
                    · exact .inl (by have := HY.out; omega)
                    · exact .inr h1)
                have HSD := hideIt hsd
                have hpl : (putA ys c2 x).length = i + 1 := by rw [putA_len (by have := HY.out; omega), HY.out]
                have HPL := hideIt hpl
                clear hsd hpl
                go_region_law (first
                  | refine step_run rfl _ _ _ rfl _ _ rfl rfl va wa hra ?_
                  | refine step_run rfl _ _ _ rfl _ _ rfl rfl _ wb hrb ?_)
                all_goals go_wp2
                all_goals go_roundg (n - (i + 1))
                all_goals first
                  | omega
                  | exact ⟨i + 1, putA ys c2 x, by go_num, by omega, Nat.le_refl _, HPL.out, .inr ⟨Nat.succ_pos _, g', c', rfl, hc', hgB', hgl', hownb⟩, LB, HSD⟩
              · obtain ⟨vr, w1, hr, hownr, hgr⟩ := app_accs (W.alloc (.cells #[] 38)) W.heap.size (.slice (some ⟨W.heap.size, 0, none⟩) 0 0) 0 [] own0 ⟨g, k * 5, none⟩ (i - k) (c2 - k) (ys.drop k) hdl hdc (by omega) (by simp) (N := i - k) (Nat.zero_add _)
                rw [List.nil_append] at hownr
                go_upto_region 9 with (at_builtin; refine wpList_run rfl _ _ _ rfl _ _ rfl rfl vr w1 hr ?_)
                have L1 : Below W.heap.size W w1 := (chainA (Below.refl _ _) _).grown hgr (by simp) (fun k hk => by injection hk with hk; simp only at hk; omega)
                have hL1s := L1.size
                have hWs := hbw.size
                obtain ⟨x3, x0, x1, x2, x5, x6⟩ := (hR.call (hbw.trans (L1.mono hWs))).some2 HX.out
                have x4 : (ad.add (i * 5)).block < w1.heap.size := by omega
                have LU : Below W.heap.size W (w1.drew.alloc (.cells (acB x.id x.h x.l x.salt x.slot) 38)) := (L1.drew).alloc (by show _ ≤ w1.heap.size; omega) _
                have BU := Box.made w1.drew 38 (acB x.id x.h x.l x.salt x.slot)
                have LR1 : Below w1.heap.size w1 (w1.drew.alloc (.cells (acB x.id x.h x.l x.salt x.slot) 38)) := ((Below.refl _ _).drew).alloc (Nat.le_refl _) _
                have cU : ∀ j u, (accCs [x])[j]? = some u → (w1.drew.alloc (.cells (acB x.id x.h x.l x.salt x.slot) 38)).cell? ((⟨w1.drew.heap.size, 0, none⟩ : Addr).add j) = some u := fun j u hu => cells_new4 w1.drew 38 x.cells j u (by simpa [accCs, Ac.cells] using hu)
                have hUs : (w1.drew.alloc (.cells (acB x.id x.h x.l x.salt x.slot) 38)).heap.size = w1.heap.size + 1 := by rw [World.size_alloc]; rfl
                have hrU := own_below hownr LR1
                obtain ⟨va, wa, hra, howna, hga⟩ := app_accs (w1.drew.alloc (.cells (acB x.id x.h x.l x.salt x.slot) 38)) w.heap.size (.slice (some ⟨g, 0, none⟩) k c2) k (ys.take k) (own_below HP LU) ⟨w1.drew.heap.size, 0, none⟩ 1 1 [x] rfl cU (by omega) (by omega) (N := k + 1) rfl
                have hrA := hrU.kept hga (by
                  cases ho : vr.ownBlock with
                  | none => exact .inl rfl
                  | some q =>
                    right
                    have := (hownr.lt q ho).1
                    intro e
                    (injection e with e; simp only at e; omega))
                obtain ⟨vb, wb, hrb, hownb, hgb⟩ := app_ownA wa w.heap.size W.heap.size va vr (k + 1) (i - k) (ys.take k ++ [x]) (ys.drop k) howna hrA (by omega) (by have := hga.size; omega) (N := i + 1) (by omega)
                have LA : Below w.heap.size w wa := ((hbw.trans (LU.mono hWs))).grown hga (by omega) (fun k hk => (HP.lt k hk).1)
                have LB : Below w.heap.size w wb := LA.grown hgb (by have := hga.size; omega) (fun k hk => (howna.lt k hk).1)
                obtain ⟨g', c', hvb, hc', hgB', hgl'⟩ := own_formA hownb (Nat.succ_pos _)
                subst hvb
                clear LA LU BU LR1 cU hrU hga hrA hgb howna hownr hgr
                have hkc : k ≤ c2 := by omega
                have hnx : IntKind.i64.wrap ((i : Nat) + 1 : Int) = ((i + 1 : Nat) : Int) := by rw [IntKind.wrap_i64]; omega
                have hsd : SdA (xs.take (i + 1)) (putA ys k x) := by
                  rw [HTK.out]
                  exact putA_sorted hSd.out (by have := HY.out; omega) HA.out (by
                    have h1 := HB.out
                    rcases h1 with h1 | h1
                    · exact .inl (by have := HY.out; omega)
                    · exact .inr h1)
                have HSD := hideIt hsd
                have hpl : (putA ys k x).length = i + 1 := by rw [putA_len (by have := HY.out; omega), HY.out]
                have HPL := hideIt hpl
                clear hsd hpl
                go_region_law (first
                  | refine step_run rfl _ _ _ rfl _ _ rfl rfl va wa hra ?_
                  | refine step_run rfl _ _ _ rfl _ _ rfl rfl _ wb hrb ?_)
                all_goals go_wp2
                all_goals go_roundg (n - (i + 1))
                all_goals first
                  | omega
                  | exact ⟨i + 1, putA ys k x, by go_num, by omega, Nat.le_refl _, HPL.out, .inr ⟨Nat.succ_pos _, g', c', rfl, hc', hgB', hgl', hownb⟩, LB, HSD⟩
    · have hlti : ¬ (i : Int) < (n : Int) := by omega
      have hie : i = n := by omega
      have HIE := hideIt hie
      clear hie
      rcases hown with ⟨hi0, hv⟩ | ⟨hi0, g, c2, hv, hc2, hgB, hgl, hown⟩
      · subst hv
        have HI0 := hideIt hi0
        clear hi0
        go_wp2
        go_ret
        have h0 := HI0.out
        have h1 := HIE.out
        have hy0 : ys = [] := List.eq_nil_of_length_eq_zero (by omega)
        have h2 := hSd.out
        rw [List.take_of_length_le (by omega)] at h2
        subst hy0
        exact ⟨_, rfl, [], by simp; omega, World.ownsRow_nil _ _ _ _, hb, h2⟩
      · subst hv
        go_wp2
        go_ret
        have h1 := HIE.out
        have h2 := hSd.out
        rw [List.take_of_length_le (by omega)] at h2
        exact ⟨_, rfl, ys, by omega, by rw [hyl]; exact hown, hb, h2⟩
end Go.Proofs.YtngofpdpangajaaDoor
