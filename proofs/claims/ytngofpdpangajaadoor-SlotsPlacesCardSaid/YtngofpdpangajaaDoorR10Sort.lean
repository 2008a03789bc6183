/-
  paymasterref10's Sort, walked: each row is put in behind all whose Ids are not greater.
-/
import Derived.Test.YtngofpdpangajaaDoorM10Stb
import Derived.Test.YtngofpdpangajaaDoorE10Same
import Derived.Deep.AppendLies
import Derived.Deep.RegionLaw
namespace Go.Proofs.YtngofpdpangajaaDoor
set_option linter.unusedVariables false
set_option linter.unusedSimpArgs false
set_option maxRecDepth 10000
open Go.RowKit Go.Sort

/-- A row put in. -/
def putR (ys : List Rw) (k : Nat) (x : Rw) : List Rw := ys.take k ++ [x] ++ ys.drop k
theorem putR_sorted {xs ys : List Rw} {k : Nat} {x : Rw} (h : Sd xs ys) (hk : k ≤ ys.length) (hA : k = 0 ∨ ¬ LR x ys[k - 1]!) (hB : k = ys.length ∨ LR x ys[k]!) : Sd (xs ++ [x]) (putR ys k x) := by
  have hs := h.1
  rw [← List.take_append_drop k ys] at hs
  obtain ⟨s1, s2, s3⟩ := hs.part
  have hlow : ∀ a ∈ ys.take k, ¬ LR x a := fun a ha => by
    obtain ⟨j, hj, rfl⟩ := List.getElem_of_mem ha
    rw [List.length_take] at hj
    rw [List.getElem_take]
    rcases hA with e | e
    · omega
    · by_cases ej : j = k - 1
      · subst ej
        rw [getElem!_pos ys (k - 1) (by omega)] at e
        exact e
      · have q := List.pairwise_iff_getElem.1 h.1 j (k - 1) (by omega) (by omega) (by omega)
        rw [getElem!_pos ys (k - 1) (by omega)] at e
        exact LR_not_trans q e
  have hhigh : ∀ a ∈ ys.drop k, LR x a := fun a ha => by
    obtain ⟨j, hj, rfl⟩ := List.getElem_of_mem ha
    rw [List.length_drop] at hj
    rw [List.getElem_drop]
    rcases hB with e | e
    · omega
    · rw [getElem!_pos ys k (by omega)] at e
      by_cases ej : j = 0
      · subst ej; exact e
      · have q := List.pairwise_iff_getElem.1 h.1 k (k + j) (by omega) (by omega) (by omega)
        exact LR_lt_not e q
  refine ⟨Sl.join (Sl.join s1 (Sl_one x) ?_) s2 ?_, fun q => ?_⟩
  · intro a ha b hb
    rw [List.mem_singleton.1 hb]
    exact hlow a ha
  · intro a ha b hb
    rcases List.mem_append.1 ha with ha | ha
    · exact s3 a ha b hb
    · rw [List.mem_singleton.1 ha]
      exact LR_asymm (hhigh b hb)
  · have e1 := fil_turn q (ys.drop k) [x] (fun a ha b hb => by
      rw [List.mem_singleton.1 hb]
      exact hhigh a ha)
    unfold putR
    rw [List.append_assoc, fil_app, e1, ← fil_app, ← List.append_assoc, List.take_append_drop, fil_app, fil_app, h.2]
theorem putR_len {ys : List Rw} {k : Nat} {x : Rw} (hk : k ≤ ys.length) : (putR ys k x).length = ys.length + 1 := by
  unfold putR
  simp
  omega
theorem rowCs_app (a b : List Rw) : rowCs (a ++ b) = rowCs a ++ rowCs b := by simp [rowCs]
theorem own_prefix {W : World} {B n k g c : Nat} {ys : List Rw} (h : W.ownsRow B 59 3 (.slice (some ⟨g, 0, none⟩) n c) n (rowCs ys)) (hn : ys.length = n) (hk : k ≤ n) :
    W.ownsRow B 59 3 (.slice (some ⟨g, 0, none⟩) k c) k (rowCs (ys.take k)) := by
  refine ⟨by rw [rowCs_len3, List.length_take]; omega, .inr ?_⟩
  rcases h.2 with ⟨h1, -⟩ | ⟨g', cap, cur, hv, hg, hh, hc, hm, hsz, hcur⟩
  · cases h1
  · injection hv with e1 e2 e3
    injection e1 with e1
    injection e1 with e1
    subst e1 e3
    refine ⟨g, c, cur, rfl, hg, hh, by omega, hm, hsz, ?_⟩
    have e : rowCs ys = rowCs (ys.take k) ++ rowCs (ys.drop k) := by rw [← rowCs_app, List.take_append_drop]
    have h2 : (cur.toList.take (n * 3)).take (k * 3) = (rowCs ys).take (k * 3) := by rw [hcur]
    rw [List.take_take, Nat.min_eq_left (by omega)] at h2
    rw [h2, e, List.take_append_of_le_length (by rw [rowCs_len3, List.length_take]; omega), List.take_of_length_le (by rw [rowCs_len3, List.length_take]; omega)]
theorem run_append_ty (w : World) (t ty ty' : TypeId) (v x : Value) : (Builtin.append_ #[t, t] ty #[v, x]).run Tryd.prog w = (Builtin.append_ #[t, t] ty' #[v, x]).run Tryd.prog w := rfl
theorem own_form {W : World} {B n : Nat} {v : Value} {l : List Value} (h : W.ownsRow B 59 3 v n l) (hn : 0 < n) : ∃ g c, v = .slice (some ⟨g, 0, none⟩) n c ∧ n ≤ c ∧ B ≤ g ∧ g < W.heap.size := by
  rcases h.2 with ⟨-, h0⟩ | ⟨g, cap, cur, hv, hg, hh, hc, -⟩
  · omega
  · exact ⟨g, cap, hv, hc, hg, (Array.getElem?_eq_some_iff.1 hh).1⟩
theorem app_rows (w : World) (base : Nat) (v : Value) (n : Nat) (ys : List Rw) (hown : w.ownsRow base 59 3 v n (rowCs ys)) (ad : Addr) (m c : Nat) (zs : List Rw) (hz : zs.length = m)
    (hc : ∀ j u, (rowCs zs)[j]? = some u → w.cell? (ad.add j) = some u) (hm : n + m ≤ 1000000000) (hb : base ≤ w.heap.size) {N : Nat} (hN : n + m = N) :
    ∃ v' w', (∀ ty, (Builtin.append_ #[23, 23] ty #[v, .slice (some ad) m c]).run Tryd.prog w = .ok v' w') ∧ w'.ownsRow base 59 3 v' N (rowCs (ys ++ zs)) ∧ w.grownBy w' v.ownBlock := by
  subst hN
  obtain ⟨i0, hi, hz0, hz1, hz2⟩ := info_parts infoS_row
  obtain ⟨v', w', hr, h2, h3, -⟩ := run_append_own_at (P := Tryd.prog) w base 23 0 59 i0 _ 3 32 Tryd.underlying23 hi hz0 hz1 hz2 rfl (by decide) v n (rowCs ys) hown ad m c (rowCs zs) (by rw [rowCs_len3, hz]) hc (rowCs_one zs)
    (by unfold maxLen; omega) (by omega) hb
  rw [← rowCs_app] at h2
  exact ⟨v', w', fun ty => (run_append_ty w 23 ty 0 v _).trans hr, h2, h3⟩
theorem app_none (w : World) (v : Value) (n c : Nat) (hv : v = .slice none 0 0 ∨ ∃ g cap, v = .slice (some ⟨g, 0, none⟩) n cap ∧ n ≤ cap) (ty : TypeId) :
    (Builtin.append_ #[23, 23] ty #[v, .slice none 0 c]).run Tryd.prog w = .ok v w := by
  obtain ⟨i0, hi, hz0, hz1, hz2⟩ := info_parts infoS_row
  rcases hv with rfl | ⟨g, cap, rfl, hc⟩
  · simp [Builtin.append_, Builtin.lenOf, Builtin.firstCells, run_underlying Tryd.underlying23, sizeOf, typeInfo, hi, hz1]
  · simp [Builtin.append_, Builtin.lenOf, Builtin.firstCells, run_underlying Tryd.underlying23, sizeOf, typeInfo, hi, hz1, hc, storeCells]
theorem app_own (w : World) (base b2 : Nat) (v vx : Value) (n m : Nat) (ys zs : List Rw) (hown : w.ownsRow base 59 3 v n (rowCs ys)) (hx : w.ownsRow b2 59 3 vx m (rowCs zs))
    (hm : n + m ≤ 1000000000) (hb : base ≤ w.heap.size) {N : Nat} (hN : n + m = N) :
    ∃ v' w', (∀ ty, (Builtin.append_ #[23, 23] ty #[v, vx]).run Tryd.prog w = .ok v' w') ∧ w'.ownsRow base 59 3 v' N (rowCs (ys ++ zs)) ∧ w.grownBy w' v.ownBlock := by
  have hzl : zs.length = m := by
    have := hx.1
    rw [rowCs_len3] at this
    omega
  rcases hx.2 with ⟨rfl, h0⟩ | ⟨g, cap, cur, rfl, hg, hh, hc, hmx, hsz, hcur⟩
  · subst h0
    have e : zs = [] := List.eq_nil_of_length_eq_zero hzl
    subst e
    refine ⟨v, w, fun ty => app_none w v n 0 ?_ ty, ?_, World.grownBy.refl _ _⟩
    · rcases hown.2 with ⟨h1, -⟩ | ⟨g, cap, cur, h1, -, -, h2, -⟩
      · exact .inl h1
      · exact .inr ⟨g, cap, h1, h2⟩
    · rw [List.append_nil, ← hN, Nat.add_zero]
      exact hown
  · refine app_rows w base v n ys hown ⟨g, 0, none⟩ m cap zs hzl (fun j u hu => ?_) hm hb hN
    have e1 : (⟨g, 0, none⟩ : Addr).add j = ⟨g, j, none⟩ := by simp [Addr.add]; exact fun hj => hj.symm
    rw [e1, cell_of_row w g j cur _ _ hh]
    have hj : j < m * 3 := by
      have := (List.getElem?_eq_some_iff.1 hu).1
      rw [rowCs_len3] at this
      omega
    rw [← hcur, List.getElem?_take_of_lt hj] at hu
    rw [← hu]
    simp
theorem gtr_run (x y : Rw) (u : World) : (binOp .gtr 9 (.string y.id) (.string x.id)).run Tryd.prog u = .ok (.bool (ltR x y)) u := by
  have e : (Op.bytesLess y.id.toList x.id.toList || y.id.toList == x.id.toList) = !ltR x y := by
    by_cases h : LR x y
    · rw [show ltR x y = true from h, bless_no (LR_asymm h), other_id (x := y) (y := x) fun k => LR_irrefl y ((LR_same k.symm).1 h)]
      rfl
    · have h' : ltR x y = false := by cases hb : ltR x y with | false => rfl | true => exact absurd hb h
      rw [h']
      by_cases h2 : LR y x
      · rw [bless_yes h2]; rfl
      · rw [same_id (x := y) (y := x) (LR_key h2 h)]
        simp
  simp [binOp, Op.stringOp, e]
theorem wpList_run {ops : Array Oper} {rest : List Oper} {o : Oper} {a : Act} {w : World} {Q : Exit → Act → World → Prop} (hgd : o.guard = none) (s x : Operand) (t : TypeId)
    (ho : o.op = .call { callee := .builtin .append, args := #[s, x], argTypes := #[t, t] }) (v vx : Value) (hs : a.eval s = v) (hx : a.eval x = vx) (v' : Value) (w' : World)
    (hr : ∀ ty, (Builtin.append_ #[t, t] ty #[v, vx]).run Tryd.prog w = .ok v' w') (h : wpList Tryd.prog ops Q rest (a.put o.dst v') w') : wpList Tryd.prog ops Q (o :: rest) a w :=
  wpList_plain hgd fun K hK => by
    unfold Oper.wp execOp
    simp only [ho, resolve, invoke, builtin, Sem.run_bind, Sem.run_pure, Result.andThen_ok, List.map_toArray, List.map_cons, List.map_nil, hs, hx, hr o.type]
    exact hK _ _ h
theorem step_run {ops : Array Oper} {o : Oper} {a : Act} {w : World} {K : Act → World → Prop} {Q : Exit → Act → World → Prop} {E : Prop} (hgd : o.guard = none) (s x : Operand) (t : TypeId)
    (ho : o.op = .call { callee := .builtin .append, args := #[s, x], argTypes := #[t, t] }) (v vx : Value) (hs : a.eval s = v) (hx : a.eval x = vx) (v' : Value) (w' : World)
    (hr : ∀ ty, (Builtin.append_ #[t, t] ty #[v, vx]).run Tryd.prog w = .ok v' w') (h : K (a.put o.dst v') w') : if Region.wanted o (yielded ops a.tmps) = true then Oper.wp Tryd.prog o a w K Q else E := by
  have hw : Region.wanted o (yielded ops a.tmps) = true := by simp [Region.wanted, hgd]
  rw [if_pos hw]
  unfold Oper.wp execOp
  simp only [ho, resolve, invoke, builtin, Sem.run_bind, Sem.run_pure, Result.andThen_ok, List.map_toArray, List.map_cons, List.map_nil, hs, hx, hr o.type]
  exact h
theorem RwRow.zero2 {w : World} {B g : Nat} {l : List Rw} (h : RwRow w B (some ⟨g, 0, none⟩) l) {i : Nat} {x : Rw} (hx : l[i]? = some x) :
    g < B ∧ w.cell? ⟨g, i * 3, none⟩ = some (.string x.id) ∧ w.cell? ⟨g, i * 3 + 1, none⟩ = some (.int .u64 x.h) ∧ w.cell? ⟨g, i * 3 + 2, none⟩ = some (.int .u64 x.l) := by
  obtain ⟨ad, e, hl, c0, c1, c2⟩ := h i x hx
  injection e with e
  subst e
  have e1 : (⟨g, 0, none⟩ : Addr).add (i * 3) = ⟨g, i * 3, none⟩ := by simp [Addr.add]; exact fun hj => hj.symm
  rw [e1] at c0 c1 c2
  exact ⟨hl, c0, c1, c2⟩
theorem RwRow.some2 {w : World} {B : Nat} {ad : Addr} {l : List Rw} (h : RwRow w B (some ad) l) {i : Nat} {x : Rw} (hx : l[i]? = some x) : (ad.add (i * 3)).block < B ∧ RwAt w (ad.add (i * 3)) x := by
  obtain ⟨ad', e, hl, c⟩ := h i x hx
  injection e with e
  subst e
  exact ⟨by rw [o10_block]; exact hl, c⟩
set_option maxRecDepth 100000 in
set_option maxHeartbeats 4000000 in
theorem rsortref_any (A : Option Addr) (c : Nat) (xs : List Rw) (hm : xs.length ≤ 1000000) (w : World) (hR : RwRow w w.heap.size A xs) :
    Calls Tryd.prog 44 #[.slice A xs.length c] w fun e w' => ∃ v, e = .returned v ∧ ∃ ys, ys.length = xs.length ∧ w'.ownsRow w.heap.size 59 3 v ys.length (rowCs ys) ∧ Below w.heap.size w w' ∧ Sd xs ys := by
  obtain ⟨n, hn⟩ : ∃ n, xs.length = n := ⟨_, rfl⟩
  rw [hn]
  go_enter Tryd.func44, Tryd.ntmps44
  go_wp2
  go_loopg [3, 4] n (fun gk v vi wr => ∃ (i : Nat) (ys : List Rw), vi = .int .i64 i ∧ i ≤ n ∧ n - i ≤ gk ∧ ys.length = i ∧ ((i = 0 ∧ v = .slice none 0 0) ∨ (0 < i ∧ ∃ g c, v = .slice (some ⟨g, 0, none⟩) i c ∧ i ≤ c ∧ w.heap.size ≤ g ∧ g < wr.heap.size ∧ wr.ownsRow w.heap.size 59 3 v i (rowCs ys))) ∧ Below w.heap.size w wr ∧ Hid (Sd (xs.take i) ys))
  case atStart => exact ⟨0, [], by go_num, Nat.zero_le _, by omega, rfl, .inl ⟨rfl, rfl⟩, Below.refl _ _, ⟨List.Pairwise.nil, fun _ => rfl⟩⟩
  case round =>
    obtain ⟨i, ys, rfl, hin, hgk, hyl, hown, hb, hSd⟩ := hrel
    generalize wr = WO at *
    by_cases hlt : i < n
    · obtain ⟨x, hx⟩ : ∃ x, xs[i]? = some x := ⟨_, List.getElem?_eq_getElem (by omega)⟩
      obtain ⟨ad, hA, hadl, -⟩ := hR i x hx
      subst hA
      have htk : xs.take (i + 1) = xs.take i ++ [x] := by rw [List.take_add_one, hx]; rfl
      have HTK := hideIt htk
      clear htk
      rcases hown with ⟨hi0, hv⟩ | ⟨hi0, g, c2, hv, hc2, hgB, hgl, hown⟩
      · subst hi0 hv
        have hy0 : ys = [] := List.eq_nil_of_length_eq_zero hyl
        subst hy0
        have hlti : (0 : Int) < (n : Int) := by omega
        go_wp2
        go_loopg [5] 0 (fun g2 vk wq => vk = .int .i64 0 ∧ Below WO.heap.size WO wq)
        case atStart => exact ⟨by go_num, Below.refl _ _⟩
        case round =>
          obtain ⟨rfl, hbq⟩ := hrel
          go_upto_region 6 with fail
          go_quiet (fail)
          have hbw0 := hb.trans ((below_drewN hbq nq).mono hb.size)
          generalize wr.drewN nq = W at *
          go_upto_region 8 with fail
          have hbw := hbw0
          have HX := hideIt hx
          have HY := hideIt hyl
          have HB : Hid (0 = 0 ∨ LR x ([] : List Rw)[0]!) := Or.inl rfl
          have HA : Hid (0 = 0 ∨ ¬ LR x ([] : List Rw)[0 - 1]!) := Or.inl rfl
          obtain ⟨vr, w1, hr, hownr, hgr⟩ : ∃ vr w1, (∀ ty, (Builtin.append_ #[23, 23] ty #[.slice (some ⟨W.heap.size, 0, none⟩) 0 0, .slice none 0 0]).run Tryd.prog (W.alloc (.cells #[] 59)) = .ok vr w1) ∧ w1.ownsRow W.heap.size 59 3 vr (0 - 0) (rowCs (([] : List Rw).drop 0)) ∧
              (W.alloc (.cells #[] 59)).grownBy w1 (Value.slice (some ⟨W.heap.size, 0, none⟩) 0 0).ownBlock :=
            ⟨_, _, fun ty => app_none _ _ 0 0 (Or.inr ⟨_, _, rfl, Nat.le_refl _⟩) ty, ⟨rfl, .inr ⟨W.heap.size, 0, #[], rfl, Nat.le_refl _, Box.made W 59 #[], Nat.le_refl _, Nat.zero_le _, rfl, rfl⟩⟩, World.grownBy.refl _ _⟩
          have HP : W.ownsRow w.heap.size 59 3 (.slice none 0 0) 0 (rowCs (([] : List Rw).take 0)) := World.ownsRow_nil _ _ _ _
          go_upto_region 9 with (at_builtin; refine wpList_run rfl _ _ _ rfl _ _ rfl rfl vr w1 hr ?_)
          have L1 : Below W.heap.size W w1 := (chainA (Below.refl _ _) _).grown hgr (by simp) (fun k hk => by injection hk with hk; simp only at hk; omega)
          have hL1s := L1.size
          have hWs := hbw.size
          obtain ⟨x3, x0, x1, x2⟩ := (hR.call (hbw.trans (L1.mono hWs))).some2 HX.out
          have ea : ad.add (0 * 3) = ad := by simp [Addr.add]
          rw [ea] at x0 x1 x2 x3
          have x4 : ad.block < w1.heap.size := by omega
          have LU : Below W.heap.size W (w1.drew.alloc (.cells #[.string x.id, .int .u64 x.h, .int .u64 x.l] 59)) := (L1.drew).alloc (by show _ ≤ w1.heap.size; omega) _
          have BU := Box.made w1.drew 59 #[.string x.id, .int .u64 x.h, .int .u64 x.l]
          have LR1 : Below w1.heap.size w1 (w1.drew.alloc (.cells #[.string x.id, .int .u64 x.h, .int .u64 x.l] 59)) := ((Below.refl _ _).drew).alloc (Nat.le_refl _) _
          have cU : ∀ j u, (rowCs [x])[j]? = some u → (w1.drew.alloc (.cells #[.string x.id, .int .u64 x.h, .int .u64 x.l] 59)).cell? ((⟨w1.drew.heap.size, 0, none⟩ : Addr).add j) = some u := fun j u hu => cells_new4 w1.drew 59 x.cells j u (by simpa [rowCs] using hu)
          have hUs : (w1.drew.alloc (.cells #[.string x.id, .int .u64 x.h, .int .u64 x.l] 59)).heap.size = w1.heap.size + 1 := by rw [World.size_alloc]; rfl
          have hrU := own_below hownr LR1
          obtain ⟨va, wa, hra, howna, hga⟩ := app_rows (w1.drew.alloc (.cells #[.string x.id, .int .u64 x.h, .int .u64 x.l] 59)) w.heap.size (.slice none 0 0) 0 (([] : List Rw).take 0) (own_below HP LU) ⟨w1.drew.heap.size, 0, none⟩ 1 1 [x] rfl cU (by omega) (by omega) (N := 0 + 1) rfl
          have hrA := hrU.kept hga (by
            cases ho : vr.ownBlock with
            | none => exact .inl rfl
            | some q =>
              right
              have := (hownr.lt q ho).1
              intro e
              cases e)
          obtain ⟨vb, wb, hrb, hownb, hgb⟩ := app_own wa w.heap.size W.heap.size va vr (0 + 1) (0 - 0) (([] : List Rw).take 0 ++ [x]) (([] : List Rw).drop 0) howna hrA (by omega) (by have := hga.size; omega) (N := 0 + 1) (by omega)
          have LA : Below w.heap.size w wa := ((hbw.trans (LU.mono hWs))).grown hga (by omega) (fun k hk => (HP.lt k hk).1)
          have LB : Below w.heap.size w wb := LA.grown hgb (by have := hga.size; omega) (fun k hk => (howna.lt k hk).1)
          obtain ⟨g', c', hvb, hc', hgB', hgl'⟩ := own_form hownb (Nat.succ_pos _)
          subst hvb
          clear LA LU BU LR1 cU hrU hga hrA hgb howna hownr hgr
          have hnx : IntKind.i64.wrap ((0 : Nat) + 1 : Int) = ((0 + 1 : Nat) : Int) := by rw [IntKind.wrap_i64]; omega
          have hsd : Sd (xs.take (0 + 1)) (putR [] 0 x) := by
            rw [HTK.out]
            exact putR_sorted hSd.out (by have := HY.out; omega) HA.out (by
              have h1 := HB.out
              rcases h1 with h1 | h1
              · exact .inl (by have := HY.out; omega)
              · exact .inr h1)
          have HSD := hideIt hsd
          have hpl : (putR [] 0 x).length = 0 + 1 := by rw [putR_len (by have := HY.out; omega), HY.out]
          have HPL := hideIt hpl
          clear hsd hpl
          go_region_law (first
            | refine step_run rfl _ _ _ rfl _ _ rfl rfl va wa hra ?_
            | refine step_run rfl _ _ _ rfl _ _ rfl rfl _ wb hrb ?_)
          all_goals go_wp2
          all_goals go_roundg (n - (0 + 1))
          all_goals first
            | omega
            | exact ⟨0 + 1, putR [] 0 x, by go_num, by omega, Nat.le_refl _, HPL.out, .inr ⟨Nat.succ_pos _, g', c', rfl, hc', hgB', hgl', hownb⟩, LB, HSD⟩
      · have hlti : (i : Int) < (n : Int) := by omega
        have HX := hideIt hx
        have HY := hideIt hyl
        clear hx hyl
        subst hv
        have hRy : RwRow WO WO.heap.size (some ⟨g, 0, none⟩) ys := by
          have h1 := hown
          rw [← HY.out] at h1
          obtain ⟨A2, c3, h2, -, h3⟩ := rows_of_own h1
          injection h2 with h2
          rw [h2]
          exact h3
        go_wp2
        go_loopg [5] i (fun g2 vk wq => ∃ k : Nat, vk = .int .i64 k ∧ k ≤ i ∧ k ≤ g2 ∧ Below WO.heap.size WO wq ∧ Hid (k = i ∨ LR x ys[k]!))
        case atStart => exact ⟨i, by go_num, Nat.le_refl _, Nat.le_refl _, Below.refl _ _, Or.inl rfl⟩
        case round =>
          obtain ⟨k, rfl, hki, hg2, hbq, HB⟩ := hrel
          go_upto_region 6 with fail
          go_cut [5, 30] from 15 to 32 (fun s5 s30 wx => s5 = .int .i64 k ∧ ∃ bq : Bool, s30 = .bool bq ∧ Hid (bq = true → 0 < k ∧ LR x ys[k - 1]!) ∧ Hid (bq = false → k = 0 ∨ ¬ LR x ys[k - 1]!) ∧ Below WO.heap.size WO wx)
          case first =>
            obtain ⟨x3, x0, -, -⟩ := (hR.call (hb.trans (hbq.mono hb.size))).some2 HX.out
            have hbs := hbq.size
            have hbz := hb.size
            have x4 : (ad.add (i * 3)).block < wr.heap.size := by omega
            by_cases hk : 0 < k
            · have hki0 : (0 : Int) < (k : Int) := by omega
              obtain ⟨I, hI⟩ : ∃ I, k - 1 = I := ⟨_, rfl⟩
              have w1 : IntKind.i64.wrap ((k : Int) - 1) = (I : Int) := by rw [IntKind.wrap_i64]; omega
              have i2 : (I : Int) < (i : Int) := by omega
              have i3 : I < i := by omega
              obtain ⟨y, hy⟩ : ∃ y, ys[I]? = some y := ⟨_, List.getElem?_eq_getElem (by have := HY.out; omega)⟩
              have hyb : ys[I]! = y := by
                rw [at_bang (by have := HY.out; omega)] at hy
                injection hy
              obtain ⟨y3, y0, -, -⟩ := (hRy.call hbq).zero2 hy
              have hgw : g < wr.heap.size := by omega
              have HI := hideIt hI
              have HYB := hideIt hyb
              clear hI hyb hy
              by_cases hc : LR x y
              · have hq : ∀ u : World, (binOp .gtr 9 (.string y.id) (.string x.id)).run Tryd.prog u = .ok (.bool true) u := fun u => by rw [gtr_run, show ltR x y = true from hc]
                go_quiet (fail)
                go_wp2_with fail
                go_meet
                exact ⟨rfl, true, rfl, fun _ => ⟨hk, by rw [HI.out, HYB.out]; exact hc⟩, fun h => Bool.noConfusion h, below_drewN hbq _⟩
              · have hq : ∀ u : World, (binOp .gtr 9 (.string y.id) (.string x.id)).run Tryd.prog u = .ok (.bool false) u := fun u => by rw [gtr_run, show ltR x y = false by cases hb : ltR x y with | false => rfl | true => exact absurd hb hc]
                go_quiet (fail)
                go_wp2_with fail
                go_meet
                exact ⟨rfl, false, rfl, fun h => Bool.noConfusion h, fun _ => .inr (by rw [HI.out, HYB.out]; exact hc), below_drewN hbq _⟩
            · have hk0 : k = 0 := by omega
              go_quiet (fail)
              go_wp2_with fail
              go_meet
              exact ⟨by first | rfl | simp [hk0], false, rfl, fun h => Bool.noConfusion h, fun _ => .inl hk0, below_drewN hbq _⟩
          case rest =>
            obtain ⟨rfl, bq, rfl, HT, HF, hbq2⟩ := hcut
            generalize wc = W at *
            cases bq with
            | true =>
              obtain ⟨hk, hLR⟩ := HT.out (by rfl)
              have HL := hideIt hLR
              clear HT HF hLR
              obtain ⟨I, hI⟩ : ∃ I, k - 1 = I := ⟨_, rfl⟩
              have w1 : IntKind.i64.wrap ((k : Int) - 1) = (I : Int) := by rw [IntKind.wrap_i64]; omega
              have HI := hideIt hI
              clear hI
              go_wp2
              go_roundg I
              case measure => have := HI.out; omega
              case rel => exact ⟨I, rfl, by have := HI.out; omega, Nat.le_refl _, hbq2, Or.inr (by rw [← HI.out]; exact HL.out)⟩
            | false =>
              have HA := hideIt (HF.out (by rfl))
              clear HT HF
              go_upto_region 8 with fail
              have hbw := hb.trans (hbq2.mono hb.size)
              have HP := own_prefix (own_below hown hbq2) HY.out hki
              have hbs := hbq2.size
              have own0 : (W.alloc (.cells #[] 59)).ownsRow W.heap.size 59 3 (.slice (some ⟨W.heap.size, 0, none⟩) 0 0) 0 (rowCs []) :=
                ⟨rfl, .inr ⟨W.heap.size, 0, #[], rfl, Nat.le_refl _, Box.made W 59 #[], Nat.le_refl _, Nat.zero_le _, rfl, rfl⟩⟩
              have hdc : ∀ j u, (rowCs (ys.drop k))[j]? = some u → (W.alloc (.cells #[] 59)).cell? ((⟨g, k * 3, none⟩ : Addr).add j) = some u := fun j u hu => by
                have h1 := (hRy.call (chainA hbq2 (.cells #[] 59))).cells (k * 3 + j) u (by
                  have e : rowCs ys = rowCs (ys.take k) ++ rowCs (ys.drop k) := by rw [← rowCs_app, List.take_append_drop]
                  rw [e, List.getElem?_append_right (by rw [rowCs_len3, List.length_take]; have := HY.out; omega), rowCs_len3, List.length_take, Nat.min_eq_left (by have := HY.out; omega), Nat.add_sub_cancel_left]
                  exact hu)
                rw [← o10_add] at h1
                have e1 : (⟨g, 0, none⟩ : Addr).add (k * 3) = ⟨g, k * 3, none⟩ := by simp [Addr.add]; exact fun hj => hj.symm
                rw [e1] at h1
                exact h1
              have hdl : (ys.drop k).length = i - k := by rw [List.length_drop, HY.out]
              by_cases hck : c2 = k
              · subst hck
                have hik : i - c2 = 0 := by omega
                have hd0 : ys.drop c2 = [] := List.eq_nil_of_length_eq_zero (by rw [hdl, hik])
                obtain ⟨vr, w1, hr, hownr, hgr⟩ := app_rows (W.alloc (.cells #[] 59)) W.heap.size (.slice (some ⟨W.heap.size, 0, none⟩) 0 0) 0 [] own0 ⟨g, 0, none⟩ 0 0 [] rfl (fun j u hu => by simp [rowCs] at hu) (by omega) (by simp) (N := i - c2) (by omega)
                rw [List.nil_append, ← hd0] at hownr
                have hkc : c2 ≤ c2 := Nat.le_refl _
                clear hdc hd0
                go_upto_region 9 with (at_builtin; refine wpList_run rfl _ _ _ rfl _ _ rfl rfl vr w1 hr ?_)
                have L1 : Below W.heap.size W w1 := (chainA (Below.refl _ _) _).grown hgr (by simp) (fun k hk => by injection hk with hk; simp only at hk; omega)
                have hL1s := L1.size
                have hWs := hbw.size
                obtain ⟨x3, x0, x1, x2⟩ := (hR.call (hbw.trans (L1.mono hWs))).some2 HX.out
                have x4 : (ad.add (i * 3)).block < w1.heap.size := by omega
                have LU : Below W.heap.size W (w1.drew.alloc (.cells #[.string x.id, .int .u64 x.h, .int .u64 x.l] 59)) := (L1.drew).alloc (by show _ ≤ w1.heap.size; omega) _
                have BU := Box.made w1.drew 59 #[.string x.id, .int .u64 x.h, .int .u64 x.l]
                have LR1 : Below w1.heap.size w1 (w1.drew.alloc (.cells #[.string x.id, .int .u64 x.h, .int .u64 x.l] 59)) := ((Below.refl _ _).drew).alloc (Nat.le_refl _) _
                have cU : ∀ j u, (rowCs [x])[j]? = some u → (w1.drew.alloc (.cells #[.string x.id, .int .u64 x.h, .int .u64 x.l] 59)).cell? ((⟨w1.drew.heap.size, 0, none⟩ : Addr).add j) = some u := fun j u hu => cells_new4 w1.drew 59 x.cells j u (by simpa [rowCs] using hu)
                have hUs : (w1.drew.alloc (.cells #[.string x.id, .int .u64 x.h, .int .u64 x.l] 59)).heap.size = w1.heap.size + 1 := by rw [World.size_alloc]; rfl
                have hrU := own_below hownr LR1
                obtain ⟨va, wa, hra, howna, hga⟩ := app_rows (w1.drew.alloc (.cells #[.string x.id, .int .u64 x.h, .int .u64 x.l] 59)) w.heap.size (.slice (some ⟨g, 0, none⟩) c2 c2) c2 (ys.take c2) (own_below HP LU) ⟨w1.drew.heap.size, 0, none⟩ 1 1 [x] rfl cU (by omega) (by omega) (N := c2 + 1) rfl
                have hrA := hrU.kept hga (by
                  cases ho : vr.ownBlock with
                  | none => exact .inl rfl
                  | some q =>
                    right
                    have := (hownr.lt q ho).1
                    intro e
                    (injection e with e; simp only at e; omega))
                obtain ⟨vb, wb, hrb, hownb, hgb⟩ := app_own wa w.heap.size W.heap.size va vr (c2 + 1) (i - c2) (ys.take c2 ++ [x]) (ys.drop c2) howna hrA (by omega) (by have := hga.size; omega) (N := i + 1) (by omega)
                have LA : Below w.heap.size w wa := ((hbw.trans (LU.mono hWs))).grown hga (by omega) (fun k hk => (HP.lt k hk).1)
                have LB : Below w.heap.size w wb := LA.grown hgb (by have := hga.size; omega) (fun k hk => (howna.lt k hk).1)
                obtain ⟨g', c', hvb, hc', hgB', hgl'⟩ := own_form hownb (Nat.succ_pos _)
                subst hvb
                clear LA LU BU LR1 cU hrU hga hrA hgb howna hownr hgr
                have HK0 := hideIt hik
                clear hik
                have hnx : IntKind.i64.wrap ((i : Nat) + 1 : Int) = ((i + 1 : Nat) : Int) := by rw [IntKind.wrap_i64]; omega
                have hsd : Sd (xs.take (i + 1)) (putR ys c2 x) := by
                  rw [HTK.out]
                  exact putR_sorted hSd.out (by have := HY.out; omega) HA.out (by
                    have h1 := HB.out
                    rcases h1 with h1 | h1
                    · exact .inl (by have := HY.out; omega)
                    · exact .inr h1)
                have HSD := hideIt hsd
                have hpl : (putR ys c2 x).length = i + 1 := by rw [putR_len (by have := HY.out; omega), HY.out]
                have HPL := hideIt hpl
                clear hsd hpl
                go_region_law (first
                  | refine step_run rfl _ _ _ rfl _ _ rfl rfl va wa hra ?_
                  | refine step_run rfl _ _ _ rfl _ _ rfl rfl _ wb hrb ?_)
                all_goals go_wp2
                all_goals go_roundg (n - (i + 1))
                all_goals first
                  | omega
                  | exact ⟨i + 1, putR ys c2 x, by go_num, by omega, Nat.le_refl _, HPL.out, .inr ⟨Nat.succ_pos _, g', c', rfl, hc', hgB', hgl', hownb⟩, LB, HSD⟩
              · obtain ⟨vr, w1, hr, hownr, hgr⟩ := app_rows (W.alloc (.cells #[] 59)) W.heap.size (.slice (some ⟨W.heap.size, 0, none⟩) 0 0) 0 [] own0 ⟨g, k * 3, none⟩ (i - k) (c2 - k) (ys.drop k) hdl hdc (by omega) (by simp) (N := i - k) (Nat.zero_add _)
                rw [List.nil_append] at hownr
                go_upto_region 9 with (at_builtin; refine wpList_run rfl _ _ _ rfl _ _ rfl rfl vr w1 hr ?_)
                have L1 : Below W.heap.size W w1 := (chainA (Below.refl _ _) _).grown hgr (by simp) (fun k hk => by injection hk with hk; simp only at hk; omega)
                have hL1s := L1.size
                have hWs := hbw.size
                obtain ⟨x3, x0, x1, x2⟩ := (hR.call (hbw.trans (L1.mono hWs))).some2 HX.out
                have x4 : (ad.add (i * 3)).block < w1.heap.size := by omega
                have LU : Below W.heap.size W (w1.drew.alloc (.cells #[.string x.id, .int .u64 x.h, .int .u64 x.l] 59)) := (L1.drew).alloc (by show _ ≤ w1.heap.size; omega) _
                have BU := Box.made w1.drew 59 #[.string x.id, .int .u64 x.h, .int .u64 x.l]
                have LR1 : Below w1.heap.size w1 (w1.drew.alloc (.cells #[.string x.id, .int .u64 x.h, .int .u64 x.l] 59)) := ((Below.refl _ _).drew).alloc (Nat.le_refl _) _
                have cU : ∀ j u, (rowCs [x])[j]? = some u → (w1.drew.alloc (.cells #[.string x.id, .int .u64 x.h, .int .u64 x.l] 59)).cell? ((⟨w1.drew.heap.size, 0, none⟩ : Addr).add j) = some u := fun j u hu => cells_new4 w1.drew 59 x.cells j u (by simpa [rowCs] using hu)
                have hUs : (w1.drew.alloc (.cells #[.string x.id, .int .u64 x.h, .int .u64 x.l] 59)).heap.size = w1.heap.size + 1 := by rw [World.size_alloc]; rfl
                have hrU := own_below hownr LR1
                obtain ⟨va, wa, hra, howna, hga⟩ := app_rows (w1.drew.alloc (.cells #[.string x.id, .int .u64 x.h, .int .u64 x.l] 59)) w.heap.size (.slice (some ⟨g, 0, none⟩) k c2) k (ys.take k) (own_below HP LU) ⟨w1.drew.heap.size, 0, none⟩ 1 1 [x] rfl cU (by omega) (by omega) (N := k + 1) rfl
                have hrA := hrU.kept hga (by
                  cases ho : vr.ownBlock with
                  | none => exact .inl rfl
                  | some q =>
                    right
                    have := (hownr.lt q ho).1
                    intro e
                    (injection e with e; simp only at e; omega))
                obtain ⟨vb, wb, hrb, hownb, hgb⟩ := app_own wa w.heap.size W.heap.size va vr (k + 1) (i - k) (ys.take k ++ [x]) (ys.drop k) howna hrA (by omega) (by have := hga.size; omega) (N := i + 1) (by omega)
                have LA : Below w.heap.size w wa := ((hbw.trans (LU.mono hWs))).grown hga (by omega) (fun k hk => (HP.lt k hk).1)
                have LB : Below w.heap.size w wb := LA.grown hgb (by have := hga.size; omega) (fun k hk => (howna.lt k hk).1)
                obtain ⟨g', c', hvb, hc', hgB', hgl'⟩ := own_form hownb (Nat.succ_pos _)
                subst hvb
                clear LA LU BU LR1 cU hrU hga hrA hgb howna hownr hgr
                have hkc : k ≤ c2 := by omega
                have hnx : IntKind.i64.wrap ((i : Nat) + 1 : Int) = ((i + 1 : Nat) : Int) := by rw [IntKind.wrap_i64]; omega
                have hsd : Sd (xs.take (i + 1)) (putR ys k x) := by
                  rw [HTK.out]
                  exact putR_sorted hSd.out (by have := HY.out; omega) HA.out (by
                    have h1 := HB.out
                    rcases h1 with h1 | h1
                    · exact .inl (by have := HY.out; omega)
                    · exact .inr h1)
                have HSD := hideIt hsd
                have hpl : (putR ys k x).length = i + 1 := by rw [putR_len (by have := HY.out; omega), HY.out]
                have HPL := hideIt hpl
                clear hsd hpl
                go_region_law (first
                  | refine step_run rfl _ _ _ rfl _ _ rfl rfl va wa hra ?_
                  | refine step_run rfl _ _ _ rfl _ _ rfl rfl _ wb hrb ?_)
                all_goals go_wp2
                all_goals go_roundg (n - (i + 1))
                all_goals first
                  | omega
                  | exact ⟨i + 1, putR ys k x, by go_num, by omega, Nat.le_refl _, HPL.out, .inr ⟨Nat.succ_pos _, g', c', rfl, hc', hgB', hgl', hownb⟩, LB, HSD⟩
    · have hlti : ¬ (i : Int) < (n : Int) := by omega
      have hie : i = n := by omega
      have HIE := hideIt hie
      clear hie
      rcases hown with ⟨hi0, hv⟩ | ⟨hi0, g, c2, hv, hc2, hgB, hgl, hown⟩
      · subst hv
        have HI0 := hideIt hi0
        clear hi0
        go_wp2
        go_ret
        have h0 := HI0.out
        have h1 := HIE.out
        have hy0 : ys = [] := List.eq_nil_of_length_eq_zero (by omega)
        have h2 := hSd.out
        rw [List.take_of_length_le (by omega)] at h2
        subst hy0
        exact ⟨_, rfl, [], by simp; omega, World.ownsRow_nil _ _ _ _, hb, h2⟩
      · subst hv
        go_wp2
        go_ret
        have h1 := HIE.out
        have h2 := hSd.out
        rw [List.take_of_length_le (by omega)] at h2
        exact ⟨_, rfl, ys, by omega, by rw [hyl]; exact hown, hb, h2⟩
end Go.Proofs.YtngofpdpangajaaDoor
