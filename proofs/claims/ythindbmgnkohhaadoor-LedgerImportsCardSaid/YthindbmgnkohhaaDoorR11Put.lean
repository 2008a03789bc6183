/-
  paymasterref11's most, Total and put, walked.
-/
import Derived.Test.YthindbmgnkohhaaDoorM11Pln
import Derived.Test.YthindbmgnkohhaaDoorU11Find
import Derived.Test.YthindbmgnkohhaaDoorM11Jdg
import Derived.Test.YthindbmgnkohhaaDoorM1Ref
namespace Go.Proofs.YthindbmgnkohhaaDoor
set_option linter.unusedVariables false
set_option linter.unusedSimpArgs false
set_option maxRecDepth 10000
open Go.RowKit Go.Sort

theorem pow_small {k : Nat} (h : k ≤ 10) : 2 ^ k ≤ 1024 := (Nat.pow_le_pow_right (by omega) h : 2 ^ k ≤ 2 ^ 10)
set_option maxRecDepth 100000 in
set_option maxHeartbeats 2000000 in
theorem rmost_any (h : Nat) (hh : h ≤ 10) (w : World) : Calls Tryd.prog 29 #[.int .i64 (h : Int)] w (Plain (.int .i64 ((2 ^ h : Nat) : Int)) w) := by
  go_enter Tryd.func29, Tryd.ntmps29
  go_wp2
  go_loopg [3, 4] h (fun gk v i wr => ∃ (k M : Nat), k ≤ h ∧ h - k ≤ gk ∧ i = .int .i64 (k : Int) ∧ v = .int .i64 (M : Int) ∧ Hid (2 ^ k = M) ∧ M ≤ 1024 ∧ wr = w)
  case atStart => exact ⟨0, 1, Nat.zero_le _, Nat.le_refl _, rfl, by go_num, rfl, by omega, rfl⟩
  case round =>
    obtain ⟨k, M, hk, hgk, rfl, rfl, HM, hM, hw⟩ := hrel
    subst hw
    have HG := hideIt hgk
    clear hgk
    by_cases hlt : k < h
    · have hlti : (k : Int) < (h : Int) := by omega
      have w1 : IntKind.i64.wrap ((k : Int) + 1) = ((k + 1 : Nat) : Int) := by rw [IntKind.wrap_i64]; omega
      have w2 : IntKind.i64.wrap (2 * (M : Int)) = ((2 * M : Nat) : Int) := by rw [IntKind.wrap_i64]; omega
      have h3 : 2 ^ (k + 1) = 2 * M := by rw [Nat.pow_succ, HM.out]; omega
      have h4 := pow_small (k := k + 1) (by omega)
      rw [h3] at h4
      have H3 := hideIt h3
      clear h3
      go_wp2
      go_roundg (h - (k + 1))
      case measure => have := HG.out; omega
      case rel => exact ⟨k + 1, 2 * M, by omega, Nat.le_refl _, by go_num, by go_num, H3, h4, rfl⟩
    · have e : k = h := by omega
      subst e
      have hm := HM.out
      have hlti : ¬ ((k : Int) < (k : Int)) := by omega
      rw [hm]
      go_wp2
      go_ret
      exact ⟨rfl, rfl⟩
theorem sumR_take {l : List Rw} {k : Nat} {x : Rw} (hx : l[k]? = some x) : sumR (l.take (k + 1)) = sumR (l.take k) + nv x.h x.l := by rw [take_succ_at hx, sumR_snoc]
theorem sumR_split (l : List Rw) (k : Nat) : sumR l = sumR (l.take k) + sumR (l.drop k) := by rw [← sumR_app, List.take_append_drop]
theorem sumR_stop {l : List Rw} (hl : ∀ x ∈ l, x.ok) {k : Nat} (h : room (sumR (l.take k)) = false) : room (sumR l) = false := by
  have h1 := room_not.1 h
  have h2 := sumR_nonneg (l := l.take k) fun x hx => hl x (List.mem_of_mem_take hx)
  have h3 := sumR_nonneg (l := l.drop k) fun x hx => hl x (List.mem_of_mem_drop hx)
  have h4 := sumR_split l k
  exact room_not.2 (by omega)
/-- What Total tells. -/
def totE (l : List Rw) : Int := if room (sumR l) = true then 0 else 112
set_option maxRecDepth 100000 in
set_option maxHeartbeats 8000000 in
theorem rtotal_any (A : Option Addr) (c : Nat) (xs : List Rw) (hx : ∀ x ∈ xs, x.ok) (hm : xs.length ≤ 1000000) (w : World) (hR : RwRow w w.heap.size A xs) :
    Calls Tryd.prog 53 #[.slice A xs.length c] w (Tells (.tuple #[.agg #[.int .u64 (rh (sumR xs)), .int .u64 (rl (sumR xs))], .int .i64 (totE xs)]) w.heap.size w) := by
  have B0 : Box ((w.alloc (.cells #[.int .u64 0, .int .u64 0] 45)).alloc (.cells #[.int .u64 0, .int .u64 0] 45)) w.heap.size 45 #[.int .u64 0, .int .u64 0] := (Box.made w _ _).past _
  have B1 : Box ((w.alloc (.cells #[.int .u64 0, .int .u64 0] 45)).alloc (.cells #[.int .u64 0, .int .u64 0] 45)) (w.heap.size + 1) 45 #[.int .u64 0, .int .u64 0] := by
    have := Box.made (w.alloc (.cells #[.int .u64 0, .int .u64 0] 45)) 45 #[.int .u64 0, .int .u64 0]
    simpa using this
  have L1 : Below w.heap.size w ((w.alloc (.cells #[.int .u64 0, .int .u64 0] 45)).alloc (.cells #[.int .u64 0, .int .u64 0] 45)) := by repeat (first | exact Below.refl _ _ | apply Below.drew | apply below_drewN | refine Below.alloc ?_ (by simp; try omega) _ | refine Below.setCell ?_ (by simp; try omega) _)
  go_enter Tryd.func53, Tryd.ntmps53
  go_wp2
  generalize (w.alloc (.cells #[.int .u64 0, .int .u64 0] 45)).alloc (.cells #[.int .u64 0, .int .u64 0] 45) = W at *
  go_loopg [5] xs.length (fun gk i wr => ∃ k : Nat, k ≤ xs.length ∧ gk = xs.length - k ∧ i = .int .i64 k ∧ room (sumR (xs.take k)) = true ∧ Box wr w.heap.size 45 #[.int .u64 0, .int .u64 0] ∧
    Box wr (w.heap.size + 1) 45 #[.int .u64 (rh (sumR (xs.take k))), .int .u64 (rl (sumR (xs.take k)))] ∧ Below w.heap.size w wr)
  case atStart => exact ⟨0, by omega, rfl, rfl, by rw [List.take_zero]; decide, B0, B1, L1⟩
  case round =>
    obtain ⟨k, hk, rfl, rfl, hroom, hb0, hb1, hbel⟩ := hrel
    by_cases hlt : k < xs.length
    · obtain ⟨x, hx1⟩ : ∃ x, xs[k]? = some x := ⟨_, List.getElem?_eq_getElem hlt⟩
      obtain ⟨ad, rfl, had, -, c0, c1⟩ := (hR.call hbel) k x hx1
      obtain ⟨m0, m1, m2⟩ := hb1.num
      have e1 := sumR_take hx1
      obtain ⟨w1, w2⟩ := hx x (List.mem_of_getElem? hx1)
      have E1 := hideIt e1
      have HR := hideIt hroom
      clear e1 hroom hx1
      have hv := nv_r HR.out
      have cA := fun u : World => radd_any (rh (sumR (xs.take k))) (rl (sumR (xs.take k))) x.h x.l (rh_word _) (rl_word _) w1 w2 u
      rw [hv, ← E1.out] at cA
      clear hv
      have i0' : (0 : Int) ≤ (k : Int) := by omega
      have i1' : (k : Int) < (xs.length : Int) := by omega
      have hbB := hbel.size
      have hblk : (ad.add (k * 3)).block < wr.heap.size := by rw [o10_block]; omega
      obtain ⟨S, hS⟩ : ∃ S, sumR (xs.take k) = S := ⟨_, rfl⟩
      obtain ⟨T, hT⟩ : ∃ T, sumR (xs.take (k + 1)) = T := ⟨_, rfl⟩
      rw [hS, hT] at cA
      rw [hS] at hb1 m0 m1
      have HT := hideIt hT
      clear hS hT
      have cA := fun u : World => (cA u).mono fun e w' (hf : Fit _ _ _ _ _) => (⟨hf.1, hf.2⟩ : e = .returned (.tuple #[.agg #[.int .u64 (rh T), .int .u64 (rl T)], .int .i64 (re T)]) ∧ Below u.heap.size u w')
      generalize hth : rh T = th at *
      generalize htl : rl T = tl at *
      generalize hte : re T = te at *
      go_upto_region 5 with fail
      go_cut [6, 7] (fun s6 s7 wx => ∃ g, s6 = .pointer (some ⟨g, 0, none⟩) ∧ s7 = .int .i64 te ∧ Box wx g 45 #[.int .u64 th, .int .u64 tl] ∧ Below wr.heap.size wr wx)
      case first =>
        go_region_held3 (fun w' => Below wr.heap.size wr w' ∧ w'.cell? ⟨w.heap.size + 1, 0, none⟩ = some (.int .u64 (rh S)) ∧ w'.cell? ⟨w.heap.size + 1, 1, none⟩ = some (.int .u64 (rl S)) ∧
            w'.cell? ⟨(ad.add (k * 3)).block, (ad.add (k * 3)).off + 1, none⟩ = some (.int .u64 x.h) ∧ w'.cell? ⟨(ad.add (k * 3)).block, (ad.add (k * 3)).off + 2, none⟩ = some (.int .u64 x.l))
          (exact (fun (hb : Below wr.heap.size wr _) => ⟨hb, (hb1.call hb).read 0, (hb1.call hb).read 1, (hb.cell (p := ⟨(ad.add (k * 3)).block, (ad.add (k * 3)).off + 1, none⟩) hblk).trans c0, (hb.cell (p := ⟨(ad.add (k * 3)).block, (ad.add (k * 3)).off + 2, none⟩) hblk).trans c1⟩)
            (by repeat (first
              | exact Below.refl _ _
              | exact chain (by repeat (first | exact Below.refl _ _ | apply Below.drew | refine Below.alloc ?_ (by simp) _)) hb3
              | apply Below.drew
              | refine Below.alloc ?_ (by first | exact Nat.le_refl _ | (have := hb3.size; simp at this ⊢; omega)) _
              | refine Below.setCell ?_ (by first | exact Nat.le_refl _ | (have := hb3.size; simp at this ⊢; omega)) _)))
          (first
            | (go_at_call 76; ((with_reducible refine (cA _).mono ?_); rintro e w3 ⟨rfl, hb3⟩)
               first
                 | (have G3 := ((Box.made wr 45 #[.int .u64 0, .int .u64 0]).draw).call hb3
                    obtain ⟨g1, g2, g3⟩ := G3.num
                    have g4 := G3.free 0
                    have g5 := G3.free 1)
                 | (have G3 := (Box.made wr.drew 45 #[.int .u64 0, .int .u64 0]).call hb3
                    obtain ⟨g1, g2, g3⟩ := G3.num
                    have g4 := G3.free 0
                    have g5 := G3.free 1)
                 | skip))
        all_goals go_wp2_with fail
        all_goals go_meet
        · exact ⟨_, rfl, rfl, Box.made _ _ _, by
            repeat (first
              | exact Below.refl _ _
              | exact chain (by repeat (first | exact Below.refl _ _ | apply Below.drew | refine Below.alloc ?_ (by simp) _)) hb3
              | apply Below.drew
              | refine Below.alloc ?_ (by first | exact Nat.le_refl _ | (have := hb3.size; simp at this ⊢; omega)) _)⟩
        · exact ⟨_, rfl, rfl, (G3.wrote 0 _).wrote 1 _, by
            repeat (first
              | exact Below.refl _ _
              | exact chain (by repeat (first | exact Below.refl _ _ | apply Below.drew | refine Below.alloc ?_ (by simp) _)) hb3
              | apply Below.drew
              | refine Below.setCell ?_ (by first | exact Nat.le_refl _ | (have := hb3.size; simp at this ⊢; omega)) _)⟩
      case rest =>
        obtain ⟨g, rfl, rfl, hbx, hbl⟩ := hcut
        have P2 := hb0.call hbl
        have Q2 := hb1.call hbl
        have L2 := chain hbel hbl
        obtain ⟨n0, n1, n2⟩ := P2.num
        obtain ⟨q0, q1, q2⟩ := Q2.num
        have f0 := P2.free 0
        have f1 := P2.free 1
        have g0 := Q2.free 0
        have g1 := Q2.free 1
        obtain ⟨x0, x1, x2⟩ := hbx.num
        clear c0 c1 m0 m1 m2
        cases hr2 : room T with
        | false =>
          have hno := sumR_stop hx (k := k + 1) (by rw [HT.out]; exact hr2)
          have e0 : totE xs = 112 := by unfold totE; rw [hno]; rfl
          have h1 : rh (sumR xs) = 0 := rh_no hno
          have h2 : rl (sumR xs) = 0 := rl_no hno
          have h3 : te = 10 := by rw [← hte, re_no hr2]
          have HH1 := hideIt h1
          have HH2 := hideIt h2
          have HE0 := hideIt e0
          clear hno h1 h2 e0 hr2 hth htl hte
          subst h3
          go_wp2
          have P3 := box2_put P2 (.int .u64 0) (.int .u64 0)
          exact bodyPost_ret (v := .tuple #[.agg #[.int .u64 0, .int .u64 0], .int .i64 112]) (by simp [results, Tryd.results53, go_sem, P3.read 0, P3.read 1]) rfl
            ⟨by rw [HH1.out, HH2.out, HE0.out], (L2.setCell (by simp) _).setCell (by simp) _⟩
        | true =>
          have h3 : te = 0 := by rw [← hte, re_yes hr2]
          have HN := hideIt hr2
          have HTH := hideIt hth
          have HTL := hideIt htl
          clear hr2 hth htl hte
          subst h3
          go_wp2
          go_roundg (xs.length - (k + 1))
          case measure => omega
          case rel =>
            refine ⟨k + 1, by omega, rfl, by go_num, by rw [HT.out]; exact HN.out, (P2.apart (by simp) _).apart (by simp) _, ?_, (L2.setCell (by simp) _).setCell (by simp) _⟩
            rw [HT.out, HTH.out, HTL.out]
            exact box2_put Q2 _ _
    · have e : k = xs.length := by omega
      subst e
      rw [List.take_length] at hroom hb1
      have e0 : totE xs = 0 := by unfold totE; rw [hroom]; rfl
      have HE0 := hideIt e0
      obtain ⟨m0, m1, m2⟩ := hb1.num
      have f0 := hb0.free 0
      have f1 := hb0.free 1
      obtain ⟨n0, n1, n2⟩ := hb0.num
      clear hroom e0
      go_wp2
      exact bodyPost_ret (v := .tuple #[.agg #[.int .u64 (rh (sumR xs)), .int .u64 (rl (sumR xs))], .int .i64 0]) (by simp [results, Tryd.results53, go_sem, (box2_put hb0 (.int .u64 (rh (sumR xs))) (.int .u64 (rl (sumR xs)))).read 0, (box2_put hb0 (.int .u64 (rh (sumR xs))) (.int .u64 (rl (sumR xs)))).read 1]) rfl
        ⟨by rw [HE0.out], (hbel.setCell (by simp) _).setCell (by simp) _⟩
/-- append of rows to a row of the call's own: a row that lies anywhere, an empty one too. -/
theorem app_gen (w : World) (base : Nat) (v : Value) (n : Nat) (ys : List Rw) (hown : w.ownsRow base 50 3 v n (rowCs ys)) (X : Option Addr) (m c : Nat) (zs : List Rw) (hz : zs.length = m) (hX : X = none → c = 0) (hr : RwRow w w.heap.size X zs)
    (hm : n + m ≤ 1000000) (hb : base ≤ w.heap.size) :
    ∃ v' w', (∀ ty, (Builtin.append_ #[23, 23] ty #[v, .slice X m c]).run Tryd.prog w = .ok v' w') ∧ w'.ownsRow base 50 3 v' (n + m) (rowCs (ys ++ zs)) ∧ w.grownBy w' v.ownBlock ∧ (v'.ownBlock = v.ownBlock ∨ v'.ownBlock = some w.heap.size) := by
  cases X with
  | none =>
    have e : zs = [] := by
      cases zs with
      | nil => rfl
      | cons z r => obtain ⟨ad, e, -⟩ := hr 0 z rfl; cases e
    subst e
    have hm0 : m = 0 := hz.symm
    subst hm0
    have hc0 := hX rfl
    subst hc0
    refine ⟨v, w, fun ty => app_none w v n 0 ?_ ty, by simpa using hown, World.grownBy.refl _ _, .inl rfl⟩
    rcases hown.2 with ⟨h1, -⟩ | ⟨g, cap, cur, h1, -, -, h2, -⟩
    · exact .inl h1
    · exact .inr ⟨g, cap, h1, h2⟩
  | some ad =>
    obtain ⟨i0, hi, hz0, hz1, hz2⟩ := info_parts infoS_row
    obtain ⟨v', w', hrn, h2, h3, -, h4⟩ := run_append_own_at (P := Tryd.prog) w base 23 0 50 i0 _ 3 32 Tryd.underlying23 hi hz0 hz1 hz2 rfl (by decide) v n (rowCs ys) hown ad m c (rowCs zs) (by rw [rowCs_len3, hz]) hr.cells (rowCs_one zs) (by unfold maxLen; omega) (by omega) hb
    rw [← rowCs_app] at h2
    exact ⟨v', w', fun ty => (run_append_ty w 23 ty 0 v _).trans hrn, h2, h3, h4⟩
theorem step_rows {ops : Array Oper} {o : Oper} {a : Act} {w : World} {K : Act → World → Prop} {Q : Exit → Act → World → Prop} {E : Prop} (base : Nat) (hgd : o.guard = none) (s x : Operand)
    (ho : o.op = .call { callee := .builtin .append, args := #[s, x], argTypes := #[23, 23] })
    (v : Value) (n : Nat) (ys : List Rw) (hs : a.eval s = v) (X : Option Addr) (m c : Nat) (zs : List Rw) (hx : a.eval x = .slice X m c) (hz : zs.length = m) (hX : X = none → c = 0) (hm : n + m ≤ 1000000)
    (hown : w.ownsRow base 50 3 v n (rowCs ys)) (hr : RwRow w w.heap.size X zs) (hb : base ≤ w.heap.size)
    (hK : ∀ v' w', w'.ownsRow base 50 3 v' (n + m) (rowCs (ys ++ zs)) → w.grownBy w' v.ownBlock → (v'.ownBlock = v.ownBlock ∨ v'.ownBlock = some w.heap.size) → K (a.put o.dst v') w') : if Region.wanted o (yielded ops a.tmps) = true then Oper.wp Tryd.prog o a w K Q else E := by
  obtain ⟨v', w', hrn, h2, h3, h4⟩ := app_gen w base v n ys hown X m c zs hz hX hr hm hb
  exact step_run hgd s x _ ho v _ hs hx v' w' hrn (hK v' w' h2 h3 h4)
theorem wpl_rows {ops : Array Oper} {rest : List Oper} {o : Oper} {a : Act} {w : World} {Q : Exit → Act → World → Prop} (base : Nat) (hgd : o.guard = none) (s x : Operand)
    (ho : o.op = .call { callee := .builtin .append, args := #[s, x], argTypes := #[23, 23] })
    (v : Value) (n : Nat) (ys : List Rw) (hs : a.eval s = v) (X : Option Addr) (m c : Nat) (zs : List Rw) (hx : a.eval x = .slice X m c) (hz : zs.length = m) (hX : X = none → c = 0) (hm : n + m ≤ 1000000)
    (hown : w.ownsRow base 50 3 v n (rowCs ys)) (hr : RwRow w w.heap.size X zs) (hb : base ≤ w.heap.size)
    (hK : ∀ v' w', w'.ownsRow base 50 3 v' (n + m) (rowCs (ys ++ zs)) → w.grownBy w' v.ownBlock → (v'.ownBlock = v.ownBlock ∨ v'.ownBlock = some w.heap.size) → wpList Tryd.prog ops Q rest (a.put o.dst v') w') : wpList Tryd.prog ops Q (o :: rest) a w := by
  obtain ⟨v', w', hrn, h2, h3, h4⟩ := app_gen w base v n ys hown X m c zs hz hX hr hm hb
  exact wpList_run hgd s x _ ho v _ hs hx v' w' hrn (hK v' w' h2 h3 h4)
section
variable {W U U' : World} {C : World → Prop}
theorem hl_drew (fact : ∀ u, Below W.heap.size W u → C u) (h : Below W.heap.size W U ∧ C U) : Below W.heap.size W U.drew ∧ C U.drew := ⟨h.1.drew, fact _ h.1.drew⟩
theorem hl_past (fact : ∀ u, Below W.heap.size W u → C u) (h : Below W.heap.size W U ∧ C U) (o : Obj) : Below W.heap.size W (U.alloc o) ∧ C (U.alloc o) := ⟨chainA h.1 o, fact _ (chainA h.1 o)⟩
theorem hl_call (fact : ∀ u, Below W.heap.size W u → C u) (h : Below W.heap.size W U ∧ C U) (hb : Below U.heap.size U U') : Below W.heap.size W U' ∧ C U' := ⟨chain h.1 hb, fact _ (chain h.1 hb)⟩
theorem hl_grown (fact : ∀ u, Below W.heap.size W u → C u) (h : Below W.heap.size W U ∧ C U) {row : Option Nat} (hg : U.grownBy U' row) (hr : ∀ j, row = some j → W.heap.size ≤ j) : Below W.heap.size W U' ∧ C U' :=
  ⟨h.1.grown hg h.1.size hr, fact _ (h.1.grown hg h.1.size hr)⟩
theorem hl_swap (fact : ∀ u, Below W.heap.size W u → C u) {o : Obj} (h : Below W.heap.size W (U.alloc o) ∧ C (U.alloc o)) (o' : Obj) (hs : W.heap.size ≤ U.heap.size) : Below W.heap.size W (U.alloc o') ∧ C (U.alloc o') := by
  have hb : Below W.heap.size W U := ⟨h.1.os, h.1.tape, h.1.output, hs, fun k hk => (Below.heap_alloc U o k (by omega)).symm.trans (h.1.block k hk)⟩
  exact ⟨chainA hb o', fact _ (chainA hb o')⟩
theorem hl_set2 (fact : ∀ u, Below W.heap.size W u → C u) (h : Below W.heap.size W U ∧ C U) {g : Nat} (a b : Value) (hs : W.heap.size ≤ g) : Below W.heap.size W ((U.setCell ⟨g, 0, none⟩ a).setCell ⟨g, 1, none⟩ b) ∧ C ((U.setCell ⟨g, 0, none⟩ a).setCell ⟨g, 1, none⟩ b) := by
  have hb := (h.1.setCell (p := ⟨g, 0, none⟩) hs a).setCell (p := ⟨g, 1, none⟩) hs b
  exact ⟨hb, fact _ hb⟩
end
theorem rown_lit {w : World} {b g : Nat} (hb : b ≤ w.heap.size) (hg : w.heap.size = g) : (w.alloc (.cells #[] 50)).ownsRow b 50 3 (.slice (some ⟨g, 0, none⟩) 0 0) 0 (rowCs []) :=
  hg ▸ ⟨rfl, .inr ⟨w.heap.size, 0, #[], rfl, hb, Box.made w _ _, Nat.le_refl _, Nat.zero_le _, rfl, rfl⟩⟩
theorem rwrow_box {w : World} {g : Nat} {x : Rw} (h : Box w g 50 #[.string x.id, .int .u64 x.h, .int .u64 x.l]) : RwRow w w.heap.size (some ⟨g, 0, none⟩) [x] := fun i y hy => by
  have hi : i = 0 := by have := (List.getElem?_eq_some_iff.1 hy).1; simp at this; omega
  subst hi
  injection hy with hy
  subst hy
  exact ⟨_, rfl, h.inside, h.read 0, h.read 1, h.read 2⟩
theorem rr_alloc {w : World} {A : Option Addr} {l : List Rw} (h : RwRow w w.heap.size A l) (o : Obj) : RwRow (w.alloc o) (w.alloc o).heap.size A l := (h.call (chainA (Below.refl _ _) o)).more (by rw [World.size_alloc]; omega)
theorem rr_drew {w : World} {A : Option Addr} {l : List Rw} (h : RwRow w w.heap.size A l) : RwRow w.drew w.drew.heap.size A l := h
theorem size_drew9 (w : World) : w.drew.heap.size = w.heap.size := rfl
theorem with_box {goal : Prop} {U' : World} {t : TypeId} {cs : Array Value} (g : Nat) (h : Box U' g t cs) (k : Box U' g t cs → goal) : goal := k h
theorem hl_low {W U : World} {C : Prop} (h : Below W.heap.size W U ∧ C) : Below W.heap.size W U := h.1
set_option maxRecDepth 100000 in
set_option maxHeartbeats 8000000 in
theorem rput_any (A : Option Addr) (c : Nat) (xs : List Rw) (hx : ∀ x ∈ xs, x.ok) (hm : xs.length ≤ 100000) (hA : A = none → c = 0) (y : Rw) (hy : y.ok) (M : Nat) (w : World) (hR : RwRow w w.heap.size A xs) :
    Calls Tryd.prog 28 #[.slice A xs.length c, y.val, .int .i64 (M : Int)] w (Tells (.int .i64 (putL M xs y : Nat)) w.heap.size w) := by
  obtain ⟨V, hV⟩ : ∃ V, putL M xs y = V := ⟨_, rfl⟩
  rw [hV]
  have HV := hideIt hV
  clear hV
  have H0 := (Has.start w).add 50 #[.string y.id, .int .u64 y.h, .int .u64 y.l]
  simp only [Rw.val]
  go_enter Tryd.func28, Tryd.ntmps28
  go_upto_region 1 with fail
  generalize w.alloc (.cells #[.string y.id, .int .u64 y.h, .int .u64 y.l] 50) = W at *
  by_cases hc : M ≤ xs.length
  · have hci : (M : Int) ≤ (xs.length : Int) := by omega
    have e := HV.out
    rw [putL_rows hc] at e
    subst e
    clear hc
    go_wp2
    go_ret
    exact ⟨rfl, H0.below⟩
  · have hci : ¬ ((M : Int) ≤ (xs.length : Int)) := by omega
    have HC := hideIt hc
    clear hc
    obtain ⟨q0, q1, q2, f0, f1, f2, hin⟩ := (H0.box 0).three
    have cF := rfind_any A c xs y.id (by omega) W ((hR.call H0.below).more H0.size)
    rw [findR_has] at cF
    obtain ⟨z, hz⟩ : ∃ z, (findR xs y.id.data.toList).1 = z := ⟨_, rfl⟩
    obtain ⟨q, hq⟩ : ∃ q, hasK xs (keyR y) = q := ⟨_, rfl⟩
    rw [hz, show hasK xs y.id.data.toList = q from hq] at cF
    simp only [Rw.val] at cF
    have HQ := hideIt hq
    clear hz hq
    go_upto_region 4 with (first
      | (go_at_call 52; refine cF.mono ?_; rintro e w1 ⟨rfl, j1⟩)
      | fail)
    have H1 := (H0.call j1).past (.cells #[.string z.id, .int .u64 z.h, .int .u64 z.l] 50)
    change Code.wp _ _ _ _ (w1.alloc (.cells #[.string z.id, .int .u64 z.h, .int .u64 z.l] 50))
    generalize w1.alloc (.cells #[.string z.id, .int .u64 z.h, .int .u64 z.l] 50) = W1 at *
    clear H0 cF j1 q0 q1 q2 f0 f1 f2 hin
    cases q with
    | true =>
      have e := HV.out
      rw [putL_twice HC.out HQ.out] at e
      subst e
      go_wp2
      go_ret
      exact ⟨rfl, H1.below⟩
    | false =>
      go_upto_region 6 with fail
      have fact : ∀ u, Below W1.heap.size W1 u → (u.cell? ⟨w.heap.size, 0, none⟩ = some (.string y.id) ∧ u.cell? ⟨w.heap.size, 1, none⟩ = some (.int .u64 y.h) ∧ u.cell? ⟨w.heap.size, 2, none⟩ = some (.int .u64 y.l)) := fun u hu => by
        obtain ⟨q0, q1, q2, -⟩ := ((H1.call hu).box 0).three
        exact ⟨q0, q1, q2⟩
      have rowU : ∀ u, Below W1.heap.size W1 u → RwRow u u.heap.size A xs := fun u hu => (hR.call (H1.call hu).below).more (H1.call hu).size
      have hxy : ∀ x ∈ xs ++ [y], x.ok := fun x h => by
        rcases List.mem_append.1 h with h | h
        · exact hx x h
        · rw [List.mem_singleton.1 h]; exact hy
      have cT := fun A2 c2 u hu => rtotal_any A2 c2 (xs ++ [y]) hxy (by simp; omega) u hu
      have e0 : totE (xs ++ [y]) = V := by
        unfold totE
        have e := HV.out
        rw [sumR_snoc]
        cases hr : room (sumR xs + nv y.h y.l) with
        | true => rw [putL_ok HC.out HQ.out hr] at e; rw [← e]; rfl
        | false => rw [putL_total HC.out HQ.out hr] at e; rw [← e]; rfl
      rw [e0] at cT
      obtain ⟨th, hth⟩ : ∃ th, rh (sumR (xs ++ [y])) = th := ⟨_, rfl⟩
      obtain ⟨tl, htl⟩ : ∃ tl, rl (sumR (xs ++ [y])) = tl := ⟨_, rfl⟩
      rw [hth, htl] at cT
      have hlen : (xs ++ [y]).length = xs.length + 1 := by simp
      simp only [hlen] at cT
      clear hth htl e0
      have hin := (H1.box 0).inside
      go_cut [10] (fun s10 wx => s10 = .int .i64 (V : Int) ∧ Below W1.heap.size W1 wx)
      case first =>
        go_region_held3 (fun w' => Below W1.heap.size W1 w' ∧ (w'.cell? ⟨w.heap.size, 0, none⟩ = some (.string y.id) ∧ w'.cell? ⟨w.heap.size, 1, none⟩ = some (.int .u64 y.h) ∧ w'.cell? ⟨w.heap.size, 2, none⟩ = some (.int .u64 y.l)))
          (first | exact ⟨(Below.refl _ _).drew, fact _ (Below.refl _ _).drew⟩ | exact hl_drew fact (by assumption) | exact hl_call fact (by assumption) (by assumption) | exact hl_past fact (by assumption) _ | exact hl_swap fact (by assumption) _ (by omega) | (refine hl_set2 fact (by assumption) _ _ ?_; first | exact Nat.le_refl _ | omega) | exact hl_grown fact (by assumption) hg2 (fun j hj => (own1.lt j hj).1) | (refine hl_grown fact (by assumption) hg1 (fun j hj => ?_); injection hj with hj; simp at hj; omega) | fail)
          (first
            | (refine step_rows W1.heap.size (by rfl) _ _ (by rfl) (.slice (some ⟨_, 0, none⟩) 0 0) 0 [] (by rfl) A xs.length c xs (by rfl) rfl hA (by omega) ?_ (rowU _ (hl_low (by assumption))) (hl_low (by assumption)).size ?_
               (focus ((repeat (first | ((with_reducible refine rown_lit ?_ ?_) <;> (first | exact Nat.le_refl _ | rfl | (focus (simp; done)) | (focus (simp; omega)) | fail)) | (with_reducible refine World.ownsRow.alloc ?_ _) | (with_reducible refine World.ownsRow.drew ?_) | fail)); done))
               intro v1 u1 own1 hg1 hl1
               rw [List.nil_append, Nat.zero_add] at own1
               have y1 := hg1.size
               (try simp only [World.size_alloc, size_drew9] at y1)
               skip)
            | (refine step_rows W1.heap.size (by rfl) _ _ (by rfl) v1 xs.length xs (by rfl) (some ⟨_, 0, none⟩) 1 1 [y] (by rfl) rfl (fun h => by cases h) (by omega) ?_ (rwrow_box ?_) (hl_low (by assumption)).size ?_
               (focus ((repeat (first | assumption | (with_reducible refine World.ownsRow.alloc ?_ _) | (with_reducible refine World.ownsRow.drew ?_) | fail)); done))
               (focus ((repeat (first | assumption | ((with_reducible refine Box.madeAt ?_ _ _); (first | rfl | (focus (simp; done)) | fail)) | (with_reducible refine Box.past ?_ _) | (with_reducible refine Box.draw ?_) | (with_reducible refine Box.grown ?_ hg1 ?_) | (with_reducible refine Box.grown ?_ hg2 ?_) | (with_reducible refine Box.call ?_ j9) | (focus (intro e; simp [Value.ownBlock, World.size_alloc, size_drew9] at e; done)) | (focus (intro e; simp [Value.ownBlock, World.size_alloc, size_drew9] at e; omega)) | (focus (intro e; have := (own1.lt _ e.symm).2; omega)) | (focus (intro e; rcases hl1 with h | h <;> rw [h] at e <;> simp [Value.ownBlock, World.size_alloc, size_drew9] at e <;> omega)) | fail)); done))
               intro v2 u2 own2 hg2 hl2
               rw [← hlen] at own2
               obtain ⟨A2, c2, hv2, -, R2⟩ := rows_of_own own2
               rw [hlen] at hv2
               subst hv2
               have y2 := hg2.size
               (try simp only [World.size_alloc, size_drew9] at y2)
               skip)
            | (go_at_call 53; (refine (cT A2 c2 _ ?_).mono ?_)
               (focus ((repeat (first | assumption | (with_reducible refine rr_alloc ?_ _) | (with_reducible refine rr_drew ?_) | fail)); done))
               rintro e v9 ⟨rfl, j9⟩
               have y9 := j9.size
               (try simp only [World.size_alloc, size_drew9] at y9)
               first
                 | ((with_reducible refine with_box (U' := v9) (t := 45) (cs := #[.int .u64 0, .int .u64 0]) (W1.heap.size) ?_ ?_); (focus ((repeat (first | assumption | ((with_reducible refine Box.madeAt ?_ _ _); (first | rfl | (focus (simp; done)) | fail)) | (with_reducible refine Box.past ?_ _) | (with_reducible refine Box.draw ?_) | (with_reducible refine Box.grown ?_ hg1 ?_) | (with_reducible refine Box.grown ?_ hg2 ?_) | (with_reducible refine Box.call ?_ j9) | (focus (intro e; simp [Value.ownBlock, World.size_alloc, size_drew9] at e; done)) | (focus (intro e; simp [Value.ownBlock, World.size_alloc, size_drew9] at e; omega)) | (focus (intro e; have := (own1.lt _ e.symm).2; omega)) | (focus (intro e; rcases hl1 with h | h <;> rw [h] at e <;> simp [Value.ownBlock, World.size_alloc, size_drew9] at e <;> omega)) | fail)); done)); intro G9; obtain ⟨g90, g91, g92⟩ := G9.num; have g93 := G9.free 0; have g94 := G9.free 1)
                 | ((with_reducible refine with_box (U' := v9) (t := 45) (cs := #[.int .u64 0, .int .u64 0]) (W1.heap.size + 1) ?_ ?_); (focus ((repeat (first | assumption | ((with_reducible refine Box.madeAt ?_ _ _); (first | rfl | (focus (simp; done)) | fail)) | (with_reducible refine Box.past ?_ _) | (with_reducible refine Box.draw ?_) | (with_reducible refine Box.grown ?_ hg1 ?_) | (with_reducible refine Box.grown ?_ hg2 ?_) | (with_reducible refine Box.call ?_ j9) | (focus (intro e; simp [Value.ownBlock, World.size_alloc, size_drew9] at e; done)) | (focus (intro e; simp [Value.ownBlock, World.size_alloc, size_drew9] at e; omega)) | (focus (intro e; have := (own1.lt _ e.symm).2; omega)) | (focus (intro e; rcases hl1 with h | h <;> rw [h] at e <;> simp [Value.ownBlock, World.size_alloc, size_drew9] at e <;> omega)) | fail)); done)); intro G9; obtain ⟨g90, g91, g92⟩ := G9.num; have g93 := G9.free 0; have g94 := G9.free 1)
                 | ((with_reducible refine with_box (U' := v9) (t := 45) (cs := #[.int .u64 0, .int .u64 0]) (W1.heap.size + 1 + 1) ?_ ?_); (focus ((repeat (first | assumption | ((with_reducible refine Box.madeAt ?_ _ _); (first | rfl | (focus (simp; done)) | fail)) | (with_reducible refine Box.past ?_ _) | (with_reducible refine Box.draw ?_) | (with_reducible refine Box.grown ?_ hg1 ?_) | (with_reducible refine Box.grown ?_ hg2 ?_) | (with_reducible refine Box.call ?_ j9) | (focus (intro e; simp [Value.ownBlock, World.size_alloc, size_drew9] at e; done)) | (focus (intro e; simp [Value.ownBlock, World.size_alloc, size_drew9] at e; omega)) | (focus (intro e; have := (own1.lt _ e.symm).2; omega)) | (focus (intro e; rcases hl1 with h | h <;> rw [h] at e <;> simp [Value.ownBlock, World.size_alloc, size_drew9] at e <;> omega)) | fail)); done)); intro G9; obtain ⟨g90, g91, g92⟩ := G9.num; have g93 := G9.free 0; have g94 := G9.free 1)
                 | ((with_reducible refine with_box (U' := v9) (t := 45) (cs := #[.int .u64 0, .int .u64 0]) (u1.heap.size) ?_ ?_); (focus ((repeat (first | assumption | ((with_reducible refine Box.madeAt ?_ _ _); (first | rfl | (focus (simp; done)) | fail)) | (with_reducible refine Box.past ?_ _) | (with_reducible refine Box.draw ?_) | (with_reducible refine Box.grown ?_ hg1 ?_) | (with_reducible refine Box.grown ?_ hg2 ?_) | (with_reducible refine Box.call ?_ j9) | (focus (intro e; simp [Value.ownBlock, World.size_alloc, size_drew9] at e; done)) | (focus (intro e; simp [Value.ownBlock, World.size_alloc, size_drew9] at e; omega)) | (focus (intro e; have := (own1.lt _ e.symm).2; omega)) | (focus (intro e; rcases hl1 with h | h <;> rw [h] at e <;> simp [Value.ownBlock, World.size_alloc, size_drew9] at e <;> omega)) | fail)); done)); intro G9; obtain ⟨g90, g91, g92⟩ := G9.num; have g93 := G9.free 0; have g94 := G9.free 1)
                 | ((with_reducible refine with_box (U' := v9) (t := 45) (cs := #[.int .u64 0, .int .u64 0]) (u1.heap.size + 1) ?_ ?_); (focus ((repeat (first | assumption | ((with_reducible refine Box.madeAt ?_ _ _); (first | rfl | (focus (simp; done)) | fail)) | (with_reducible refine Box.past ?_ _) | (with_reducible refine Box.draw ?_) | (with_reducible refine Box.grown ?_ hg1 ?_) | (with_reducible refine Box.grown ?_ hg2 ?_) | (with_reducible refine Box.call ?_ j9) | (focus (intro e; simp [Value.ownBlock, World.size_alloc, size_drew9] at e; done)) | (focus (intro e; simp [Value.ownBlock, World.size_alloc, size_drew9] at e; omega)) | (focus (intro e; have := (own1.lt _ e.symm).2; omega)) | (focus (intro e; rcases hl1 with h | h <;> rw [h] at e <;> simp [Value.ownBlock, World.size_alloc, size_drew9] at e <;> omega)) | fail)); done)); intro G9; obtain ⟨g90, g91, g92⟩ := G9.num; have g93 := G9.free 0; have g94 := G9.free 1)
                 | ((with_reducible refine with_box (U' := v9) (t := 45) (cs := #[.int .u64 0, .int .u64 0]) (u2.heap.size) ?_ ?_); (focus ((repeat (first | assumption | ((with_reducible refine Box.madeAt ?_ _ _); (first | rfl | (focus (simp; done)) | fail)) | (with_reducible refine Box.past ?_ _) | (with_reducible refine Box.draw ?_) | (with_reducible refine Box.grown ?_ hg1 ?_) | (with_reducible refine Box.grown ?_ hg2 ?_) | (with_reducible refine Box.call ?_ j9) | (focus (intro e; simp [Value.ownBlock, World.size_alloc, size_drew9] at e; done)) | (focus (intro e; simp [Value.ownBlock, World.size_alloc, size_drew9] at e; omega)) | (focus (intro e; have := (own1.lt _ e.symm).2; omega)) | (focus (intro e; rcases hl1 with h | h <;> rw [h] at e <;> simp [Value.ownBlock, World.size_alloc, size_drew9] at e <;> omega)) | fail)); done)); intro G9; obtain ⟨g90, g91, g92⟩ := G9.num; have g93 := G9.free 0; have g94 := G9.free 1)
                 | skip
               skip)
            | fail)
        all_goals go_wp2
        all_goals go_meet
        all_goals exact ⟨rfl, hl_low (by assumption)⟩
      case rest =>
        obtain ⟨rfl, hb⟩ := hcut
        go_wp2
        go_ret
        exact ⟨rfl, (H1.call hb).below⟩
end Go.Proofs.YthindbmgnkohhaaDoor
