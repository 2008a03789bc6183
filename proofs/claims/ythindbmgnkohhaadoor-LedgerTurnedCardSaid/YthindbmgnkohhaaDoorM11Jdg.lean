/- Several of my texts, laid as one. -/
import Derived.Test.YthindbmgnkohhaaDoorM11Pln
import Derived.Test.YthindbmgnkohhaaDoorW11Set
import Derived.Test.YthindbmgnkohhaaDoorW0Off
import Derived.Test.YthindbmgnkohhaaDoorT10Row
import Derived.Test.YthindbmgnkohhaaDoorM1Num
import Derived.Test.YthindbmgnkohhaaDoorU11Part
/-
  ledger's judge, and what it asks of each row, walked: the closures and what they have captured.
-/
namespace Go.Proofs.YthindbmgnkohhaaDoor
set_option linter.unusedVariables false
set_option linter.unusedSimpArgs false
set_option maxRecDepth 10000
open Go.RowKit Go.Sort

theorem IdSet.off {S : Nat → Prop} {w w' : World} {b : Nat} {ids : List (List UInt8)} (h : IdSet w b ids) (k : Off S w w') (hne : ¬ S b) : IdSet w' b ids := h.same (k.block b h.lt hne)
theorem set_not_box {w : World} {b g : Nat} {t : TypeId} {cs : Array Value} {ids : List (List UInt8)} (h : IdSet w b ids) (hb : Box w g t cs) : g ≠ b := by
  rintro rfl
  obtain ⟨es, clock, h1, -⟩ := h
  unfold Box at hb
  rw [h1] at hb
  cases hb
theorem pow_wrap (h : Nat) (hh : h ≤ 10) : wrap64 ((2 : Int) ^ h) = ((2 ^ h : Nat) : Int) := by
  have : ∀ k : Fin 11, wrap64 ((2 : Int) ^ k.val) = ((2 ^ k.val : Nat) : Int) := by decide +kernel
  exact this ⟨h, by omega⟩
set_option maxRecDepth 100000 in
set_option maxHeartbeats 2000000 in
theorem asks1_any (x : Rw) (g0 gm gh h : Nat) (hh : h ≤ 10) (ids : List (List UInt8)) (hd : ids.Nodup) (w : World) (h0 : Box w g0 117 #[.map (some gm)]) (hm : IdSet w gm ids) (h1 : Box w gh 3 #[.int .i64 (h : Int)]) :
    Calls Tryd.prog 68 #[x.val, .pointer (some ⟨g0, 0, none⟩), .pointer (some ⟨gh, 0, none⟩)] w (Tells (.int .i64 (if 2 ^ h ≤ ids.length then 111 else 0)) w.heap.size w) := by
  obtain ⟨E, hE⟩ : ∃ E : Int, (if 2 ^ h ≤ ids.length then (111 : Int) else 0) = E := ⟨_, rfl⟩
  rw [hE]
  have HE := hideIt hE
  clear hE
  have H0 := Box.made w 50 #[.string x.id, .int .u64 x.h, .int .u64 x.l]
  have L0 := chainA (Below.refl w.heap.size w) (.cells #[.string x.id, .int .u64 x.h, .int .u64 x.l] 50)
  have h0 := h0.past (.cells #[.string x.id, .int .u64 x.h, .int .u64 x.l] 50)
  have h1 := h1.past (.cells #[.string x.id, .int .u64 x.h, .int .u64 x.l] 50)
  have hm := hm.alloc (.cells #[.string x.id, .int .u64 x.h, .int .u64 x.l] 50)
  simp only [Rw.val]
  go_enter Tryd.func68, Tryd.ntmps68
  go_upto_region 1 with fail
  generalize w.alloc (.cells #[.string x.id, .int .u64 x.h, .int .u64 x.l] 50) = W at *
  have r0 := h0.read 0
  have r1 := h1.read 0
  have i0 := h0.inside
  have i1 := h1.inside
  have hl : ∀ (n : Nat) ty, (Builtin.len_ #[117] ty #[.map (some gm)]).run Tryd.prog (W.drewN n) = .ok (.int .i64 (ids.length : Int)) (W.drewN n) := fun n ty => IdSet.len (w := W.drewN n) hm hd _ und_set ty
  have hs := pow_wrap h hh
  have hp : ((2 ^ h : Nat) : Int) ≤ 1024 := by
    have : 2 ^ h ≤ 2 ^ 10 := Nat.pow_le_pow_right (by omega) hh
    omega
  obtain ⟨M, hM⟩ : ∃ M : Nat, 2 ^ h = M := ⟨_, rfl⟩
  rw [hM] at HE hs hp
  clear hM
  by_cases hc : M ≤ ids.length
  · have hci : (M : Int) ≤ (ids.length : Int) := by omega
    have he := HE.out
    rw [if_pos hc] at he
    subst he
    go_quiet (fail)
    go_wp2
    go_ret
    exact ⟨rfl, below_drewN L0 _⟩
  · have hci : ¬ ((M : Int) ≤ (ids.length : Int)) := by omega
    have he := HE.out
    rw [if_neg hc] at he
    subst he
    go_quiet (fail)
    go_wp2
    go_ret
    exact ⟨rfl, below_drewN L0 _⟩
set_option maxRecDepth 100000 in
set_option maxHeartbeats 2000000 in
theorem asks2_twice (x : Rw) (hz : x.id.size ≤ 1000000) (g0 gm : Nat) (ids : List (List UInt8)) (hn : ids.length ≤ 1000000) (w : World) (h0 : Box w g0 117 #[.map (some gm)]) (hm : IdSet w gm ids)
    (hq : decide (x.id.data.toList ∈ ids) = true) : Calls Tryd.prog 69 #[x.val, .pointer (some ⟨g0, 0, none⟩)] w fun e w' => e = .returned (.int .i64 110) ∧ Off (One gm) w w' := by
  have H0 := Box.made w 50 #[.string x.id, .int .u64 x.h, .int .u64 x.l]
  have L0 := (Off.refl (One gm) w).past (.cells #[.string x.id, .int .u64 x.h, .int .u64 x.l] 50)
  have h0 := h0.past (.cells #[.string x.id, .int .u64 x.h, .int .u64 x.l] 50)
  have hm := hm.alloc (.cells #[.string x.id, .int .u64 x.h, .int .u64 x.l] 50)
  simp only [Rw.val]
  go_enter Tryd.func69, Tryd.ntmps69
  go_upto_region 1 with fail
  generalize w.alloc (.cells #[.string x.id, .int .u64 x.h, .int .u64 x.l] 50) = W at *
  have r0 : W.cell? ⟨g0, 0, none⟩ = some (.map (some gm)) := h0.read 0
  have i0 := h0.inside
  obtain ⟨q0, q1, q2, f0, f1, f2, hin⟩ := H0.three
  go_upto_region 2 with (first
    | (at_lookup; refine wpl_idset_look rfl _ _ 117 rfl und_set rfl hm x.id rfl (by omega) _ hq ?_)
    | fail)
  have H1 := H0.past (.cells #[] 118)
  have h1 := h0.past (.cells #[] 118)
  have m1 := hm.alloc (.cells #[] 118)
  have L1 := L0.past (.cells #[] 118)
  generalize W.alloc (.cells #[] 118) = W1 at *
  have r0 : W1.cell? ⟨g0, 0, none⟩ = some (.map (some gm)) := h1.read 0
  have i0 := h1.inside
  obtain ⟨q0, q1, q2, f0, f1, f2, hin⟩ := H1.three
  go_wp2
  go_ret
  exact ⟨rfl, L1⟩
set_option maxRecDepth 100000 in
set_option maxHeartbeats 2000000 in
theorem asks2_new (x : Rw) (hz : x.id.size ≤ 1000000) (g0 gm : Nat) (ids : List (List UInt8)) (hn : ids.length ≤ 1000000) (w : World) (h0 : Box w g0 117 #[.map (some gm)]) (hm : IdSet w gm ids)
    (hq : decide (x.id.data.toList ∈ ids) = false) : Calls Tryd.prog 69 #[x.val, .pointer (some ⟨g0, 0, none⟩)] w fun e w' => e = .returned (.int .i64 0) ∧ Off (One gm) w w' ∧ IdSet w' gm (ids ++ [x.id.data.toList]) := by
  have H0 := Box.made w 50 #[.string x.id, .int .u64 x.h, .int .u64 x.l]
  have L0 := (Off.refl (One gm) w).past (.cells #[.string x.id, .int .u64 x.h, .int .u64 x.l] 50)
  have h0 := h0.past (.cells #[.string x.id, .int .u64 x.h, .int .u64 x.l] 50)
  have hm := hm.alloc (.cells #[.string x.id, .int .u64 x.h, .int .u64 x.l] 50)
  simp only [Rw.val]
  go_enter Tryd.func69, Tryd.ntmps69
  go_upto_region 1 with fail
  generalize w.alloc (.cells #[.string x.id, .int .u64 x.h, .int .u64 x.l] 50) = W at *
  have r0 : W.cell? ⟨g0, 0, none⟩ = some (.map (some gm)) := h0.read 0
  have i0 := h0.inside
  obtain ⟨q0, q1, q2, f0, f1, f2, hin⟩ := H0.three
  go_upto_region 2 with (first
    | (at_lookup; refine wpl_idset_look rfl _ _ 117 rfl und_set rfl hm x.id rfl (by omega) _ hq ?_)
    | fail)
  have H1 := H0.past (.cells #[] 118)
  have h1 := h0.past (.cells #[] 118)
  have m1 := hm.alloc (.cells #[] 118)
  have L1 := L0.past (.cells #[] 118)
  generalize W.alloc (.cells #[] 118) = W1 at *
  have r0 : W1.cell? ⟨g0, 0, none⟩ = some (.map (some gm)) := h1.read 0
  have i0 := h1.inside
  obtain ⟨q0, q1, q2, f0, f1, f2, hin⟩ := H1.three
  go_wp2_with (first
    | (at_mapUpdate; refine wpl_idset_put rfl _ _ _ 117 rfl und_set rfl m1 x.id rfl rfl (by omega) (by omega) ?_; intro w2 M2 hg2)
    | fail)
  go_ret
  exact ⟨rfl, L1.grown hg2 (fun j hj => by injection hj with hj; exact Or.inl hj.symm), M2⟩
theorem box2_put {w : World} {g : Nat} {t : TypeId} {x y : Value} (h : Box w g t #[x, y]) (a b : Value) : Box ((w.setCell ⟨g, 0, none⟩ a).setCell ⟨g, 1, none⟩ b) g t #[a, b] := by
  have := (h.wrote 0 a).wrote 1 b
  simpa using this
set_option maxRecDepth 100000 in
set_option maxHeartbeats 2000000 in
theorem asks3_no (x : Rw) (hx : x.ok) (gt : Nat) (S : Int) (hS : room S = true) (w : World) (h0 : Box w gt 45 #[.int .u64 (rh S), .int .u64 (rl S)]) (hq : room (S + nv x.h x.l) = false) :
    Calls Tryd.prog 70 #[x.val, .pointer (some ⟨gt, 0, none⟩)] w fun e w' => e = .returned (.int .i64 112) ∧ Off (One gt) w w' := by
  have H0 := Box.made w 50 #[.string x.id, .int .u64 x.h, .int .u64 x.l]
  have L0 := (Off.refl (One gt) w).past (.cells #[.string x.id, .int .u64 x.h, .int .u64 x.l] 50)
  have h0 := h0.past (.cells #[.string x.id, .int .u64 x.h, .int .u64 x.l] 50)
  have cA := fun u : World => add_any (rh S) (rl S) x.h x.l (rh_word _) (rl_word _) hx.1 hx.2 u
  rw [nv_r hS] at cA
  simp only [Rw.val]
  obtain ⟨T, hT⟩ : ∃ T, S + nv x.h x.l = T := ⟨_, rfl⟩
  rw [hT] at cA hq
  try rw [hT]
  clear hT
  have cA := fun u : World => (cA u).mono fun e w' (hf : Fit _ _ _ _ _) => (⟨by rw [hf.1, rh_no hq, rl_no hq, re_no hq], hf.2⟩ : e = .returned (.tuple #[.agg #[.int .u64 0, .int .u64 0], .int .i64 10]) ∧ Below u.heap.size u w')
  clear hq
  go_enter Tryd.func70, Tryd.ntmps70
  go_upto_region 1 with fail
  generalize w.alloc (.cells #[.string x.id, .int .u64 x.h, .int .u64 x.l] 50) = W at *
  obtain ⟨r0, r1, k0, k1, i0⟩ := h0.two
  obtain ⟨q0, q1, q2, f0, f1, f2, hin⟩ := H0.three
  go_upto_region 2 with (first
    | (go_at_call 65; refine (cA _).mono ?_; rintro e w1 ⟨rfl, j1⟩)
    | fail)
  have L2 := (L0.call j1).past (.cells #[.int .u64 0, .int .u64 0] 45)
  change Code.wp _ _ _ _ (w1.alloc (.cells #[.int .u64 0, .int .u64 0] 45))
  generalize w1.alloc (.cells #[.int .u64 0, .int .u64 0] 45) = W1 at *
  go_wp2
  go_ret
  exact ⟨rfl, L2⟩
set_option maxRecDepth 100000 in
set_option maxHeartbeats 2000000 in
theorem asks3_yes (x : Rw) (hx : x.ok) (gt : Nat) (S : Int) (hS : room S = true) (w : World) (h0 : Box w gt 45 #[.int .u64 (rh S), .int .u64 (rl S)]) (hq : room (S + nv x.h x.l) = true) :
    Calls Tryd.prog 70 #[x.val, .pointer (some ⟨gt, 0, none⟩)] w fun e w' => e = .returned (.int .i64 0) ∧ Off (One gt) w w' ∧ Box w' gt 45 #[.int .u64 (rh (S + nv x.h x.l)), .int .u64 (rl (S + nv x.h x.l))] := by
  have H0 := Box.made w 50 #[.string x.id, .int .u64 x.h, .int .u64 x.l]
  have L0 := (Off.refl (One gt) w).past (.cells #[.string x.id, .int .u64 x.h, .int .u64 x.l] 50)
  have h0 := h0.past (.cells #[.string x.id, .int .u64 x.h, .int .u64 x.l] 50)
  have cA := fun u : World => add_any (rh S) (rl S) x.h x.l (rh_word _) (rl_word _) hx.1 hx.2 u
  rw [nv_r hS] at cA
  simp only [Rw.val]
  obtain ⟨T, hT⟩ : ∃ T, S + nv x.h x.l = T := ⟨_, rfl⟩
  rw [hT] at cA hq
  try rw [hT]
  clear hT
  have cA := fun u : World => (cA u).mono fun e w' (hf : Fit _ _ _ _ _) => (⟨by rw [hf.1, re_yes hq], hf.2⟩ : e = .returned (.tuple #[.agg #[.int .u64 (rh T), .int .u64 (rl T)], .int .i64 0]) ∧ Below u.heap.size u w')
  clear hq
  generalize rh T = th at *
  generalize rl T = tl at *
  go_enter Tryd.func70, Tryd.ntmps70
  go_upto_region 1 with fail
  generalize w.alloc (.cells #[.string x.id, .int .u64 x.h, .int .u64 x.l] 50) = W at *
  obtain ⟨r0, r1, k0, k1, i0⟩ := h0.two
  obtain ⟨q0, q1, q2, f0, f1, f2, hin⟩ := H0.three
  go_upto_region 2 with (first
    | (go_at_call 65; refine (cA _).mono ?_; rintro e w1 ⟨rfl, j1⟩)
    | fail)
  have L2 := (L0.call j1).past (.cells #[.int .u64 th, .int .u64 tl] 45)
  have B2 := Box.made w1 45 #[.int .u64 th, .int .u64 tl]
  have h2 := (h0.call j1).past (.cells #[.int .u64 th, .int .u64 tl] 45)
  change Code.wp _ _ _ _ (w1.alloc (.cells #[.int .u64 th, .int .u64 tl] 45))
  generalize w1.alloc (.cells #[.int .u64 th, .int .u64 tl] 45) = W1 at *
  obtain ⟨r0, r1, k0, k1, i0⟩ := h2.two
  obtain ⟨r2, r3, k2, k3, i2⟩ := B2.two
  go_wp2
  go_ret
  exact ⟨rfl, (L2.set_ (p := ⟨gt, 0, none⟩) (Or.inl rfl) _).set_ (p := ⟨gt, 1, none⟩) (Or.inl rfl) _, box2_put h2 _ _⟩
end Go.Proofs.YthindbmgnkohhaaDoor
/-
  ledger's judge made, and called: what is wrong with one row behind the other.
-/
namespace Go.Proofs.YthindbmgnkohhaaDoor
set_option linter.unusedVariables false
set_option linter.unusedSimpArgs false
set_option maxRecDepth 10000
open Go.RowKit Go.Sort

theorem IdSet.madeAt {w : World} {g : Nat} (hg : w.heap.size = g) : IdSet (w.alloc (.map #[] 0)) g [] := hg ▸ IdSet.made w
/-- Between two asks: how many have been asked, what is known, what has been kept. -/
def JSt (w : World) (gm gt h : Nat) (l : List Rw) (x : Rw) : Nat → Prop
  | 0 => IdSet w gm (l.map keyR) ∧ Box w gt 45 #[.int .u64 (rh (sumR l)), .int .u64 (rl (sumR l))]
  | 1 => ¬ 2 ^ h ≤ l.length ∧ IdSet w gm (l.map keyR) ∧ Box w gt 45 #[.int .u64 (rh (sumR l)), .int .u64 (rl (sumR l))]
  | 2 => ¬ 2 ^ h ≤ l.length ∧ hasK l (keyR x) = false ∧ IdSet w gm (l.map keyR ++ [x.id.data.toList]) ∧ Box w gt 45 #[.int .u64 (rh (sumR l)), .int .u64 (rl (sumR l))]
  | _ => ¬ 2 ^ h ≤ l.length ∧ hasK l (keyR x) = false ∧ room (sumR l + nv x.h x.l) = true ∧ IdSet w gm (l.map keyR ++ [x.id.data.toList]) ∧ Box w gt 45 #[.int .u64 (rh (sumR l + nv x.h x.l)), .int .u64 (rl (sumR l + nv x.h x.l))]
/-- The closures of a judge, and what they have captured: the rows so far. -/
def Judge (w : World) (B h : Nat) (l : List Rw) (ga : Nat) : Prop := ∃ gs g0 gm gh gt : Nat,
  Box w ga 96 #[.slice (some ⟨gs, 0, none⟩) 3 3] ∧
  Box w gs 59 #[.func (.func 68) #[] #[.pointer (some ⟨g0, 0, none⟩), .pointer (some ⟨gh, 0, none⟩)], .func (.func 69) #[] #[.pointer (some ⟨g0, 0, none⟩)], .func (.func 70) #[] #[.pointer (some ⟨gt, 0, none⟩)]] ∧
  Box w g0 117 #[.map (some gm)] ∧ IdSet w gm (l.map keyR) ∧ Box w gh 3 #[.int .i64 (h : Int)] ∧ Box w gt 45 #[.int .u64 (rh (sumR l)), .int .u64 (rl (sumR l))] ∧ B ≤ gm ∧ B ≤ gt
theorem Judge.keep {w w' : World} {B h : Nat} {l : List Rw} {ga : Nat} (hJ : Judge w B h l ga) {S : Nat → Prop} (k : Off S w w') (hS : ∀ i, S i → ∃ cs fr, w.heap[i]? = some (.cells cs 50 fr)) : Judge w' B h l ga := by
  obtain ⟨gs, g0, gm, gh, gt, h1, h2, h3, h4, h5, h6, h7⟩ := hJ
  have key : ∀ g t cs, Box w g t cs → 50 ≠ t → ¬ S g := fun g t cs hb hne hs => by
    obtain ⟨cs2, fr, e⟩ := hS g hs
    unfold Box at hb
    rw [e] at hb
    injection hb with hb
    injection hb with q1 q2 q3
    exact hne q2
  have keym : ¬ S gm := fun hs => by
    obtain ⟨cs2, fr, e⟩ := hS gm hs
    obtain ⟨es, clock, hb, -⟩ := h4
    rw [e] at hb
    cases hb
  exact ⟨gs, g0, gm, gh, gt, k.box h1 (key _ _ _ h1 (by decide)), k.box h2 (key _ _ _ h2 (by decide)), k.box h3 (key _ _ _ h3 (by decide)), h4.off k keym, k.box h5 (key _ _ _ h5 (by decide)), k.box h6 (key _ _ _ h6 (by decide)), h7⟩
theorem Judge.call {w w' : World} {B h : Nat} {l : List Rw} {ga : Nat} (hJ : Judge w B h l ga) (hb : Below w.heap.size w w') : Judge w' B h l ga :=
  hJ.keep (Off.of (S := fun _ => False) hb) (fun _ h => h.elim)
/-- A row of rows of the call's own stays where other blocks turn. -/
theorem own_off {w w' : World} {b n : Nat} {v : Value} {xs : List Value} (h : w.ownsRow b 50 3 v n xs) {S : Nat → Prop} (k : Off S w w') (hS : ∀ i cs, S i → ¬ w.heap[i]? = some (.cells cs 50 (0, 0))) : w'.ownsRow b 50 3 v n xs := by
  refine ⟨h.1, ?_⟩
  rcases h.2 with h2 | ⟨g, cap, cur, hv, hg, hh, r⟩
  · exact .inl h2
  · exact .inr ⟨g, cap, cur, hv, hg, (k.block g (Array.getElem?_eq_some_iff.1 hh).1 (fun hs => hS g cur hs hh)).trans hh, r⟩
set_option maxRecDepth 100000 in
set_option maxHeartbeats 2000000 in
theorem judge_any (h : Nat) (w : World) : Calls Tryd.prog 24 #[.int .i64 (h : Int)] w fun e w' => ∃ ga, e = .returned (.func (.func 48) #[] #[.pointer (some ⟨ga, 0, none⟩)]) ∧ Judge w' w.heap.size h [] ga ∧ Below w.heap.size w w' := by
  have hmm := @run_makeMap Tryd.prog
  have c1 : ∀ u, Calls Tryd.prog 47 #[.int .i64 (h : Int)] u fun e w' => ∃ gs, e = .returned (.slice (some ⟨gs, 0, none⟩) 3 3) ∧ ∃ g0 gm gh gt, Box w' gs 59 #[.func (.func 68) #[] #[.pointer (some ⟨g0, 0, none⟩), .pointer (some ⟨gh, 0, none⟩)], .func (.func 69) #[] #[.pointer (some ⟨g0, 0, none⟩)], .func (.func 70) #[] #[.pointer (some ⟨gt, 0, none⟩)]] ∧
      Box w' g0 117 #[.map (some gm)] ∧ IdSet w' gm [] ∧ Box w' gh 3 #[.int .i64 (h : Int)] ∧ Box w' gt 45 #[.int .u64 0, .int .u64 0] ∧ u.heap.size ≤ gm ∧ u.heap.size ≤ gt ∧ Below u.heap.size u w' := fun u => by
    go_enter Tryd.func47, Tryd.ntmps47
    go_wp2
    go_ret
    exact ⟨_, rfl, _, _, _, _, Box.madeAt (by simp) _ _, ((Box.madeAt (by simp) _ _).past _).past _, (((IdSet.madeAt (by simp)).alloc _).alloc _).alloc _, ((((Box.made u _ _).past _).past _).past _).past _, (Box.madeAt (by simp) _ _).past _, by omega, by omega,
      chainA (chainA (chainA (chainA (chainA (Below.refl _ _) _) _) _) _) _⟩
  go_enter Tryd.func24, Tryd.ntmps24
  go_upto_region 2 with (first
    | (go_at_call 47; refine (c1 _).mono ?_; rintro e w1 ⟨gs, rfl, g0, gm, gh, gt, k1, k2, k3, k4, k5, k6, k7, j1⟩)
    | fail)
  go_wp2
  go_ret
  exact ⟨w1.heap.size, rfl, ⟨gs, g0, gm, gh, gt, Box.made _ _ _, k1.past _, k2.past _, k3.alloc _, k4.past _, k5.past _, k6, k7⟩, chainA j1 _⟩
set_option maxRecDepth 100000 in
set_option maxHeartbeats 4000000 in
theorem judge_call (x : Rw) (hx : x.ok) (hz : x.id.size ≤ 1000000) (B h : Nat) (hh : h ≤ 10) (l : List Rw) (ga : Nat) (hG : GoodL (2 ^ h) l) (w : World) (hJ : Judge w B h l ga) :
    ∃ S : Nat → Prop, (∀ i, S i → B ≤ i ∧ ∀ cs, ¬ w.heap[i]? = some (.cells cs 50 (0, 0)) ∧ ¬ w.heap[i]? = some (.cells cs 9 (0, 0))) ∧
      Calls Tryd.prog 48 #[x.val, .pointer (some ⟨ga, 0, none⟩)] w fun e w' => e = .returned (.int .i64 (putL (2 ^ h) l x)) ∧ Off S w w' ∧ (putL (2 ^ h) l x = 0 → Judge w' B h (l ++ [x]) ga) := by
  obtain ⟨gs, g0, gm, gh, gt, h1, h2, h3, h4, h5, h6, h7, h8⟩ := hJ
  refine ⟨fun i => i = gm ∨ i = gt, fun i hi => ⟨by rcases hi with rfl | rfl <;> assumption, fun cs => ?_⟩, ?_⟩
  · rcases hi with rfl | rfl
    · obtain ⟨es, clock, hb, -⟩ := h4
      rw [hb]
      exact ⟨fun e => (by cases e), fun e => (by cases e)⟩
    · unfold Box at h6
      rw [h6]
      exact ⟨fun e => (by injection e with e; injection e with q1 q2 q3; exact absurd q2 (by decide)), fun e => (by injection e with e; injection e with q1 q2 q3; exact absurd q2 (by decide))⟩
  have hl : l.length ≤ 1024 := Nat.le_trans hG.1 (Nat.pow_le_pow_right (by omega) hh : 2 ^ h ≤ 2 ^ 10)
  obtain ⟨V, hV⟩ : ∃ V, putL (2 ^ h) l x = V := ⟨_, rfl⟩
  rw [hV]
  have HV := hideIt hV
  clear hV
  have H0 := Box.made w 50 #[.string x.id, .int .u64 x.h, .int .u64 x.l]
  have L0 := (Off.refl (fun i => i = gm ∨ i = gt) w).past (.cells #[.string x.id, .int .u64 x.h, .int .u64 x.l] 50)
  have h1 := h1.past (.cells #[.string x.id, .int .u64 x.h, .int .u64 x.l] 50)
  have h2 := h2.past (.cells #[.string x.id, .int .u64 x.h, .int .u64 x.l] 50)
  have h3 := h3.past (.cells #[.string x.id, .int .u64 x.h, .int .u64 x.l] 50)
  have h4 := h4.alloc (.cells #[.string x.id, .int .u64 x.h, .int .u64 x.l] 50)
  have h5 := h5.past (.cells #[.string x.id, .int .u64 x.h, .int .u64 x.l] 50)
  have h6 := h6.past (.cells #[.string x.id, .int .u64 x.h, .int .u64 x.l] 50)
  simp only [Rw.val]
  go_enter Tryd.func48, Tryd.ntmps48
  go_upto_region 1 with fail
  generalize w.alloc (.cells #[.string x.id, .int .u64 x.h, .int .u64 x.l] 50) = W at *
  have r1 : W.cell? ⟨ga, 0, none⟩ = some (.slice (some ⟨gs, 0, none⟩) 3 3) := h1.read 0
  have i1 := h1.inside
  have hR0 := JSt W gm gt h l x 0
  have n1 := h1.unlike h6 (by simp)
  have n2 := h2.unlike h6 (by simp)
  have n3 := h3.unlike h6 (by simp)
  have n4 := h5.unlike h6 (by simp)
  have n5 := H0.unlike h6 (by simp)
  have m1 := set_not_box h4 h1
  have m2 := set_not_box h4 h2
  have m3 := set_not_box h4 h3
  have m4 := set_not_box h4 h5
  have m5 := set_not_box h4 H0
  have m6 := set_not_box h4 h6
  have hno : (l.map keyR).length ≤ 1000000 := by simp; omega
  have hk : hasK l (keyR x) = decide (x.id.data.toList ∈ l.map keyR) := hasK_keys _ _
  have HK := hideIt hk
  have hro := hG.2.2
  have hnd := hG.2.1
  clear hk hG hR0
  go_wp2
  go_loopg [9] 3 (fun gk i wr => ∃ k : Nat, k ≤ 3 ∧ 3 - k ≤ gk ∧ i = .int .i64 (k : Int) ∧ JSt wr gm gt h l x k ∧ Off (fun i => i = gm ∨ i = gt) w wr ∧
    Box wr w.heap.size 50 #[.string x.id, .int .u64 x.h, .int .u64 x.l] ∧ Box wr ga 96 #[.slice (some ⟨gs, 0, none⟩) 3 3] ∧
    Box wr gs 59 #[.func (.func 68) #[] #[.pointer (some ⟨g0, 0, none⟩), .pointer (some ⟨gh, 0, none⟩)], .func (.func 69) #[] #[.pointer (some ⟨g0, 0, none⟩)], .func (.func 70) #[] #[.pointer (some ⟨gt, 0, none⟩)]] ∧
    Box wr g0 117 #[.map (some gm)] ∧ Box wr gh 3 #[.int .i64 (h : Int)])
  case atStart => exact ⟨0, by omega, Nat.le_refl _, rfl, ⟨h4, h6⟩, L0, H0, h1, h2, h3, h5⟩
  case round =>
    clear H0 L0 h1 h2 h3 h4 h5 h6
    obtain ⟨k, hk3, hgk, rfl, hJ, L, H0, h1, h2, h3, h5⟩ := hrel
    have HG := hideIt hgk
    clear hgk
    obtain ⟨q0, q1, q2, f0, f1, f2, hin⟩ := H0.three
    obtain ⟨s0, s1, s2, -, -, -, his⟩ := h2.three
    rcases (show k = 0 ∨ k = 1 ∨ k = 2 ∨ k = 3 by omega) with rfl | rfl | rfl | rfl
    · obtain ⟨M, T⟩ := hJ
      by_cases hc : 2 ^ h ≤ l.length
      · have c1 := asks1_any x g0 gm gh h hh (l.map keyR) hnd wr h3 M h5
        rw [List.length_map, if_pos hc] at c1
        have e := HV.out
        rw [putL_rows hc] at e
        have HE := hideIt e
        clear e hc
        simp only [Rw.val] at c1
        go_wp2_with (first
          | (go_at_call 68; refine c1.mono ?_; rintro e w1 ⟨rfl, j1⟩)
          | fail)
        go_ret
        exact ⟨by rw [← HE.out]; rfl, L.call j1, fun h0 => by rw [← HE.out] at h0; cases h0⟩
      · have c1 := asks1_any x g0 gm gh h hh (l.map keyR) hnd wr h3 M h5
        rw [List.length_map, if_neg hc] at c1
        have HC := hideIt hc
        clear hc
        simp only [Rw.val] at c1
        go_wp2_with (first
          | (go_at_call 68; refine c1.mono ?_; rintro e w1 ⟨rfl, j1⟩)
          | fail)
        go_roundg 2
        case measure => have := HG.out; omega
        case rel => exact ⟨1, by omega, by omega, by go_num, ⟨HC.out, M.call j1, T.call j1⟩, L.call j1, H0.call j1, h1.call j1, h2.call j1, h3.call j1, h5.call j1⟩
    · obtain ⟨hc, M, T⟩ := hJ
      have HC := hideIt hc
      clear hc
      cases hq : hasK l (keyR x) with
      | true =>
        have hq2 := HK.out
        rw [hq] at hq2
        have c1 := asks2_twice x hz g0 gm (l.map keyR) hno wr h3 M hq2.symm
        have e := HV.out
        rw [putL_twice HC.out hq] at e
        have HE := hideIt e
        clear e hq2 hq
        simp only [Rw.val] at c1
        go_wp2_with (first
          | (go_at_call 69; refine c1.mono ?_; rintro e w1 ⟨rfl, j1⟩)
          | fail)
        go_ret
        exact ⟨by rw [← HE.out]; rfl, L.trans (j1.mono (fun i hi => Or.inl hi)), fun h0 => by rw [← HE.out] at h0; cases h0⟩
      | false =>
        have hq2 := HK.out
        rw [hq] at hq2
        have c1 := asks2_new x hz g0 gm (l.map keyR) hno wr h3 M hq2.symm
        have HQ := hideIt hq
        clear hq2 hq
        simp only [Rw.val] at c1
        go_wp2_with (first
          | (go_at_call 69; refine c1.mono ?_; rintro e w1 ⟨rfl, j1, M1⟩)
          | fail)
        go_roundg 1
        case measure => have := HG.out; omega
        case rel => exact ⟨2, by omega, by omega, by go_num, ⟨HC.out, HQ.out, M1, j1.box T m6⟩, L.trans (j1.mono (fun i hi => Or.inl hi)), j1.box H0 m5, j1.box h1 m1, j1.box h2 m2, j1.box h3 m3, j1.box h5 m4⟩
    · obtain ⟨hc, hq, M, T⟩ := hJ
      have HC := hideIt hc
      have HQ := hideIt hq
      clear hc hq
      cases hr : room (sumR l + nv x.h x.l) with
      | false =>
        have c1 := asks3_no x hx gt (sumR l) hro wr T hr
        have e := HV.out
        rw [putL_total HC.out HQ.out hr] at e
        have HE := hideIt e
        clear e hr
        simp only [Rw.val] at c1
        go_wp2_with (first
          | (go_at_call 70; refine c1.mono ?_; rintro e w1 ⟨rfl, j1⟩)
          | fail)
        go_ret
        exact ⟨by rw [← HE.out]; rfl, L.trans (j1.mono (fun i hi => Or.inr hi)), fun h0 => by rw [← HE.out] at h0; cases h0⟩
      | true =>
        have c1 := asks3_yes x hx gt (sumR l) hro wr T hr
        have HR := hideIt hr
        clear hr
        simp only [Rw.val] at c1
        go_wp2_with (first
          | (go_at_call 70; refine c1.mono ?_; rintro e w1 ⟨rfl, j1, T1⟩)
          | fail)
        go_roundg 0
        case measure => have := HG.out; omega
        case rel => exact ⟨3, by omega, by omega, by go_num, ⟨HC.out, HQ.out, HR.out, M.off j1 (fun e => m6 e.symm), T1⟩, L.trans (j1.mono (fun i hi => Or.inr hi)), j1.box H0 n5, j1.box h1 n1, j1.box h2 n2, j1.box h3 n3, j1.box h5 n4⟩
    · obtain ⟨hc, hq, hr, M, T⟩ := hJ
      have e := HV.out
      rw [putL_ok hc hq hr] at e
      have HE := hideIt e
      clear e hc hq hr
      go_wp2
      go_ret
      refine ⟨by rw [← HE.out]; rfl, L, fun _ => ⟨gs, g0, gm, gh, gt, h1, h2, h3, ?_, h5, ?_, h7, h8⟩⟩
      · rw [List.map_append]; exact M
      · rw [sumR_snoc]; exact T
end Go.Proofs.YthindbmgnkohhaaDoor
