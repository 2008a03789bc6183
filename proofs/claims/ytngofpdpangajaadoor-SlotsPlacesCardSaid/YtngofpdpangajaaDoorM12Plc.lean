/- Several of my texts, laid as one. -/
import Derived.Test.YtngofpdpangajaaDoorM12Pln
import Derived.Test.YtngofpdpangajaaDoorM12Set
import Derived.Test.YtngofpdpangajaaDoorT10Row
import Derived.RangeFuncNested
import Derived.RangeFuncBound
import Derived.RangeFuncCalls
import Derived.RangeFuncLeaves
import Derived.RangeFuncWrites
import Derived.RangeFuncBox
import Derived.RangeFuncKeeps
import Derived.Shelf.Abstract
import Derived.Shelf.RegionOpen
import Derived.OwnWalkIn
import Derived.TacticsInMore
import Derived.LoopNIn
import Derived.LoopIn
import Derived.Test.YtngofpdpangajaaDoorM12May
import Derived.Test.YtngofpdpangajaaDoorU7Salt
import Derived.Test.YtngofpdpangajaaDoorW5Round
import Derived.Test.YtngofpdpangajaaDoorR10Sort
/-
  Package slots' comers, walked: the function that is ranged over goes over the rows of those who are new, each with its place.
-/
namespace Go.Proofs.YtngofpdpangajaaDoor
set_option linter.unusedVariables false
set_option linter.unusedSimpArgs false
set_option maxRecDepth 10000
open Go.RowKit Go.Sort Go.Shelf
attribute [local go_sem] Oper.semAt_some

/-- Of the blocks below a height all but some lie as they lay. -/
def KpS (D : Nat) (S : Nat → Prop) (W W' : World) : Prop := W.heap.size ≤ W'.heap.size ∧ ∀ k, k < D → ¬ S k → W'.heap[k]? = W.heap[k]?
section
variable {D : Nat} {S : Nat → Prop} {A B C : World}
theorem KpS.refl (W : World) : KpS D S W W := ⟨Nat.le_refl _, fun _ _ _ => rfl⟩
theorem KpS.trans (h : KpS D S A B) (k : KpS D S B C) : KpS D S A C := ⟨Nat.le_trans h.1 k.1, fun i hi hs => (k.2 i hi hs).trans (h.2 i hi hs)⟩
theorem KpS.below (h : Below A.heap.size A B) (hD : D ≤ A.heap.size) : KpS D S A B := ⟨h.size, fun i hi _ => h.block i (Nat.lt_of_lt_of_le hi hD)⟩
theorem KpS.putObj (W : World) (l : Nat) (o' : Obj) (hl : D ≤ l) : KpS D S W (W.putObj l o') := ⟨by simp, fun i hi _ => World.putObj_heap_other (fun e => by omega)⟩
theorem KpS.grown {row : Option Nat} (h : A.grownBy B row) (hD : D ≤ A.heap.size) (hr : ∀ r, row = some r → S r) : KpS D S A B := ⟨h.size, fun i hi hs => h.block i (Nat.lt_of_lt_of_le hi hD) (fun e => hs (hr i e.symm))⟩
theorem KpS.set_ (W : World) (p : Addr) (u : Value) (hS : S p.block) : KpS D S W (W.setCell p u) := ⟨by simp, fun i hi hs => Below.heap_setCell W p u i (fun e => hs (e ▸ hS))⟩
end
/-- A row of new ones, with its place, among so many. -/
abbrev CoOf (n : Nat) := { x : Nat × Rw // x.1 < n ∧ x.2.id.size ≤ 100000 ∧ x.2.ok }
theorem abide12 {α : Type} {J : List α → World → Prop} {B : Nat} (h : AbidesFrom B J) {s : List α} {W W' : World} (hs : J s W) (hb : Below W.heap.size W W') : J s W' :=
  h s W W' none hs ⟨hb.os, hb.tape, hb.output, hb.size, fun k hk _ => hb.block k hk⟩ (fun r e => by cases e)
theorem co_next (was : List Ac) (ys : List Rw) (hz : ∀ r ∈ ys, r.id.size ≤ 100000 ∧ r.ok) : ∃ all : List (CoOf ys.length), all.map (·.1) = comK was 0 ys := by
  have key : ∀ k, k ≤ ys.length → ∃ all : List (CoOf ys.length), all.map (·.1) = comK was 0 (ys.take k) := by
    intro k
    induction k with
    | zero => intro _; exact ⟨[], by simp [comK]⟩
    | succ k ih =>
      intro hk
      obtain ⟨l, hl⟩ := ih (by omega)
      obtain ⟨r, hr⟩ : ∃ r, ys[k]? = some r := ⟨_, List.getElem?_eq_getElem (by omega)⟩
      have hm := hz r (List.mem_of_getElem? hr)
      rw [comK_take hr]
      cases newIn was r with
      | true => exact ⟨l ++ [⟨(k, r), by omega, hm.1, hm.2⟩], by rw [List.map_append, hl]; rfl⟩
      | false => exact ⟨l, by rw [hl]; simp⟩
  obtain ⟨l, hl⟩ := key ys.length (Nat.le_refl _)
  rw [List.take_length] at hl
  exact ⟨l, hl⟩
set_option maxHeartbeats 1000000 in
theorem comers_any (bm : Nat) (A : Option Addr) (n c : Nat) (w : World) : Calls Tryd.prog 69 #[.map (some bm), .slice A n c] w fun e w' =>
    e = .returned (.func (.func 87) #[] #[.pointer (some ⟨w.heap.size + 1, 0, none⟩), .pointer (some ⟨w.heap.size, 0, none⟩)]) ∧ w' = (w.alloc (.cells #[.map (some bm)] 70)).alloc (.cells #[.slice A n c] 23) := by
  go_enter Tryd.func69, Tryd.ntmps69
  go_wp2
  go_ret
  exact ⟨by simp, rfl⟩

set_option maxRecDepth 100000 in
set_option maxHeartbeats 4000000 in
theorem comers_in (D : Nat) (S : Nat → Prop) (n : Nat) (hn : 1 ≤ n) (l B1 B2 bm : Nat) (A : Option Addr) (c : Nat) (was : List Ac) (hd : (was.map keyA).Nodup) (ys : List Rw) (hm : ys.length ≤ 1000000) (hz : ∀ r ∈ ys, r.id.size ≤ 100000 ∧ r.ok)
    (J Jx : List (CoOf ys.length) → World → Prop) (W : World) (hDW : D ≤ W.heap.size) (hJ : AbidesFrom W.heap.size J)
    (hY : ∀ pre x W1, J pre W1 → pre.length < (comK was 0 ys).length → YieldAt Fence.wide (n - 1) Tryd.prog l #[.int .i64 x.1.1, x.1.2.val] W1 fun e W' =>
      (e = .returned (.bool true) ∧ J (pre ++ [x]) W' ∧ KpS D S W1 W') ∨ (e = .returned (.bool false) ∧ Jx (pre ++ [x]) W'))
    (hB1 : Box W B1 23 #[.slice A ys.length c]) (hB2 : Box W B2 70 #[.map (some bm)]) (hM : AccMap W bm was) (hR : RwRow W D A ys) (hl1 : B1 < D ∧ ¬ S B1) (hl2 : B2 < D ∧ ¬ S B2) (hl3 : bm < D ∧ ¬ S bm) (hl4 : ∀ ad, A = some ad → 0 < ys.length → ¬ S ad.block)
    (h0 : J [] W) :
    CallsIn Fence.wide n Tryd.prog 87 #[.func (.yield l) #[] #[], .pointer (some ⟨B1, 0, none⟩), .pointer (some ⟨B2, 0, none⟩)] W fun e W' => (∃ v, e = .returned v) ∧
      ((∃ xs, xs.map (·.1) = comK was 0 ys ∧ J xs W') ∨ (∃ pre, pre.map (·.1) <+: comK was 0 ys ∧ Jx pre W')) := by
  obtain ⟨N, hN⟩ : ∃ N, ys.length = N := ⟨_, rfl⟩
  have hcl : ∀ k, (comK was 0 (ys.take k)).length ≤ (comK was 0 ys).length := fun k => by
    have h := comK_app was (ys.take k) (ys.drop k) 0
    rw [List.take_append_drop] at h
    rw [h, List.length_append]
    omega
  have HCL := hideIt hcl
  clear hcl
  have hfr := hB1.read 0
  have hin1 := hB1.inside
  refine callsIn_of_wp Tryd.func87 rfl trivial ?_ rfl
  simp only [Tryd.ntmps87, List.size_toArray, List.length_cons, List.length_nil, Nat.reduceAdd, Nat.reduceSub, Array.replicate_succ, Array.replicate_zero, List.push_toArray, List.append_toArray, List.nil_append, List.cons_append]
  gi_wp2
  gi_loopw [10] (fun i wr => ∃ (k : Nat) (pre : List (CoOf ys.length)), k ≤ N ∧ i = .int .i64 k ∧ pre.map (·.1) = comK was 0 (ys.take k) ∧ J pre wr ∧ KpS D S W wr)
    (fun i _ => N - (intOf i).toNat)
  case atStart => exact ⟨0, [], Nat.zero_le _, rfl, by simp [comK], h0, KpS.refl _⟩
  case round =>
    obtain ⟨k, pre, hk, rfl, hpre, hJr, hKp⟩ := hrel
    have HPRE := hideIt hpre
    clear hpre
    by_cases hlt : k < N
    · obtain ⟨r, hr⟩ : ∃ r, ys[k]? = some r := ⟨_, List.getElem?_eq_getElem (by omega)⟩
      have hrm := hz r (List.mem_of_getElem? hr)
      obtain ⟨ad, hA, had, p0, p1, p2⟩ := hR k r hr
      subst hA
      have hbl := hKp.2 ad.block had (hl4 ad rfl (by omega))
      have hRk : RwAt wr (ad.add (k * 3)) r := RwAt.keep ⟨p0, p1, p2⟩ (by rw [o10_block]; exact hbl)
      clear p0 p1 p2
      obtain ⟨p0, p1, p2⟩ := hRk
      have hDr : D ≤ wr.heap.size := Nat.le_trans hDW hKp.1
      have p3 : (ad.add (k * 3)).block < wr.heap.size := by rw [o10_block]; omega
      have hlti : (k : Int) < (N : Int) := by omega
      have hB2r : Box wr B2 70 #[.map (some bm)] := (hKp.2 B2 hl2.1 hl2.2).trans hB2
      have hMr : AccMap wr bm was := hM.same (hKp.2 bm hl3.1 hl3.2)
      have htk := comK_take (was := was) hr
      have hnl := stay_new (was := was) (r := r)
      obtain ⟨⟨a, b⟩, hf⟩ : ∃ V, findA was (keyR r) = V := ⟨_, rfl⟩
      have hnb : newIn was r = !b := by unfold newIn; rw [hf]
      have hf2 : findA was r.id.data.toList = (a, b) := hf
      have HR := hideIt hr
      have HTK := hideIt htk
      have HNB := hideIt hnb
      clear hr htk hnl hf hnb
      rw [← hN] at hlti
      refine wpIn_wide.2 ?_
      go_upto_region 3 with fail
      have M1 := hMr.alloc (.cells #[.string r.id, .int .u64 r.h, .int .u64 r.l] 59)
      have B1r := Box.made wr 59 #[.string r.id, .int .u64 r.h, .int .u64 r.l]
      have L1 := chainA (Below.refl wr.heap.size wr) (.cells #[.string r.id, .int .u64 r.h, .int .u64 r.l] 59)
      have B2r := hB2r.past (.cells #[.string r.id, .int .u64 r.h, .int .u64 r.l] 59)
      generalize wr.alloc (.cells #[.string r.id, .int .u64 r.h, .int .u64 r.l] 59) = W1 at *
      obtain ⟨q0, q1, q2, -, -, -, hin⟩ := B1r.three
      have c2 := B2r.read 0
      have i2 := B2r.inside
      go_upto_region 4 with (first
        | (at_lookup; refine wpl_acc_look rfl _ _ 70 rfl und_accs rfl M1 hd r.id rfl (by omega) a b hf2 ?_)
        | fail)
      have L2 := chainA L1 (.cells #[.string a.id, .int .u64 a.h, .int .u64 a.l, .string a.salt, .int .u64 a.slot] 38)
      have B3r := B1r.past (.cells #[.string a.id, .int .u64 a.h, .int .u64 a.l, .string a.salt, .int .u64 a.slot] 38)
      generalize W1.alloc (.cells #[.string a.id, .int .u64 a.h, .int .u64 a.l, .string a.salt, .int .u64 a.slot] 38) = W2 at *
      obtain ⟨q0, q1, q2, -, -, -, hin⟩ := B3r.three
      have hJ2 := abide12 hJ hJr L2
      have hK2 := hKp.trans (KpS.below L2 hDr)
      cases b with
      | true =>
        go_wp2
        go_roundw
        case rel => exact ⟨k + 1, pre, by omega, by go_num, by rw [HTK.out, HNB.out, HPRE.out]; simp, hJ2, hK2⟩
        case measure => simp [intOf]; omega
      | false =>
        have hpl : pre.length < (comK was 0 ys).length := by
          have h1 := HCL.out (k + 1)
          rw [HTK.out, HNB.out, List.length_append, ← HPRE.out, List.length_map] at h1
          simp at h1
          omega
        obtain ⟨fn, tmps, assign, body, hy, hRd⟩ := hY pre ⟨(k, r), by omega, hrm.1, hrm.2⟩ W2 hJ2 hpl
        simp only [Rw.val] at hy
        refine (wpIn_wide (n := n)).1 ?_
        gi_wp2
        refine hRd.mono ?_
        rintro e W3 (⟨rfl, hJ3, hKp3⟩ | ⟨rfl, hJx3⟩)
        · gi_wp2
          go_wp2
          go_roundw
          case rel => exact ⟨k + 1, pre ++ [⟨(k, r), by omega, hrm.1, hrm.2⟩], by omega, by go_num, by rw [HTK.out, HNB.out, List.map_append, HPRE.out]; rfl, hJ3, hK2.trans hKp3⟩
          case measure => simp [intOf]; omega
        · gi_wp2
          go_wp2
          refine bodyPost_ret (results_none rfl _ _ _) rfl ?_
          refine ⟨⟨_, rfl⟩, .inr ⟨_, ?_, hJx3⟩⟩
          rw [List.map_append, HPRE.out]
          have h1 := comK_app was (ys.take (k + 1)) (ys.drop (k + 1)) 0
          rw [List.take_append_drop, HTK.out, HNB.out] at h1
          exact ⟨_, h1.symm⟩
    · have e : k = N := by omega
      subst e
      have hlti : ¬ ((k : Int) < (ys.length : Int)) := by omega
      have hp := HPRE.out
      rw [List.take_of_length_le (by omega)] at hp
      have HP2 := hideIt hp
      clear hp
      gi_wp2
      go_end0
      exact ⟨⟨_, rfl⟩, .inl ⟨pre, HP2.out, hJr⟩⟩
end Go.Proofs.YtngofpdpangajaaDoor
/-
  Package slots' place, walked: who stays, then who is new, each at its slot.
-/
namespace Go.Proofs.YtngofpdpangajaaDoor
set_option linter.unusedVariables false
set_option linter.unusedSimpArgs false
set_option maxRecDepth 10000
open Go.RowKit Go.Sort Go.Shelf
attribute [local go_sem] Oper.semAt_some

theorem infoS_acc : (Tryd.prog.info? 38).map (fun i => (i.zero, i.size, i.bytes)) = some (some (.agg #[.string ⟨#[]⟩, .int .u64 0, .int .u64 0, .string ⟨#[]⟩, .int .u64 0]), 5, 56) := by kernel_rfl
theorem made_accs (n : Nat) : madeCells #[.string ⟨#[]⟩, .int .u64 0, .int .u64 0, .string ⟨#[]⟩, .int .u64 0] (n * 5) = (accCs (List.replicate n Ac.zero)).toArray := by
  apply Array.ext'
  apply List.ext_getElem?
  intro i
  by_cases hi : i < n * 5
  · obtain ⟨q, r, hr, e⟩ : ∃ q r, r < 5 ∧ i = q * 5 + r := ⟨i / 5, i % 5, Nat.mod_lt _ (by decide), by omega⟩
    subst e
    rw [accCs_at (List.replicate n Ac.zero) q Ac.zero (by rw [List.getElem?_replicate, if_pos (by omega)]) r hr]
    have h1 : (madeCells #[Value.string ⟨#[]⟩, .int .u64 0, .int .u64 0, .string ⟨#[]⟩, .int .u64 0] (n * 5)).toList[q * 5 + r]? = some (#[Value.string ⟨#[]⟩, .int .u64 0, .int .u64 0, .string ⟨#[]⟩, .int .u64 0][(q * 5 + r) % 5]!) := by
      rw [Array.getElem?_toList]
      unfold madeCells
      rw [Array.getElem?_map, Array.getElem?_range, if_pos hi]
      rfl
    rw [h1, show (q * 5 + r) % 5 = r by omega]
    match r, hr with
    | 0, _ => rfl
    | 1, _ => rfl
    | 2, _ => rfl
    | 3, _ => rfl
    | 4, _ => rfl
  · rw [List.getElem?_eq_none (by simp [madeCells]; omega), List.getElem?_eq_none (by rw [List.toList_toArray, accCs_len, List.length_replicate]; omega)]
theorem make_accs (n : Nat) (hn : n ≤ 1000000000) (u : World) : (Instr.makeSlice 22 (.int .i64 (n : Int)) (.int .i64 (n : Int))).run Tryd.prog u = .ok (.slice (some ⟨u.heap.size, 0, none⟩) n n) (u.alloc (.cells (accCs (List.replicate n Ac.zero)).toArray 38)) := by
  obtain ⟨i0, hi, hz0, hz1, hz2⟩ := info_parts infoS_acc
  have h := run_make (P := Tryd.prog) u 22 38 i0 _ Tryd.underlying22 hi hz0 .i64 .i64 (n : Int) (n : Int) (by omega) (by omega) (by rw [hz2]; omega) (by omega)
  rw [hz1, Int.toNat_natCast] at h
  rw [← made_accs]
  exact h
/-- What place keeps: the seed, the height, the accounts, the slots, and where these two are kept. -/
def Pl (w : World) (seed : ByteArray) (h : Nat) (n : Nat) (T : List Int) (d : List Ac) (W : World) : Prop :=
  Has w [(w.heap.size + 5, 77, #[.map (some (w.heap.size + 3))]), (w.heap.size + 4, 22, #[.slice (some ⟨w.heap.size + 2, 0, none⟩) n n]), (w.heap.size + 1, 3, #[.int .i64 (h : Int)]), (w.heap.size, 9, #[.string seed])] W ∧
    AcBox W (w.heap.size + 2) d ∧ SlotSet W (w.heap.size + 3) T
section
variable {w W W' : World} {seed : ByteArray} {h n : Nat} {T : List Int} {d : List Ac}
theorem Pl.below (p : Pl w seed h n T d W) : Below w.heap.size w W := p.1.below
theorem Pl.call (p : Pl w seed h n T d W) (hb : Below W.heap.size W W') : Pl w seed h n T d W' := ⟨p.1.call hb, p.2.1.call hb, p.2.2.call hb⟩
theorem Pl.inside (p : Pl w seed h n T d W) : w.heap.size + 5 < W.heap.size := (p.1.box 0).inside
theorem Pl.grown {row : Option Nat} (p : Pl w seed h n T d W) (hg : W.grownBy W' row) (hr : ∀ r, row = some r → w.heap.size + 6 ≤ r) : Pl w seed h n T d W' := by
  have hin := p.inside
  have hne : ∀ k, k ≤ w.heap.size + 5 → some k ≠ row := fun k hk e => by have := hr k e.symm; omega
  refine ⟨⟨fun x hx => ?_, p.1.2.grown hg (by omega) (fun j hj => by have := hr j hj; omega)⟩, p.2.1.grown hg (hne _ (by omega)), p.2.2.kept hg (hne _ (by omega))⟩
  refine (p.1.1 x hx).grown hg (hne _ ?_)
  simp only [List.mem_cons, List.not_mem_nil, or_false] at hx
  rcases hx with rfl | rfl | rfl | rfl <;> simp only <;> omega
theorem Pl.take_ (p : Pl w seed h n T d W) {T' : List Int} (hg : W.grownBy W' (some (w.heap.size + 3))) (hS : SlotSet W' (w.heap.size + 3) T') : Pl w seed h n T' d W' := by
  have hin := p.inside
  refine ⟨⟨fun x hx => ?_, p.1.2.grown hg (by omega) (fun j hj => by injection hj with hj; omega)⟩, p.2.1.grown hg (fun e => by injection e with e; omega), hS⟩
  refine (p.1.1 x hx).grown hg (fun e => ?_)
  injection e with e
  simp only [List.mem_cons, List.not_mem_nil, or_false] at hx
  rcases hx with rfl | rfl | rfl | rfl <;> simp only at e <;> omega
/-- An account is written. -/
def put5 (W : World) (g i : Nat) (x : Ac) : World :=
  ((((W.setCell ⟨g, i * 5, none⟩ (.string x.id)).setCell ⟨g, i * 5 + 1, none⟩ (.int .u64 x.h)).setCell ⟨g, i * 5 + 2, none⟩ (.int .u64 x.l)).setCell ⟨g, i * 5 + 3, none⟩ (.string x.salt)).setCell ⟨g, i * 5 + 4, none⟩ (.int .u64 x.slot)
theorem put5_other (W : World) (g i : Nat) (x : Ac) (k : Nat) (hk : k ≠ g) : (put5 W g i x).heap[k]? = W.heap[k]? := by
  unfold put5
  rw [Below.heap_setCell _ _ _ _ hk, Below.heap_setCell _ _ _ _ hk, Below.heap_setCell _ _ _ _ hk, Below.heap_setCell _ _ _ _ hk, Below.heap_setCell _ _ _ _ hk]
theorem Pl.put (p : Pl w seed h n T d W) (i : Nat) (x : Ac) (hi : i < d.length) : Pl w seed h n T (d.set i x) (put5 W (w.heap.size + 2) i x) := by
  refine ⟨⟨fun y hy => ?_, below5_put p.1.2 (by omega) _ _ _ _ _ _ _ _ _ _⟩, p.2.1.put i x hi, p.2.2.same (put5_other _ _ _ _ _ (by omega))⟩
  refine (put5_other W (w.heap.size + 2) i x y.1 ?_).trans (p.1.1 y hy)
  simp only [List.mem_cons, List.not_mem_nil, or_false] at hy
  rcases hy with rfl | rfl | rfl | rfl <;> simp only <;> omega
end
theorem freeF_word {A : Int} (h1 : 1 ≤ A) (h2 : A ≤ 1024) (ks : List Int) (f : Int) : Word (freeF A ks f).1 := by
  rcases freeF_spec A ks f with ⟨s, -, -, -, e⟩ | ⟨-, e⟩
  · rw [e]
    have := sq_bd (A := A) (by omega) f s
    exact ⟨this.1, by show sq A f s < _; omega⟩
  · rw [e]
    exact word_nil
theorem firstN_word (seed id : ByteArray) (k : Int) : Word (firstN seed id k) := by
  unfold firstN
  split
  · rename_i hk
    have h1 := pow_word k.toNat (by omega)
    have h2 := Int.emod_nonneg (macN seed (⟨#[5]⟩ ++ id).data.toList) (show (2 : Int) ^ k.toNat ≠ 0 by omega)
    have h3 := Int.emod_lt_of_pos (macN seed (⟨#[5]⟩ ++ id).data.toList) h1.1
    exact ⟨h2, Int.lt_trans h3 h1.2⟩
  · exact word_nil
theorem fold_len (σ : ByteArray → ByteArray) (φ : ByteArray → Int) (A : Int) : ∀ (l : List (Nat × Rw)) (s : List Int × List Ac), (l.foldl (stP σ φ A) s).1.length = s.1.length + l.length ∧ (l.foldl (stP σ φ A) s).2.length = s.2.length := by
  intro l
  induction l with
  | nil => intro s; exact ⟨rfl, rfl⟩
  | cons x r ih =>
    intro s
    obtain ⟨h1, h2⟩ := ih (stP σ φ A s x)
    rw [List.foldl_cons]
    refine ⟨?_, ?_⟩
    · rw [h1]; unfold stP; simp; omega
    · rw [h2]; unfold stP; simp
theorem stayT_len (was : List Ac) (ys : List Rw) : (stayT was ys).length ≤ ys.length := by
  unfold stayT staysL
  rw [List.length_map]
  exact List.length_filterMap_le _ _
theorem findA_mem {was : List Ac} {k : List UInt8} {a : Ac} (h : findA was k = (a, true)) : a ∈ was ∧ keyA a = k := by
  have h1 := firstA_yes (p := fun a => decide (keyA a = k)) (l := was) (by show (findA was k).2 = true; rw [h])
  have h2 : (findA was k).1 = a := by rw [h]
  exact ⟨h2 ▸ h1.1, by have := of_decide_eq_true h1.2; rw [← h2]; exact this⟩

theorem weave_snoc_nil (was : List Ac) (l : List Rw) (r : Rw) : weave was (l ++ [r]) [] = weave was l [] ++ [(stayA was r).getD Ac.zero] := by
  rw [weave_app, List.drop_nil]
  congr 1
  cases h : newIn was r with
  | true => rw [weave_new h, stay_new h]; rfl
  | false => rw [weave_old h, stay_old h]; rfl
theorem box_own12 {β : Type} (B D : Nat) (t : TypeId) (f : β → Array Value) : OwnFrom D (fun s W => Box W B t (f s)) := fun s X Y row hs hg hrow =>
  hs.grown hg fun e => by
    obtain ⟨-, o, ho, hc⟩ := hrow B e.symm
    rw [show X.heap[B]? = _ from hs] at ho
    cases ho
    cases hc
theorem keepsFrom_below {B : Nat} {W W' : World} (h : Below W.heap.size W W') : KeepsFrom B W W' := ⟨h.size, fun k o _ hk _ => (h.block k (Array.getElem?_eq_some_iff.1 hk).1).trans hk⟩
theorem put5_size (W : World) (g i : Nat) (x : Ac) : (put5 W g i x).heap.size = W.heap.size := by unfold put5; simp
theorem keepsFrom_put {B : Nat} (W : World) (g i : Nat) (x : Ac) (hg : g < B) : KeepsFrom B W (put5 W g i x) := ⟨by rw [put5_size]; exact Nat.le_refl _, fun k o hB hk _ => (put5_other W g i x k (by omega)).trans hk⟩
theorem kpS_put {D : Nat} {S : Nat → Prop} (W : World) (g i : Nat) (x : Ac) (hg : S g) : KpS D S W (put5 W g i x) := ⟨by rw [put5_size]; exact Nat.le_refl _, fun k _ hs => put5_other W g i x k (fun e => hs (e ▸ hg))⟩
theorem box_putObj {W : World} {g D : Nat} {t : TypeId} {cs : Array Value} {o' : Obj} (h : Box W g t cs) (hne : g ≠ D) : Box (W.putObj D o') g t cs := (World.putObj_heap_other hne).trans h
/-- The same, where nothing panics. -/
def noPanic (Q : Exit → Act → World → Prop) : Exit → Act → World → Prop
  | .panic _, _, _ => False
  | e, a, w => Q e a w
theorem noPanic_to (Q : Exit → Act → World → Prop) : ∀ e a w, noPanic Q e a w → Q e a w := fun e a w h => by
  cases e <;> first | exact h | exact h.elim
/-- All that place has, behind these new ones. -/
def Fp (seed : ByteArray) (h : Nat) (was : List Ac) (ys : List Rw) (l : List (Nat × Rw)) : List Int × List Ac := l.foldl (stP (saltB seed) (fun i => firstN seed i h) (pw h)) (stayT was ys, weave was ys [])
theorem Fp_snoc (seed : ByteArray) (h : Nat) (was : List Ac) (ys : List Rw) (l : List (Nat × Rw)) (x : Nat × Rw) :
    Fp seed h was ys (l ++ [x]) = stP (saltB seed) (fun i => firstN seed i h) (pw h) (Fp seed h was ys l) x := by simp [Fp, List.foldl_append]
def PlI (w : World) (H : Nat) (seed : ByteArray) (h n : Nat) (was : List Ac) (ys : List Rw) (pre : List (CoOf ys.length)) (W : World) : Prop := H ≤ W.heap.size ∧ Pl w seed h n (Fp seed h was ys (pre.map fun x => x.1)).1 (Fp seed h was ys (pre.map fun x => x.1)).2 W
set_option maxRecDepth 100000 in
set_option maxHeartbeats 8000000 in
theorem splace_any (seed : ByteArray) (h1 : seed.size ≤ 100000) (h : Nat) (hh : h ≤ 10) (bm : Nat) (was : List Ac) (hd : (was.map keyA).Nodup) (hw : ∀ x ∈ was, x.ok ∧ x.salt.size ≤ 1000000) (A : Option Addr) (c : Nat) (ys : List Rw) (hm : ys.length ≤ 1000000) (hz : ∀ r ∈ ys, r.id.size ≤ 100000 ∧ r.ok)
    (w : World) (hM : AccMap w bm was) (hR : RwRow w w.heap.size A ys) (hK : Tab w) :
    Calls Tryd.prog 39 #[.string seed, .int .i64 h, .map (some bm), .slice A ys.length c] w fun e w' => ∃ g, e = .returned (.slice (some ⟨g, 0, none⟩) ys.length ys.length) ∧ w.heap.size ≤ g ∧ AcBox w' g (placeL (saltB seed) (fun i => firstN seed i h) (pw h) was ys) ∧ Below w.heap.size w w' := by
  obtain ⟨N, hN⟩ : ∃ N, ys.length = N := ⟨_, rfl⟩
  have hmk := make_accs N (by omega)
  have hmm := @run_makeMap Tryd.prog
  have hbm := hM.lt
  have p0 : Pl w seed h N [] (List.replicate N Ac.zero) ((((((w.alloc (.cells #[.string seed] 9)).alloc (.cells #[.int .i64 (h : Int)] 3)).alloc (.cells (accCs (List.replicate N Ac.zero)).toArray 38)).alloc (.map #[] 0)).alloc (.cells #[.slice (some ⟨w.heap.size + 2, 0, none⟩) N N] 22)).alloc (.cells #[.map (some (w.heap.size + 3))] 77)) := by
    have a1 := (((Has.start w).add 9 #[.string seed]).addAt 3 #[.int .i64 (h : Int)] (g := w.heap.size + 1) (by simp))
    have b2 := Box.made ((w.alloc (.cells #[.string seed] 9)).alloc (.cells #[.int .i64 (h : Int)] 3)) 38 (accCs (List.replicate N Ac.zero)).toArray
    have s3 := SlotSet.made (((w.alloc (.cells #[.string seed] 9)).alloc (.cells #[.int .i64 (h : Int)] 3)).alloc (.cells (accCs (List.replicate N Ac.zero)).toArray 38))
    simp only [World.size_alloc] at b2 s3
    have a2 := ((((a1.past (.cells (accCs (List.replicate N Ac.zero)).toArray 38)).past (.map #[] 0)).addAt 22 #[.slice (some ⟨w.heap.size + 2, 0, none⟩) N N] (g := w.heap.size + 4) (by simp)).addAt 77 #[.map (some (w.heap.size + 3))] (g := w.heap.size + 5) (by simp))
    exact ⟨a2, ((b2.past _).past _).past _, (s3.alloc _).alloc _⟩
  rw [hN]
  refine (callsIn_wide (n := 9)).1 (callsIn_of_wp_marks Tryd.func39 rfl trivial ?_ rfl)
  simp only [Tryd.ntmps39, List.size_toArray, List.length_cons, List.length_nil, Nat.reduceAdd, Nat.reduceSub, Array.replicate_succ, Array.replicate_zero, List.push_toArray, List.append_toArray, List.nil_append, List.cons_append]
  refine wpIn_wide.2 ?_
  refine Code.wp_mono (noPanic_to _) ?_
  go_upto_region 2 with fail
  simp only [Nat.add_assoc, Nat.reduceAdd] at p0 ⊢
  generalize World.alloc (World.alloc (World.alloc (World.alloc (World.alloc (World.alloc w _) _) _) _) _) _ = W at *
  have HP0 : Pl w seed h N (stayT was (ys.take 0)) (weave was (ys.take 0) [] ++ List.replicate (N - 0) Ac.zero) W := p0
  clear p0 hmk hmm
  go_wp2
  go_loopg [25] N (fun gk i wr => ∃ k : Nat, k ≤ N ∧ N - k ≤ gk ∧ i = .int .i64 k ∧ Pl w seed h N (stayT was (ys.take k)) (weave was (ys.take k) [] ++ List.replicate (N - k) Ac.zero) wr)
  case atStart => exact ⟨0, Nat.zero_le _, by omega, rfl, HP0⟩
  case round =>
    obtain ⟨k, hk, hgk, rfl, p⟩ := hrel
    have HG := hideIt hgk
    clear hgk HP0
    by_cases hlt : k < N
    · obtain ⟨r, hr⟩ : ∃ r, ys[k]? = some r := ⟨_, List.getElem?_eq_getElem (by omega)⟩
      have hrm := hz r (List.mem_of_getElem? hr)
      obtain ⟨ad, hA, had, c0, c1, c2⟩ := (hR.call p.below) k r hr
      subst hA
      have hlti : (k : Int) < (N : Int) := by omega
      have c3 : (ad.add (k * 3)).block < wr.heap.size := by rw [o10_block]; exact Nat.lt_of_lt_of_le had p.below.size
      have hMr := hM.call p.below
      have htk := take_more1 hr
      have hst := stayT_snoc was (ys.take k) r
      have hwv := weave_snoc_nil was (ys.take k) r
      rw [← htk] at hst hwv
      have hrep : List.replicate (N - k) Ac.zero = Ac.zero :: List.replicate (N - (k + 1)) Ac.zero := by rw [show N - k = (N - (k + 1)) + 1 by omega]; rfl
      have hdl : (weave was (ys.take k) [] ++ List.replicate (N - k) Ac.zero).length = N := by rw [List.length_append, weave_len, List.length_take, List.length_replicate]; omega
      have hwl : (weave was (ys.take k) []).length = k := by rw [weave_len, List.length_take]; omega
      have hTl := stayT_len was (ys.take k)
      rw [List.length_take] at hTl
      obtain ⟨⟨a, b⟩, hf⟩ : ∃ V, findA was (keyR r) = V := ⟨_, rfl⟩
      have hf2 : findA was r.id.data.toList = (a, b) := hf
      have hnw : newIn was r = !b := by unfold newIn; rw [hf]
      have HF := hideIt hf
      have HNW := hideIt hnw
      have HST := hideIt hst
      have HWV := hideIt hwv
      have HREP := hideIt hrep
      have HWL := hideIt hwl
      clear hr htk hst hwv hrep hwl hf hnw
      have p1 := p.call ((Below.refl wr.heap.size wr).alloc (Nat.le_refl _) (.cells #[.string r.id, .int .u64 r.h, .int .u64 r.l] 59))
      have M1 := hMr.alloc (.cells #[.string r.id, .int .u64 r.h, .int .u64 r.l] 59)
      have B1 := Box.made wr 59 #[.string r.id, .int .u64 r.h, .int .u64 r.l]
      go_upto_region 5 with fail
      generalize wr.alloc (.cells #[.string r.id, .int .u64 r.h, .int .u64 r.l] 59) = W1 at *
      obtain ⟨q0, q1, q2, -, -, -, hin⟩ := B1.three
      obtain ⟨g1, hg1⟩ : ∃ g, wr.heap.size = g := ⟨_, rfl⟩
      have hwg1 := p.inside
      rw [hg1] at q0 q1 q2 hin B1 hwg1 ⊢
      clear hg1 c0 c1 c2 c3 hMr
      go_upto_region 6 with (first
        | (at_lookup; refine wpl_acc_look rfl _ _ 70 rfl und_accs rfl M1 hd r.id rfl (by omega) a b hf2 ?_)
        | fail)
      have p2 := p1.call ((Below.refl W1.heap.size W1).alloc (Nat.le_refl _) (.cells #[.string a.id, .int .u64 a.h, .int .u64 a.l, .string a.salt, .int .u64 a.slot] 38))
      have B2 := B1.past (.cells #[.string a.id, .int .u64 a.h, .int .u64 a.l, .string a.salt, .int .u64 a.slot] 38)
      have C2 := Box.made W1 38 #[.string a.id, .int .u64 a.h, .int .u64 a.l, .string a.salt, .int .u64 a.slot]
      generalize W1.alloc (.cells #[.string a.id, .int .u64 a.h, .int .u64 a.l, .string a.salt, .int .u64 a.slot] 38) = W2 at *
      obtain ⟨g2, hg2⟩ : ∃ g, W1.heap.size = g := ⟨_, rfl⟩
      rw [hg2] at C2 hin ⊢
      clear hg2 M1 p1 B1 q0 q1 q2
      cases b with
      | true =>
        obtain ⟨ham, hak⟩ := findA_mem HF.out
        obtain ⟨aok, asz⟩ := hw a ham
        have cC := fun u => clone_any a.salt (by omega) u
        have hS : ∀ u, Below W2.heap.size W2 u → u.cell? ⟨w.heap.size + 4, 0, none⟩ = some (.slice (some ⟨w.heap.size + 2, 0, none⟩) N N) ∧ u.cell? ⟨g1, 0, none⟩ = some (.string r.id) ∧ u.cell? ⟨g1, 1, none⟩ = some (.int .u64 r.h) ∧ u.cell? ⟨g1, 2, none⟩ = some (.int .u64 r.l) ∧ u.cell? ⟨g2, 3, none⟩ = some (.string a.salt) ∧ u.cell? ⟨g2, 4, none⟩ = some (.int .u64 a.slot) ∧ g1 < u.heap.size ∧ g2 < u.heap.size ∧ w.heap.size + 4 < u.heap.size := fun u hb =>
          ⟨((p2.1.box 1).call hb).read 0, (B2.call hb).read 0, (B2.call hb).read 1, (B2.call hb).read 2, (C2.call hb).read 3, (C2.call hb).read 4, (B2.call hb).inside, (C2.call hb).inside, ((p2.1.box 1).call hb).inside⟩
        go_upto_region 7 with fail
        refine wp_region_held_drew (S := fun u => u.cell? ⟨w.heap.size + 4, 0, none⟩ = some (.slice (some ⟨w.heap.size + 2, 0, none⟩) N N) ∧ u.cell? ⟨g1, 0, none⟩ = some (.string r.id) ∧ u.cell? ⟨g1, 1, none⟩ = some (.int .u64 r.h) ∧ u.cell? ⟨g1, 2, none⟩ = some (.int .u64 r.l) ∧ u.cell? ⟨g2, 3, none⟩ = some (.string a.salt) ∧ u.cell? ⟨g2, 4, none⟩ = some (.int .u64 a.slot) ∧ g1 < u.heap.size ∧ g2 < u.heap.size ∧ w.heap.size + 4 < u.heap.size) (by kernel_rfl) (hS _ (Below.refl _ _).drew) (fun hHeld => ?_)
        refine wpAnyH_take (i := 0) (v := ?_) rfl (by kernel_rfl) (by kernel_rfl) (by kernel_rfl) (fun _ _ _ h => h) (Or.inl ⟨by rfl, ?_⟩) (by assumption) ?_
        rotate_left 1
        · intro w hSw; (try dsimp only at hSw); go_simp; try with_reducible rfl
        try simp only [Act.put, List.getElem_toArray, List.getElem_cons_succ, List.getElem_cons_zero, List.setIfInBounds_toArray, List.set_cons_zero, List.set_cons_succ]
        refine wpAnyH_take (i := 1) (v := ?_) rfl (by kernel_rfl) (by kernel_rfl) (by kernel_rfl) (fun _ _ _ h => h) (Or.inl ⟨by rfl, ?_⟩) (by assumption) ?_
        rotate_left 1
        · intro w hSw; (try dsimp only at hSw); go_simp; try with_reducible rfl
        try simp only [Act.put, List.getElem_toArray, List.getElem_cons_succ, List.getElem_cons_zero, List.setIfInBounds_toArray, List.set_cons_zero, List.set_cons_succ]
        refine wpAnyH_take (i := 2) (v := ?_) rfl (by kernel_rfl) (by kernel_rfl) (by kernel_rfl) (fun _ _ _ h => h) (Or.inl ⟨by rfl, ?_⟩) (by assumption) ?_
        rotate_left 1
        · intro w hSw; (try dsimp only at hSw); go_simp; try with_reducible rfl
        try simp only [Act.put, List.getElem_toArray, List.getElem_cons_succ, List.getElem_cons_zero, List.setIfInBounds_toArray, List.set_cons_zero, List.set_cons_succ]
        refine wpAnyH_take (i := 3) (v := ?_) rfl (by kernel_rfl) (by kernel_rfl) (by kernel_rfl) (fun _ _ _ h => h) (Or.inl ⟨by rfl, ?_⟩) (by assumption) ?_
        rotate_left 1
        · intro w hSw; (try dsimp only at hSw); go_simp; try with_reducible rfl
        try simp only [Act.put, List.getElem_toArray, List.getElem_cons_succ, List.getElem_cons_zero, List.setIfInBounds_toArray, List.set_cons_zero, List.set_cons_succ]
        refine wpAnyH_take (i := 4) (v := ?_) rfl (by kernel_rfl) (by kernel_rfl) (by kernel_rfl) (fun _ _ _ h => h) (Or.inl ⟨by rfl, ?_⟩) (by assumption) ?_
        rotate_left 1
        · intro w hSw; (try dsimp only at hSw); go_simp; try with_reducible rfl
        try simp only [Act.put, List.getElem_toArray, List.getElem_cons_succ, List.getElem_cons_zero, List.setIfInBounds_toArray, List.set_cons_zero, List.set_cons_succ]
        refine wpAnyH_take (i := 5) (v := ?_) rfl (by kernel_rfl) (by kernel_rfl) (by kernel_rfl) (fun _ _ _ h => h) (Or.inl ⟨by rfl, ?_⟩) (by assumption) ?_
        rotate_left 1
        · intro w hSw; (try dsimp only at hSw); go_simp; try with_reducible rfl
        try simp only [Act.put, List.getElem_toArray, List.getElem_cons_succ, List.getElem_cons_zero, List.setIfInBounds_toArray, List.set_cons_zero, List.set_cons_succ]
        refine wpAnyH_take (i := 6) (v := ?_) rfl (by kernel_rfl) (by kernel_rfl) (by kernel_rfl) (fun _ _ _ h => h) (Or.inl ⟨by rfl, ?_⟩) (by assumption) ?_
        rotate_left 1
        · intro w hSw; (try dsimp only at hSw); go_simp; try with_reducible rfl
        try simp only [Act.put, List.getElem_toArray, List.getElem_cons_succ, List.getElem_cons_zero, List.setIfInBounds_toArray, List.set_cons_zero, List.set_cons_succ]
        refine wpAnyH_take (i := 7) (v := ?_) rfl (by kernel_rfl) (by kernel_rfl) (by kernel_rfl) (fun _ _ _ h => h) (Or.inl ⟨by rfl, ?_⟩) (by assumption) ?_
        rotate_left 1
        · intro w hSw; (try dsimp only at hSw); go_simp; try with_reducible rfl
        try simp only [Act.put, List.getElem_toArray, List.getElem_cons_succ, List.getElem_cons_zero, List.setIfInBounds_toArray, List.set_cons_zero, List.set_cons_succ]
        refine wpAnyH_take (i := 9) (v := ?_) rfl (by kernel_rfl) (by kernel_rfl) (by kernel_rfl) (fun _ _ _ h => h) (Or.inl ⟨by rfl, ?_⟩) (by assumption) ?_
        rotate_left 1
        · intro w hSw; (try dsimp only at hSw); go_simp; try with_reducible rfl
        try simp only [Act.put, List.getElem_toArray, List.getElem_cons_succ, List.getElem_cons_zero, List.setIfInBounds_toArray, List.set_cons_zero, List.set_cons_succ]
        refine wpAnyH_take (i := 10) (v := ?_) rfl (by kernel_rfl) (by kernel_rfl) (by kernel_rfl) (fun _ _ _ h => h) (Or.inl ⟨by rfl, ?_⟩) (by assumption) ?_
        rotate_left 1
        · intro w hSw; (try dsimp only at hSw); go_simp; try with_reducible rfl
        try simp only [Act.put, List.getElem_toArray, List.getElem_cons_succ, List.getElem_cons_zero, List.setIfInBounds_toArray, List.set_cons_zero, List.set_cons_succ]
        refine wpAnyH_ready (rs := [8]) (by kernel_rfl) (by simp) (AllReadyH.cons rfl (fun K hK => ?_) AllReadyH.nil)
        go_simp
        go_at_call 57
        refine (cC _).mono ?_
        rintro e v1 ⟨rfl, hv1⟩
        have hb1 := chain (Below.refl W2.heap.size W2).drew hv1
        try simp only []
        refine hK.out _ _ (hS _ hb1) (fun hHeld => ?_)
        clear hK K
        try simp only [Act.put, List.getElem_toArray, List.getElem_cons_succ, List.getElem_cons_zero, List.setIfInBounds_toArray, List.set_cons_zero, List.set_cons_succ]
        refine wpAnyH_take (i := 11) (v := ?_) rfl (by kernel_rfl) (by kernel_rfl) (by kernel_rfl) (fun _ _ _ h => h) (Or.inl ⟨by rfl, ?_⟩) (by assumption) ?_
        rotate_left 1
        · intro w hSw; (try dsimp only at hSw); go_simp; try with_reducible rfl
        try simp only [Act.put, List.getElem_toArray, List.getElem_cons_succ, List.getElem_cons_zero, List.setIfInBounds_toArray, List.set_cons_zero, List.set_cons_succ]
        refine wpAnyH_take (i := 12) (v := ?_) rfl (by kernel_rfl) (by kernel_rfl) (by kernel_rfl) (fun _ _ _ h => h) (Or.inl ⟨by rfl, ?_⟩) (by assumption) ?_
        rotate_left 1
        · intro w hSw; (try dsimp only at hSw); go_simp; try with_reducible rfl
        try simp only [Act.put, List.getElem_toArray, List.getElem_cons_succ, List.getElem_cons_zero, List.setIfInBounds_toArray, List.set_cons_zero, List.set_cons_succ]
        have p3 := p2.call hb1
        have C3 := C2.call hb1
        have B3 := B2.call hb1
        obtain ⟨x0, hx0, e0, e1, e2, e3, e4⟩ := p3.2.1.at k (by rw [hdl]; exact hlt)
        have f0 := p3.2.1.free (k * 5)
        have f1 := p3.2.1.free (k * 5 + 1)
        have f2 := p3.2.1.free (k * 5 + 2)
        have f3 := p3.2.1.free (k * 5 + 3)
        have f4 := p3.2.1.free (k * 5 + 4)
        have hin2 := p3.2.1.inside
        refine wpAnyH_ready (rs := [13]) (by kernel_rfl) (by simp) (AllReadyH.cons rfl (fun K hK => ?_) AllReadyH.nil)
        go_simp
        have p4 := p3.put k ⟨r.id, r.h, r.l, a.salt, a.slot⟩ (by rw [hdl]; exact hlt)
        have hg2n : w.heap.size + 5 < g2 := by omega
        have C4 : Box (put5 v1 (w.heap.size + 2) k ⟨r.id, r.h, r.l, a.salt, a.slot⟩) g2 38 #[.string a.id, .int .u64 a.h, .int .u64 a.l, .string a.salt, .int .u64 a.slot] := (put5_other _ _ _ _ _ (by omega)).trans C3
        have B4 : Box (put5 v1 (w.heap.size + 2) k ⟨r.id, r.h, r.l, a.salt, a.slot⟩) g1 59 #[.string r.id, .int .u64 r.h, .int .u64 r.l] := (put5_other _ _ _ _ _ (by omega)).trans B3
        clear e0 e1 e2 e3 e4 f0 f1 f2 f3 f4 hin2 hx0
        change K _ (put5 v1 (w.heap.size + 2) k ⟨r.id, r.h, r.l, a.salt, a.slot⟩)
        generalize put5 v1 (w.heap.size + 2) k ⟨r.id, r.h, r.l, a.salt, a.slot⟩ = W4 at *
        refine hK.out _ _ (⟨(p4.1.box 1).read 0, B4.read 0, B4.read 1, B4.read 2, C4.read 3, C4.read 4, B4.inside, C4.inside, (p4.1.box 1).inside⟩) (fun hHeld => ?_)
        clear hK K
        try simp only [Act.put, List.getElem_toArray, List.getElem_cons_succ, List.getElem_cons_zero, List.setIfInBounds_toArray, List.set_cons_zero, List.set_cons_succ]
        refine wpAnyH_done (by kernel_rfl) ?_ _
        have d5 := (p4.1.box 0).read 0
        have d6 := C4.read 4
        have d7 := C4.inside
        have d8 := (p4.1.box 0).inside
        have cT := fun u hu => stake_any (w.heap.size + 3) (stayT was (ys.take k)) a.slot aok.2.2 (by omega) u hu
        have hset : (weave was (ys.take k) [] ++ List.replicate (N - k) Ac.zero).set k ⟨r.id, r.h, r.l, a.salt, a.slot⟩ = weave was (ys.take (k + 1)) [] ++ List.replicate (N - (k + 1)) Ac.zero := by
          rw [HREP.out, List.set_append_right _ _ (by rw [HWL.out]; exact Nat.le_refl _), HWL.out, Nat.sub_self, List.set_cons_zero, HWV.out, stay_old HNW.out, HF.out]
          simp
        have hT2 : stayT was (ys.take (k + 1)) = stayT was (ys.take k) ++ [a.slot] := by rw [HST.out, stay_old HNW.out, HF.out]
        have HSET := hideIt hset
        have HT2 := hideIt hT2
        clear hset hT2
        go_wp2_with (first
          | (go_at_call 55; refine (cT _ p4.2.2).mono ?_; rintro e v5 ⟨rfl, S5, hg5⟩)
          | fail)
        have p5 := p4.take_ hg5 S5
        go_roundg (N - (k + 1))
        case measure => have := HG.out; omega
        case rel => exact ⟨k + 1, by omega, Nat.le_refl _, by go_num, by rw [HT2.out, ← HSET.out]; exact p5⟩
      | false =>
        have hset : weave was (ys.take k) [] ++ List.replicate (N - k) Ac.zero = weave was (ys.take (k + 1)) [] ++ List.replicate (N - (k + 1)) Ac.zero := by
          rw [HREP.out, HWV.out, stay_new HNW.out]
          simp
        have hT2 : stayT was (ys.take (k + 1)) = stayT was (ys.take k) := by rw [HST.out, stay_new HNW.out]; simp
        have HSET := hideIt hset
        have HT2 := hideIt hT2
        clear hset hT2
        go_wp2
        go_roundg (N - (k + 1))
        case measure => have := HG.out; omega
        case rel => exact ⟨k + 1, by omega, Nat.le_refl _, by go_num, by rw [HT2.out, ← HSET.out]; exact p2⟩
    · have e : k = N := by omega
      subst e
      have cC := fun u => comers_any bm A k c u
      go_upto_region 11 with (first
        | (go_at_call 69; refine (cC _).mono ?_; rintro e v1 ⟨rfl, rfl⟩)
        | fail)
      have hTk : ys.take k = ys := List.take_of_length_le (by omega)
      rw [hTk, Nat.sub_self, List.replicate_zero, List.append_nil] at p
      clear hTk HG hlt
      have bxM := (Box.made wr 70 #[.map (some bm)]).past (.cells #[.slice A k c] 23)
      have bxR := Box.made (wr.alloc (.cells #[.map (some bm)] 70)) 23 #[.slice A k c]
      rw [World.size_alloc] at bxR
      have LY := chainA (chainA (Below.refl wr.heap.size wr) (.cells #[.map (some bm)] 70)) (.cells #[.slice A k c] 23)
      have hG0 := p.inside
      have pY := p.call LY
      have MY := (hM.call p.below).call LY
      have RY := (hR.call p.below).call (LY.mono p.below.size)
      have hYs : ((wr.alloc (.cells #[.map (some bm)] 70)).alloc (.cells #[.slice A k c] 23)).heap.size = wr.heap.size + 2 := by simp
      obtain ⟨G, hG⟩ : ∃ G, wr.heap.size = G := ⟨_, rfl⟩
      rw [hG] at bxM bxR hYs hG0 ⊢
      generalize (wr.alloc (.cells #[.map (some bm)] 70)).alloc (.cells #[.slice A k c] 23) = Y at *
      clear LY p cC hG
      have hAS : ∀ ad, A = some ad → 0 < ys.length → ad.block < w.heap.size := fun ad e h0 => by
        obtain ⟨r, hr⟩ : ∃ r, ys[0]? = some r := ⟨_, List.getElem?_eq_getElem h0⟩
        obtain ⟨ad', e', h', -⟩ := hR 0 r hr
        rw [e] at e'
        injection e' with e'
        rw [e']
        exact h'
      refine (wpIn_wide (n := 9)).1 ?_
      refine wpIn_rangeFunc_ownH (F := Fence.wide) (n := 9) rfl (by decide) (gf := 87) (lb := #[.pointer (some ⟨G + 1, 0, none⟩), .pointer (some ⟨G, 0, none⟩)]) rfl trivial (enters_of Tryd.func87 (by kernel_rfl) rfl)
        (encs := fun x : CoOf ys.length => #[.int .i64 (x.1.1 : Int), x.1.2.val]) (Kp := KpS Y.heap.size (fun i => i = w.heap.size + 2 ∨ i = w.heap.size + 3)) (S := fun xs => xs.map (·.1) = comK was 0 ys) (Sp := fun pre => pre.map (·.1) <+: comK was 0 ys) (N := (comK was 0 ys).length) (w0 := Y)
        ?hseq (fun a b => a.trans b) (fun W l o o' hl _ _ _ => KpS.putObj W l o' hl) (Below.refl _ _) (fun _ => rfl)
        (PlI w Y.heap.size seed h k was ys) (fun _ _ _ => False) (fun s W W' row hs hg hr => ⟨Nat.le_trans hs.1 hg.size, Pl.grown hs.2 hg (fun r e => by have := (hr r e).1; omega)⟩) (fun _ _ _ _ _ hs _ _ => hs) ⟨Nat.le_refl _, pY⟩
        (fun x a' W => ∃ Bx, w.heap.size + 5 < Bx ∧ Box W Bx 59 #[.string x.1.2.id, .int .u64 x.1.2.h, .int .u64 x.1.2.l] ∧
          a' = { tmps := #[.string seed, .int .i64 (h : Int), .map (some bm), .slice A k c, .pointer (some ⟨w.heap.size, 0, none⟩), .pointer (some ⟨w.heap.size + 1, 0, none⟩), undef, undef, .slice none 0 0, .pointer (some ⟨w.heap.size + 4, 0, none⟩), .pointer (some ⟨w.heap.size + 5, 0, none⟩), u11, u12, u13, u14, .int .i64 (x.1.1 : Int), .pointer (some ⟨Bx, 0, none⟩), undef, undef, .slice A k c, .int .i64 (k : Int), .slice (some ⟨w.heap.size + 2, 0, none⟩) k k, .map (some (w.heap.size + 3)), .slice A k c, .int .i64 (k : Int), .int .i64 (k : Int), .bool false, u27, u28, u29, u30, u31, u32, u33, u34, u35, u36, u37, u38, u39, u40, u41, u42, u43, u44, u45, u46, u47, u48, u49, u50, u51, u52, u53, u54, u55, .map (some bm), .slice A k c, .func (.func 87) #[] #[.pointer (some ⟨G + 1, 0, none⟩), .pointer (some ⟨G, 0, none⟩)], .int .i64 (x.1.1 : Int), x.1.2.val, undef, undef, undef, undef, undef, undef, undef, undef, undef, undef, undef, undef, undef, undef, undef, undef, undef, undef, undef, undef, undef, undef, undef, undef, undef, undef, undef, undef], defers := [] })
        ?hAx ?assign ?body ?done ?stop
      case hseq =>
        intro l J Jx W hW hJ hJx hY h0
        have := comers_in Y.heap.size (fun i => i = w.heap.size + 2 ∨ i = w.heap.size + 3) 8 (by decide) l (G + 1) G bm A c was hd ys hm hz J Jx W hW.size hJ hY (by rw [hN]; exact bxR.call hW) (bxM.call hW) (MY.call hW) ((RY.more (by omega)).call hW) ⟨by omega, by omega⟩ ⟨by omega, by omega⟩ ⟨by omega, by omega⟩ ?_ h0
        · exact this
        · intro ad e h0 hs
          have := hAS ad e h0
          omega
      case hAx =>
        rintro x a' s W W' row ⟨Bx, h1, h2, h3⟩ hg hr
        exact ⟨Bx, h1, box_own12 (β := Unit) Bx _ _ (fun _ => _) () W W' row h2 hg hr, h3⟩
      case assign =>
        rintro l pre ⟨⟨q, r⟩, hq1, hq2, hq3⟩ W K hI hK2
        simp only [Rw.val] at hK2 ⊢
        have hin := hI.2.inside
        have hHs := hI.1
        gi_wp2
        exact hK2 _ _ ((KeepsOthers.alloc _ _).from _) (KpS.below ((Below.refl _ W).alloc (Nat.le_refl _) _) hI.1) ⟨by rw [World.size_alloc]; omega, hI.2.call ((Below.refl _ W).alloc (Nat.le_refl _) _)⟩ ⟨W.heap.size, hin, Box.made _ _ _, rfl⟩
      case body =>
        rintro l pre ⟨⟨q, r⟩, hq1, hq2, hq3⟩ a' W hl ⟨rr, hrr⟩ ⟨hHs, hI⟩ ⟨Bx, hBx, hbox, rfl⟩ hlt
        simp only [Rw.val] at *
        have hsn := Fp_snoc seed h was ys (pre.map fun x => x.1) (q, r)
        obtain ⟨hl1, hl2⟩ := fold_len (saltB seed) (fun i => firstN seed i h) (pw h) (pre.map fun x => x.1) (stayT was ys, weave was ys [])
        change (Fp seed h was ys (pre.map fun x => x.1)).1.length = _ at hl1
        change (Fp seed h was ys (pre.map fun x => x.1)).2.length = _ at hl2
        rw [weave_len] at hl2
        rw [List.length_map] at hl1
        have hl3 := stayT_len was ys
        have hl4 := comK_len was ys 0
        have hl5 : cntN was ys ≤ ys.length := List.length_filter_le _ _
        obtain ⟨⟨T, d⟩, hTd⟩ : ∃ V, Fp seed h was ys (pre.map fun x => x.1) = V := ⟨_, rfl⟩
        rw [hTd] at hI hl1 hl2 hsn
        simp only at hI hl1 hl2
        have hTl : T.length ≤ 1000000000 := by omega
        unfold stP newA at hsn
        simp only at hsn
        have hf := firstN_word seed r.id h
        have cF := fun u hu => first7_any seed r.id h h1 hq2 u hu
        have cS := fun u hu => salt_any seed r.id h1 hq2 u hu
        generalize firstN seed r.id h = f at *
        have cE := fun u hu => sfree_any (w.heap.size + 3) T h hh f hf u hu
        have hpb := pw_bd h hh
        have hn := freeF_word hpb.1 hpb.2 T f
        obtain ⟨⟨n, b⟩, hnb⟩ : ∃ V, freeF (pw h) T f = V := ⟨_, rfl⟩
        rw [hnb] at cE hn hsn
        simp only at hn hsn
        have cT := fun u hu => stake_any (w.heap.size + 3) T n hn hTl u hu
        generalize saltB seed r.id = sa at *
        have HSN := hideIt hsn
        clear hsn hl1 hl3 hl4 hl5 hTd hnb hf
        have hmx : Tryd.prog.follows .mixedOrders = true := by kernel_rfl
        have hS : ∀ u, Below W.heap.size W u → u.cell? ⟨w.heap.size + 5, 0, none⟩ = some (.map (some (w.heap.size + 3))) ∧ u.cell? ⟨w.heap.size + 1, 0, none⟩ = some (.int .i64 (h : Int)) ∧ u.cell? ⟨w.heap.size, 0, none⟩ = some (.string seed) ∧ u.cell? ⟨Bx, 0, none⟩ = some (.string r.id) ∧ w.heap.size + 5 < u.heap.size ∧ w.heap.size + 1 < u.heap.size ∧ w.heap.size < u.heap.size ∧ Bx < u.heap.size := fun u hb => by
          have p := hI.call hb
          have b := hbox.call hb
          exact ⟨(p.1.box 0).read 0, (p.1.box 2).read 0, (p.1.box 3).read 0, b.read 0, (p.1.box 0).inside, (p.1.box 2).inside, (p.1.box 3).inside, b.inside⟩
        gi_wp2
        refine region_round (S := fun u => u.cell? ⟨w.heap.size + 5, 0, none⟩ = some (.map (some (w.heap.size + 3))) ∧ u.cell? ⟨w.heap.size + 1, 0, none⟩ = some (.int .i64 (h : Int)) ∧ u.cell? ⟨w.heap.size, 0, none⟩ = some (.string seed) ∧ u.cell? ⟨Bx, 0, none⟩ = some (.string r.id) ∧ w.heap.size + 5 < u.heap.size ∧ w.heap.size + 1 < u.heap.size ∧ w.heap.size < u.heap.size ∧ Bx < u.heap.size) hmx (by kernel_rfl) (fun ⟨a, u, h⟩ => h) (hS _ (Below.refl _ _).drew) (fun hHeld => ?_)
        have hKW := hK.call hI.below
        refine wpAnyH_take (i := 0) (v := ?_) rfl (by kernel_rfl) (by kernel_rfl) (by kernel_rfl) (fun _ _ _ h => h) (Or.inl ⟨by rfl, ?_⟩) (by assumption) ?_
        rotate_left 1
        · intro w hSw; (try dsimp only at hSw); go_simp; try with_reducible rfl
        try simp only [Act.put, List.getElem_toArray, List.getElem_cons_succ, List.getElem_cons_zero, List.setIfInBounds_toArray, List.set_cons_zero, List.set_cons_succ]
        refine wpAnyH_take (i := 1) (v := ?_) rfl (by kernel_rfl) (by kernel_rfl) (by kernel_rfl) (fun _ _ _ h => h) (Or.inl ⟨by rfl, ?_⟩) (by assumption) ?_
        rotate_left 1
        · intro w hSw; (try dsimp only at hSw); go_simp; try with_reducible rfl
        try simp only [Act.put, List.getElem_toArray, List.getElem_cons_succ, List.getElem_cons_zero, List.setIfInBounds_toArray, List.set_cons_zero, List.set_cons_succ]
        refine wpAnyH_take (i := 2) (v := ?_) rfl (by kernel_rfl) (by kernel_rfl) (by kernel_rfl) (fun _ _ _ h => h) (Or.inl ⟨by rfl, ?_⟩) (by assumption) ?_
        rotate_left 1
        · intro w hSw; (try dsimp only at hSw); go_simp; try with_reducible rfl
        try simp only [Act.put, List.getElem_toArray, List.getElem_cons_succ, List.getElem_cons_zero, List.setIfInBounds_toArray, List.set_cons_zero, List.set_cons_succ]
        refine wpAnyH_take (i := 3) (v := ?_) rfl (by kernel_rfl) (by kernel_rfl) (by kernel_rfl) (fun _ _ _ h => h) (Or.inl ⟨by rfl, ?_⟩) (by assumption) ?_
        rotate_left 1
        · intro w hSw; (try dsimp only at hSw); go_simp; try with_reducible rfl
        try simp only [Act.put, List.getElem_toArray, List.getElem_cons_succ, List.getElem_cons_zero, List.setIfInBounds_toArray, List.set_cons_zero, List.set_cons_succ]
        refine wpAnyH_take (i := 4) (v := ?_) rfl (by kernel_rfl) (by kernel_rfl) (by kernel_rfl) (fun _ _ _ h => h) (Or.inl ⟨by rfl, ?_⟩) (by assumption) ?_
        rotate_left 1
        · intro w hSw; (try dsimp only at hSw); go_simp; try with_reducible rfl
        try simp only [Act.put, List.getElem_toArray, List.getElem_cons_succ, List.getElem_cons_zero, List.setIfInBounds_toArray, List.set_cons_zero, List.set_cons_succ]
        refine wpAnyH_take (i := 5) (v := ?_) rfl (by kernel_rfl) (by kernel_rfl) (by kernel_rfl) (fun _ _ _ h => h) (Or.inl ⟨by rfl, ?_⟩) (by assumption) ?_
        rotate_left 1
        · intro w hSw; (try dsimp only at hSw); go_simp; try with_reducible rfl
        try simp only [Act.put, List.getElem_toArray, List.getElem_cons_succ, List.getElem_cons_zero, List.setIfInBounds_toArray, List.set_cons_zero, List.set_cons_succ]
        refine wpAnyH_ready (rs := [6]) (by kernel_rfl) (by simp) (AllReadyH.cons rfl (fun K hK => ?_) AllReadyH.nil)
        go_simp
        go_at_call 31
        refine (cF _ hKW.drew).mono ?_
        rintro e v1 ⟨rfl, hv1⟩
        have hb1 := chain (Below.refl W.heap.size W).drew hv1
        try simp only []
        refine hK.out _ _ (hS _ hb1) (fun hHeld => ?_)
        clear hK K
        try simp only [Act.put, List.getElem_toArray, List.getElem_cons_succ, List.getElem_cons_zero, List.setIfInBounds_toArray, List.set_cons_zero, List.set_cons_succ]
        refine wpAnyH_ready (rs := [7]) (by kernel_rfl) (by simp) (AllReadyH.cons rfl (fun K hK => ?_) AllReadyH.nil)
        go_simp
        go_at_call 53
        refine (cE _ (hI.call hb1).2.2).mono ?_
        rintro e v2 ⟨rfl, hv2⟩
        have hb2 := chain hb1 hv2
        try simp only []
        refine hK.out _ _ (hS _ hb2) (fun hHeld => ?_)
        clear hK K
        try simp only [Act.put, List.getElem_toArray, List.getElem_cons_succ, List.getElem_cons_zero, List.setIfInBounds_toArray, List.set_cons_zero, List.set_cons_succ]
        refine wpAnyH_take (i := 8) (v := ?_) rfl (by kernel_rfl) (by kernel_rfl) (by kernel_rfl) (fun _ _ _ h => h) (Or.inl ⟨by rfl, ?_⟩) (by assumption) ?_
        rotate_left 1
        · intro w hSw; (try dsimp only at hSw); go_simp; try with_reducible rfl
        try simp only [Act.put, List.getElem_toArray, List.getElem_cons_succ, List.getElem_cons_zero, List.setIfInBounds_toArray, List.set_cons_zero, List.set_cons_succ]
        refine wpAnyH_take (i := 9) (v := ?_) rfl (by kernel_rfl) (by kernel_rfl) (by kernel_rfl) (fun _ _ _ h => h) (Or.inl ⟨by rfl, ?_⟩) (by assumption) ?_
        rotate_left 1
        · intro w hSw; (try dsimp only at hSw); go_simp; try with_reducible rfl
        try simp only [Act.put, List.getElem_toArray, List.getElem_cons_succ, List.getElem_cons_zero, List.setIfInBounds_toArray, List.set_cons_zero, List.set_cons_succ]
        refine wpAnyH_take (i := 10) (v := ?_) rfl (by kernel_rfl) (by kernel_rfl) (by kernel_rfl) (fun _ _ _ h => h) (Or.inl ⟨by rfl, ?_⟩) (by assumption) ?_
        rotate_left 1
        · intro w hSw; (try dsimp only at hSw); go_simp; try with_reducible rfl
        try simp only [Act.put, List.getElem_toArray, List.getElem_cons_succ, List.getElem_cons_zero, List.setIfInBounds_toArray, List.set_cons_zero, List.set_cons_succ]
        refine wpAnyH_take (i := 11) (v := ?_) rfl (by kernel_rfl) (by kernel_rfl) (by kernel_rfl) (fun _ _ _ h => h) (Or.inl ⟨by rfl, ?_⟩) (by assumption) ?_
        rotate_left 1
        · intro w hSw; (try dsimp only at hSw); go_simp; try with_reducible rfl
        try simp only [Act.put, List.getElem_toArray, List.getElem_cons_succ, List.getElem_cons_zero, List.setIfInBounds_toArray, List.set_cons_zero, List.set_cons_succ]
        refine wpAnyH_take (i := 12) (v := ?_) rfl (by kernel_rfl) (by kernel_rfl) (by kernel_rfl) (fun _ _ _ h => h) (Or.inl ⟨by rfl, ?_⟩) (by assumption) ?_
        rotate_left 1
        · intro w hSw; (try dsimp only at hSw); go_simp; try with_reducible rfl
        try simp only [Act.put, List.getElem_toArray, List.getElem_cons_succ, List.getElem_cons_zero, List.setIfInBounds_toArray, List.set_cons_zero, List.set_cons_succ]
        refine wpAnyH_done (by kernel_rfl) ?_ _
        try dsimp only [Exit.inBlock, Exit.then]
        gi_wp2
        have hS : ∀ u, Below W.heap.size W u → u.cell? ⟨w.heap.size + 4, 0, none⟩ = some (.slice (some ⟨w.heap.size + 2, 0, none⟩) k k) ∧ u.cell? ⟨w.heap.size, 0, none⟩ = some (.string seed) ∧ u.cell? ⟨Bx, 0, none⟩ = some (.string r.id) ∧ u.cell? ⟨Bx, 1, none⟩ = some (.int .u64 r.h) ∧ u.cell? ⟨Bx, 2, none⟩ = some (.int .u64 r.l) ∧ w.heap.size + 4 < u.heap.size ∧ w.heap.size < u.heap.size ∧ Bx < u.heap.size := fun u hb => by
          have p := hI.call hb
          have b := hbox.call hb
          exact ⟨(p.1.box 1).read 0, (p.1.box 3).read 0, b.read 0, b.read 1, b.read 2, (p.1.box 1).inside, (p.1.box 3).inside, b.inside⟩
        have hb3 := chain hb2 (Below.refl v2.heap.size v2).drew
        refine region_round (S := fun u => u.cell? ⟨w.heap.size + 4, 0, none⟩ = some (.slice (some ⟨w.heap.size + 2, 0, none⟩) k k) ∧ u.cell? ⟨w.heap.size, 0, none⟩ = some (.string seed) ∧ u.cell? ⟨Bx, 0, none⟩ = some (.string r.id) ∧ u.cell? ⟨Bx, 1, none⟩ = some (.int .u64 r.h) ∧ u.cell? ⟨Bx, 2, none⟩ = some (.int .u64 r.l) ∧ w.heap.size + 4 < u.heap.size ∧ w.heap.size < u.heap.size ∧ Bx < u.heap.size) hmx (by kernel_rfl) (fun ⟨a, u, h⟩ => h) (hS _ hb3) (fun hHeld => ?_)
        refine wpAnyH_take (i := 0) (v := ?_) rfl (by kernel_rfl) (by kernel_rfl) (by kernel_rfl) (fun _ _ _ h => h) (Or.inl ⟨by rfl, ?_⟩) (by assumption) ?_
        rotate_left 1
        · intro w hSw; (try dsimp only at hSw); go_simp; try with_reducible rfl
        try simp only [Act.put, List.getElem_toArray, List.getElem_cons_succ, List.getElem_cons_zero, List.setIfInBounds_toArray, List.set_cons_zero, List.set_cons_succ]
        refine wpAnyH_take (i := 1) (v := ?_) rfl (by kernel_rfl) (by kernel_rfl) (by kernel_rfl) (fun _ _ _ h => h) (Or.inl ⟨by rfl, ?_⟩) (by assumption) ?_
        rotate_left 1
        · intro w hSw; (try dsimp only at hSw); go_simp; try with_reducible rfl
        try simp only [Act.put, List.getElem_toArray, List.getElem_cons_succ, List.getElem_cons_zero, List.setIfInBounds_toArray, List.set_cons_zero, List.set_cons_succ]
        refine wpAnyH_take (i := 2) (v := ?_) rfl (by kernel_rfl) (by kernel_rfl) (by kernel_rfl) (fun _ _ _ h => h) (Or.inl ⟨by rfl, ?_⟩) (by assumption) ?_
        rotate_left 1
        · intro w hSw; (try dsimp only at hSw); go_simp; try with_reducible rfl
        try simp only [Act.put, List.getElem_toArray, List.getElem_cons_succ, List.getElem_cons_zero, List.setIfInBounds_toArray, List.set_cons_zero, List.set_cons_succ]
        refine wpAnyH_take (i := 3) (v := ?_) rfl (by kernel_rfl) (by kernel_rfl) (by kernel_rfl) (fun _ _ _ h => h) (Or.inl ⟨by rfl, ?_⟩) (by assumption) ?_
        rotate_left 1
        · intro w hSw; (try dsimp only at hSw); go_simp; try with_reducible rfl
        try simp only [Act.put, List.getElem_toArray, List.getElem_cons_succ, List.getElem_cons_zero, List.setIfInBounds_toArray, List.set_cons_zero, List.set_cons_succ]
        refine wpAnyH_take (i := 4) (v := ?_) rfl (by kernel_rfl) (by kernel_rfl) (by kernel_rfl) (fun _ _ _ h => h) (Or.inl ⟨by rfl, ?_⟩) (by assumption) ?_
        rotate_left 1
        · intro w hSw; (try dsimp only at hSw); go_simp; try with_reducible rfl
        try simp only [Act.put, List.getElem_toArray, List.getElem_cons_succ, List.getElem_cons_zero, List.setIfInBounds_toArray, List.set_cons_zero, List.set_cons_succ]
        refine wpAnyH_take (i := 5) (v := ?_) rfl (by kernel_rfl) (by kernel_rfl) (by kernel_rfl) (fun _ _ _ h => h) (Or.inl ⟨by rfl, ?_⟩) (by assumption) ?_
        rotate_left 1
        · intro w hSw; (try dsimp only at hSw); go_simp; try with_reducible rfl
        try simp only [Act.put, List.getElem_toArray, List.getElem_cons_succ, List.getElem_cons_zero, List.setIfInBounds_toArray, List.set_cons_zero, List.set_cons_succ]
        refine wpAnyH_take (i := 6) (v := ?_) rfl (by kernel_rfl) (by kernel_rfl) (by kernel_rfl) (fun _ _ _ h => h) (Or.inl ⟨by rfl, ?_⟩) (by assumption) ?_
        rotate_left 1
        · intro w hSw; (try dsimp only at hSw); go_simp; try with_reducible rfl
        try simp only [Act.put, List.getElem_toArray, List.getElem_cons_succ, List.getElem_cons_zero, List.setIfInBounds_toArray, List.set_cons_zero, List.set_cons_succ]
        refine wpAnyH_take (i := 7) (v := ?_) rfl (by kernel_rfl) (by kernel_rfl) (by kernel_rfl) (fun _ _ _ h => h) (Or.inl ⟨by rfl, ?_⟩) (by assumption) ?_
        rotate_left 1
        · intro w hSw; (try dsimp only at hSw); go_simp; try with_reducible rfl
        try simp only [Act.put, List.getElem_toArray, List.getElem_cons_succ, List.getElem_cons_zero, List.setIfInBounds_toArray, List.set_cons_zero, List.set_cons_succ]
        refine wpAnyH_take (i := 8) (v := ?_) rfl (by kernel_rfl) (by kernel_rfl) (by kernel_rfl) (fun _ _ _ h => h) (Or.inl ⟨by rfl, ?_⟩) (by assumption) ?_
        rotate_left 1
        · intro w hSw; (try dsimp only at hSw); go_simp; try with_reducible rfl
        try simp only [Act.put, List.getElem_toArray, List.getElem_cons_succ, List.getElem_cons_zero, List.setIfInBounds_toArray, List.set_cons_zero, List.set_cons_succ]
        refine wpAnyH_take (i := 10) (v := ?_) rfl (by kernel_rfl) (by kernel_rfl) (by kernel_rfl) (fun _ _ _ h => h) (Or.inl ⟨by rfl, ?_⟩) (by assumption) ?_
        rotate_left 1
        · intro w hSw; (try dsimp only at hSw); go_simp; try with_reducible rfl
        try simp only [Act.put, List.getElem_toArray, List.getElem_cons_succ, List.getElem_cons_zero, List.setIfInBounds_toArray, List.set_cons_zero, List.set_cons_succ]
        refine wpAnyH_ready (rs := [9]) (by kernel_rfl) (by simp) (AllReadyH.cons rfl (fun K hK => ?_) AllReadyH.nil)
        go_simp
        go_at_call 30
        refine (cS _ (hKW.call hb3)).mono ?_
        rintro e v4 ⟨rfl, hv4⟩
        have hb4 := chain hb3 hv4
        try simp only []
        refine hK.out _ _ (hS _ hb4) (fun hHeld => ?_)
        clear hK K
        try simp only [Act.put, List.getElem_toArray, List.getElem_cons_succ, List.getElem_cons_zero, List.setIfInBounds_toArray, List.set_cons_zero, List.set_cons_succ]
        have hqk2 : q < k := by omega
        have hqk : (q : Int) < (k : Int) := by omega
        refine wpAnyH_take (i := 11) (v := ?_) rfl (by kernel_rfl) (by kernel_rfl) (by kernel_rfl) (fun _ _ _ h => h) (Or.inl ⟨by rfl, ?_⟩) (by assumption) ?_
        rotate_left 1
        · intro w hSw; (try dsimp only at hSw); go_simp; try with_reducible rfl
        try simp only [Act.put, List.getElem_toArray, List.getElem_cons_succ, List.getElem_cons_zero, List.setIfInBounds_toArray, List.set_cons_zero, List.set_cons_succ]
        refine wpAnyH_take (i := 12) (v := ?_) rfl (by kernel_rfl) (by kernel_rfl) (by kernel_rfl) (fun _ _ _ h => h) (Or.inl ⟨by rfl, ?_⟩) (by assumption) ?_
        rotate_left 1
        · intro w hSw; (try dsimp only at hSw); go_simp; try with_reducible rfl
        try simp only [Act.put, List.getElem_toArray, List.getElem_cons_succ, List.getElem_cons_zero, List.setIfInBounds_toArray, List.set_cons_zero, List.set_cons_succ]
        have p4 := hI.call hb4
        have hqd : q < d.length := by omega
        obtain ⟨x0, hx0, e0, e1, e2, e3, e4⟩ := p4.2.1.at q hqd
        have f0 := p4.2.1.free (q * 5)
        have f1 := p4.2.1.free (q * 5 + 1)
        have f2 := p4.2.1.free (q * 5 + 2)
        have f3 := p4.2.1.free (q * 5 + 3)
        have f4 := p4.2.1.free (q * 5 + 4)
        have hin2 := p4.2.1.inside
        refine wpAnyH_ready (rs := [13]) (by kernel_rfl) (by simp) (AllReadyH.cons rfl (fun K hK => ?_) AllReadyH.nil)
        go_simp
        have p5 := p4.put q ⟨r.id, r.h, r.l, sa, n⟩ hqd
        have KF5 := (keepsFrom_below (B := Y.heap.size) hb4).trans (keepsFrom_put v4 (w.heap.size + 2) q ⟨r.id, r.h, r.l, sa, n⟩ (by omega))
        have KP5 := (KpS.below (D := Y.heap.size) (S := fun i => i = w.heap.size + 2 ∨ i = w.heap.size + 3) hb4 hHs).trans (kpS_put v4 (w.heap.size + 2) q ⟨r.id, r.h, r.l, sa, n⟩ (Or.inl rfl))
        have b5 : Box (put5 v4 (w.heap.size + 2) q ⟨r.id, r.h, r.l, sa, n⟩) Bx 59 #[.string r.id, .int .u64 r.h, .int .u64 r.l] := (put5_other _ _ _ _ _ (by omega)).trans (hbox.call hb4)
        clear e0 e1 e2 e3 e4 f0 f1 f2 f3 f4 hin2 hx0
        change K _ (put5 v4 (w.heap.size + 2) q ⟨r.id, r.h, r.l, sa, n⟩)
        generalize put5 v4 (w.heap.size + 2) q ⟨r.id, r.h, r.l, sa, n⟩ = W5 at *
        refine hK.out _ _ (⟨(p5.1.box 1).read 0, (p5.1.box 3).read 0, b5.read 0, b5.read 1, b5.read 2, (p5.1.box 1).inside, (p5.1.box 3).inside, b5.inside⟩) (fun hHeld => ?_)
        clear hK K
        try simp only [Act.put, List.getElem_toArray, List.getElem_cons_succ, List.getElem_cons_zero, List.setIfInBounds_toArray, List.set_cons_zero, List.set_cons_succ]
        refine wpAnyH_done (by kernel_rfl) ?_ _
        try dsimp only [Exit.inBlock, Exit.then]
        have d5 := (p5.1.box 0).read 0
        have d8 := (p5.1.box 0).inside
        gi_wp2_with (first
          | (refine ⟨trivial, ?_⟩; gi_at_call 55; refine (CallsIn.inRound l (callsIn_wide.2 (cT _ p5.2.2))).mono ?_; rintro e w6 ⟨rfl, S6, hg6⟩)
          | fail)
        have p6 := p5.take_ hg6 S6
        refine ⟨KF5.trans (KeepsFrom.of_grownBy hg6 (fun j e => by cases e; omega)), KP5.trans (KpS.grown hg6 (Nat.le_trans hHs KP5.1) (fun r e => by cases e; exact Or.inr rfl)), Nat.le_trans hHs (Nat.le_trans KP5.1 hg6.size), ?_⟩
        rw [List.map_append, List.map_cons, List.map_nil, HSN.out]
        exact p6
      case done =>
        rintro D xs W hD hxs ⟨hHs, hI⟩ hK2
        have hxs' : xs.map (fun x => x.1) = comK was 0 ys := hxs
        rw [hxs'] at hI
        have hfp : (Fp seed h was ys (comK was 0 ys)).2 = placeL (saltB seed) (fun i => firstN seed i h) (pw h) was ys := fold_place _ _ _ _ _
        rw [hfp] at hI
        have c0 := (hI.1.box 1).read 0
        have i0 := (hI.1.box 1).inside
        have HI := hideIt hI
        clear hI hfp hxs hxs'
        try dsimp only [Exit.inBlock, Exit.then]
        go_wp2
        have hI := HI.out
        refine ⟨by simp, .inl ⟨_, _, rfl, run_takeDeferred hK2, ?_⟩⟩
        exact ⟨_, results_tmp rfl _ _ _, w.heap.size + 2, rfl, by omega, box_putObj hI.2.1 (by omega), hI.below.trans (belowK_b (w := w) (Nat.le_refl _) W D _ _ (by omega) hK2 rfl rfl)⟩
      case stop =>
        rintro D cc pre W _ _ hh _
        exact hh.elim
end Go.Proofs.YtngofpdpangajaaDoor
/-
  Package slots' Place, walked.
-/
namespace Go.Proofs.YtngofpdpangajaaDoor
set_option linter.unusedVariables false
set_option linter.unusedSimpArgs false
set_option maxRecDepth 10000
open Go.RowKit Go.Sort

theorem RowBox.rw_ {w : World} {g : Nat} {ys : List Rw} (h : RowBox w g ys.toArray) : RwRow w w.heap.size (some ⟨g, 0, none⟩) ys := fun i x hx => by
  have hi := (List.getElem?_eq_some_iff.1 hx).1
  have e1 : (⟨g, 0, none⟩ : Addr).add (i * 3) = ⟨g, i * 3, none⟩ := by simp [Addr.add]; exact fun hj => hj.symm
  obtain ⟨c0, c1, c2⟩ := h.three i (by simpa using hi)
  have hb : ys.toArray[i]! = x := by
    rw [toArray_bang, getElem!_pos ys i hi]
    exact (List.getElem?_eq_some_iff.1 hx).2
  rw [hb] at c0 c1 c2
  refine ⟨_, rfl, h.inside, ?_⟩
  rw [e1]
  exact ⟨c0, c1, c2⟩
theorem rowsP_perm {xs ys : List Rw} (h : xs.Perm ys) : RowsP xs ↔ RowsP ys := by
  unfold RowsP
  rw [(h.map keyR).nodup_iff]
  constructor
  · exact fun k => ⟨fun r hr => k.1 r (h.mem_iff.2 hr), k.2⟩
  · exact fun k => ⟨fun r hr => k.1 r (h.mem_iff.1 hr), k.2⟩
/-- What is wrong with a seed, a height, accounts and rows. -/
def placeE (seed : ByteArray) (h : Int) (was : List Ac) (rows : List Rw) : Int :=
  if wrongE seed h was ≠ 0 then wrongE seed h was else if RowsP rows then (if pw h.toNat < (rows.length : Int) then 111 else 0) else 2
theorem wrong_no {seed : ByteArray} {h : Int} {was : List Ac} (e : wrongE seed h was = 0) : shOk h = true ∧ seed.size ≤ 64 ∧ mayA h was = true := by
  unfold wrongE at e
  by_cases h1 : shOk h = false
  · rw [if_pos h1] at e; cases e
  · rw [if_neg h1] at e
    by_cases h2 : 64 < seed.size
    · rw [if_pos h2] at e; cases e
    · rw [if_neg h2] at e
      by_cases h3 : mayA h was = false
      · rw [if_pos h3] at e; cases e
      · exact ⟨by simpa using h1, by omega, by simpa using h3⟩
theorem wrong_word (seed : ByteArray) (h : Int) (was : List Ac) : wrongE seed h was = 0 ∨ wrongE seed h was = 120 ∨ wrongE seed h was = 3 ∨ wrongE seed h was = 2 := by
  unfold wrongE
  split
  · exact .inr (.inl rfl)
  · split
    · exact .inr (.inr (.inl rfl))
    · split
      · exact .inr (.inr (.inr rfl))
      · exact .inl rfl
theorem mayA_P {h : Int} {l : List Ac} (e : mayA h l = true) : ∃ n : Nat, h = (n : Int) ∧ n ≤ 10 ∧ MayP (pw n) l := by
  unfold mayA at e
  rw [Bool.and_eq_true] at e
  have hb := of_decide_eq_true e.1
  obtain ⟨n, rfl⟩ := Int.eq_ofNat_of_zero_le hb.1
  exact ⟨n, rfl, by omega, by have := of_decide_eq_true e.2; simpa using this⟩
set_option maxRecDepth 100000 in
set_option maxHeartbeats 4000000 in
theorem sPlace_any (seed : ByteArray) (h1 : seed.size ≤ 100000) (h : Int) (A : Option Addr) (c : Nat) (was : List Ac) (hm : was.length ≤ 1000000) (ho : AllAc was) (hz : ∀ x ∈ was, x.id.size ≤ 1000000 ∧ x.salt.size ≤ 1000000) (B : Option Addr) (d : Nat) (rows ys : List Rw) (hys : Sd rows ys)
    (hr : rows.length ≤ 1000000) (hrz : ∀ r ∈ rows, r.id.size ≤ 100000 ∧ r.ok) (E : Int) (hE : placeE seed h was rows = E) (w : World) (hR : AcRow w w.heap.size A was) (hS : RwRow w w.heap.size B rows) (hT : TabU w) (hK : Tab w) :
    Calls Tryd.prog 12 #[.string seed, .int .i64 h, .slice A was.length c, .slice B rows.length d] w fun e w' => Below w.heap.size w w' ∧ ∃ v, e = .returned (.tuple #[v, .int .i64 E]) ∧ (E ≠ 0 → v = .slice none 0 0) ∧
      (E = 0 → ∃ g, v = .slice (some ⟨g, 0, none⟩) rows.length rows.length ∧ w.heap.size ≤ g ∧ AcBox w' g (placeL (saltB seed) (fun i => firstN seed i h) (pw h.toNat) was ys)) := by
  have cW := fun u hu hv => swrong_any seed A c was hm ho hz h u hu hv
  by_cases hw : wrongE seed h was = 0
  · have hE2 : (if RowsP rows then (if pw h.toNat < (rows.length : Int) then 111 else 0) else (2 : Int)) = E := by
      rw [← hE]
      unfold placeE
      rw [if_neg (show ¬ (wrongE seed h was ≠ 0) from fun k => k hw)]
    rw [hw] at cW
    obtain ⟨k1, k2, k3⟩ := wrong_no hw
    obtain ⟨n, rfl, hn, hMP⟩ := mayA_P k3
    rw [Int.toNat_natCast] at hE2 ⊢
    have hyl : ys.length = rows.length := hys.perm.length_eq.symm
    have hyz : ∀ r ∈ ys, r.id.size ≤ 100000 ∧ r.ok := fun r hq => hrz r (hys.perm.mem_iff.2 hq)
    have cS : ∀ u, RwRow u u.heap.size B rows → Calls Tryd.prog 36 #[.slice B rows.length d] u fun e w' => ∃ g, e = .returned (.slice (some ⟨g, 0, none⟩) rows.length rows.length) ∧ RwRow w' w'.heap.size (some ⟨g, 0, none⟩) ys ∧ Below u.heap.size u w' := fun u hu =>
      (rowsort2_any B d rows (by omega) (fun x hx => by have := (hrz x hx).1; omega) u hu).mono fun e w' k => by
        obtain ⟨g, ps, q1, q2, q3, q4, q5, q6⟩ := k
        obtain rfl := hys.same q6
        exact ⟨g, q1, q4.rw_, q5⟩
    have cR : ∀ u X k, RwRow u u.heap.size X ys → TabU u → Calls Tryd.prog 37 #[.slice X rows.length k] u (Tells (.bool (decide (RowsP rows))) u.heap.size u) := fun u X k hu hv => by
      have := smayRows_any X k ys (by omega) (fun r hq => by have := (hyz r hq).1; omega) hys.1 u hu hv
      rw [hyl] at this
      rw [show decide (RowsP rows) = decide (RowsP ys) from decide_eq_decide.2 (rowsP_perm hys.perm)]
      exact this
    have cZ := fun u => ssize_any n hn u
    have cB := fun u hu => sbyId_any A c was hm (fun x hx => (hz x hx).1) u hu
    have cP : ∀ u b X k, AccMap u b was → RwRow u u.heap.size X ys → Tab u → Calls Tryd.prog 39 #[.string seed, .int .i64 (n : Int), .map (some b), .slice X rows.length k] u fun e w' => ∃ g, e = .returned (.slice (some ⟨g, 0, none⟩) rows.length rows.length) ∧ u.heap.size ≤ g ∧ AcBox w' g (placeL (saltB seed) (fun i => firstN seed i n) (pw n) was ys) ∧ Below u.heap.size u w' := fun u b X k hu hv hx => by
      have := splace_any seed h1 n hn b was hMP.2.1 (fun x hx => ⟨ho x hx, (hz x hx).2⟩) X k ys (by omega) hyz u hu hv hx
      rw [hyl] at this
      exact this
    have hpb := pw_bd n hn
    generalize placeL (saltB seed) (fun i => firstN seed i n) (pw n) was ys = L at *
    obtain ⟨N, hN⟩ : ∃ N, rows.length = N := ⟨_, rfl⟩
    obtain ⟨M, hM⟩ : ∃ M, was.length = M := ⟨_, rfl⟩
    rw [hN] at cS cR cP hE2 ⊢
    rw [hM] at cW cB ⊢
    by_cases hp : RowsP rows
    · rw [if_pos hp] at hE2
      rw [decide_eq_true hp] at cR
      have hw64 : IntKind.u64.wrap (N : Int) = (N : Int) := by rw [IntKind.wrap_u64]; omega
      by_cases hlt : pw n < (N : Int)
      · rw [if_pos hlt] at hE2
        subst hE2
        generalize pw n = P at *
        go_enter Tryd.func12, Tryd.ntmps12
        go_wp2_with (first
          | (go_at_call 35; refine (cW _ hR hT).mono ?_; rintro e v1 ⟨rfl, j1⟩)
          | (go_at_call 36; refine (cS _ ((hS.call j1).more j1.size)).mono ?_; rintro e v2 ⟨g, rfl, R2, j2⟩; have j12 := chain j1 j2)
          | (go_at_call 37; refine (cR _ _ _ R2 (hT.call j12)).mono ?_; rintro e v3 ⟨rfl, j3⟩; have j13 := chain j12 j3)
          | (go_at_call 38; refine (cZ _).mono ?_; rintro e v4 ⟨rfl, rfl⟩)
          | fail)
        refine bodyPost_ret (results_tmp2 rfl _ _ _) rfl ?_
        exact ⟨j13, _, rfl, fun _ => rfl, fun h => by cases h⟩
      · rw [if_neg hlt] at hE2
        subst hE2
        generalize pw n = P at *
        go_enter Tryd.func12, Tryd.ntmps12
        go_wp2_with (first
          | (go_at_call 35; refine (cW _ hR hT).mono ?_; rintro e v1 ⟨rfl, j1⟩)
          | (go_at_call 36; refine (cS _ ((hS.call j1).more j1.size)).mono ?_; rintro e v2 ⟨g, rfl, R2, j2⟩; have j12 := chain j1 j2)
          | (go_at_call 37; refine (cR _ _ _ R2 (hT.call j12)).mono ?_; rintro e v3 ⟨rfl, j3⟩; have j13 := chain j12 j3)
          | (go_at_call 38; refine (cZ _).mono ?_; rintro e v4 ⟨rfl, rfl⟩)
          | (go_at_call 40; refine (cB _ ((hR.call j13).more j13.size)).mono ?_; rintro e v5 ⟨b, rfl, hb5, M5, j5⟩; have j15 := chain j13 j5)
          | (go_at_call 39; refine (cP _ b _ _ M5 ((R2.call (chain j3 j5)).more (chain j3 j5).size) (hK.call j15)).mono ?_; rintro e v6 ⟨g6, rfl, hg6, X6, j6⟩)
          | fail)
        refine bodyPost_ret (results_tmp2 rfl _ _ _) rfl ?_
        exact ⟨chain j15 j6, _, rfl, fun h => absurd rfl h, fun _ => ⟨g6, rfl, by have := j15.size; omega, X6⟩⟩
    · rw [if_neg hp] at hE2
      rw [decide_eq_false hp] at cR
      subst hE2
      go_enter Tryd.func12, Tryd.ntmps12
      go_wp2_with (first
        | (go_at_call 35; refine (cW _ hR hT).mono ?_; rintro e v1 ⟨rfl, j1⟩)
        | (go_at_call 36; refine (cS _ ((hS.call j1).more j1.size)).mono ?_; rintro e v2 ⟨g, rfl, R2, j2⟩; have j12 := chain j1 j2)
        | (go_at_call 37; refine (cR _ _ _ R2 (hT.call j12)).mono ?_; rintro e v3 ⟨rfl, j3⟩; have j13 := chain j12 j3)
        | fail)
      refine bodyPost_ret (results_tmp2 rfl _ _ _) rfl ?_
      exact ⟨j13, _, rfl, fun _ => rfl, fun h => by cases h⟩
  · have hE2 : wrongE seed h was = E := by
      rw [← hE]
      unfold placeE
      rw [if_pos hw]
    rw [hE2] at cW hw
    have q1 : (E == 0) = false := beq_false_of_ne hw
    generalize was.length = M at *
    generalize rows.length = N at *
    go_enter Tryd.func12, Tryd.ntmps12
    go_wp2_with (first
      | (go_at_call 35; refine (cW _ hR hT).mono ?_; rintro e v1 ⟨rfl, j1⟩)
      | fail)
    refine bodyPost_ret (results_tmp2 rfl _ _ _) rfl ?_
    exact ⟨j1, _, rfl, fun _ => rfl, fun h => absurd h hw⟩
end Go.Proofs.YtngofpdpangajaaDoor
