/-
  block.Constant, upper, lower, Round, Unround, First, walked: any state, any place, any word; the table's cells are what they hold as the program lays them.
-/
import Derived.Test.YtngofpdpangajaaDoorU4Turn
import Derived.Deep.RegionHeld3
import Derived.RegionTactic
import Derived.Deep.CutRange
import Derived.Deep.DeepCutAuto
import Derived.IntWalk
namespace Go.Proofs.YtngofpdpangajaaDoor
set_option linter.unusedVariables false
set_option linter.unusedSimpArgs false
set_option maxRecDepth 10000
open Go.RowKit

/-- The table of constants stands where it is laid. -/
def Tab (w : World) : Prop := 3 < w.heap.size ∧ ∀ i, i < 64 → w.cell? ⟨3, i, none⟩ = some (.int .u32 (iv (kB.getD i 0)))
theorem Tab.below {w w' : World} {B : Nat} (h : Tab w) (hb : Below B w w') (hB : 3 < B) : Tab w' :=
  ⟨Nat.lt_of_lt_of_le h.1 hb.size, fun i hi => (hb.cell (p := ⟨3, i, none⟩) hB).trans (h.2 i hi)⟩
theorem Tab.call {w w' : World} (h : Tab w) (hb : Below w.heap.size w w') : Tab w' := h.below hb h.1
theorem Tab.past {w : World} (h : Tab w) (o : Obj) : Tab (w.alloc o) := h.call ((Below.refl _ w).alloc (Nat.le_refl _) o)
theorem Tab.drewN {w : World} (h : Tab w) (n : Nat) : Tab (w.drewN n) := h
theorem Tab.drew {w : World} (h : Tab w) : Tab w.drew := h

/-- A state in its block: its cells, all of them open. -/
theorem Box.st {w : World} {g : Nat} {t : TypeId} {s : St} (h : Box w g t s.cs) :
    w.cell? ⟨g, 0, none⟩ = some (.int .u32 (iv s.a)) ∧ w.cell? ⟨g, 1, none⟩ = some (.int .u32 (iv s.b)) ∧ w.cell? ⟨g, 2, none⟩ = some (.int .u32 (iv s.c)) ∧ w.cell? ⟨g, 3, none⟩ = some (.int .u32 (iv s.d)) ∧
    w.cell? ⟨g, 4, none⟩ = some (.int .u32 (iv s.e)) ∧ w.cell? ⟨g, 5, none⟩ = some (.int .u32 (iv s.f)) ∧ w.cell? ⟨g, 6, none⟩ = some (.int .u32 (iv s.g)) ∧ w.cell? ⟨g, 7, none⟩ = some (.int .u32 (iv s.h)) :=
  ⟨h.read 0, h.read 1, h.read 2, h.read 3, h.read 4, h.read 5, h.read 6, h.read 7⟩
theorem Box.eight {w : World} {g : Nat} {t : TypeId} {cs : Array Value} (h : Box w g t cs) :
    w.frozen? ⟨g, 0, none⟩ = false ∧ w.frozen? ⟨g, 1, none⟩ = false ∧ w.frozen? ⟨g, 2, none⟩ = false ∧ w.frozen? ⟨g, 3, none⟩ = false ∧ w.frozen? ⟨g, 4, none⟩ = false ∧ w.frozen? ⟨g, 5, none⟩ = false ∧
    w.frozen? ⟨g, 6, none⟩ = false ∧ w.frozen? ⟨g, 7, none⟩ = false ∧ g < w.heap.size :=
  ⟨h.free 0, h.free 1, h.free 2, h.free 3, h.free 4, h.free 5, h.free 6, h.free 7, h.inside⟩

set_option maxHeartbeats 2000000 in
theorem const_any (k : Int) (w : World) (hT : Tab w) : Calls Tryd.prog 133 #[.int .i64 k] w (Plain (.int .u32 (iv (kAt k))) w) := by
  by_cases h0 : k < 0
  · have e : (0 : Int) = iv (kAt k) := by unfold kAt; rw [if_neg (by omega)]; rfl
    have E := hideIt e
    clear e
    go_enter Tryd.func133, Tryd.ntmps133
    go_wp2
    rw [E.out]
    go_ret
    exact ⟨rfl, rfl⟩
  by_cases h1 : 64 ≤ k
  · have e : (0 : Int) = iv (kAt k) := by unfold kAt; rw [if_neg (by omega)]; rfl
    have E := hideIt e
    clear e
    go_enter Tryd.func133, Tryd.ntmps133
    go_wp2
    rw [E.out]
    go_ret
    exact ⟨rfl, rfl⟩
  · obtain ⟨n, hn⟩ : ∃ n : Nat, k.toNat = n := ⟨_, rfl⟩
    have hr := hT.2 n (by omega)
    have e : kAt k = kB.getD n 0 := by unfold kAt; rw [if_pos (by omega), hn]
    rw [← e] at hr
    have hin := hT.1
    clear e hT
    generalize kAt k = x at *
    have h2 : k < 64 := by omega
    have h3 : ¬ (64 ≤ k) := h1
    go_enter Tryd.func133, Tryd.ntmps133
    go_wp2
    go_ret
    exact ⟨rfl, rfl⟩

set_option maxHeartbeats 2000000 in
theorem upper_any (e f g : B32) (w : World) : Calls Tryd.prog 132 #[.int .u32 (iv e), .int .u32 (iv f), .int .u32 (iv g)] w (Plain (.int .u32 (iv (sum1 e + chB e f g))) w) := by
  have c1 := fun u => turn_lit e 6 6 rfl (by decide) (by decide) u
  have c2 := fun u => turn_lit e 11 11 rfl (by decide) (by decide) u
  have c3 := fun u => turn_lit e 25 25 rfl (by decide) (by decide) u
  go_enter Tryd.func132, Tryd.ntmps132
  go_wp2_with (first
    | (go_at_call_of 136 (Value.int .i64 6); refine (c1 _).mono ?_; rintro e w' ⟨rfl, rfl⟩)
    | (go_at_call_of 136 (Value.int .i64 11); refine (c2 _).mono ?_; rintro e w' ⟨rfl, rfl⟩)
    | (go_at_call_of 136 (Value.int .i64 25); refine (c3 _).mono ?_; rintro e w' ⟨rfl, rfl⟩))
  simp only [not_word, not_max, iv_xor, iv_and, iv_or, iv_addm]
  go_ret
  exact ⟨rfl, rfl⟩
set_option maxHeartbeats 2000000 in
theorem lower_any (a b c : B32) (w : World) : Calls Tryd.prog 134 #[.int .u32 (iv a), .int .u32 (iv b), .int .u32 (iv c)] w (Plain (.int .u32 (iv (sum0 a + majB a b c))) w) := by
  have c1 := fun u => turn_lit a 2 2 rfl (by decide) (by decide) u
  have c2 := fun u => turn_lit a 13 13 rfl (by decide) (by decide) u
  have c3 := fun u => turn_lit a 22 22 rfl (by decide) (by decide) u
  go_enter Tryd.func134, Tryd.ntmps134
  go_wp2_with (first
    | (go_at_call_of 136 (Value.int .i64 2); refine (c1 _).mono ?_; rintro e w' ⟨rfl, rfl⟩)
    | (go_at_call_of 136 (Value.int .i64 13); refine (c2 _).mono ?_; rintro e w' ⟨rfl, rfl⟩)
    | (go_at_call_of 136 (Value.int .i64 22); refine (c3 _).mono ?_; rintro e w' ⟨rfl, rfl⟩))
  simp only [not_word, not_max, iv_xor, iv_and, iv_or, iv_addm]
  go_ret
  exact ⟨rfl, rfl⟩

theorem unround_eq (s : St) (k w : B32) : unturned s k w = ⟨s.b, s.c, s.d, s.e - (s.a - (sum0 s.b + majB s.b s.c s.d)), s.f, s.g, s.h, s.a - (sum0 s.b + majB s.b s.c s.d) - (sum1 s.f + chB s.f s.g s.h) - k - w⟩ := rfl
/-- Eight cells written one behind the other. -/
def set8 (W : World) (g : Nat) (s : St) : World :=
  let w1 := World.setCell W ⟨g, 0, none⟩ (Value.int .u32 (iv s.a))
  let w2 := World.setCell w1 ⟨g, 1, none⟩ (Value.int .u32 (iv s.b))
  let w3 := World.setCell w2 ⟨g, 2, none⟩ (Value.int .u32 (iv s.c))
  let w4 := World.setCell w3 ⟨g, 3, none⟩ (Value.int .u32 (iv s.d))
  let w5 := World.setCell w4 ⟨g, 4, none⟩ (Value.int .u32 (iv s.e))
  let w6 := World.setCell w5 ⟨g, 5, none⟩ (Value.int .u32 (iv s.f))
  let w7 := World.setCell w6 ⟨g, 6, none⟩ (Value.int .u32 (iv s.g))
  World.setCell w7 ⟨g, 7, none⟩ (Value.int .u32 (iv s.h))
theorem Box.put {w : World} {g : Nat} {t : TypeId} {s0 : St} (h : Box w g t s0.cs) (k : Nat) (v : B32) (hk : k < 8) : Box (w.setCell ⟨g, k, none⟩ (Value.int .u32 (iv v))) g t (s0.put k v).cs := by
  rw [← St.cs_put _ _ _ hk]; exact h.wrote k _
theorem Box.wrote8 {w : World} {g : Nat} {t : TypeId} {s0 : St} (h : Box w g t s0.cs) (s : St) : Box (set8 w g s) g t s.cs := by
  have h1 := h.put 0 s.a (by decide)
  have h2 := h1.put 1 s.b (by decide)
  have h3 := h2.put 2 s.c (by decide)
  have h4 := h3.put 3 s.d (by decide)
  have h5 := h4.put 4 s.e (by decide)
  have h6 := h5.put 5 s.f (by decide)
  have h7 := h6.put 6 s.g (by decide)
  have h8 := h7.put 7 s.h (by decide)
  rw [St.put_all] at h8
  exact h8
/-- Behind that nothing below has turned. -/
theorem below_set8 {B : Nat} {w W : World} {g : Nat} (h : Below B w W) (hg : B ≤ g) (s : St) : Below B w (set8 W g s) := by
  have h1 := h.setCell (p := ⟨g, 0, none⟩) hg (Value.int .u32 (iv s.a))
  have h2 := h1.setCell (p := ⟨g, 1, none⟩) hg (Value.int .u32 (iv s.b))
  have h3 := h2.setCell (p := ⟨g, 2, none⟩) hg (Value.int .u32 (iv s.c))
  have h4 := h3.setCell (p := ⟨g, 3, none⟩) hg (Value.int .u32 (iv s.d))
  have h5 := h4.setCell (p := ⟨g, 4, none⟩) hg (Value.int .u32 (iv s.e))
  have h6 := h5.setCell (p := ⟨g, 5, none⟩) hg (Value.int .u32 (iv s.f))
  have h7 := h6.setCell (p := ⟨g, 6, none⟩) hg (Value.int .u32 (iv s.g))
  exact h7.setCell (p := ⟨g, 7, none⟩) hg (Value.int .u32 (iv s.h))

theorem Has.st8 {w W : World} {l : List Blk} {g : Nat} {t : TypeId} {s0 : St} (h : Has w ((g, t, s0.cs) :: l) W) (hg : w.heap.size ≤ g) (hl : ∀ x ∈ l, x.1 ≠ g) (s : St) : Has w ((g, t, s.cs) :: l) (set8 W g s) := by
  have hb := Box.wrote8 h.head s
  have h0 := h.tail
  have h1 := h0.set_ (p := ⟨g, 0, none⟩) hg hl (Value.int .u32 (iv s.a))
  have h2 := h1.set_ (p := ⟨g, 1, none⟩) hg hl (Value.int .u32 (iv s.b))
  have h3 := h2.set_ (p := ⟨g, 2, none⟩) hg hl (Value.int .u32 (iv s.c))
  have h4 := h3.set_ (p := ⟨g, 3, none⟩) hg hl (Value.int .u32 (iv s.d))
  have h5 := h4.set_ (p := ⟨g, 4, none⟩) hg hl (Value.int .u32 (iv s.e))
  have h6 := h5.set_ (p := ⟨g, 5, none⟩) hg hl (Value.int .u32 (iv s.f))
  have h7 := h6.set_ (p := ⟨g, 6, none⟩) hg hl (Value.int .u32 (iv s.g))
  have h8 := h7.set_ (p := ⟨g, 7, none⟩) hg hl (Value.int .u32 (iv s.h))
  exact Has.with (W := set8 W g s) h8 hb
/-- Eight cells written, whatever is written. -/
def set8v (W : World) (g : Nat) (v0 v1 v2 v3 v4 v5 v6 v7 : Value) : World :=
  let w1 := World.setCell W ⟨g, 0, none⟩ v0
  let w2 := World.setCell w1 ⟨g, 1, none⟩ v1
  let w3 := World.setCell w2 ⟨g, 2, none⟩ v2
  let w4 := World.setCell w3 ⟨g, 3, none⟩ v3
  let w5 := World.setCell w4 ⟨g, 4, none⟩ v4
  let w6 := World.setCell w5 ⟨g, 5, none⟩ v5
  let w7 := World.setCell w6 ⟨g, 6, none⟩ v6
  World.setCell w7 ⟨g, 7, none⟩ v7
theorem Has.set8v {w W : World} {l : List Blk} (h : Has w l W) {g : Nat} (hg : w.heap.size ≤ g) (hl : ∀ x ∈ l, x.1 ≠ g) (v0 v1 v2 v3 v4 v5 v6 v7 : Value) : Has w l (set8v W g v0 v1 v2 v3 v4 v5 v6 v7) := by
  have h1 := h.set_ (p := ⟨g, 0, none⟩) hg hl v0
  have h2 := h1.set_ (p := ⟨g, 1, none⟩) hg hl v1
  have h3 := h2.set_ (p := ⟨g, 2, none⟩) hg hl v2
  have h4 := h3.set_ (p := ⟨g, 3, none⟩) hg hl v3
  have h5 := h4.set_ (p := ⟨g, 4, none⟩) hg hl v4
  have h6 := h5.set_ (p := ⟨g, 5, none⟩) hg hl v5
  have h7 := h6.set_ (p := ⟨g, 6, none⟩) hg hl v6
  exact h7.set_ (p := ⟨g, 7, none⟩) hg hl v7
theorem Tab.set {W : World} (h : Tab W) {g : Nat} (hg : g ≠ 3) (i : Nat) (v : Value) : Tab (W.setCell ⟨g, i, none⟩ v) :=
  ⟨by simpa [World.setCell] using h.1, fun j hj => (World.cell?_setCell_far W ⟨g, i, none⟩ ⟨3, j, none⟩ v hg).trans (h.2 j hj)⟩
theorem Tab.set8 {W : World} (h : Tab W) {g : Nat} (hg : g ≠ 3) (s : St) : Tab (set8 W g s) := by
  have h1 := h.set hg 0 (Value.int .u32 (iv s.a))
  have h2 := h1.set hg 1 (Value.int .u32 (iv s.b))
  have h3 := h2.set hg 2 (Value.int .u32 (iv s.c))
  have h4 := h3.set hg 3 (Value.int .u32 (iv s.d))
  have h5 := h4.set hg 4 (Value.int .u32 (iv s.e))
  have h6 := h5.set hg 5 (Value.int .u32 (iv s.f))
  have h7 := h6.set hg 6 (Value.int .u32 (iv s.g))
  exact h7.set hg 7 (Value.int .u32 (iv s.h))

theorem Tab.set8v {W : World} (h : Tab W) {g : Nat} (hg : g ≠ 3) (v0 v1 v2 v3 v4 v5 v6 v7 : Value) : Tab (set8v W g v0 v1 v2 v3 v4 v5 v6 v7) := by
  have h1 := h.set hg 0 v0
  have h2 := h1.set hg 1 v1
  have h3 := h2.set hg 2 v2
  have h4 := h3.set hg 3 v3
  have h5 := h4.set hg 4 v4
  have h6 := h5.set hg 5 v5
  have h7 := h6.set hg 6 v6
  exact h7.set hg 7 v7

set_option maxHeartbeats 4000000 in
theorem round_any (s : St) (k : Int) (x : B32) (w : World) (hT : Tab w) : Calls Tryd.prog 125 #[.agg #[.int .u32 (iv s.a), .int .u32 (iv s.b), .int .u32 (iv s.c), .int .u32 (iv s.d), .int .u32 (iv s.e), .int .u32 (iv s.f), .int .u32 (iv s.g), .int .u32 (iv s.h)], .int .i64 k, .int .u32 (iv x)] w (Tells (.agg #[.int .u32 (iv (turned s (kAt k) x).a), .int .u32 (iv (turned s (kAt k) x).b), .int .u32 (iv (turned s (kAt k) x).c), .int .u32 (iv (turned s (kAt k) x).d), .int .u32 (iv (turned s (kAt k) x).e), .int .u32 (iv (turned s (kAt k) x).f), .int .u32 (iv (turned s (kAt k) x).g), .int .u32 (iv (turned s (kAt k) x).h)]) w.heap.size w) := by
  have cU := fun u => upper_any s.e s.f s.g u
  have cL := fun u => lower_any s.a s.b s.c u
  have H0 : Has w [(w.heap.size + 1, 143, St.cs ⟨0, 0, 0, 0, 0, 0, 0, 0⟩), (w.heap.size, 143, s.cs)] ((w.alloc (.cells #[.int .u32 (iv s.a), .int .u32 (iv s.b), .int .u32 (iv s.c), .int .u32 (iv s.d), .int .u32 (iv s.e), .int .u32 (iv s.f), .int .u32 (iv s.g), .int .u32 (iv s.h)] 143)).alloc (.cells (St.cs ⟨0, 0, 0, 0, 0, 0, 0, 0⟩) 143)) :=
    ((Has.start w).add 143 #[.int .u32 (iv s.a), .int .u32 (iv s.b), .int .u32 (iv s.c), .int .u32 (iv s.d), .int .u32 (iv s.e), .int .u32 (iv s.f), .int .u32 (iv s.g), .int .u32 (iv s.h)]).addAt 143 (St.cs ⟨0, 0, 0, 0, 0, 0, 0, 0⟩) (by simp)
  go_enter Tryd.func125, Tryd.ntmps125
  go_wp2
  generalize hW : World.alloc (World.alloc _ _) _ = W
  have H : Has w [(w.heap.size + 1, 143, St.cs ⟨0, 0, 0, 0, 0, 0, 0, 0⟩), (w.heap.size, 143, s.cs)] W := by rw [← hW]; exact H0
  clear H0 hW
  have hTW := hT.call H.below
  obtain ⟨r0, r1, r2, r3, r4, r5, r6, r7⟩ := (H.box 1).st
  have hg1 := (H.box 1).inside
  have hg0 := (H.box 0).inside
  go_quiet (fail)
  have hT2 : Tab (W.drewN nq) := hTW
  have H2 := H.drewN nq
  clear H r0 r1 r2 r3 r4 r5 r6 r7 hTW hT
  generalize World.drewN _ _ = W2 at *
  have cK := const_any k W2 hT2
  generalize kAt k = kc at *
  obtain ⟨z0, z1, z2, z3, z4, z5, z6, z7, z8⟩ := (H2.box 0).eight
  obtain ⟨y0, y1, y2, y3, y4, y5, y6, y7⟩ := (H2.box 0).st
  have e1 := iv_addm
  go_wp2_with (first
    | (go_at_call 132; refine (cU _).mono ?_; rintro e w' ⟨rfl, rfl⟩)
    | (go_at_call 134; refine (cL _).mono ?_; rintro e w' ⟨rfl, rfl⟩)
    | (go_at_call 133; refine cK.mono ?_; rintro e w' ⟨rfl, rfl⟩))
  generalize hX : World.setCell (World.setCell _ _ _) _ _ = X
  have hbx : Box X (w.heap.size + 1) 143 (turned s kc x).cs := by rw [← hX]; exact Box.wrote8 (H2.box 0) (turned s kc x)
  have hbl : Below w.heap.size w X := by rw [← hX]; exact below_set8 H2.below (by omega) (turned s kc x)
  obtain ⟨x0, x1, x2, x3, x4, x5, x6, x7⟩ := hbx.st
  have hgx := hbx.inside
  clear hX
  exact bodyPost_ret (v := .agg #[.int .u32 (iv (turned s kc x).a), .int .u32 (iv (turned s kc x).b), .int .u32 (iv (turned s kc x).c), .int .u32 (iv (turned s kc x).d), .int .u32 (iv (turned s kc x).e), .int .u32 (iv (turned s kc x).f), .int .u32 (iv (turned s kc x).g), .int .u32 (iv (turned s kc x).h)]) (by simp [results, Tryd.results125, go_sem, x0, x1, x2, x3, x4, x5, x6, x7]) rfl ⟨rfl, hbl⟩
end Go.Proofs.YtngofpdpangajaaDoor
