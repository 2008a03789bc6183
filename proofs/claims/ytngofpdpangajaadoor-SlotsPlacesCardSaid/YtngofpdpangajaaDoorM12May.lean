/- Several of my texts, laid as one. -/
import Derived.Test.YtngofpdpangajaaDoorM12Set
import Derived.Test.YtngofpdpangajaaDoorU5Clone
import Derived.Test.YtngofpdpangajaaDoorU7Leaf
import Derived.Shelf.Abstract
import Derived.StillTail
import Derived.Deep.RegionHeld3
import Derived.Test.YtngofpdpangajaaDoorM12Pln
import Derived.Test.YtngofpdpangajaaDoorT10Row
import Derived.Test.YtngofpdpangajaaDoorM10Mer
/-
  Package slots' Leaf, first, Find and At, walked.
-/
namespace Go.Proofs.YtngofpdpangajaaDoor
set_option linter.unusedVariables false
set_option linter.unusedSimpArgs false
set_option maxRecDepth 10000
open Go.RowKit Go.Sort

abbrev acB (i : ByteArray) (h l : Int) (s : ByteArray) (n : Int) : Array Value := #[.string i, .int .u64 h, .int .u64 l, .string s, .int .u64 n]
set_option maxRecDepth 100000 in
set_option maxHeartbeats 2000000 in
theorem sleaf_any (x : Ac) (h1 : x.id.size ≤ 1000000) (h2 : x.salt.size ≤ 1000000) (w : World) : Calls Tryd.prog 24 #[x.val] w (Tells (lfA x).val w.heap.size w) := by
  obtain ⟨i, h, l, s, n⟩ := x
  simp only at h1 h2
  have cI := fun u => clone_any i (by omega) u
  have cS := fun u => clone_any s (by omega) u
  have H0 : Has w [(w.heap.size + 1, 46, lfB false ⟨#[]⟩ ⟨#[]⟩ 0 0), (w.heap.size, 38, acB i h l s n)] ((w.alloc (.cells (acB i h l s n) 38)).alloc (.cells (lfB false ⟨#[]⟩ ⟨#[]⟩ 0 0) 46)) :=
    ((Has.start w).add 38 (acB i h l s n)).addAt 46 (lfB false ⟨#[]⟩ ⟨#[]⟩ 0 0) (by simp)
  go_enter Tryd.func24, Tryd.ntmps24
  go_upto_region 1 with fail
  change Code.wp _ _ _ _ ((w.alloc (.cells (acB i h l s n) 38)).alloc (.cells (lfB false ⟨#[]⟩ ⟨#[]⟩ 0 0) 46))
  generalize (w.alloc (.cells (acB i h l s n) 38)).alloc (.cells (lfB false ⟨#[]⟩ ⟨#[]⟩ 0 0) 46) = W at *
  have hS : ∀ u, Has w [(w.heap.size + 1, 46, lfB false ⟨#[]⟩ ⟨#[]⟩ 0 0), (w.heap.size, 38, acB i h l s n)] u →
      u.cell? ⟨w.heap.size, 0, none⟩ = some (.string i) ∧ u.cell? ⟨w.heap.size, 1, none⟩ = some (.int .u64 h) ∧ u.cell? ⟨w.heap.size, 2, none⟩ = some (.int .u64 l) ∧ u.cell? ⟨w.heap.size, 3, none⟩ = some (.string s) ∧ w.heap.size < u.heap.size :=
    fun u H => ⟨(H.box 1).read 0, (H.box 1).read 1, (H.box 1).read 2, (H.box 1).read 3, (H.box 1).inside⟩
  refine wp_region_held_drew (S := fun u => u.cell? ⟨w.heap.size, 0, none⟩ = some (.string i) ∧ u.cell? ⟨w.heap.size, 1, none⟩ = some (.int .u64 h) ∧ u.cell? ⟨w.heap.size, 2, none⟩ = some (.int .u64 l) ∧ u.cell? ⟨w.heap.size, 3, none⟩ = some (.string s) ∧ w.heap.size < u.heap.size) (by kernel_rfl) (hS _ H0.drew) (fun hHeld => ?_)
  have H1 := H0.drew
  clear H0
  generalize W.drew = W1 at *
  refine wpAnyH_take (i := 0) (v := ?_) rfl (by kernel_rfl) (by kernel_rfl) (by kernel_rfl) (fun _ _ _ h => h) (Or.inl ⟨by rfl, ?_⟩) (by assumption) ?_
  rotate_left 1
  · intro w hSw; (try dsimp only at hSw); go_simp; try with_reducible rfl
  try simp only [Act.put, List.getElem_toArray, List.getElem_cons_succ, List.getElem_cons_zero, List.setIfInBounds_toArray, List.set_cons_zero, List.set_cons_succ]
  refine wpAnyH_take (i := 1) (v := ?_) rfl (by kernel_rfl) (by kernel_rfl) (by kernel_rfl) (fun _ _ _ h => h) (Or.inl ⟨by rfl, ?_⟩) (by assumption) ?_
  rotate_left 1
  · intro w hSw; (try dsimp only at hSw); go_simp; try with_reducible rfl
  try simp only [Act.put, List.getElem_toArray, List.getElem_cons_succ, List.getElem_cons_zero, List.setIfInBounds_toArray, List.set_cons_zero, List.set_cons_succ]
  refine wpAnyH_take (i := 3) (v := ?_) rfl (by kernel_rfl) (by kernel_rfl) (by kernel_rfl) (fun _ _ _ h => h) (Or.inl ⟨by rfl, ?_⟩) (by assumption) ?_
  rotate_left 1
  · intro w hSw; (try dsimp only at hSw); go_simp; try with_reducible rfl
  try simp only [Act.put, List.getElem_toArray, List.getElem_cons_succ, List.getElem_cons_zero, List.setIfInBounds_toArray, List.set_cons_zero, List.set_cons_succ]
  refine wpAnyH_take (i := 4) (v := ?_) rfl (by kernel_rfl) (by kernel_rfl) (by kernel_rfl) (fun _ _ _ h => h) (Or.inl ⟨by rfl, ?_⟩) (by assumption) ?_
  rotate_left 1
  · intro w hSw; (try dsimp only at hSw); go_simp; try with_reducible rfl
  try simp only [Act.put, List.getElem_toArray, List.getElem_cons_succ, List.getElem_cons_zero, List.setIfInBounds_toArray, List.set_cons_zero, List.set_cons_succ]
  refine wpAnyH_take (i := 6) (v := ?_) rfl (by kernel_rfl) (by kernel_rfl) (by kernel_rfl) (fun _ _ _ h => h) (Or.inl ⟨by rfl, ?_⟩) (by assumption) ?_
  rotate_left 1
  · intro w hSw; (try dsimp only at hSw); go_simp; try with_reducible rfl
  try simp only [Act.put, List.getElem_toArray, List.getElem_cons_succ, List.getElem_cons_zero, List.setIfInBounds_toArray, List.set_cons_zero, List.set_cons_succ]
  refine wpAnyH_take (i := 7) (v := ?_) rfl (by kernel_rfl) (by kernel_rfl) (by kernel_rfl) (fun _ _ _ h => h) (Or.inl ⟨by rfl, ?_⟩) (by assumption) ?_
  rotate_left 1
  · intro w hSw; (try dsimp only at hSw); go_simp; try with_reducible rfl
  try simp only [Act.put, List.getElem_toArray, List.getElem_cons_succ, List.getElem_cons_zero, List.setIfInBounds_toArray, List.set_cons_zero, List.set_cons_succ]
  refine wpAnyH_ready (rs := [2]) (by kernel_rfl) (by simp) (AllReadyH.cons rfl (fun K hK => ?_) AllReadyH.nil)
  go_simp
  go_at_call 57
  refine (cI _).mono ?_
  rintro e w2 ⟨rfl, b2⟩
  have H2 := H1.call b2
  try simp only []
  refine hK.out _ _ (hS _ H2) (fun hHeld => ?_)
  clear hK K
  try simp only [Act.put, List.getElem_toArray, List.getElem_cons_succ, List.getElem_cons_zero, List.setIfInBounds_toArray, List.set_cons_zero, List.set_cons_succ]
  refine wpAnyH_ready (rs := [5]) (by kernel_rfl) (by simp) (AllReadyH.cons rfl (fun K hK => ?_) AllReadyH.nil)
  go_simp
  go_at_call 57
  refine (cS _).mono ?_
  rintro e w3 ⟨rfl, b3⟩
  have H3 := H2.call b3
  try simp only []
  refine hK.out _ _ (hS _ H3) (fun hHeld => ?_)
  clear hK K
  try simp only [Act.put, List.getElem_toArray, List.getElem_cons_succ, List.getElem_cons_zero, List.setIfInBounds_toArray, List.set_cons_zero, List.set_cons_succ]
  refine wpAnyH_take (i := 8) (v := ?_) rfl (by kernel_rfl) (by kernel_rfl) (by kernel_rfl) (fun _ _ _ h => h) (Or.inl ⟨by rfl, ?_⟩) (by assumption) ?_
  rotate_left 1
  · intro w hSw; (try dsimp only at hSw); go_simp; try with_reducible rfl
  try simp only [Act.put, List.getElem_toArray, List.getElem_cons_succ, List.getElem_cons_zero, List.setIfInBounds_toArray, List.set_cons_zero, List.set_cons_succ]
  obtain ⟨⟨y0, y1, y2, y3, y4⟩, ⟨g0, g1, g2, g3, g4⟩, hin1⟩ := (H3.box 0).five0
  refine wpAnyH_ready (rs := [9]) (by kernel_rfl) (by simp) (AllReadyH.cons rfl (fun K hK => ?_) AllReadyH.nil)
  go_simp
  have BX := (H3.box 0).put5 (.bool false) (.string i) (.string s) (.int .u64 h) (.int .u64 l)
  have LX := below_put5 (g := w.heap.size + 1) H3.below (by omega) (.bool false) (.string i) (.string s) (.int .u64 h) (.int .u64 l)
  have BY : Box (((((w3.setCell ⟨w.heap.size + 1, 0, none⟩ (.bool false)).setCell ⟨w.heap.size + 1, 1, none⟩ (.string i)).setCell ⟨w.heap.size + 1, 2, none⟩ (.string s)).setCell ⟨w.heap.size + 1, 3, none⟩ (.int .u64 h)).setCell ⟨w.heap.size + 1, 4, none⟩ (.int .u64 l)) w.heap.size 38 (acB i h l s n) :=
    (((((H3.box 1).apart (by dsimp only; omega) _).apart (by dsimp only; omega) _).apart (by dsimp only; omega) _).apart (by dsimp only; omega) _).apart (by dsimp only; omega) _
  generalize World.setCell (World.setCell (World.setCell (World.setCell (World.setCell w3 _ _) _ _) _ _) _ _) _ _ = X at *
  obtain ⟨⟨x0, x1, x2, x3, x4⟩, -, hgx⟩ := BX.five0
  refine hK.out _ _ (⟨BY.read 0, BY.read 1, BY.read 2, BY.read 3, BY.inside⟩) (fun hHeld => ?_)
  clear hK K
  try simp only [Act.put, List.getElem_toArray, List.getElem_cons_succ, List.getElem_cons_zero, List.setIfInBounds_toArray, List.set_cons_zero, List.set_cons_succ]
  refine wpAnyH_done (by kernel_rfl) ?_ _
  go_wp2
  exact bodyPost_ret (v := (lfA ⟨i, h, l, s, n⟩).val) (by simp [results, Tryd.results24, go_sem, Lf.val, lfA, x0, x1, x2, x3, x4]) rfl ⟨rfl, LX⟩
set_option maxRecDepth 100000 in
set_option maxHeartbeats 2000000 in
theorem sfirst_any (k g : Nat) (p : Ac → Bool) (A : Option Addr) (c : Nat) (xs : List Ac) (hm : xs.length ≤ 1000000000) (hz : ∀ x ∈ xs, x.id.size ≤ 1000000 ∧ x.salt.size ≤ 1000000) (w : World) (hR : AcRow w w.heap.size A xs)
    (he : ∀ args u, (callFunc k args).run Tryd.prog u = .ok (.enter k args) u) (hc : ∀ x ∈ xs, ∀ u, Below w.heap.size w u → Calls Tryd.prog k #[x.val, .pointer (some ⟨g, 0, none⟩)] u (Tells (.bool (p x)) u.heap.size u)) :
    Calls Tryd.prog 48 #[.slice A xs.length c, .func (.func k) #[] #[.pointer (some ⟨g, 0, none⟩)]] w (Tells (.tuple #[(firstA p xs).1.val, .bool (firstA p xs).2]) w.heap.size w) := by
  obtain ⟨V, hV⟩ : ∃ V : Ac × Bool, firstA p xs = V := ⟨_, rfl⟩
  rw [hV]
  have HV := hideIt hV
  clear hV
  have H0 := (Has.start w).add 38 (acB ⟨#[]⟩ 0 0 ⟨#[]⟩ 0)
  go_enter Tryd.func48, Tryd.ntmps48
  go_wp2
  change Code.wp _ _ _ _ (w.alloc (.cells (acB ⟨#[]⟩ 0 0 ⟨#[]⟩ 0) 38))
  generalize w.alloc (.cells (acB ⟨#[]⟩ 0 0 ⟨#[]⟩ 0) 38) = W at *
  go_loopg [10] xs.length (fun gk i wr => ∃ k : Nat, k ≤ xs.length ∧ xs.length - k ≤ gk ∧ i = .int .i64 k ∧ (∀ j y, j < k → xs[j]? = some y → p y = false) ∧ Has w [(w.heap.size, 38, acB ⟨#[]⟩ 0 0 ⟨#[]⟩ 0)] wr)
  case atStart => exact ⟨0, Nat.zero_le _, by omega, rfl, fun j y hj => absurd hj (Nat.not_lt_zero _), H0⟩
  case round =>
    obtain ⟨q, hq, hgk, rfl, hb, H⟩ := hrel
    have HG := hideIt hgk
    have HB := hideIt hb
    clear hgk hb
    by_cases hlt : q < xs.length
    · obtain ⟨x, hx⟩ : ∃ x, xs[q]? = some x := ⟨_, List.getElem?_eq_getElem hlt⟩
      obtain ⟨ad, rfl, had, p0, p1, p2, p3, p4⟩ := (hR.call H.below) q x hx
      have hlti : (q : Int) < (xs.length : Int) := by omega
      have p5 : (ad.add (q * 5)).block < wr.heap.size := by rw [o10_block]; exact Nat.lt_of_lt_of_le had H.size
      obtain ⟨z1, z2⟩ := hz x (List.mem_of_getElem? hx)
      have cX := hc x (List.mem_of_getElem? hx)
      have HX := hideIt hx
      clear hx
      have H1 := H.add 38 (acB x.id x.h x.l x.salt x.slot)
      have hgs := H.size
      go_upto_region 4 with fail
      change Code.wp _ _ _ _ (wr.alloc (.cells (acB x.id x.h x.l x.salt x.slot) 38))
      generalize wr.alloc (.cells (acB x.id x.h x.l x.salt x.slot) 38) = W1 at *
      have cX1 := cX W1 H1.below
      simp only [Ac.val] at cX1
      obtain ⟨q0, q1, q2, q3, q4, -, -, -, -, -, hin1⟩ := (H1.box 0).five
      cases hp : p x with
      | true =>
        have HF := hideIt (firstA_hit HB.out HX.out hp)
        rw [hp] at cX1
        go_upto_region 5 with (first
          | (go_at_fn k; refine cX1.mono ?_; rintro e w2 ⟨rfl, j2⟩)
          | fail)
        have H2 := H1.call j2
        clear q0 q1 q2 q3 q4 hin1 H1
        have hS : ∀ u, Has w [(wr.heap.size, 38, acB x.id x.h x.l x.salt x.slot), (w.heap.size, 38, acB ⟨#[]⟩ 0 0 ⟨#[]⟩ 0)] u →
            u.cell? ⟨wr.heap.size, 0, none⟩ = some (.string x.id) ∧ u.cell? ⟨wr.heap.size, 3, none⟩ = some (.string x.salt) ∧ wr.heap.size < u.heap.size :=
          fun u H => ⟨(H.box 0).read 0, (H.box 0).read 3, (H.box 0).inside⟩
        have cI := fun u => clone_any x.id (by omega) u
        have cS := fun u => clone_any x.salt (by omega) u
        refine wp_region_held_drew (S := fun u => u.cell? ⟨wr.heap.size, 0, none⟩ = some (.string x.id) ∧ u.cell? ⟨wr.heap.size, 3, none⟩ = some (.string x.salt) ∧ wr.heap.size < u.heap.size) (by kernel_rfl) (hS _ H2.drew) (fun hHeld => ?_)
        have H3 := H2.drew
        clear H2
        generalize w2.drew = W3 at *
        refine wpAnyH_take (i := 0) (v := ?_) rfl (by kernel_rfl) (by kernel_rfl) (by kernel_rfl) (fun _ _ _ h => h) (Or.inl ⟨by rfl, ?_⟩) (by assumption) ?_
        rotate_left 1
        · intro w hSw; (try dsimp only at hSw); go_simp; try with_reducible rfl
        try simp only [Act.put, List.getElem_toArray, List.getElem_cons_succ, List.getElem_cons_zero, List.setIfInBounds_toArray, List.set_cons_zero, List.set_cons_succ]
        refine wpAnyH_take (i := 1) (v := ?_) rfl (by kernel_rfl) (by kernel_rfl) (by kernel_rfl) (fun _ _ _ h => h) (Or.inl ⟨by rfl, ?_⟩) (by assumption) ?_
        rotate_left 1
        · intro w hSw; (try dsimp only at hSw); go_simp; try with_reducible rfl
        try simp only [Act.put, List.getElem_toArray, List.getElem_cons_succ, List.getElem_cons_zero, List.setIfInBounds_toArray, List.set_cons_zero, List.set_cons_succ]
        refine wpAnyH_take (i := 3) (v := ?_) rfl (by kernel_rfl) (by kernel_rfl) (by kernel_rfl) (fun _ _ _ h => h) (Or.inl ⟨by rfl, ?_⟩) (by assumption) ?_
        rotate_left 1
        · intro w hSw; (try dsimp only at hSw); go_simp; try with_reducible rfl
        try simp only [Act.put, List.getElem_toArray, List.getElem_cons_succ, List.getElem_cons_zero, List.setIfInBounds_toArray, List.set_cons_zero, List.set_cons_succ]
        refine wpAnyH_take (i := 4) (v := ?_) rfl (by kernel_rfl) (by kernel_rfl) (by kernel_rfl) (fun _ _ _ h => h) (Or.inl ⟨by rfl, ?_⟩) (by assumption) ?_
        rotate_left 1
        · intro w hSw; (try dsimp only at hSw); go_simp; try with_reducible rfl
        try simp only [Act.put, List.getElem_toArray, List.getElem_cons_succ, List.getElem_cons_zero, List.setIfInBounds_toArray, List.set_cons_zero, List.set_cons_succ]
        refine wpAnyH_ready (rs := [2]) (by kernel_rfl) (by simp) (AllReadyH.cons rfl (fun K hK => ?_) AllReadyH.nil)
        go_simp
        go_at_call 57
        refine (cI _).mono ?_
        rintro e w4 ⟨rfl, b4⟩
        have H4 := H3.call b4
        try simp only []
        refine hK.out _ _ (hS _ H4) (fun hHeld => ?_)
        clear hK K
        try simp only [Act.put, List.getElem_toArray, List.getElem_cons_succ, List.getElem_cons_zero, List.setIfInBounds_toArray, List.set_cons_zero, List.set_cons_succ]
        refine wpAnyH_take (i := 6) (v := ?_) rfl (by kernel_rfl) (by kernel_rfl) (by kernel_rfl) (fun _ _ _ h => h) (Or.inl ⟨by rfl, ?_⟩) (by assumption) ?_
        rotate_left 1
        · intro w hSw; (try dsimp only at hSw); go_simp; try with_reducible rfl
        try simp only [Act.put, List.getElem_toArray, List.getElem_cons_succ, List.getElem_cons_zero, List.setIfInBounds_toArray, List.set_cons_zero, List.set_cons_succ]
        refine wpAnyH_ready (rs := [5]) (by kernel_rfl) (by simp) (AllReadyH.cons rfl (fun K hK => ?_) AllReadyH.nil)
        go_simp
        go_at_call 57
        refine (cS _).mono ?_
        rintro e w5 ⟨rfl, b5⟩
        have H5 := H4.call b5
        try simp only []
        refine hK.out _ _ (hS _ H5) (fun hHeld => ?_)
        clear hK K
        try simp only [Act.put, List.getElem_toArray, List.getElem_cons_succ, List.getElem_cons_zero, List.setIfInBounds_toArray, List.set_cons_zero, List.set_cons_succ]
        obtain ⟨q0, q1, q2, q3, q4, r0, r1, r2, r3, r4, hin1⟩ := (H5.box 0).five
        refine wpAnyH_ready (rs := [7]) (by kernel_rfl) (by simp) (AllReadyH.cons rfl (fun K hK => ?_) AllReadyH.nil)
        go_simp
        have H6 := H5.wrote H.size (fun b hb => by
          rw [List.mem_singleton.1 hb]
          have := (H.box 0).inside
          show w.heap.size ≠ wr.heap.size
          omega) 0 (.string x.id)
        refine hK.out _ _ (hS _ H6) (fun hHeld => ?_)
        clear hK K
        try simp only [Act.put, List.getElem_toArray, List.getElem_cons_succ, List.getElem_cons_zero, List.setIfInBounds_toArray, List.set_cons_zero, List.set_cons_succ]
        clear q0 q1 q2 q3 q4 r0 r1 r2 r3 r4 hin1
        obtain ⟨q0, q1, q2, q3, q4, r0, r1, r2, r3, r4, hin1⟩ := (H6.box 0).five
        generalize World.setCell w5 _ _ = W6 at *
        refine wpAnyH_take (i := 8) (v := ?_) rfl (by kernel_rfl) (by kernel_rfl) (by kernel_rfl) (fun _ _ _ h => h) (Or.inl ⟨by rfl, ?_⟩) (by assumption) ?_
        rotate_left 1
        · intro w hSw; (try dsimp only at hSw); go_simp; try with_reducible rfl
        try simp only [Act.put, List.getElem_toArray, List.getElem_cons_succ, List.getElem_cons_zero, List.setIfInBounds_toArray, List.set_cons_zero, List.set_cons_succ]
        refine wpAnyH_ready (rs := [9]) (by kernel_rfl) (by simp) (AllReadyH.cons rfl (fun K hK => ?_) AllReadyH.nil)
        go_simp
        have H7 := H6.wrote H.size (fun b hb => by
          rw [List.mem_singleton.1 hb]
          have := (H.box 0).inside
          show w.heap.size ≠ wr.heap.size
          omega) 3 (.string x.salt)
        refine hK.out _ _ (hS _ H7) (fun hHeld => ?_)
        clear hK K
        try simp only [Act.put, List.getElem_toArray, List.getElem_cons_succ, List.getElem_cons_zero, List.setIfInBounds_toArray, List.set_cons_zero, List.set_cons_succ]
        clear q0 q1 q2 q3 q4 r0 r1 r2 r3 r4 hin1
        generalize World.setCell W6 _ _ = W7 at *
        refine wpAnyH_done (by kernel_rfl) ?_ _
        obtain ⟨q0, q1, q2, q3, q4, r0, r1, r2, r3, r4, hin1⟩ := (H7.box 0).five
        obtain ⟨f0, f1, f2, f3, f4, s0, s1, s2, s3, s4, hin⟩ := (H7.box 1).five
        go_wp2
        have B3 := box5_put (H7.box 1) (.string x.id) (.int .u64 x.h) (.int .u64 x.l) (.string x.salt) (.int .u64 x.slot)
        have L3 := below5_put H7.below (Nat.le_refl _) 0 1 2 3 4 (.string x.id) (.int .u64 x.h) (.int .u64 x.l) (.string x.salt) (.int .u64 x.slot)
        obtain ⟨e0, e1, e2, e3, e4, -⟩ := B3.five
        have e := HF.out
        rw [HV.out] at e
        subst e
        exact bodyPost_ret (v := .tuple #[x.val, .bool true]) (by simp [results, Tryd.results48, go_sem, Ac.val, e0, e1, e2, e3, e4]) rfl ⟨rfl, L3⟩
      | false =>
        have HF := hideIt hp
        rw [hp] at cX1
        clear hp
        go_wp2_with (first
          | (go_at_fn k; refine cX1.mono ?_; rintro e w2 ⟨rfl, j2⟩)
          | fail)
        go_roundg (xs.length - (q + 1))
        case measure => have := HG.out; omega
        case rel => exact ⟨q + 1, by omega, Nat.le_refl _, by go_num, fun j y hj hy => by
          by_cases e : j = q
          · subst e
            rw [HX.out] at hy
            injection hy with hy
            subst hy
            exact HF.out
          · exact HB.out j y (by omega) hy, (H1.call j2).tail⟩
    · have e : q = xs.length := by omega
      subst e
      have HF := hideIt (firstA_none HB.out)
      obtain ⟨f0, f1, f2, f3, f4, s0, s1, s2, s3, s4, hin⟩ := (H.box 0).five
      go_wp2
      have B3 := box5_put (H.box 0) (.string ⟨#[]⟩) (.int .u64 0) (.int .u64 0) (.string ⟨#[]⟩) (.int .u64 0)
      have L3 := below5_put H.below (Nat.le_refl _) 0 1 2 3 4 (.string ⟨#[]⟩) (.int .u64 0) (.int .u64 0) (.string ⟨#[]⟩) (.int .u64 0)
      obtain ⟨e0, e1, e2, e3, e4, -⟩ := B3.five
      have e := HF.out
      rw [HV.out] at e
      subst e
      exact bodyPost_ret (v := .tuple #[Ac.zero.val, .bool false]) (by simp [results, Tryd.results48, go_sem, Ac.val, Ac.zero, e0, e1, e2, e3, e4]) rfl ⟨rfl, L3⟩
theorem sid_same (x : Ac) (s : ByteArray) : (x.id.toList == s.toList) = decide (keyA x = s.data.toList) := by
  rw [Lib.toList_data, Lib.toList_data]
  exact Bool.beq_eq_decide_eq _ _
theorem sfind1_any (x : Ac) (g : Nat) (s : ByteArray) (w : World) (hB : Box w g 9 #[.string s]) : Calls Tryd.prog 49 #[x.val, .pointer (some ⟨g, 0, none⟩)] w (Tells (.bool (decide (keyA x = s.data.toList))) w.heap.size w) := by
  have e := sid_same x s
  generalize decide (keyA x = s.data.toList) = q at *
  obtain ⟨i, h, l, sa, n⟩ := x
  simp only [Ac.val] at e ⊢
  have c0 : (w.alloc (.cells (acB i h l sa n) 38)).cell? ⟨w.heap.size, 0, none⟩ = some (.string i) := (Box.made w _ _).read 0
  have c1 : (w.alloc (.cells (acB i h l sa n) 38)).cell? ⟨g, 0, none⟩ = some (.string s) := (hB.past _).read 0
  have i1 := (hB.past (.cells (acB i h l sa n) 38)).inside
  have i0 : w.heap.size < (w.alloc (.cells (acB i h l sa n) 38)).heap.size := by simp
  have L0 := chainA (Below.refl w.heap.size w) (.cells (acB i h l sa n) 38)
  go_enter Tryd.func49, Tryd.ntmps49
  go_upto_region 1 with fail
  change Code.wp _ _ _ _ (w.alloc (.cells (acB i h l sa n) 38))
  generalize w.alloc (.cells (acB i h l sa n) 38) = W at *
  go_wp2
  go_ret
  exact ⟨rfl, L0⟩
set_option maxHeartbeats 1000000 in
theorem sFind_any (A : Option Addr) (c : Nat) (xs : List Ac) (s : ByteArray) (hm : xs.length ≤ 1000000000) (hz : ∀ x ∈ xs, x.id.size ≤ 1000000 ∧ x.salt.size ≤ 1000000) (w : World) (hR : AcRow w w.heap.size A xs) :
    Calls Tryd.prog 16 #[.slice A xs.length c, .string s] w (Tells (.tuple #[(findA xs s.data.toList).1.val, .bool (findA xs s.data.toList).2]) w.heap.size w) := by
  have H0 := ((Has.start w).add 9 #[.string s]).addAt 38 (acB ⟨#[]⟩ 0 0 ⟨#[]⟩ 0) (g := w.heap.size + 1) (by simp)
  have cF : ∀ u, Has w [(w.heap.size + 1, 38, acB ⟨#[]⟩ 0 0 ⟨#[]⟩ 0), (w.heap.size, 9, #[.string s])] u → Calls Tryd.prog 48 #[.slice A xs.length c, .func (.func 49) #[] #[.pointer (some ⟨w.heap.size, 0, none⟩)]] u (Tells (.tuple #[(findA xs s.data.toList).1.val, .bool (findA xs s.data.toList).2]) u.heap.size u) :=
    fun u H => sfirst_any 49 w.heap.size (fun a => decide (keyA a = s.data.toList)) A c xs hm hz u ((hR.call H.below).more H.size) (enters_of Tryd.func49 (by kernel_rfl) rfl)
      (fun x _ v hv => sfind1_any x w.heap.size s v ((H.box 1).call hv))
  obtain ⟨V, hV⟩ : ∃ V : Ac × Bool, findA xs s.data.toList = V := ⟨_, rfl⟩
  rw [hV] at cF ⊢
  obtain ⟨⟨i, h, l, sa, n⟩, b⟩ := V
  simp only [Ac.val] at cF ⊢
  go_enter Tryd.func16, Tryd.ntmps16
  go_upto_region 1 with fail
  change Code.wp _ _ _ _ ((w.alloc (.cells #[.string s] 9)).alloc (.cells (acB ⟨#[]⟩ 0 0 ⟨#[]⟩ 0) 38))
  generalize (w.alloc (.cells #[.string s] 9)).alloc (.cells (acB ⟨#[]⟩ 0 0 ⟨#[]⟩ 0) 38) = W at *
  go_wp2_with (first
    | (go_at_call 48; refine (cF _ H0).mono ?_; rintro e w2 ⟨rfl, j2⟩; have H2 := H0.call j2; obtain ⟨f0, f1, f2, f3, f4, s0, s1, s2, s3, s4, hin⟩ := (H2.box 0).five)
    | fail)
  have B3 := box5_put (H2.box 0) (.string i) (.int .u64 h) (.int .u64 l) (.string sa) (.int .u64 n)
  have L3 := below5_put (g := w.heap.size + 1) H2.below (by omega) 0 1 2 3 4 (.string i) (.int .u64 h) (.int .u64 l) (.string sa) (.int .u64 n)
  obtain ⟨e0, e1, e2, e3, e4, -⟩ := B3.five
  exact bodyPost_ret (v := .tuple #[.agg #[.string i, .int .u64 h, .int .u64 l, .string sa, .int .u64 n], .bool b]) (by simp [results, Tryd.results16, go_sem, e0, e1, e2, e3, e4]) rfl ⟨rfl, L3⟩
theorem sat1_any (x : Ac) (g : Nat) (m : Int) (w : World) (hB : Box w g 34 #[.int .u64 m]) : Calls Tryd.prog 50 #[x.val, .pointer (some ⟨g, 0, none⟩)] w (Tells (.bool (decide (x.slot = m))) w.heap.size w) := by
  have e : (x.slot == m) = decide (x.slot = m) := Bool.beq_eq_decide_eq _ _
  generalize decide (x.slot = m) = q at *
  obtain ⟨i, h, l, sa, n⟩ := x
  simp only [Ac.val] at e ⊢
  have c0 : (w.alloc (.cells (acB i h l sa n) 38)).cell? ⟨w.heap.size, 4, none⟩ = some (.int .u64 n) := (Box.made w _ _).read 4
  have c1 : (w.alloc (.cells (acB i h l sa n) 38)).cell? ⟨g, 0, none⟩ = some (.int .u64 m) := (hB.past _).read 0
  have i1 := (hB.past (.cells (acB i h l sa n) 38)).inside
  have i0 : w.heap.size < (w.alloc (.cells (acB i h l sa n) 38)).heap.size := by simp
  have L0 := chainA (Below.refl w.heap.size w) (.cells (acB i h l sa n) 38)
  go_enter Tryd.func50, Tryd.ntmps50
  go_upto_region 1 with fail
  change Code.wp _ _ _ _ (w.alloc (.cells (acB i h l sa n) 38))
  generalize w.alloc (.cells (acB i h l sa n) 38) = W at *
  go_wp2
  go_ret
  exact ⟨rfl, L0⟩
set_option maxHeartbeats 1000000 in
theorem sAt_any (A : Option Addr) (c : Nat) (xs : List Ac) (m : Int) (hm : xs.length ≤ 1000000000) (hz : ∀ x ∈ xs, x.id.size ≤ 1000000 ∧ x.salt.size ≤ 1000000) (w : World) (hR : AcRow w w.heap.size A xs) :
    Calls Tryd.prog 18 #[.slice A xs.length c, .int .u64 m] w (Tells (.tuple #[(atA xs m).1.val, .bool (atA xs m).2]) w.heap.size w) := by
  have H0 := ((Has.start w).add 34 #[.int .u64 m]).addAt 38 (acB ⟨#[]⟩ 0 0 ⟨#[]⟩ 0) (g := w.heap.size + 1) (by simp)
  have cF : ∀ u, Has w [(w.heap.size + 1, 38, acB ⟨#[]⟩ 0 0 ⟨#[]⟩ 0), (w.heap.size, 34, #[.int .u64 m])] u → Calls Tryd.prog 48 #[.slice A xs.length c, .func (.func 50) #[] #[.pointer (some ⟨w.heap.size, 0, none⟩)]] u (Tells (.tuple #[(atA xs m).1.val, .bool (atA xs m).2]) u.heap.size u) :=
    fun u H => sfirst_any 50 w.heap.size (fun a => decide (a.slot = m)) A c xs hm hz u ((hR.call H.below).more H.size) (enters_of Tryd.func50 (by kernel_rfl) rfl)
      (fun x _ v hv => sat1_any x w.heap.size m v ((H.box 1).call hv))
  obtain ⟨V, hV⟩ : ∃ V : Ac × Bool, atA xs m = V := ⟨_, rfl⟩
  rw [hV] at cF ⊢
  obtain ⟨⟨i, h, l, sa, n⟩, b⟩ := V
  simp only [Ac.val] at cF ⊢
  go_enter Tryd.func18, Tryd.ntmps18
  go_upto_region 1 with fail
  change Code.wp _ _ _ _ ((w.alloc (.cells #[.int .u64 m] 34)).alloc (.cells (acB ⟨#[]⟩ 0 0 ⟨#[]⟩ 0) 38))
  generalize (w.alloc (.cells #[.int .u64 m] 34)).alloc (.cells (acB ⟨#[]⟩ 0 0 ⟨#[]⟩ 0) 38) = W at *
  go_wp2_with (first
    | (go_at_call 48; refine (cF _ H0).mono ?_; rintro e w2 ⟨rfl, j2⟩; have H2 := H0.call j2; obtain ⟨f0, f1, f2, f3, f4, s0, s1, s2, s3, s4, hin⟩ := (H2.box 0).five)
    | fail)
  have B3 := box5_put (H2.box 0) (.string i) (.int .u64 h) (.int .u64 l) (.string sa) (.int .u64 n)
  have L3 := below5_put (g := w.heap.size + 1) H2.below (by omega) 0 1 2 3 4 (.string i) (.int .u64 h) (.int .u64 l) (.string sa) (.int .u64 n)
  obtain ⟨e0, e1, e2, e3, e4, -⟩ := B3.five
  exact bodyPost_ret (v := .tuple #[.agg #[.string i, .int .u64 h, .int .u64 l, .string sa, .int .u64 n], .bool b]) (by simp [results, Tryd.results18, go_sem, e0, e1, e2, e3, e4]) rfl ⟨rfl, L3⟩
end Go.Proofs.YtngofpdpangajaaDoor
/-
  Package slots' May, walked.
-/
namespace Go.Proofs.YtngofpdpangajaaDoor
set_option linter.unusedVariables false
set_option linter.unusedSimpArgs false
set_option maxRecDepth 10000
open Go.RowKit Go.Sort

theorem und_ids12 : Tryd.prog.underlying 80 = some (.map 9 81) := Tryd.underlying80
set_option maxRecDepth 100000 in
set_option maxHeartbeats 4000000 in
theorem smay_any (A : Option Addr) (c : Nat) (xs : List Ac) (hm : xs.length ≤ 1000000) (ho : AllAc xs) (hz : ∀ x ∈ xs, x.id.size ≤ 1000000 ∧ x.salt.size ≤ 1000000) (h : Int) (w : World) (hR : AcRow w w.heap.size A xs) (hT : TabU w) :
    Calls Tryd.prog 22 #[.slice A xs.length c, .int .i64 h] w (Tells (.bool (mayA h xs)) w.heap.size w) := by
  have cMH := fun u => smayHeight_any h u
  unfold mayA
  cases hk : shOk h with
  | false =>
    rw [hk] at cMH
    rw [Bool.false_and]
    go_enter Tryd.func22, Tryd.ntmps22
    go_wp2_with (first | (go_at_call 51; refine (cMH _).mono ?_; rintro e v1 ⟨rfl, rfl⟩) | fail)
    go_ret
    exact ⟨rfl, Below.refl _ _⟩
  | true =>
    rw [hk] at cMH
    rw [Bool.true_and]
    have hb := of_decide_eq_true hk
    obtain ⟨n, rfl⟩ := Int.eq_ofNat_of_zero_le hb.1
    rw [Int.toNat_natCast]
    have cS := fun u => ssize_any n (by omega) u
    obtain ⟨P, hP⟩ : ∃ P, pw n = P := ⟨_, rfl⟩
    rw [hP] at cS ⊢
    obtain ⟨V, hV⟩ : ∃ V, decide (MayP P xs) = V := ⟨_, rfl⟩
    rw [hV]
    have HV := hideIt hV
    have HP0 := hideIt (mayP_nil P)
    clear hV hP hk hb
    have hmm := @run_makeMap Tryd.prog
    have M0 := (IdSet.made w).alloc (.map #[] 0)
    have S0 := SlotSet.made (w.alloc (.map #[] 0))
    rw [World.size_alloc] at S0
    have L0 := chainA (chainA (Below.refl w.heap.size w) (.map #[] 0)) (.map #[] 0)
    go_enter Tryd.func22, Tryd.ntmps22
    go_wp2_with (first | (go_at_call 51; refine (cMH _).mono ?_; rintro e v1 ⟨rfl, rfl⟩) | fail)
    clear cMH
    generalize (w.alloc (.map #[] 0)).alloc (.map #[] 0) = W at *
    go_loopg [18] xs.length (fun gk i wr => ∃ k : Nat, k ≤ xs.length ∧ xs.length - k ≤ gk ∧ i = .int .i64 k ∧ IdSet wr w.heap.size ((xs.take k).map keyA) ∧ SlotSet wr (w.heap.size + 1) ((xs.take k).map Ac.slot) ∧ Below w.heap.size w wr ∧ Hid (MayP P (xs.take k)))
    case atStart => exact ⟨0, Nat.zero_le _, by omega, rfl, M0, S0, L0, HP0⟩
    case round =>
      obtain ⟨k, hk, hgk, rfl, M, S, hb, HM⟩ := hrel
      have HG := hideIt hgk
      clear hgk M0 S0 L0
      by_cases hlt : k < xs.length
      · obtain ⟨x, hx⟩ : ∃ x, xs[k]? = some x := ⟨_, List.getElem?_eq_getElem hlt⟩
        obtain ⟨ad, rfl, had, p0, p1, p2, p3, p4⟩ := (hR.call hb) k x hx
        have hlti : (k : Int) < (xs.length : Int) := by omega
        have p5 : (ad.add (k * 5)).block < wr.heap.size := by rw [o10_block]; exact Nat.lt_of_lt_of_le had hb.size
        obtain ⟨z1, z2⟩ := hz x (List.mem_of_getElem? hx)
        have hok := ho x (List.mem_of_getElem? hx)
        have ht := take_more1 hx
        have HT := hideIt ht
        have HX := hideIt hx
        clear hx ht
        have hln : ((xs.take k).map keyA).length ≤ 1000000000 := by rw [List.length_map, List.length_take]; omega
        have hln2 : ((xs.take k).map Ac.slot).length ≤ 1000000000 := by rw [List.length_map, List.length_take]; omega
        have hsz := hb.size
        have hsl := S.lt
        have M1 := M.alloc (.cells (acB x.id x.h x.l x.salt x.slot) 38)
        have S1 := S.alloc (.cells (acB x.id x.h x.l x.salt x.slot) 38)
        have B1 := Box.made wr 38 (acB x.id x.h x.l x.salt x.slot)
        have L1 := chainA hb (.cells (acB x.id x.h x.l x.salt x.slot) 38)
        go_upto_region 7 with fail
        change Code.wp _ _ _ _ (wr.alloc (.cells (acB x.id x.h x.l x.salt x.slot) 38))
        generalize wr.alloc (.cells (acB x.id x.h x.l x.salt x.slot) 38) = W1 at *
        obtain ⟨q0, q1, q2, q3, q4, -, -, -, -, -, hin1⟩ := B1.five
        obtain ⟨t1, ht1⟩ : ∃ q, decide (keyA x ∈ (xs.take k).map keyA) = q := ⟨_, rfl⟩
        have HT1 := hideIt ht1
        go_upto_region 8 with (first
          | (at_lookup; refine wpl_idset_look rfl _ _ 80 rfl und_ids12 rfl M1 x.id rfl (by omega) t1 ht1 ?_)
          | fail)
        have M1 := M1.alloc (.cells #[] 81)
        have S1 := S1.alloc (.cells #[] 81)
        have B1 := B1.past (.cells #[] 81)
        have L1 := chainA L1 (.cells #[] 81)
        generalize W1.alloc (.cells #[] 81) = W1 at *
        obtain ⟨q0, q1, q2, q3, q4, -, -, -, -, -, hin1⟩ := B1.five
        clear ht1
        cases t1 with
        | true =>
          have hno : V = false := by
            rw [← HV.out]
            exact decide_eq_false fun hM => (mayP_at hM HX.out).2.1 (of_decide_eq_true HT1.out)
          subst hno
          go_quiet (fail)
          go_wp2
          go_ret
          exact ⟨rfl, below_drewN L1 _⟩
        | false =>
          have hkey := of_decide_eq_false HT1.out
          obtain ⟨t2, ht2⟩ : ∃ q, decide (x.slot ∈ (xs.take k).map Ac.slot) = q := ⟨_, rfl⟩
          have cH : ∀ u, Below W1.heap.size W1 u → _ := fun u hu => shas_any (w.heap.size + 1) _ x.slot hok.2.2 t2 ht2 u (S1.call hu)
          have cL := fun u => sleaf_any x z1 z2 u
          have hTW := hT.call L1
          have cM : ∀ u, Below W1.heap.size W1 u → _ := fun u hu => mayLeaf_any (lfA x) (by show x.id.size ≤ _; omega) (by show x.salt.size ≤ _; omega) u (hTW.call hu)
          have hma := lfA_may x
          have hdef := okA_def P x
          generalize (lfA x).may = t4 at *
          simp only [Lf.val, lfA] at cL cM
          have HD := hideIt hdef
          have HMA := hideIt hma
          have HK := hideIt hkey
          have HT2 := hideIt ht2
          clear hdef hma hkey ht2
          cases t2 with
          | true =>
            have hno : V = false := by
              rw [← HV.out]
              exact decide_eq_false fun hM => (mayP_at hM HX.out).2.2 (of_decide_eq_true HT2.out)
            subst hno
            have hS : ∀ u, Below W1.heap.size W1 u → (fun u => Below W1.heap.size W1 u ∧ u.cell? ⟨wr.heap.size, 0, none⟩ = some (.string x.id) ∧ u.cell? ⟨wr.heap.size, 1, none⟩ = some (.int .u64 x.h) ∧ u.cell? ⟨wr.heap.size, 2, none⟩ = some (.int .u64 x.l) ∧ u.cell? ⟨wr.heap.size, 3, none⟩ = some (.string x.salt) ∧ u.cell? ⟨wr.heap.size, 4, none⟩ = some (.int .u64 x.slot) ∧ wr.heap.size < u.heap.size) u := fun u hb => ⟨hb, (B1.call hb).read 0, (B1.call hb).read 1, (B1.call hb).read 2, (B1.call hb).read 3, (B1.call hb).read 4, (B1.call hb).inside⟩
            refine wp_region_held_drew (S := (fun u => Below W1.heap.size W1 u ∧ u.cell? ⟨wr.heap.size, 0, none⟩ = some (.string x.id) ∧ u.cell? ⟨wr.heap.size, 1, none⟩ = some (.int .u64 x.h) ∧ u.cell? ⟨wr.heap.size, 2, none⟩ = some (.int .u64 x.l) ∧ u.cell? ⟨wr.heap.size, 3, none⟩ = some (.string x.salt) ∧ u.cell? ⟨wr.heap.size, 4, none⟩ = some (.int .u64 x.slot) ∧ wr.heap.size < u.heap.size)) (by kernel_rfl) (hS _ (Below.refl _ _).drew) (fun hHeld => ?_)
            refine wpAnyH_take (i := 0) (v := ?_) rfl (by kernel_rfl) (by kernel_rfl) (by kernel_rfl) (fun _ _ _ h => h) (Or.inl ⟨by rfl, ?_⟩) (by assumption) ?_
            rotate_left 1
            · intro w hSw; (try dsimp only at hSw); go_simp; try with_reducible rfl
            try simp only [Act.put, List.getElem_toArray, List.getElem_cons_succ, List.getElem_cons_zero, List.setIfInBounds_toArray, List.set_cons_zero, List.set_cons_succ]
            refine wpAnyH_take (i := 1) (v := ?_) rfl (by kernel_rfl) (by kernel_rfl) (by kernel_rfl) (fun _ _ _ h => h) (Or.inl ⟨by rfl, ?_⟩) (by assumption) ?_
            rotate_left 1
            · intro w hSw; (try dsimp only at hSw); go_simp; try with_reducible rfl
            try simp only [Act.put, List.getElem_toArray, List.getElem_cons_succ, List.getElem_cons_zero, List.setIfInBounds_toArray, List.set_cons_zero, List.set_cons_succ]
            refine wpAnyH_take (i := 2) (v := ?_) rfl (by kernel_rfl) (by kernel_rfl) (by kernel_rfl) (fun _ _ _ h => h) (Or.inl ⟨by rfl, ?_⟩) (by assumption) ?_
            rotate_left 1
            · intro w hSw; (try dsimp only at hSw); go_simp; try with_reducible rfl
            try simp only [Act.put, List.getElem_toArray, List.getElem_cons_succ, List.getElem_cons_zero, List.setIfInBounds_toArray, List.set_cons_zero, List.set_cons_succ]
            refine wpAnyH_take (i := 3) (v := ?_) rfl (by kernel_rfl) (by kernel_rfl) (by kernel_rfl) (fun _ _ _ h => h) (Or.inl ⟨by rfl, ?_⟩) (by assumption) ?_
            rotate_left 1
            · intro w hSw; (try dsimp only at hSw); go_simp; try with_reducible rfl
            try simp only [Act.put, List.getElem_toArray, List.getElem_cons_succ, List.getElem_cons_zero, List.setIfInBounds_toArray, List.set_cons_zero, List.set_cons_succ]
            refine wpAnyH_take (i := 4) (v := ?_) rfl (by kernel_rfl) (by kernel_rfl) (by kernel_rfl) (fun _ _ _ h => h) (Or.inl ⟨by rfl, ?_⟩) (by assumption) ?_
            rotate_left 1
            · intro w hSw; (try dsimp only at hSw); go_simp; try with_reducible rfl
            try simp only [Act.put, List.getElem_toArray, List.getElem_cons_succ, List.getElem_cons_zero, List.setIfInBounds_toArray, List.set_cons_zero, List.set_cons_succ]
            refine wpAnyH_ready (rs := [5]) (by kernel_rfl) (by simp) (AllReadyH.cons rfl (fun K hK => ?_) AllReadyH.nil)
            go_simp
            go_at_call 54
            refine (cH _ (Below.refl _ _).drew).mono ?_
            rintro e v1 ⟨rfl, hv1⟩
            have hb1 := chain (Below.refl W1.heap.size W1).drew hv1
            try simp only []
            refine hK.out _ _ (hS _ hb1) (fun hHeld => ?_)
            clear hK K
            try simp only [Act.put, List.getElem_toArray, List.getElem_cons_succ, List.getElem_cons_zero, List.setIfInBounds_toArray, List.set_cons_zero, List.set_cons_succ]
            refine wpAnyH_take (i := 6) (v := ?_) rfl (by kernel_rfl) (by kernel_rfl) (by kernel_rfl) (fun _ _ _ h => h) (Or.inl ⟨by rfl, ?_⟩) (by assumption) ?_
            rotate_left 1
            · intro w hSw; (try dsimp only at hSw); go_simp; try with_reducible rfl
            try simp only [Act.put, List.getElem_toArray, List.getElem_cons_succ, List.getElem_cons_zero, List.setIfInBounds_toArray, List.set_cons_zero, List.set_cons_succ]
            refine wpAnyH_take (i := 7) (v := ?_) rfl (by kernel_rfl) (by kernel_rfl) (by kernel_rfl) (fun _ _ _ h => h) (Or.inl ⟨by rfl, ?_⟩) (by assumption) ?_
            rotate_left 1
            · intro w hSw; (try dsimp only at hSw); go_simp; try with_reducible rfl
            try simp only [Act.put, List.getElem_toArray, List.getElem_cons_succ, List.getElem_cons_zero, List.setIfInBounds_toArray, List.set_cons_zero, List.set_cons_succ]
            refine wpAnyH_take (i := 8) (v := undef) rfl (by kernel_rfl) (by kernel_rfl) (by kernel_rfl) (fun _ _ _ h => h) (Or.inr ⟨by rfl, rfl⟩) (by assumption) ?_
            try simp only [Act.put, List.getElem_toArray, List.getElem_cons_succ, List.getElem_cons_zero, List.setIfInBounds_toArray, List.set_cons_zero, List.set_cons_succ]
            refine wpAnyH_take (i := 9) (v := undef) rfl (by kernel_rfl) (by kernel_rfl) (by kernel_rfl) (fun _ _ _ h => h) (Or.inr ⟨by rfl, rfl⟩) (by assumption) ?_
            try simp only [Act.put, List.getElem_toArray, List.getElem_cons_succ, List.getElem_cons_zero, List.setIfInBounds_toArray, List.set_cons_zero, List.set_cons_succ]
            refine wpAnyH_take (i := 10) (v := undef) rfl (by kernel_rfl) (by kernel_rfl) (by kernel_rfl) (fun _ _ _ h => h) (Or.inr ⟨by rfl, rfl⟩) (by assumption) ?_
            try simp only [Act.put, List.getElem_toArray, List.getElem_cons_succ, List.getElem_cons_zero, List.setIfInBounds_toArray, List.set_cons_zero, List.set_cons_succ]
            refine wpAnyH_ready (rs := [11]) (by kernel_rfl) (by simp) (AllReadyH.cons rfl (fun K hK => ?_) AllReadyH.nil)
            go_simp
            refine hK.out _ _ (hS _ hb1) (fun hHeld => ?_)
            clear hK K
            try simp only [Act.put, List.getElem_toArray, List.getElem_cons_succ, List.getElem_cons_zero, List.setIfInBounds_toArray, List.set_cons_zero, List.set_cons_succ]
            refine wpAnyH_take (i := 12) (v := undef) rfl (by kernel_rfl) (by kernel_rfl) (by kernel_rfl) (fun _ _ _ h => h) (Or.inr ⟨by rfl, rfl⟩) (by assumption) ?_
            try simp only [Act.put, List.getElem_toArray, List.getElem_cons_succ, List.getElem_cons_zero, List.setIfInBounds_toArray, List.set_cons_zero, List.set_cons_succ]
            refine wpAnyH_take (i := 13) (v := ?_) rfl (by kernel_rfl) (by kernel_rfl) (by kernel_rfl) (fun _ _ _ h => h) (Or.inl ⟨by rfl, ?_⟩) (by assumption) ?_
            rotate_left 1
            · intro w hSw; (try dsimp only at hSw); go_simp; try with_reducible rfl
            try simp only [Act.put, List.getElem_toArray, List.getElem_cons_succ, List.getElem_cons_zero, List.setIfInBounds_toArray, List.set_cons_zero, List.set_cons_succ]
            refine wpAnyH_take (i := 14) (v := ?_) rfl (by kernel_rfl) (by kernel_rfl) (by kernel_rfl) (fun _ _ _ h => h) (Or.inl ⟨by rfl, ?_⟩) (by assumption) ?_
            rotate_left 1
            · intro w hSw; (try dsimp only at hSw); go_simp; try with_reducible rfl
            try simp only [Act.put, List.getElem_toArray, List.getElem_cons_succ, List.getElem_cons_zero, List.setIfInBounds_toArray, List.set_cons_zero, List.set_cons_succ]
            refine wpAnyH_take (i := 15) (v := undef) rfl (by kernel_rfl) (by kernel_rfl) (by kernel_rfl) (fun _ _ _ h => h) (Or.inr ⟨by rfl, rfl⟩) (by assumption) ?_
            try simp only [Act.put, List.getElem_toArray, List.getElem_cons_succ, List.getElem_cons_zero, List.setIfInBounds_toArray, List.set_cons_zero, List.set_cons_succ]
            refine wpAnyH_ready (rs := [16]) (by kernel_rfl) (by simp) (AllReadyH.cons rfl (fun K hK => ?_) AllReadyH.nil)
            go_simp
            refine hK.out _ _ (hS _ hb1) (fun hHeld => ?_)
            clear hK K
            try simp only [Act.put, List.getElem_toArray, List.getElem_cons_succ, List.getElem_cons_zero, List.setIfInBounds_toArray, List.set_cons_zero, List.set_cons_succ]
            refine wpAnyH_ready (rs := [17]) (by kernel_rfl) (by simp) (AllReadyH.cons rfl (fun K hK => ?_) AllReadyH.nil)
            go_simp
            refine hK.out _ _ (hS _ hb1) (fun hHeld => ?_)
            clear hK K
            try simp only [Act.put, List.getElem_toArray, List.getElem_cons_succ, List.getElem_cons_zero, List.setIfInBounds_toArray, List.set_cons_zero, List.set_cons_succ]
            refine wpAnyH_take (i := 18) (v := undef) rfl (by kernel_rfl) (by kernel_rfl) (by kernel_rfl) (fun _ _ _ h => h) (Or.inr ⟨by rfl, rfl⟩) (by assumption) ?_
            try simp only [Act.put, List.getElem_toArray, List.getElem_cons_succ, List.getElem_cons_zero, List.setIfInBounds_toArray, List.set_cons_zero, List.set_cons_succ]
            refine wpAnyH_take (i := 19) (v := ?_) rfl (by kernel_rfl) (by kernel_rfl) (by kernel_rfl) (fun _ _ _ h => h) (Or.inl ⟨by rfl, ?_⟩) (by assumption) ?_
            rotate_left 1
            · intro w hSw; (try dsimp only at hSw); go_simp; try with_reducible rfl
            try simp only [Act.put, List.getElem_toArray, List.getElem_cons_succ, List.getElem_cons_zero, List.setIfInBounds_toArray, List.set_cons_zero, List.set_cons_succ]
            refine wpAnyH_done (by kernel_rfl) ?_ _
            go_wp2
            go_ret
            exact ⟨rfl, chain L1 hb1⟩
          | false =>
            by_cases hs : x.slot < P
            · have hs1 : ¬ (P ≤ x.slot) := by omega
              have hs2 : decide (P ≤ x.slot) = false := decide_eq_false hs1
              cases t4 with
              | false =>
                have hno : V = false := by
                  rw [← HV.out]
                  refine decide_eq_false fun hM => ?_
                  have h1 := (mayP_at hM HX.out).1
                  rw [HD.out, Bool.and_eq_true, Bool.and_eq_true] at h1
                  have h2 := HMA.out
                  rw [h1.1, h1.2.1] at h2
                  cases h2
                subst hno
                have hS : ∀ u, Below W1.heap.size W1 u → (fun u => Below W1.heap.size W1 u ∧ u.cell? ⟨wr.heap.size, 0, none⟩ = some (.string x.id) ∧ u.cell? ⟨wr.heap.size, 1, none⟩ = some (.int .u64 x.h) ∧ u.cell? ⟨wr.heap.size, 2, none⟩ = some (.int .u64 x.l) ∧ u.cell? ⟨wr.heap.size, 3, none⟩ = some (.string x.salt) ∧ u.cell? ⟨wr.heap.size, 4, none⟩ = some (.int .u64 x.slot) ∧ wr.heap.size < u.heap.size) u := fun u hb => ⟨hb, (B1.call hb).read 0, (B1.call hb).read 1, (B1.call hb).read 2, (B1.call hb).read 3, (B1.call hb).read 4, (B1.call hb).inside⟩
                refine wp_region_held_drew (S := (fun u => Below W1.heap.size W1 u ∧ u.cell? ⟨wr.heap.size, 0, none⟩ = some (.string x.id) ∧ u.cell? ⟨wr.heap.size, 1, none⟩ = some (.int .u64 x.h) ∧ u.cell? ⟨wr.heap.size, 2, none⟩ = some (.int .u64 x.l) ∧ u.cell? ⟨wr.heap.size, 3, none⟩ = some (.string x.salt) ∧ u.cell? ⟨wr.heap.size, 4, none⟩ = some (.int .u64 x.slot) ∧ wr.heap.size < u.heap.size)) (by kernel_rfl) (hS _ (Below.refl _ _).drew) (fun hHeld => ?_)
                refine wpAnyH_take (i := 0) (v := ?_) rfl (by kernel_rfl) (by kernel_rfl) (by kernel_rfl) (fun _ _ _ h => h) (Or.inl ⟨by rfl, ?_⟩) (by assumption) ?_
                rotate_left 1
                · intro w hSw; (try dsimp only at hSw); go_simp; try with_reducible rfl
                try simp only [Act.put, List.getElem_toArray, List.getElem_cons_succ, List.getElem_cons_zero, List.setIfInBounds_toArray, List.set_cons_zero, List.set_cons_succ]
                refine wpAnyH_take (i := 1) (v := ?_) rfl (by kernel_rfl) (by kernel_rfl) (by kernel_rfl) (fun _ _ _ h => h) (Or.inl ⟨by rfl, ?_⟩) (by assumption) ?_
                rotate_left 1
                · intro w hSw; (try dsimp only at hSw); go_simp; try with_reducible rfl
                try simp only [Act.put, List.getElem_toArray, List.getElem_cons_succ, List.getElem_cons_zero, List.setIfInBounds_toArray, List.set_cons_zero, List.set_cons_succ]
                refine wpAnyH_take (i := 2) (v := ?_) rfl (by kernel_rfl) (by kernel_rfl) (by kernel_rfl) (fun _ _ _ h => h) (Or.inl ⟨by rfl, ?_⟩) (by assumption) ?_
                rotate_left 1
                · intro w hSw; (try dsimp only at hSw); go_simp; try with_reducible rfl
                try simp only [Act.put, List.getElem_toArray, List.getElem_cons_succ, List.getElem_cons_zero, List.setIfInBounds_toArray, List.set_cons_zero, List.set_cons_succ]
                refine wpAnyH_take (i := 3) (v := ?_) rfl (by kernel_rfl) (by kernel_rfl) (by kernel_rfl) (fun _ _ _ h => h) (Or.inl ⟨by rfl, ?_⟩) (by assumption) ?_
                rotate_left 1
                · intro w hSw; (try dsimp only at hSw); go_simp; try with_reducible rfl
                try simp only [Act.put, List.getElem_toArray, List.getElem_cons_succ, List.getElem_cons_zero, List.setIfInBounds_toArray, List.set_cons_zero, List.set_cons_succ]
                refine wpAnyH_take (i := 4) (v := ?_) rfl (by kernel_rfl) (by kernel_rfl) (by kernel_rfl) (fun _ _ _ h => h) (Or.inl ⟨by rfl, ?_⟩) (by assumption) ?_
                rotate_left 1
                · intro w hSw; (try dsimp only at hSw); go_simp; try with_reducible rfl
                try simp only [Act.put, List.getElem_toArray, List.getElem_cons_succ, List.getElem_cons_zero, List.setIfInBounds_toArray, List.set_cons_zero, List.set_cons_succ]
                refine wpAnyH_ready (rs := [5]) (by kernel_rfl) (by simp) (AllReadyH.cons rfl (fun K hK => ?_) AllReadyH.nil)
                go_simp
                go_at_call 54
                refine (cH _ (Below.refl _ _).drew).mono ?_
                rintro e v1 ⟨rfl, hv1⟩
                have hb1 := chain (Below.refl W1.heap.size W1).drew hv1
                try simp only []
                refine hK.out _ _ (hS _ hb1) (fun hHeld => ?_)
                clear hK K
                try simp only [Act.put, List.getElem_toArray, List.getElem_cons_succ, List.getElem_cons_zero, List.setIfInBounds_toArray, List.set_cons_zero, List.set_cons_succ]
                refine wpAnyH_take (i := 6) (v := ?_) rfl (by kernel_rfl) (by kernel_rfl) (by kernel_rfl) (fun _ _ _ h => h) (Or.inl ⟨by rfl, ?_⟩) (by assumption) ?_
                rotate_left 1
                · intro w hSw; (try dsimp only at hSw); go_simp; try with_reducible rfl
                try simp only [Act.put, List.getElem_toArray, List.getElem_cons_succ, List.getElem_cons_zero, List.setIfInBounds_toArray, List.set_cons_zero, List.set_cons_succ]
                refine wpAnyH_take (i := 7) (v := ?_) rfl (by kernel_rfl) (by kernel_rfl) (by kernel_rfl) (fun _ _ _ h => h) (Or.inl ⟨by rfl, ?_⟩) (by assumption) ?_
                rotate_left 1
                · intro w hSw; (try dsimp only at hSw); go_simp; try with_reducible rfl
                try simp only [Act.put, List.getElem_toArray, List.getElem_cons_succ, List.getElem_cons_zero, List.setIfInBounds_toArray, List.set_cons_zero, List.set_cons_succ]
                refine wpAnyH_take (i := 8) (v := ?_) rfl (by kernel_rfl) (by kernel_rfl) (by kernel_rfl) (fun _ _ _ h => h) (Or.inl ⟨by rfl, ?_⟩) (by assumption) ?_
                rotate_left 1
                · intro w hSw; (try dsimp only at hSw); go_simp; try with_reducible rfl
                try simp only [Act.put, List.getElem_toArray, List.getElem_cons_succ, List.getElem_cons_zero, List.setIfInBounds_toArray, List.set_cons_zero, List.set_cons_succ]
                refine wpAnyH_take (i := 9) (v := ?_) rfl (by kernel_rfl) (by kernel_rfl) (by kernel_rfl) (fun _ _ _ h => h) (Or.inl ⟨by rfl, ?_⟩) (by assumption) ?_
                rotate_left 1
                · intro w hSw; (try dsimp only at hSw); go_simp; try with_reducible rfl
                try simp only [Act.put, List.getElem_toArray, List.getElem_cons_succ, List.getElem_cons_zero, List.setIfInBounds_toArray, List.set_cons_zero, List.set_cons_succ]
                refine wpAnyH_take (i := 10) (v := ?_) rfl (by kernel_rfl) (by kernel_rfl) (by kernel_rfl) (fun _ _ _ h => h) (Or.inl ⟨by rfl, ?_⟩) (by assumption) ?_
                rotate_left 1
                · intro w hSw; (try dsimp only at hSw); go_simp; try with_reducible rfl
                try simp only [Act.put, List.getElem_toArray, List.getElem_cons_succ, List.getElem_cons_zero, List.setIfInBounds_toArray, List.set_cons_zero, List.set_cons_succ]
                refine wpAnyH_ready (rs := [11]) (by kernel_rfl) (by simp) (AllReadyH.cons rfl (fun K hK => ?_) AllReadyH.nil)
                go_simp
                go_at_call 38
                refine (cS _).mono ?_
                rintro e v2 ⟨rfl, rfl⟩
                try simp only []
                refine hK.out _ _ (hS _ hb1) (fun hHeld => ?_)
                clear hK K
                try simp only [Act.put, List.getElem_toArray, List.getElem_cons_succ, List.getElem_cons_zero, List.setIfInBounds_toArray, List.set_cons_zero, List.set_cons_succ]
                refine wpAnyH_take (i := 12) (v := ?_) rfl (by kernel_rfl) (by kernel_rfl) (by kernel_rfl) (fun _ _ _ h => h) (Or.inl ⟨by rfl, ?_⟩) (by assumption) ?_
                rotate_left 1
                · intro w hSw; (try dsimp only at hSw); go_simp; try with_reducible rfl
                try simp only [Act.put, List.getElem_toArray, List.getElem_cons_succ, List.getElem_cons_zero, List.setIfInBounds_toArray, List.set_cons_zero, List.set_cons_succ]
                refine wpAnyH_take (i := 13) (v := ?_) rfl (by kernel_rfl) (by kernel_rfl) (by kernel_rfl) (fun _ _ _ h => h) (Or.inl ⟨by rfl, ?_⟩) (by assumption) ?_
                rotate_left 1
                · intro w hSw; (try dsimp only at hSw); go_simp; try with_reducible rfl
                try simp only [Act.put, List.getElem_toArray, List.getElem_cons_succ, List.getElem_cons_zero, List.setIfInBounds_toArray, List.set_cons_zero, List.set_cons_succ]
                refine wpAnyH_take (i := 14) (v := ?_) rfl (by kernel_rfl) (by kernel_rfl) (by kernel_rfl) (fun _ _ _ h => h) (Or.inl ⟨by rfl, ?_⟩) (by assumption) ?_
                rotate_left 1
                · intro w hSw; (try dsimp only at hSw); go_simp; try with_reducible rfl
                try simp only [Act.put, List.getElem_toArray, List.getElem_cons_succ, List.getElem_cons_zero, List.setIfInBounds_toArray, List.set_cons_zero, List.set_cons_succ]
                refine wpAnyH_take (i := 15) (v := ?_) rfl (by kernel_rfl) (by kernel_rfl) (by kernel_rfl) (fun _ _ _ h => h) (Or.inl ⟨by rfl, ?_⟩) (by assumption) ?_
                rotate_left 1
                · intro w hSw; (try dsimp only at hSw); go_simp; try with_reducible rfl
                try simp only [Act.put, List.getElem_toArray, List.getElem_cons_succ, List.getElem_cons_zero, List.setIfInBounds_toArray, List.set_cons_zero, List.set_cons_succ]
                refine wpAnyH_ready (rs := [16]) (by kernel_rfl) (by simp) (AllReadyH.cons rfl (fun K hK => ?_) AllReadyH.nil)
                go_simp
                go_at_call 24
                refine (cL _).mono ?_
                rintro e v3 ⟨rfl, hv3⟩
                have hb3 := chain hb1 hv3
                try simp only []
                refine hK.out _ _ (hS _ hb3) (fun hHeld => ?_)
                clear hK K
                try simp only [Act.put, List.getElem_toArray, List.getElem_cons_succ, List.getElem_cons_zero, List.setIfInBounds_toArray, List.set_cons_zero, List.set_cons_succ]
                refine wpAnyH_ready (rs := [17]) (by kernel_rfl) (by simp) (AllReadyH.cons rfl (fun K hK => ?_) AllReadyH.nil)
                go_simp
                go_at_call 32
                refine (cM _ hb3).mono ?_
                rintro e v4 ⟨rfl, hv4⟩
                have hb4 := chain hb3 hv4
                try simp only []
                refine hK.out _ _ (hS _ hb4) (fun hHeld => ?_)
                clear hK K
                try simp only [Act.put, List.getElem_toArray, List.getElem_cons_succ, List.getElem_cons_zero, List.setIfInBounds_toArray, List.set_cons_zero, List.set_cons_succ]
                refine wpAnyH_take (i := 18) (v := ?_) rfl (by kernel_rfl) (by kernel_rfl) (by kernel_rfl) (fun _ _ _ h => h) (Or.inl ⟨by rfl, ?_⟩) (by assumption) ?_
                rotate_left 1
                · intro w hSw; (try dsimp only at hSw); go_simp; try with_reducible rfl
                try simp only [Act.put, List.getElem_toArray, List.getElem_cons_succ, List.getElem_cons_zero, List.setIfInBounds_toArray, List.set_cons_zero, List.set_cons_succ]
                refine wpAnyH_take (i := 19) (v := ?_) rfl (by kernel_rfl) (by kernel_rfl) (by kernel_rfl) (fun _ _ _ h => h) (Or.inl ⟨by rfl, ?_⟩) (by assumption) ?_
                rotate_left 1
                · intro w hSw; (try dsimp only at hSw); go_simp; try with_reducible rfl
                try simp only [Act.put, List.getElem_toArray, List.getElem_cons_succ, List.getElem_cons_zero, List.setIfInBounds_toArray, List.set_cons_zero, List.set_cons_succ]
                refine wpAnyH_done (by kernel_rfl) ?_ _
                go_wp2
                go_ret
                exact ⟨rfl, chain L1 hb4⟩
              | true =>
                have hok1 : okA P x = true := by
                  have h2 := HMA.out.symm
                  rw [Bool.and_eq_true] at h2
                  rw [HD.out, h2.1, h2.2, decide_eq_true hs]
                  rfl
                have HM2 := hideIt (mayP_step HM.out HX.out hok1 HK.out (of_decide_eq_false HT2.out))
                clear hok1
                go_cut [48] from 29 to 48 (fun s48 wx => s48 = .bool false ∧ Below W1.heap.size W1 wx)
                case first =>
                  have hS : ∀ u, Below W1.heap.size W1 u → (fun u => Below W1.heap.size W1 u ∧ u.cell? ⟨wr.heap.size, 0, none⟩ = some (.string x.id) ∧ u.cell? ⟨wr.heap.size, 1, none⟩ = some (.int .u64 x.h) ∧ u.cell? ⟨wr.heap.size, 2, none⟩ = some (.int .u64 x.l) ∧ u.cell? ⟨wr.heap.size, 3, none⟩ = some (.string x.salt) ∧ u.cell? ⟨wr.heap.size, 4, none⟩ = some (.int .u64 x.slot) ∧ wr.heap.size < u.heap.size) u := fun u hb => ⟨hb, (B1.call hb).read 0, (B1.call hb).read 1, (B1.call hb).read 2, (B1.call hb).read 3, (B1.call hb).read 4, (B1.call hb).inside⟩
                  refine wp_region_held_drew (S := (fun u => Below W1.heap.size W1 u ∧ u.cell? ⟨wr.heap.size, 0, none⟩ = some (.string x.id) ∧ u.cell? ⟨wr.heap.size, 1, none⟩ = some (.int .u64 x.h) ∧ u.cell? ⟨wr.heap.size, 2, none⟩ = some (.int .u64 x.l) ∧ u.cell? ⟨wr.heap.size, 3, none⟩ = some (.string x.salt) ∧ u.cell? ⟨wr.heap.size, 4, none⟩ = some (.int .u64 x.slot) ∧ wr.heap.size < u.heap.size)) (by kernel_rfl) (hS _ (Below.refl _ _).drew) (fun hHeld => ?_)
                  refine wpAnyH_take (i := 0) (v := ?_) rfl (by kernel_rfl) (by kernel_rfl) (by kernel_rfl) (fun _ _ _ h => h) (Or.inl ⟨by rfl, ?_⟩) (by assumption) ?_
                  rotate_left 1
                  · intro w hSw; (try dsimp only at hSw); go_simp; try with_reducible rfl
                  try simp only [Act.put, List.getElem_toArray, List.getElem_cons_succ, List.getElem_cons_zero, List.setIfInBounds_toArray, List.set_cons_zero, List.set_cons_succ]
                  refine wpAnyH_take (i := 1) (v := ?_) rfl (by kernel_rfl) (by kernel_rfl) (by kernel_rfl) (fun _ _ _ h => h) (Or.inl ⟨by rfl, ?_⟩) (by assumption) ?_
                  rotate_left 1
                  · intro w hSw; (try dsimp only at hSw); go_simp; try with_reducible rfl
                  try simp only [Act.put, List.getElem_toArray, List.getElem_cons_succ, List.getElem_cons_zero, List.setIfInBounds_toArray, List.set_cons_zero, List.set_cons_succ]
                  refine wpAnyH_take (i := 2) (v := ?_) rfl (by kernel_rfl) (by kernel_rfl) (by kernel_rfl) (fun _ _ _ h => h) (Or.inl ⟨by rfl, ?_⟩) (by assumption) ?_
                  rotate_left 1
                  · intro w hSw; (try dsimp only at hSw); go_simp; try with_reducible rfl
                  try simp only [Act.put, List.getElem_toArray, List.getElem_cons_succ, List.getElem_cons_zero, List.setIfInBounds_toArray, List.set_cons_zero, List.set_cons_succ]
                  refine wpAnyH_take (i := 3) (v := ?_) rfl (by kernel_rfl) (by kernel_rfl) (by kernel_rfl) (fun _ _ _ h => h) (Or.inl ⟨by rfl, ?_⟩) (by assumption) ?_
                  rotate_left 1
                  · intro w hSw; (try dsimp only at hSw); go_simp; try with_reducible rfl
                  try simp only [Act.put, List.getElem_toArray, List.getElem_cons_succ, List.getElem_cons_zero, List.setIfInBounds_toArray, List.set_cons_zero, List.set_cons_succ]
                  refine wpAnyH_take (i := 4) (v := ?_) rfl (by kernel_rfl) (by kernel_rfl) (by kernel_rfl) (fun _ _ _ h => h) (Or.inl ⟨by rfl, ?_⟩) (by assumption) ?_
                  rotate_left 1
                  · intro w hSw; (try dsimp only at hSw); go_simp; try with_reducible rfl
                  try simp only [Act.put, List.getElem_toArray, List.getElem_cons_succ, List.getElem_cons_zero, List.setIfInBounds_toArray, List.set_cons_zero, List.set_cons_succ]
                  refine wpAnyH_ready (rs := [5]) (by kernel_rfl) (by simp) (AllReadyH.cons rfl (fun K hK => ?_) AllReadyH.nil)
                  go_simp
                  go_at_call 54
                  refine (cH _ (Below.refl _ _).drew).mono ?_
                  rintro e v1 ⟨rfl, hv1⟩
                  have hb1 := chain (Below.refl W1.heap.size W1).drew hv1
                  try simp only []
                  refine hK.out _ _ (hS _ hb1) (fun hHeld => ?_)
                  clear hK K
                  try simp only [Act.put, List.getElem_toArray, List.getElem_cons_succ, List.getElem_cons_zero, List.setIfInBounds_toArray, List.set_cons_zero, List.set_cons_succ]
                  refine wpAnyH_take (i := 6) (v := ?_) rfl (by kernel_rfl) (by kernel_rfl) (by kernel_rfl) (fun _ _ _ h => h) (Or.inl ⟨by rfl, ?_⟩) (by assumption) ?_
                  rotate_left 1
                  · intro w hSw; (try dsimp only at hSw); go_simp; try with_reducible rfl
                  try simp only [Act.put, List.getElem_toArray, List.getElem_cons_succ, List.getElem_cons_zero, List.setIfInBounds_toArray, List.set_cons_zero, List.set_cons_succ]
                  refine wpAnyH_take (i := 7) (v := ?_) rfl (by kernel_rfl) (by kernel_rfl) (by kernel_rfl) (fun _ _ _ h => h) (Or.inl ⟨by rfl, ?_⟩) (by assumption) ?_
                  rotate_left 1
                  · intro w hSw; (try dsimp only at hSw); go_simp; try with_reducible rfl
                  try simp only [Act.put, List.getElem_toArray, List.getElem_cons_succ, List.getElem_cons_zero, List.setIfInBounds_toArray, List.set_cons_zero, List.set_cons_succ]
                  refine wpAnyH_take (i := 8) (v := ?_) rfl (by kernel_rfl) (by kernel_rfl) (by kernel_rfl) (fun _ _ _ h => h) (Or.inl ⟨by rfl, ?_⟩) (by assumption) ?_
                  rotate_left 1
                  · intro w hSw; (try dsimp only at hSw); go_simp; try with_reducible rfl
                  try simp only [Act.put, List.getElem_toArray, List.getElem_cons_succ, List.getElem_cons_zero, List.setIfInBounds_toArray, List.set_cons_zero, List.set_cons_succ]
                  refine wpAnyH_take (i := 9) (v := ?_) rfl (by kernel_rfl) (by kernel_rfl) (by kernel_rfl) (fun _ _ _ h => h) (Or.inl ⟨by rfl, ?_⟩) (by assumption) ?_
                  rotate_left 1
                  · intro w hSw; (try dsimp only at hSw); go_simp; try with_reducible rfl
                  try simp only [Act.put, List.getElem_toArray, List.getElem_cons_succ, List.getElem_cons_zero, List.setIfInBounds_toArray, List.set_cons_zero, List.set_cons_succ]
                  refine wpAnyH_take (i := 10) (v := ?_) rfl (by kernel_rfl) (by kernel_rfl) (by kernel_rfl) (fun _ _ _ h => h) (Or.inl ⟨by rfl, ?_⟩) (by assumption) ?_
                  rotate_left 1
                  · intro w hSw; (try dsimp only at hSw); go_simp; try with_reducible rfl
                  try simp only [Act.put, List.getElem_toArray, List.getElem_cons_succ, List.getElem_cons_zero, List.setIfInBounds_toArray, List.set_cons_zero, List.set_cons_succ]
                  refine wpAnyH_ready (rs := [11]) (by kernel_rfl) (by simp) (AllReadyH.cons rfl (fun K hK => ?_) AllReadyH.nil)
                  go_simp
                  go_at_call 38
                  refine (cS _).mono ?_
                  rintro e v2 ⟨rfl, rfl⟩
                  try simp only []
                  refine hK.out _ _ (hS _ hb1) (fun hHeld => ?_)
                  clear hK K
                  try simp only [Act.put, List.getElem_toArray, List.getElem_cons_succ, List.getElem_cons_zero, List.setIfInBounds_toArray, List.set_cons_zero, List.set_cons_succ]
                  refine wpAnyH_take (i := 12) (v := ?_) rfl (by kernel_rfl) (by kernel_rfl) (by kernel_rfl) (fun _ _ _ h => h) (Or.inl ⟨by rfl, ?_⟩) (by assumption) ?_
                  rotate_left 1
                  · intro w hSw; (try dsimp only at hSw); go_simp; try with_reducible rfl
                  try simp only [Act.put, List.getElem_toArray, List.getElem_cons_succ, List.getElem_cons_zero, List.setIfInBounds_toArray, List.set_cons_zero, List.set_cons_succ]
                  refine wpAnyH_take (i := 13) (v := ?_) rfl (by kernel_rfl) (by kernel_rfl) (by kernel_rfl) (fun _ _ _ h => h) (Or.inl ⟨by rfl, ?_⟩) (by assumption) ?_
                  rotate_left 1
                  · intro w hSw; (try dsimp only at hSw); go_simp; try with_reducible rfl
                  try simp only [Act.put, List.getElem_toArray, List.getElem_cons_succ, List.getElem_cons_zero, List.setIfInBounds_toArray, List.set_cons_zero, List.set_cons_succ]
                  refine wpAnyH_take (i := 14) (v := ?_) rfl (by kernel_rfl) (by kernel_rfl) (by kernel_rfl) (fun _ _ _ h => h) (Or.inl ⟨by rfl, ?_⟩) (by assumption) ?_
                  rotate_left 1
                  · intro w hSw; (try dsimp only at hSw); go_simp; try with_reducible rfl
                  try simp only [Act.put, List.getElem_toArray, List.getElem_cons_succ, List.getElem_cons_zero, List.setIfInBounds_toArray, List.set_cons_zero, List.set_cons_succ]
                  refine wpAnyH_take (i := 15) (v := ?_) rfl (by kernel_rfl) (by kernel_rfl) (by kernel_rfl) (fun _ _ _ h => h) (Or.inl ⟨by rfl, ?_⟩) (by assumption) ?_
                  rotate_left 1
                  · intro w hSw; (try dsimp only at hSw); go_simp; try with_reducible rfl
                  try simp only [Act.put, List.getElem_toArray, List.getElem_cons_succ, List.getElem_cons_zero, List.setIfInBounds_toArray, List.set_cons_zero, List.set_cons_succ]
                  refine wpAnyH_ready (rs := [16]) (by kernel_rfl) (by simp) (AllReadyH.cons rfl (fun K hK => ?_) AllReadyH.nil)
                  go_simp
                  go_at_call 24
                  refine (cL _).mono ?_
                  rintro e v3 ⟨rfl, hv3⟩
                  have hb3 := chain hb1 hv3
                  try simp only []
                  refine hK.out _ _ (hS _ hb3) (fun hHeld => ?_)
                  clear hK K
                  try simp only [Act.put, List.getElem_toArray, List.getElem_cons_succ, List.getElem_cons_zero, List.setIfInBounds_toArray, List.set_cons_zero, List.set_cons_succ]
                  refine wpAnyH_ready (rs := [17]) (by kernel_rfl) (by simp) (AllReadyH.cons rfl (fun K hK => ?_) AllReadyH.nil)
                  go_simp
                  go_at_call 32
                  refine (cM _ hb3).mono ?_
                  rintro e v4 ⟨rfl, hv4⟩
                  have hb4 := chain hb3 hv4
                  try simp only []
                  refine hK.out _ _ (hS _ hb4) (fun hHeld => ?_)
                  clear hK K
                  try simp only [Act.put, List.getElem_toArray, List.getElem_cons_succ, List.getElem_cons_zero, List.setIfInBounds_toArray, List.set_cons_zero, List.set_cons_succ]
                  refine wpAnyH_take (i := 18) (v := ?_) rfl (by kernel_rfl) (by kernel_rfl) (by kernel_rfl) (fun _ _ _ h => h) (Or.inl ⟨by rfl, ?_⟩) (by assumption) ?_
                  rotate_left 1
                  · intro w hSw; (try dsimp only at hSw); go_simp; try with_reducible rfl
                  try simp only [Act.put, List.getElem_toArray, List.getElem_cons_succ, List.getElem_cons_zero, List.setIfInBounds_toArray, List.set_cons_zero, List.set_cons_succ]
                  refine wpAnyH_take (i := 19) (v := ?_) rfl (by kernel_rfl) (by kernel_rfl) (by kernel_rfl) (fun _ _ _ h => h) (Or.inl ⟨by rfl, ?_⟩) (by assumption) ?_
                  rotate_left 1
                  · intro w hSw; (try dsimp only at hSw); go_simp; try with_reducible rfl
                  try simp only [Act.put, List.getElem_toArray, List.getElem_cons_succ, List.getElem_cons_zero, List.setIfInBounds_toArray, List.set_cons_zero, List.set_cons_succ]
                  refine wpAnyH_done (by kernel_rfl) ?_ _
                  go_wp2_with fail
                  go_meet
                  exact ⟨rfl, hb4⟩
                case rest =>
                  obtain ⟨rfl, hbc⟩ := hcut
                  have M3 := M1.call hbc
                  have S3 := S1.call hbc
                  have B3 := B1.call hbc
                  have L3 := chain L1 hbc
                  clear M1 S1 B1 L1 q0 q1 q2 q3 q4 hin1 cH cL cM cS
                  obtain ⟨q0, q1, q2, q3, q4, -, -, -, -, -, hin1⟩ := B3.five
                  have cT := fun u hu => stake_any (w.heap.size + 1) ((xs.take k).map Ac.slot) x.slot hok.2.2 hln2 u hu
                  go_wp2_with (first
                    | (at_mapUpdate; refine wpl_idset_put rfl _ _ _ 80 rfl und_ids12 rfl M3 x.id rfl rfl (by omega) hln ?_; intro w4 M4 hg4
                       have B4 := B3.grown hg4 (fun e => by injection e with e; omega)
                       have S4 := S3.kept hg4 (fun e => by injection e with e; omega)
                       obtain ⟨r0, r1, r2, r3, r4, -, -, -, -, -, hin4⟩ := B4.five)
                    | (go_at_call 55; refine (cT _ S4).mono ?_; rintro e w5 ⟨rfl, S5, hg5⟩)
                    | fail)
                  have M5 := M4.kept hg5 (fun e => by injection e with e; omega)
                  go_roundg (xs.length - (k + 1))
                  case measure => have := HG.out; omega
                  case rel => exact ⟨k + 1, by omega, Nat.le_refl _, by go_num, by rw [HT.out, List.map_append]; exact M5, by rw [HT.out, List.map_append]; exact S5, (L3.grown hg4 (by omega) (fun j hj => by injection hj with hj; omega)).grown hg5 (by have := hg4.size; omega) (fun j hj => by injection hj with hj; omega), HM2⟩
            · have hs1 : P ≤ x.slot := by omega
              have hs2 : decide (P ≤ x.slot) = true := decide_eq_true hs1
              have hno : V = false := by
                rw [← HV.out]
                refine decide_eq_false fun hM => ?_
                have h1 := (mayP_at hM HX.out).1
                rw [HD.out, Bool.and_eq_true, Bool.and_eq_true] at h1
                exact hs (of_decide_eq_true h1.2.2)
              subst hno
              have hS : ∀ u, Below W1.heap.size W1 u → (fun u => Below W1.heap.size W1 u ∧ u.cell? ⟨wr.heap.size, 0, none⟩ = some (.string x.id) ∧ u.cell? ⟨wr.heap.size, 1, none⟩ = some (.int .u64 x.h) ∧ u.cell? ⟨wr.heap.size, 2, none⟩ = some (.int .u64 x.l) ∧ u.cell? ⟨wr.heap.size, 3, none⟩ = some (.string x.salt) ∧ u.cell? ⟨wr.heap.size, 4, none⟩ = some (.int .u64 x.slot) ∧ wr.heap.size < u.heap.size) u := fun u hb => ⟨hb, (B1.call hb).read 0, (B1.call hb).read 1, (B1.call hb).read 2, (B1.call hb).read 3, (B1.call hb).read 4, (B1.call hb).inside⟩
              refine wp_region_held_drew (S := (fun u => Below W1.heap.size W1 u ∧ u.cell? ⟨wr.heap.size, 0, none⟩ = some (.string x.id) ∧ u.cell? ⟨wr.heap.size, 1, none⟩ = some (.int .u64 x.h) ∧ u.cell? ⟨wr.heap.size, 2, none⟩ = some (.int .u64 x.l) ∧ u.cell? ⟨wr.heap.size, 3, none⟩ = some (.string x.salt) ∧ u.cell? ⟨wr.heap.size, 4, none⟩ = some (.int .u64 x.slot) ∧ wr.heap.size < u.heap.size)) (by kernel_rfl) (hS _ (Below.refl _ _).drew) (fun hHeld => ?_)
              refine wpAnyH_take (i := 0) (v := ?_) rfl (by kernel_rfl) (by kernel_rfl) (by kernel_rfl) (fun _ _ _ h => h) (Or.inl ⟨by rfl, ?_⟩) (by assumption) ?_
              rotate_left 1
              · intro w hSw; (try dsimp only at hSw); go_simp; try with_reducible rfl
              try simp only [Act.put, List.getElem_toArray, List.getElem_cons_succ, List.getElem_cons_zero, List.setIfInBounds_toArray, List.set_cons_zero, List.set_cons_succ]
              refine wpAnyH_take (i := 1) (v := ?_) rfl (by kernel_rfl) (by kernel_rfl) (by kernel_rfl) (fun _ _ _ h => h) (Or.inl ⟨by rfl, ?_⟩) (by assumption) ?_
              rotate_left 1
              · intro w hSw; (try dsimp only at hSw); go_simp; try with_reducible rfl
              try simp only [Act.put, List.getElem_toArray, List.getElem_cons_succ, List.getElem_cons_zero, List.setIfInBounds_toArray, List.set_cons_zero, List.set_cons_succ]
              refine wpAnyH_take (i := 2) (v := ?_) rfl (by kernel_rfl) (by kernel_rfl) (by kernel_rfl) (fun _ _ _ h => h) (Or.inl ⟨by rfl, ?_⟩) (by assumption) ?_
              rotate_left 1
              · intro w hSw; (try dsimp only at hSw); go_simp; try with_reducible rfl
              try simp only [Act.put, List.getElem_toArray, List.getElem_cons_succ, List.getElem_cons_zero, List.setIfInBounds_toArray, List.set_cons_zero, List.set_cons_succ]
              refine wpAnyH_take (i := 3) (v := ?_) rfl (by kernel_rfl) (by kernel_rfl) (by kernel_rfl) (fun _ _ _ h => h) (Or.inl ⟨by rfl, ?_⟩) (by assumption) ?_
              rotate_left 1
              · intro w hSw; (try dsimp only at hSw); go_simp; try with_reducible rfl
              try simp only [Act.put, List.getElem_toArray, List.getElem_cons_succ, List.getElem_cons_zero, List.setIfInBounds_toArray, List.set_cons_zero, List.set_cons_succ]
              refine wpAnyH_take (i := 4) (v := ?_) rfl (by kernel_rfl) (by kernel_rfl) (by kernel_rfl) (fun _ _ _ h => h) (Or.inl ⟨by rfl, ?_⟩) (by assumption) ?_
              rotate_left 1
              · intro w hSw; (try dsimp only at hSw); go_simp; try with_reducible rfl
              try simp only [Act.put, List.getElem_toArray, List.getElem_cons_succ, List.getElem_cons_zero, List.setIfInBounds_toArray, List.set_cons_zero, List.set_cons_succ]
              refine wpAnyH_ready (rs := [5]) (by kernel_rfl) (by simp) (AllReadyH.cons rfl (fun K hK => ?_) AllReadyH.nil)
              go_simp
              go_at_call 54
              refine (cH _ (Below.refl _ _).drew).mono ?_
              rintro e v1 ⟨rfl, hv1⟩
              have hb1 := chain (Below.refl W1.heap.size W1).drew hv1
              try simp only []
              refine hK.out _ _ (hS _ hb1) (fun hHeld => ?_)
              clear hK K
              try simp only [Act.put, List.getElem_toArray, List.getElem_cons_succ, List.getElem_cons_zero, List.setIfInBounds_toArray, List.set_cons_zero, List.set_cons_succ]
              refine wpAnyH_take (i := 6) (v := ?_) rfl (by kernel_rfl) (by kernel_rfl) (by kernel_rfl) (fun _ _ _ h => h) (Or.inl ⟨by rfl, ?_⟩) (by assumption) ?_
              rotate_left 1
              · intro w hSw; (try dsimp only at hSw); go_simp; try with_reducible rfl
              try simp only [Act.put, List.getElem_toArray, List.getElem_cons_succ, List.getElem_cons_zero, List.setIfInBounds_toArray, List.set_cons_zero, List.set_cons_succ]
              refine wpAnyH_take (i := 7) (v := ?_) rfl (by kernel_rfl) (by kernel_rfl) (by kernel_rfl) (fun _ _ _ h => h) (Or.inl ⟨by rfl, ?_⟩) (by assumption) ?_
              rotate_left 1
              · intro w hSw; (try dsimp only at hSw); go_simp; try with_reducible rfl
              try simp only [Act.put, List.getElem_toArray, List.getElem_cons_succ, List.getElem_cons_zero, List.setIfInBounds_toArray, List.set_cons_zero, List.set_cons_succ]
              refine wpAnyH_take (i := 8) (v := ?_) rfl (by kernel_rfl) (by kernel_rfl) (by kernel_rfl) (fun _ _ _ h => h) (Or.inl ⟨by rfl, ?_⟩) (by assumption) ?_
              rotate_left 1
              · intro w hSw; (try dsimp only at hSw); go_simp; try with_reducible rfl
              try simp only [Act.put, List.getElem_toArray, List.getElem_cons_succ, List.getElem_cons_zero, List.setIfInBounds_toArray, List.set_cons_zero, List.set_cons_succ]
              refine wpAnyH_take (i := 9) (v := ?_) rfl (by kernel_rfl) (by kernel_rfl) (by kernel_rfl) (fun _ _ _ h => h) (Or.inl ⟨by rfl, ?_⟩) (by assumption) ?_
              rotate_left 1
              · intro w hSw; (try dsimp only at hSw); go_simp; try with_reducible rfl
              try simp only [Act.put, List.getElem_toArray, List.getElem_cons_succ, List.getElem_cons_zero, List.setIfInBounds_toArray, List.set_cons_zero, List.set_cons_succ]
              refine wpAnyH_take (i := 10) (v := ?_) rfl (by kernel_rfl) (by kernel_rfl) (by kernel_rfl) (fun _ _ _ h => h) (Or.inl ⟨by rfl, ?_⟩) (by assumption) ?_
              rotate_left 1
              · intro w hSw; (try dsimp only at hSw); go_simp; try with_reducible rfl
              try simp only [Act.put, List.getElem_toArray, List.getElem_cons_succ, List.getElem_cons_zero, List.setIfInBounds_toArray, List.set_cons_zero, List.set_cons_succ]
              refine wpAnyH_ready (rs := [11]) (by kernel_rfl) (by simp) (AllReadyH.cons rfl (fun K hK => ?_) AllReadyH.nil)
              go_simp
              go_at_call 38
              refine (cS _).mono ?_
              rintro e v2 ⟨rfl, rfl⟩
              try simp only []
              refine hK.out _ _ (hS _ hb1) (fun hHeld => ?_)
              clear hK K
              try simp only [Act.put, List.getElem_toArray, List.getElem_cons_succ, List.getElem_cons_zero, List.setIfInBounds_toArray, List.set_cons_zero, List.set_cons_succ]
              refine wpAnyH_take (i := 12) (v := ?_) rfl (by kernel_rfl) (by kernel_rfl) (by kernel_rfl) (fun _ _ _ h => h) (Or.inl ⟨by rfl, ?_⟩) (by assumption) ?_
              rotate_left 1
              · intro w hSw; (try dsimp only at hSw); go_simp; try with_reducible rfl
              try simp only [Act.put, List.getElem_toArray, List.getElem_cons_succ, List.getElem_cons_zero, List.setIfInBounds_toArray, List.set_cons_zero, List.set_cons_succ]
              refine wpAnyH_take (i := 13) (v := ?_) rfl (by kernel_rfl) (by kernel_rfl) (by kernel_rfl) (fun _ _ _ h => h) (Or.inl ⟨by rfl, ?_⟩) (by assumption) ?_
              rotate_left 1
              · intro w hSw; (try dsimp only at hSw); go_simp; try with_reducible rfl
              try simp only [Act.put, List.getElem_toArray, List.getElem_cons_succ, List.getElem_cons_zero, List.setIfInBounds_toArray, List.set_cons_zero, List.set_cons_succ]
              refine wpAnyH_take (i := 14) (v := ?_) rfl (by kernel_rfl) (by kernel_rfl) (by kernel_rfl) (fun _ _ _ h => h) (Or.inl ⟨by rfl, ?_⟩) (by assumption) ?_
              rotate_left 1
              · intro w hSw; (try dsimp only at hSw); go_simp; try with_reducible rfl
              try simp only [Act.put, List.getElem_toArray, List.getElem_cons_succ, List.getElem_cons_zero, List.setIfInBounds_toArray, List.set_cons_zero, List.set_cons_succ]
              refine wpAnyH_take (i := 15) (v := undef) rfl (by kernel_rfl) (by kernel_rfl) (by kernel_rfl) (fun _ _ _ h => h) (Or.inr ⟨by rfl, rfl⟩) (by assumption) ?_
              try simp only [Act.put, List.getElem_toArray, List.getElem_cons_succ, List.getElem_cons_zero, List.setIfInBounds_toArray, List.set_cons_zero, List.set_cons_succ]
              refine wpAnyH_ready (rs := [16]) (by kernel_rfl) (by simp) (AllReadyH.cons rfl (fun K hK => ?_) AllReadyH.nil)
              go_simp
              refine hK.out _ _ (hS _ hb1) (fun hHeld => ?_)
              clear hK K
              try simp only [Act.put, List.getElem_toArray, List.getElem_cons_succ, List.getElem_cons_zero, List.setIfInBounds_toArray, List.set_cons_zero, List.set_cons_succ]
              refine wpAnyH_ready (rs := [17]) (by kernel_rfl) (by simp) (AllReadyH.cons rfl (fun K hK => ?_) AllReadyH.nil)
              go_simp
              refine hK.out _ _ (hS _ hb1) (fun hHeld => ?_)
              clear hK K
              try simp only [Act.put, List.getElem_toArray, List.getElem_cons_succ, List.getElem_cons_zero, List.setIfInBounds_toArray, List.set_cons_zero, List.set_cons_succ]
              refine wpAnyH_take (i := 18) (v := undef) rfl (by kernel_rfl) (by kernel_rfl) (by kernel_rfl) (fun _ _ _ h => h) (Or.inr ⟨by rfl, rfl⟩) (by assumption) ?_
              try simp only [Act.put, List.getElem_toArray, List.getElem_cons_succ, List.getElem_cons_zero, List.setIfInBounds_toArray, List.set_cons_zero, List.set_cons_succ]
              refine wpAnyH_take (i := 19) (v := ?_) rfl (by kernel_rfl) (by kernel_rfl) (by kernel_rfl) (fun _ _ _ h => h) (Or.inl ⟨by rfl, ?_⟩) (by assumption) ?_
              rotate_left 1
              · intro w hSw; (try dsimp only at hSw); go_simp; try with_reducible rfl
              try simp only [Act.put, List.getElem_toArray, List.getElem_cons_succ, List.getElem_cons_zero, List.setIfInBounds_toArray, List.set_cons_zero, List.set_cons_succ]
              refine wpAnyH_done (by kernel_rfl) ?_ _
              go_wp2
              go_ret
              exact ⟨rfl, chain L1 hb1⟩
      · have e : k = xs.length := by omega
        subst e
        have hM := HM.out
        rw [List.take_length] at hM
        have hv := HV.out
        rw [decide_eq_true hM] at hv
        subst hv
        go_wp2
        go_ret
        exact ⟨rfl, hb⟩
end Go.Proofs.YtngofpdpangajaaDoor
/-
  Package slots' byId, mayRows, wrong, walked.
-/
namespace Go.Proofs.YtngofpdpangajaaDoor
set_option linter.unusedVariables false
set_option linter.unusedSimpArgs false
set_option maxRecDepth 10000
open Go.RowKit Go.Sort

set_option maxRecDepth 100000 in
set_option maxHeartbeats 2000000 in
theorem sbyId_any (A : Option Addr) (c : Nat) (xs : List Ac) (hm : xs.length ≤ 1000000) (hz : ∀ x ∈ xs, x.id.size ≤ 1000000) (w : World) (hR : AcRow w w.heap.size A xs) :
    Calls Tryd.prog 40 #[.slice A xs.length c] w fun e w' => ∃ b, e = .returned (.map (some b)) ∧ w.heap.size ≤ b ∧ AccMap w' b xs ∧ Below w.heap.size w w' := by
  have hmm := @run_makeMap Tryd.prog
  have M0 := AccMap.made w
  have L0 := chainA (Below.refl w.heap.size w) (.map #[] 0)
  go_enter Tryd.func40, Tryd.ntmps40
  go_wp2
  generalize w.alloc (.map #[] 0) = W at *
  go_loopg [9] xs.length (fun gk i wr => ∃ k : Nat, k ≤ xs.length ∧ xs.length - k ≤ gk ∧ i = .int .i64 k ∧ AccMap wr w.heap.size (xs.take k) ∧ Below w.heap.size w wr)
  case atStart => exact ⟨0, Nat.zero_le _, by omega, rfl, M0, L0⟩
  case round =>
    obtain ⟨k, hk, hgk, rfl, M, hb⟩ := hrel
    have HG := hideIt hgk
    clear hgk
    by_cases hlt : k < xs.length
    · obtain ⟨x, hx⟩ : ∃ x, xs[k]? = some x := ⟨_, List.getElem?_eq_getElem hlt⟩
      obtain ⟨ad, rfl, had, p0, p1, p2, p3, p4⟩ := (hR.call hb) k x hx
      have hlti : (k : Int) < (xs.length : Int) := by omega
      have p5 : (ad.add (k * 5)).block < wr.heap.size := by rw [o10_block]; exact Nat.lt_of_lt_of_le had hb.size
      have hsz := hz x (List.mem_of_getElem? hx)
      have ht := take_more1 hx
      have HT := hideIt ht
      clear hx ht
      have hln : (xs.take k).length ≤ 1000000000 := by rw [List.length_take]; omega
      have M1 := M.alloc (.cells (acB x.id x.h x.l x.salt x.slot) 38)
      have B1 := Box.made wr 38 (acB x.id x.h x.l x.salt x.slot)
      have L1 := chainA hb (.cells (acB x.id x.h x.l x.salt x.slot) 38)
      go_upto_region 5 with fail
      change Code.wp _ _ _ _ (wr.alloc (.cells (acB x.id x.h x.l x.salt x.slot) 38))
      generalize wr.alloc (.cells (acB x.id x.h x.l x.salt x.slot) 38) = W1 at *
      obtain ⟨q0, q1, q2, q3, q4, -, -, -, -, -, hin1⟩ := B1.five
      go_wp2_with (first
        | (at_mapUpdate; refine wpl_acc_put rfl _ _ _ 70 rfl und_accs rfl M1 x (by omega) rfl rfl hln ?_; intro w2 M2 hg2)
        | fail)
      go_roundg (xs.length - (k + 1))
      case measure => have := HG.out; omega
      case rel => exact ⟨k + 1, by omega, Nat.le_refl _, by go_num, by rw [HT.out]; exact M2, L1.grown hg2 (Nat.le_of_lt (Nat.lt_of_le_of_lt hb.size hin1)) (fun j hj => by injection hj with hj; omega)⟩
    · have e : k = xs.length := by omega
      subst e
      rw [List.take_length] at M
      go_wp2
      go_ret
      exact ⟨_, rfl, Nat.le_refl _, M, hb⟩

/-- Of sorted rows one that isn't its neighbour's like is new. -/
theorem rows_new {ys : List Rw} (hs : Sl ys) {k : Nat} {x : Rw} (hx : ys[k]? = some x) (hp : ∀ y, 0 < k → ys[k - 1]? = some y → keyR x ≠ keyR y) : keyR x ∉ (ys.take k).map keyR := by
  intro hm
  obtain ⟨y, hy, e⟩ := List.mem_map.1 hm
  obtain ⟨j, hj, e2⟩ := List.getElem_of_mem hy
  rw [List.length_take] at hj
  rw [List.getElem_take] at e2
  have hkl := (List.getElem?_eq_some_iff.1 hx).1
  obtain ⟨z, hz⟩ : ∃ z, ys[k - 1]? = some z := ⟨_, List.getElem?_eq_getElem (by omega)⟩
  have hzz := (List.getElem?_eq_some_iff.1 hz).2
  have hxx := (List.getElem?_eq_some_iff.1 hx).2
  have h1 : ¬ LR x z := by
    have := List.pairwise_iff_getElem.1 hs (k - 1) k (by omega) hkl (by omega)
    rw [hzz, hxx] at this
    exact this
  have h2 := hp z (by omega) hz
  have h3 : LR z x := Classical.byContradiction fun h => h2 (LR_key h1 h)
  by_cases ej : j = k - 1
  · have : y = z := by rw [← e2, ← hzz]; simp only [ej]
    rw [this] at e
    exact h2 e.symm
  · have h4 : ¬ LR z y := by
      have := List.pairwise_iff_getElem.1 hs j (k - 1) (by omega) (by omega) (by omega)
      rw [e2, hzz] at this
      exact this
    exact h4 ((LR_same' e.symm).1 h3)
theorem key_sameR (x y : Rw) : (x.id.toList == y.id.toList) = decide (keyR x = keyR y) := by
  rw [Lib.toList_data, Lib.toList_data]
  exact Bool.beq_eq_decide_eq _ _
set_option maxRecDepth 100000 in
set_option maxHeartbeats 4000000 in
theorem smayRows_any (A : Option Addr) (c : Nat) (ys : List Rw) (hm : ys.length ≤ 1000000) (hz : ∀ r ∈ ys, r.id.size ≤ 1000000) (hs : Sl ys) (w : World) (hR : RwRow w w.heap.size A ys) (hT : TabU w) :
    Calls Tryd.prog 37 #[.slice A ys.length c] w (Tells (.bool (decide (RowsP ys))) w.heap.size w) := by
  obtain ⟨V, hV⟩ : ∃ V, decide (RowsP ys) = V := ⟨_, rfl⟩
  rw [hV]
  have HV := hideIt hV
  clear hV
  have HP0 := hideIt rowsP_nil
  obtain ⟨N, hN⟩ : ∃ N, ys.length = N := ⟨_, rfl⟩
  rw [hN]
  go_enter Tryd.func37, Tryd.ntmps37
  go_wp2
  go_loopg [7] N (fun gk i wr => ∃ k : Nat, k ≤ N ∧ N - k ≤ gk ∧ i = .int .i64 k ∧ Below w.heap.size w wr ∧ Hid (RowsP (ys.take k)))
  case atStart => exact ⟨0, Nat.zero_le _, by omega, rfl, Below.refl _ _, HP0⟩
  case round =>
    obtain ⟨k, hk, hgk, rfl, hb, HM⟩ := hrel
    have HG := hideIt hgk
    clear hgk
    by_cases hlt : k < N
    · obtain ⟨x, hx⟩ : ∃ x, ys[k]? = some x := ⟨_, List.getElem?_eq_getElem (by omega)⟩
      obtain ⟨ad, hA, had, p0, p1, p2⟩ := (hR.call hb) k x hx
      subst hA
      have hlti : (k : Int) < (N : Int) := by omega
      have p3 : (ad.add (k * 3)).block < wr.heap.size := by rw [o10_block]; exact Nat.lt_of_lt_of_le had hb.size
      have zx := hz x (List.mem_of_getElem? hx)
      have hat := fun hM => rowsP_at (xs := ys) hM hx
      have hstep := fun h1 h2 => rowsP_step HM.out hx h1 h2
      have hnew := fun hp => rows_new hs hx hp
      have HAT := hideIt hat
      have HST := hideIt hstep
      have HNW := hideIt hnew
      clear hat hstep hnew HM
      have B1 := Box.made wr 59 #[.string x.id, .int .u64 x.h, .int .u64 x.l]
      have L1 := chainA hb (.cells #[.string x.id, .int .u64 x.h, .int .u64 x.l] 59)
      go_upto_region 4 with fail
      generalize wr.alloc (.cells #[.string x.id, .int .u64 x.h, .int .u64 x.l] 59) = W1 at *
      have cI := fun u hu => mayId_any x.id (by omega) u hu
      have hT1 := hT.call L1
      change ∀ u, TabU u → Calls _ _ _ _ (Tells (.bool (isId (keyR x))) _ _) at cI
      obtain ⟨t1, ht1⟩ : ∃ b, isId (keyR x) = b := ⟨_, rfl⟩
      rw [ht1] at cI
      have HT1 := hideIt ht1
      clear ht1
      cases t1 with
      | false =>
        have hno : V = false := by
          rw [← HV.out]
          refine decide_eq_false fun hM => ?_
          have := (HAT.out hM).1
          rw [HT1.out] at this
          cases this
        subst hno
        have hS : ∀ u, Below W1.heap.size W1 u → u.cell? ⟨wr.heap.size, 0, none⟩ = some (.string x.id) ∧ wr.heap.size < u.heap.size ∧ Below W1.heap.size W1 u := fun u hb => ⟨(B1.call hb).read 0, (B1.call hb).inside, hb⟩
        refine wp_region_held_drew (S := fun u => u.cell? ⟨wr.heap.size, 0, none⟩ = some (.string x.id) ∧ wr.heap.size < u.heap.size ∧ Below W1.heap.size W1 u) (by kernel_rfl) (hS _ (Below.refl _ _).drew) (fun hHeld => ?_)
        refine wpAnyH_take (i := 0) (v := ?_) rfl (by kernel_rfl) (by kernel_rfl) (by kernel_rfl) (fun _ _ _ h => h) (Or.inl ⟨by rfl, ?_⟩) (by assumption) ?_
        rotate_left 1
        · intro w hSw; (try dsimp only at hSw); go_simp; try with_reducible rfl
        try simp only [Act.put, List.getElem_toArray, List.getElem_cons_succ, List.getElem_cons_zero, List.setIfInBounds_toArray, List.set_cons_zero, List.set_cons_succ]
        refine wpAnyH_take (i := 1) (v := ?_) rfl (by kernel_rfl) (by kernel_rfl) (by kernel_rfl) (fun _ _ _ h => h) (Or.inl ⟨by rfl, ?_⟩) (by assumption) ?_
        rotate_left 1
        · intro w hSw; (try dsimp only at hSw); go_simp; try with_reducible rfl
        try simp only [Act.put, List.getElem_toArray, List.getElem_cons_succ, List.getElem_cons_zero, List.setIfInBounds_toArray, List.set_cons_zero, List.set_cons_succ]
        refine wpAnyH_ready (rs := [2]) (by kernel_rfl) (by simp) (AllReadyH.cons rfl (fun K hK => ?_) AllReadyH.nil)
        go_simp
        go_at_call 62
        refine (cI _ hT1.drew).mono ?_
        rintro e v1 ⟨rfl, hv1⟩
        have hb1 := chain (Below.refl W1.heap.size W1).drew hv1
        try simp only []
        refine hK.out _ _ (hS _ hb1) (fun hHeld => ?_)
        clear hK K
        try simp only [Act.put, List.getElem_toArray, List.getElem_cons_succ, List.getElem_cons_zero, List.setIfInBounds_toArray, List.set_cons_zero, List.set_cons_succ]
        refine wpAnyH_take (i := 3) (v := ?_) rfl (by kernel_rfl) (by kernel_rfl) (by kernel_rfl) (fun _ _ _ h => h) (Or.inl ⟨by rfl, ?_⟩) (by assumption) ?_
        rotate_left 1
        · intro w hSw; (try dsimp only at hSw); go_simp; try with_reducible rfl
        try simp only [Act.put, List.getElem_toArray, List.getElem_cons_succ, List.getElem_cons_zero, List.setIfInBounds_toArray, List.set_cons_zero, List.set_cons_succ]
        refine wpAnyH_take (i := 4) (v := ?_) rfl (by kernel_rfl) (by kernel_rfl) (by kernel_rfl) (fun _ _ _ h => h) (Or.inl ⟨by rfl, ?_⟩) (by assumption) ?_
        rotate_left 1
        · intro w hSw; (try dsimp only at hSw); go_simp; try with_reducible rfl
        try simp only [Act.put, List.getElem_toArray, List.getElem_cons_succ, List.getElem_cons_zero, List.setIfInBounds_toArray, List.set_cons_zero, List.set_cons_succ]
        refine wpAnyH_take (i := 5) (v := undef) rfl (by kernel_rfl) (by kernel_rfl) (by kernel_rfl) (fun _ _ _ h => h) (Or.inr ⟨by rfl, rfl⟩) (by assumption) ?_
        try simp only [Act.put, List.getElem_toArray, List.getElem_cons_succ, List.getElem_cons_zero, List.setIfInBounds_toArray, List.set_cons_zero, List.set_cons_succ]
        refine wpAnyH_take (i := 6) (v := undef) rfl (by kernel_rfl) (by kernel_rfl) (by kernel_rfl) (fun _ _ _ h => h) (Or.inr ⟨by rfl, rfl⟩) (by assumption) ?_
        try simp only [Act.put, List.getElem_toArray, List.getElem_cons_succ, List.getElem_cons_zero, List.setIfInBounds_toArray, List.set_cons_zero, List.set_cons_succ]
        refine wpAnyH_take (i := 7) (v := undef) rfl (by kernel_rfl) (by kernel_rfl) (by kernel_rfl) (fun _ _ _ h => h) (Or.inr ⟨by rfl, rfl⟩) (by assumption) ?_
        try simp only [Act.put, List.getElem_toArray, List.getElem_cons_succ, List.getElem_cons_zero, List.setIfInBounds_toArray, List.set_cons_zero, List.set_cons_succ]
        refine wpAnyH_take (i := 8) (v := undef) rfl (by kernel_rfl) (by kernel_rfl) (by kernel_rfl) (fun _ _ _ h => h) (Or.inr ⟨by rfl, rfl⟩) (by assumption) ?_
        try simp only [Act.put, List.getElem_toArray, List.getElem_cons_succ, List.getElem_cons_zero, List.setIfInBounds_toArray, List.set_cons_zero, List.set_cons_succ]
        refine wpAnyH_take (i := 9) (v := undef) rfl (by kernel_rfl) (by kernel_rfl) (by kernel_rfl) (fun _ _ _ h => h) (Or.inr ⟨by rfl, rfl⟩) (by assumption) ?_
        try simp only [Act.put, List.getElem_toArray, List.getElem_cons_succ, List.getElem_cons_zero, List.setIfInBounds_toArray, List.set_cons_zero, List.set_cons_succ]
        refine wpAnyH_take (i := 10) (v := undef) rfl (by kernel_rfl) (by kernel_rfl) (by kernel_rfl) (fun _ _ _ h => h) (Or.inr ⟨by rfl, rfl⟩) (by assumption) ?_
        try simp only [Act.put, List.getElem_toArray, List.getElem_cons_succ, List.getElem_cons_zero, List.setIfInBounds_toArray, List.set_cons_zero, List.set_cons_succ]
        refine wpAnyH_take (i := 11) (v := undef) rfl (by kernel_rfl) (by kernel_rfl) (by kernel_rfl) (fun _ _ _ h => h) (Or.inr ⟨by rfl, rfl⟩) (by assumption) ?_
        try simp only [Act.put, List.getElem_toArray, List.getElem_cons_succ, List.getElem_cons_zero, List.setIfInBounds_toArray, List.set_cons_zero, List.set_cons_succ]
        refine wpAnyH_take (i := 12) (v := undef) rfl (by kernel_rfl) (by kernel_rfl) (by kernel_rfl) (fun _ _ _ h => h) (Or.inr ⟨by rfl, rfl⟩) (by assumption) ?_
        try simp only [Act.put, List.getElem_toArray, List.getElem_cons_succ, List.getElem_cons_zero, List.setIfInBounds_toArray, List.set_cons_zero, List.set_cons_succ]
        refine wpAnyH_take (i := 13) (v := undef) rfl (by kernel_rfl) (by kernel_rfl) (by kernel_rfl) (fun _ _ _ h => h) (Or.inr ⟨by rfl, rfl⟩) (by assumption) ?_
        try simp only [Act.put, List.getElem_toArray, List.getElem_cons_succ, List.getElem_cons_zero, List.setIfInBounds_toArray, List.set_cons_zero, List.set_cons_succ]
        refine wpAnyH_take (i := 14) (v := undef) rfl (by kernel_rfl) (by kernel_rfl) (by kernel_rfl) (fun _ _ _ h => h) (Or.inr ⟨by rfl, rfl⟩) (by assumption) ?_
        try simp only [Act.put, List.getElem_toArray, List.getElem_cons_succ, List.getElem_cons_zero, List.setIfInBounds_toArray, List.set_cons_zero, List.set_cons_succ]
        refine wpAnyH_take (i := 15) (v := undef) rfl (by kernel_rfl) (by kernel_rfl) (by kernel_rfl) (fun _ _ _ h => h) (Or.inr ⟨by rfl, rfl⟩) (by assumption) ?_
        try simp only [Act.put, List.getElem_toArray, List.getElem_cons_succ, List.getElem_cons_zero, List.setIfInBounds_toArray, List.set_cons_zero, List.set_cons_succ]
        refine wpAnyH_take (i := 16) (v := undef) rfl (by kernel_rfl) (by kernel_rfl) (by kernel_rfl) (fun _ _ _ h => h) (Or.inr ⟨by rfl, rfl⟩) (by assumption) ?_
        try simp only [Act.put, List.getElem_toArray, List.getElem_cons_succ, List.getElem_cons_zero, List.setIfInBounds_toArray, List.set_cons_zero, List.set_cons_succ]
        refine wpAnyH_take (i := 17) (v := undef) rfl (by kernel_rfl) (by kernel_rfl) (by kernel_rfl) (fun _ _ _ h => h) (Or.inr ⟨by rfl, rfl⟩) (by assumption) ?_
        try simp only [Act.put, List.getElem_toArray, List.getElem_cons_succ, List.getElem_cons_zero, List.setIfInBounds_toArray, List.set_cons_zero, List.set_cons_succ]
        refine wpAnyH_take (i := 18) (v := ?_) rfl (by kernel_rfl) (by kernel_rfl) (by kernel_rfl) (fun _ _ _ h => h) (Or.inl ⟨by rfl, ?_⟩) (by assumption) ?_
        rotate_left 1
        · intro w hSw; (try dsimp only at hSw); go_simp; try with_reducible rfl
        try simp only [Act.put, List.getElem_toArray, List.getElem_cons_succ, List.getElem_cons_zero, List.setIfInBounds_toArray, List.set_cons_zero, List.set_cons_succ]
        refine wpAnyH_done (by kernel_rfl) ?_ _
        go_wp2
        go_ret
        exact ⟨rfl, chain L1 hb1⟩
      | true =>
        by_cases hk0 : 0 < k
        · have hk0i : (0 : Int) < (k : Int) := by omega
          have hk0d : decide ((0 : Int) < (k : Int)) = true := decide_eq_true hk0i
          obtain ⟨I, hI⟩ : ∃ I, k - 1 = I := ⟨_, rfl⟩
          have w1 : IntKind.i64.wrap ((k : Int) - 1) = (I : Int) := by rw [IntKind.wrap_i64]; omega
          have i2 : (I : Int) < (N : Int) := by omega
          obtain ⟨y, hy⟩ : ∃ y, ys[I]? = some y := ⟨_, List.getElem?_eq_getElem (by omega)⟩
          obtain ⟨_, hA, hady, y0, -, -⟩ := (hR.call L1) I y hy
          cases hA
          have y3 : (ad.add (I * 3)).block < W1.heap.size := by rw [o10_block]; exact Nat.lt_of_lt_of_le had L1.size
          have e1 := key_sameR x y
          obtain ⟨t2, ht2⟩ : ∃ b, decide (keyR x = keyR y) = b := ⟨_, rfl⟩
          rw [ht2] at e1
          have HT2 := hideIt ht2
          have HI := hideIt hI
          have HY := hideIt hy
          clear ht2 hI hy
          have hS : ∀ u, Below W1.heap.size W1 u → u.cell? ⟨wr.heap.size, 0, none⟩ = some (.string x.id) ∧ wr.heap.size < u.heap.size ∧ u.cell? (ad.add (I * 3)) = some (.string y.id) ∧ (ad.add (I * 3)).block < u.heap.size := fun u hb =>
            ⟨(B1.call hb).read 0, (B1.call hb).inside, (World.cell?_of_block (hb.block _ y3)).trans y0, Nat.lt_of_lt_of_le y3 hb.size⟩
          refine wp_region_held_drew (S := fun u => u.cell? ⟨wr.heap.size, 0, none⟩ = some (.string x.id) ∧ wr.heap.size < u.heap.size ∧ u.cell? (ad.add (I * 3)) = some (.string y.id) ∧ (ad.add (I * 3)).block < u.heap.size) (by kernel_rfl) (hS _ (Below.refl _ _).drew) (fun hHeld => ?_)
          refine wpAnyH_take (i := 0) (v := ?_) rfl (by kernel_rfl) (by kernel_rfl) (by kernel_rfl) (fun _ _ _ h => h) (Or.inl ⟨by rfl, ?_⟩) (by assumption) ?_
          rotate_left 1
          · intro w hSw; (try dsimp only at hSw); go_simp; try with_reducible rfl
          try simp only [Act.put, List.getElem_toArray, List.getElem_cons_succ, List.getElem_cons_zero, List.setIfInBounds_toArray, List.set_cons_zero, List.set_cons_succ]
          refine wpAnyH_take (i := 1) (v := ?_) rfl (by kernel_rfl) (by kernel_rfl) (by kernel_rfl) (fun _ _ _ h => h) (Or.inl ⟨by rfl, ?_⟩) (by assumption) ?_
          rotate_left 1
          · intro w hSw; (try dsimp only at hSw); go_simp; try with_reducible rfl
          try simp only [Act.put, List.getElem_toArray, List.getElem_cons_succ, List.getElem_cons_zero, List.setIfInBounds_toArray, List.set_cons_zero, List.set_cons_succ]
          refine wpAnyH_ready (rs := [2]) (by kernel_rfl) (by simp) (AllReadyH.cons rfl (fun K hK => ?_) AllReadyH.nil)
          go_simp
          go_at_call 62
          refine (cI _ hT1.drew).mono ?_
          rintro e v1 ⟨rfl, hv1⟩
          have hb1 := chain (Below.refl W1.heap.size W1).drew hv1
          try simp only []
          refine hK.out _ _ (hS _ hb1) (fun hHeld => ?_)
          clear hK K
          try simp only [Act.put, List.getElem_toArray, List.getElem_cons_succ, List.getElem_cons_zero, List.setIfInBounds_toArray, List.set_cons_zero, List.set_cons_succ]
          refine wpAnyH_take (i := 3) (v := ?_) rfl (by kernel_rfl) (by kernel_rfl) (by kernel_rfl) (fun _ _ _ h => h) (Or.inl ⟨by rfl, ?_⟩) (by assumption) ?_
          rotate_left 1
          · intro w hSw; (try dsimp only at hSw); go_simp; try with_reducible rfl
          try simp only [Act.put, List.getElem_toArray, List.getElem_cons_succ, List.getElem_cons_zero, List.setIfInBounds_toArray, List.set_cons_zero, List.set_cons_succ]
          refine wpAnyH_take (i := 4) (v := ?_) rfl (by kernel_rfl) (by kernel_rfl) (by kernel_rfl) (fun _ _ _ h => h) (Or.inl ⟨by rfl, ?_⟩) (by assumption) ?_
          rotate_left 1
          · intro w hSw; (try dsimp only at hSw); go_simp; try with_reducible rfl
          try simp only [Act.put, List.getElem_toArray, List.getElem_cons_succ, List.getElem_cons_zero, List.setIfInBounds_toArray, List.set_cons_zero, List.set_cons_succ]
          refine wpAnyH_take (i := 5) (v := ?_) rfl (by kernel_rfl) (by kernel_rfl) (by kernel_rfl) (fun _ _ _ h => h) (Or.inl ⟨by rfl, ?_⟩) (by assumption) ?_
          rotate_left 1
          · intro w hSw; (try dsimp only at hSw); go_simp; try with_reducible rfl
          try simp only [Act.put, List.getElem_toArray, List.getElem_cons_succ, List.getElem_cons_zero, List.setIfInBounds_toArray, List.set_cons_zero, List.set_cons_succ]
          refine wpAnyH_take (i := 6) (v := ?_) rfl (by kernel_rfl) (by kernel_rfl) (by kernel_rfl) (fun _ _ _ h => h) (Or.inl ⟨by rfl, ?_⟩) (by assumption) ?_
          rotate_left 1
          · intro w hSw; (try dsimp only at hSw); go_simp; try with_reducible rfl
          try simp only [Act.put, List.getElem_toArray, List.getElem_cons_succ, List.getElem_cons_zero, List.setIfInBounds_toArray, List.set_cons_zero, List.set_cons_succ]
          refine wpAnyH_take (i := 7) (v := ?_) rfl (by kernel_rfl) (by kernel_rfl) (by kernel_rfl) (fun _ _ _ h => h) (Or.inl ⟨by rfl, ?_⟩) (by assumption) ?_
          rotate_left 1
          · intro w hSw; (try dsimp only at hSw); go_simp; try with_reducible rfl
          try simp only [Act.put, List.getElem_toArray, List.getElem_cons_succ, List.getElem_cons_zero, List.setIfInBounds_toArray, List.set_cons_zero, List.set_cons_succ]
          refine wpAnyH_take (i := 8) (v := ?_) rfl (by kernel_rfl) (by kernel_rfl) (by kernel_rfl) (fun _ _ _ h => h) (Or.inl ⟨by rfl, ?_⟩) (by assumption) ?_
          rotate_left 1
          · intro w hSw; (try dsimp only at hSw); go_simp; try with_reducible rfl
          try simp only [Act.put, List.getElem_toArray, List.getElem_cons_succ, List.getElem_cons_zero, List.setIfInBounds_toArray, List.set_cons_zero, List.set_cons_succ]
          refine wpAnyH_take (i := 9) (v := ?_) rfl (by kernel_rfl) (by kernel_rfl) (by kernel_rfl) (fun _ _ _ h => h) (Or.inl ⟨by rfl, ?_⟩) (by assumption) ?_
          rotate_left 1
          · intro w hSw; (try dsimp only at hSw); go_simp; try with_reducible rfl
          try simp only [Act.put, List.getElem_toArray, List.getElem_cons_succ, List.getElem_cons_zero, List.setIfInBounds_toArray, List.set_cons_zero, List.set_cons_succ]
          refine wpAnyH_take (i := 10) (v := ?_) rfl (by kernel_rfl) (by kernel_rfl) (by kernel_rfl) (fun _ _ _ h => h) (Or.inl ⟨by rfl, ?_⟩) (by assumption) ?_
          rotate_left 1
          · intro w hSw; (try dsimp only at hSw); go_simp; try with_reducible rfl
          try simp only [Act.put, List.getElem_toArray, List.getElem_cons_succ, List.getElem_cons_zero, List.setIfInBounds_toArray, List.set_cons_zero, List.set_cons_succ]
          refine wpAnyH_take (i := 11) (v := ?_) rfl (by kernel_rfl) (by kernel_rfl) (by kernel_rfl) (fun _ _ _ h => h) (Or.inl ⟨by rfl, ?_⟩) (by assumption) ?_
          rotate_left 1
          · intro w hSw; (try dsimp only at hSw); go_simp; try with_reducible rfl
          try simp only [Act.put, List.getElem_toArray, List.getElem_cons_succ, List.getElem_cons_zero, List.setIfInBounds_toArray, List.set_cons_zero, List.set_cons_succ]
          refine wpAnyH_take (i := 12) (v := ?_) rfl (by kernel_rfl) (by kernel_rfl) (by kernel_rfl) (fun _ _ _ h => h) (Or.inl ⟨by rfl, ?_⟩) (by assumption) ?_
          rotate_left 1
          · intro w hSw; (try dsimp only at hSw); go_simp; try with_reducible rfl
          try simp only [Act.put, List.getElem_toArray, List.getElem_cons_succ, List.getElem_cons_zero, List.setIfInBounds_toArray, List.set_cons_zero, List.set_cons_succ]
          refine wpAnyH_take (i := 13) (v := ?_) rfl (by kernel_rfl) (by kernel_rfl) (by kernel_rfl) (fun _ _ _ h => h) (Or.inl ⟨by rfl, ?_⟩) (by assumption) ?_
          rotate_left 1
          · intro w hSw; (try dsimp only at hSw); go_simp; try with_reducible rfl
          try simp only [Act.put, List.getElem_toArray, List.getElem_cons_succ, List.getElem_cons_zero, List.setIfInBounds_toArray, List.set_cons_zero, List.set_cons_succ]
          refine wpAnyH_take (i := 14) (v := ?_) rfl (by kernel_rfl) (by kernel_rfl) (by kernel_rfl) (fun _ _ _ h => h) (Or.inl ⟨by rfl, ?_⟩) (by assumption) ?_
          rotate_left 1
          · intro w hSw; (try dsimp only at hSw); go_simp; try with_reducible rfl
          try simp only [Act.put, List.getElem_toArray, List.getElem_cons_succ, List.getElem_cons_zero, List.setIfInBounds_toArray, List.set_cons_zero, List.set_cons_succ]
          refine wpAnyH_take (i := 15) (v := ?_) rfl (by kernel_rfl) (by kernel_rfl) (by kernel_rfl) (fun _ _ _ h => h) (Or.inl ⟨by rfl, ?_⟩) (by assumption) ?_
          rotate_left 1
          · intro w hSw; (try dsimp only at hSw); go_simp; try with_reducible rfl
          try simp only [Act.put, List.getElem_toArray, List.getElem_cons_succ, List.getElem_cons_zero, List.setIfInBounds_toArray, List.set_cons_zero, List.set_cons_succ]
          refine wpAnyH_take (i := 16) (v := ?_) rfl (by kernel_rfl) (by kernel_rfl) (by kernel_rfl) (fun _ _ _ h => h) (Or.inl ⟨by rfl, ?_⟩) (by assumption) ?_
          rotate_left 1
          · intro w hSw; (try dsimp only at hSw); go_simp; try with_reducible rfl
          try simp only [Act.put, List.getElem_toArray, List.getElem_cons_succ, List.getElem_cons_zero, List.setIfInBounds_toArray, List.set_cons_zero, List.set_cons_succ]
          refine wpAnyH_take (i := 17) (v := ?_) rfl (by kernel_rfl) (by kernel_rfl) (by kernel_rfl) (fun _ _ _ h => h) (Or.inl ⟨by rfl, ?_⟩) (by assumption) ?_
          rotate_left 1
          · intro w hSw; (try dsimp only at hSw); go_simp; try with_reducible rfl
          try simp only [Act.put, List.getElem_toArray, List.getElem_cons_succ, List.getElem_cons_zero, List.setIfInBounds_toArray, List.set_cons_zero, List.set_cons_succ]
          refine wpAnyH_take (i := 18) (v := ?_) rfl (by kernel_rfl) (by kernel_rfl) (by kernel_rfl) (fun _ _ _ h => h) (Or.inl ⟨by rfl, ?_⟩) (by assumption) ?_
          rotate_left 1
          · intro w hSw; (try dsimp only at hSw); go_simp; try with_reducible rfl
          try simp only [Act.put, List.getElem_toArray, List.getElem_cons_succ, List.getElem_cons_zero, List.setIfInBounds_toArray, List.set_cons_zero, List.set_cons_succ]
          refine wpAnyH_done (by kernel_rfl) ?_ _
          cases t2 with
          | true =>
            have hno : V = false := by
              rw [← HV.out]
              refine decide_eq_false fun hM => (HAT.out hM).2 ?_
              rw [of_decide_eq_true HT2.out]
              refine List.mem_map_of_mem (List.mem_of_getElem? (i := I) ?_)
              rw [List.getElem?_take_of_lt (by have := HI.out; omega)]
              exact HY.out
            subst hno
            go_wp2
            go_ret
            exact ⟨rfl, chain L1 hb1⟩
          | false =>
            have hall : RowsP (ys.take (k + 1)) := HST.out HT1.out (HNW.out fun z _ hz => by
              rw [HI.out, HY.out] at hz
              injection hz with hz
              subst hz
              exact of_decide_eq_false HT2.out)
            have HALL := hideIt hall
            clear hall
            go_wp2
            go_roundg (N - (k + 1))
            case measure => have := HG.out; omega
            case rel => exact ⟨k + 1, by omega, Nat.le_refl _, by go_num, chain L1 hb1, HALL⟩
        · have hk0i : ¬ ((0 : Int) < (k : Int)) := by omega
          have hk0d : decide ((0 : Int) < (k : Int)) = false := decide_eq_false hk0i
          have hall : RowsP (ys.take (k + 1)) := HST.out HT1.out (HNW.out fun z h _ => absurd h hk0)
          have HALL := hideIt hall
          clear hall
          have hS : ∀ u, Below W1.heap.size W1 u → u.cell? ⟨wr.heap.size, 0, none⟩ = some (.string x.id) ∧ wr.heap.size < u.heap.size ∧ Below W1.heap.size W1 u := fun u hb => ⟨(B1.call hb).read 0, (B1.call hb).inside, hb⟩
          refine wp_region_held_drew (S := fun u => u.cell? ⟨wr.heap.size, 0, none⟩ = some (.string x.id) ∧ wr.heap.size < u.heap.size ∧ Below W1.heap.size W1 u) (by kernel_rfl) (hS _ (Below.refl _ _).drew) (fun hHeld => ?_)
          refine wpAnyH_take (i := 0) (v := ?_) rfl (by kernel_rfl) (by kernel_rfl) (by kernel_rfl) (fun _ _ _ h => h) (Or.inl ⟨by rfl, ?_⟩) (by assumption) ?_
          rotate_left 1
          · intro w hSw; (try dsimp only at hSw); go_simp; try with_reducible rfl
          try simp only [Act.put, List.getElem_toArray, List.getElem_cons_succ, List.getElem_cons_zero, List.setIfInBounds_toArray, List.set_cons_zero, List.set_cons_succ]
          refine wpAnyH_take (i := 1) (v := ?_) rfl (by kernel_rfl) (by kernel_rfl) (by kernel_rfl) (fun _ _ _ h => h) (Or.inl ⟨by rfl, ?_⟩) (by assumption) ?_
          rotate_left 1
          · intro w hSw; (try dsimp only at hSw); go_simp; try with_reducible rfl
          try simp only [Act.put, List.getElem_toArray, List.getElem_cons_succ, List.getElem_cons_zero, List.setIfInBounds_toArray, List.set_cons_zero, List.set_cons_succ]
          refine wpAnyH_ready (rs := [2]) (by kernel_rfl) (by simp) (AllReadyH.cons rfl (fun K hK => ?_) AllReadyH.nil)
          go_simp
          go_at_call 62
          refine (cI _ hT1.drew).mono ?_
          rintro e v1 ⟨rfl, hv1⟩
          have hb1 := chain (Below.refl W1.heap.size W1).drew hv1
          try simp only []
          refine hK.out _ _ (hS _ hb1) (fun hHeld => ?_)
          clear hK K
          try simp only [Act.put, List.getElem_toArray, List.getElem_cons_succ, List.getElem_cons_zero, List.setIfInBounds_toArray, List.set_cons_zero, List.set_cons_succ]
          refine wpAnyH_take (i := 3) (v := ?_) rfl (by kernel_rfl) (by kernel_rfl) (by kernel_rfl) (fun _ _ _ h => h) (Or.inl ⟨by rfl, ?_⟩) (by assumption) ?_
          rotate_left 1
          · intro w hSw; (try dsimp only at hSw); go_simp; try with_reducible rfl
          try simp only [Act.put, List.getElem_toArray, List.getElem_cons_succ, List.getElem_cons_zero, List.setIfInBounds_toArray, List.set_cons_zero, List.set_cons_succ]
          refine wpAnyH_take (i := 4) (v := ?_) rfl (by kernel_rfl) (by kernel_rfl) (by kernel_rfl) (fun _ _ _ h => h) (Or.inl ⟨by rfl, ?_⟩) (by assumption) ?_
          rotate_left 1
          · intro w hSw; (try dsimp only at hSw); go_simp; try with_reducible rfl
          try simp only [Act.put, List.getElem_toArray, List.getElem_cons_succ, List.getElem_cons_zero, List.setIfInBounds_toArray, List.set_cons_zero, List.set_cons_succ]
          refine wpAnyH_take (i := 5) (v := ?_) rfl (by kernel_rfl) (by kernel_rfl) (by kernel_rfl) (fun _ _ _ h => h) (Or.inl ⟨by rfl, ?_⟩) (by assumption) ?_
          rotate_left 1
          · intro w hSw; (try dsimp only at hSw); go_simp; try with_reducible rfl
          try simp only [Act.put, List.getElem_toArray, List.getElem_cons_succ, List.getElem_cons_zero, List.setIfInBounds_toArray, List.set_cons_zero, List.set_cons_succ]
          refine wpAnyH_take (i := 6) (v := ?_) rfl (by kernel_rfl) (by kernel_rfl) (by kernel_rfl) (fun _ _ _ h => h) (Or.inl ⟨by rfl, ?_⟩) (by assumption) ?_
          rotate_left 1
          · intro w hSw; (try dsimp only at hSw); go_simp; try with_reducible rfl
          try simp only [Act.put, List.getElem_toArray, List.getElem_cons_succ, List.getElem_cons_zero, List.setIfInBounds_toArray, List.set_cons_zero, List.set_cons_succ]
          refine wpAnyH_take (i := 7) (v := ?_) rfl (by kernel_rfl) (by kernel_rfl) (by kernel_rfl) (fun _ _ _ h => h) (Or.inl ⟨by rfl, ?_⟩) (by assumption) ?_
          rotate_left 1
          · intro w hSw; (try dsimp only at hSw); go_simp; try with_reducible rfl
          try simp only [Act.put, List.getElem_toArray, List.getElem_cons_succ, List.getElem_cons_zero, List.setIfInBounds_toArray, List.set_cons_zero, List.set_cons_succ]
          refine wpAnyH_take (i := 8) (v := undef) rfl (by kernel_rfl) (by kernel_rfl) (by kernel_rfl) (fun _ _ _ h => h) (Or.inr ⟨by rfl, rfl⟩) (by assumption) ?_
          try simp only [Act.put, List.getElem_toArray, List.getElem_cons_succ, List.getElem_cons_zero, List.setIfInBounds_toArray, List.set_cons_zero, List.set_cons_succ]
          refine wpAnyH_take (i := 9) (v := undef) rfl (by kernel_rfl) (by kernel_rfl) (by kernel_rfl) (fun _ _ _ h => h) (Or.inr ⟨by rfl, rfl⟩) (by assumption) ?_
          try simp only [Act.put, List.getElem_toArray, List.getElem_cons_succ, List.getElem_cons_zero, List.setIfInBounds_toArray, List.set_cons_zero, List.set_cons_succ]
          refine wpAnyH_take (i := 10) (v := undef) rfl (by kernel_rfl) (by kernel_rfl) (by kernel_rfl) (fun _ _ _ h => h) (Or.inr ⟨by rfl, rfl⟩) (by assumption) ?_
          try simp only [Act.put, List.getElem_toArray, List.getElem_cons_succ, List.getElem_cons_zero, List.setIfInBounds_toArray, List.set_cons_zero, List.set_cons_succ]
          refine wpAnyH_take (i := 11) (v := undef) rfl (by kernel_rfl) (by kernel_rfl) (by kernel_rfl) (fun _ _ _ h => h) (Or.inr ⟨by rfl, rfl⟩) (by assumption) ?_
          try simp only [Act.put, List.getElem_toArray, List.getElem_cons_succ, List.getElem_cons_zero, List.setIfInBounds_toArray, List.set_cons_zero, List.set_cons_succ]
          refine wpAnyH_take (i := 12) (v := undef) rfl (by kernel_rfl) (by kernel_rfl) (by kernel_rfl) (fun _ _ _ h => h) (Or.inr ⟨by rfl, rfl⟩) (by assumption) ?_
          try simp only [Act.put, List.getElem_toArray, List.getElem_cons_succ, List.getElem_cons_zero, List.setIfInBounds_toArray, List.set_cons_zero, List.set_cons_succ]
          refine wpAnyH_take (i := 13) (v := undef) rfl (by kernel_rfl) (by kernel_rfl) (by kernel_rfl) (fun _ _ _ h => h) (Or.inr ⟨by rfl, rfl⟩) (by assumption) ?_
          try simp only [Act.put, List.getElem_toArray, List.getElem_cons_succ, List.getElem_cons_zero, List.setIfInBounds_toArray, List.set_cons_zero, List.set_cons_succ]
          refine wpAnyH_take (i := 14) (v := undef) rfl (by kernel_rfl) (by kernel_rfl) (by kernel_rfl) (fun _ _ _ h => h) (Or.inr ⟨by rfl, rfl⟩) (by assumption) ?_
          try simp only [Act.put, List.getElem_toArray, List.getElem_cons_succ, List.getElem_cons_zero, List.setIfInBounds_toArray, List.set_cons_zero, List.set_cons_succ]
          refine wpAnyH_take (i := 15) (v := undef) rfl (by kernel_rfl) (by kernel_rfl) (by kernel_rfl) (fun _ _ _ h => h) (Or.inr ⟨by rfl, rfl⟩) (by assumption) ?_
          try simp only [Act.put, List.getElem_toArray, List.getElem_cons_succ, List.getElem_cons_zero, List.setIfInBounds_toArray, List.set_cons_zero, List.set_cons_succ]
          refine wpAnyH_take (i := 16) (v := undef) rfl (by kernel_rfl) (by kernel_rfl) (by kernel_rfl) (fun _ _ _ h => h) (Or.inr ⟨by rfl, rfl⟩) (by assumption) ?_
          try simp only [Act.put, List.getElem_toArray, List.getElem_cons_succ, List.getElem_cons_zero, List.setIfInBounds_toArray, List.set_cons_zero, List.set_cons_succ]
          refine wpAnyH_take (i := 17) (v := ?_) rfl (by kernel_rfl) (by kernel_rfl) (by kernel_rfl) (fun _ _ _ h => h) (Or.inl ⟨by rfl, ?_⟩) (by assumption) ?_
          rotate_left 1
          · intro w hSw; (try dsimp only at hSw); go_simp; try with_reducible rfl
          try simp only [Act.put, List.getElem_toArray, List.getElem_cons_succ, List.getElem_cons_zero, List.setIfInBounds_toArray, List.set_cons_zero, List.set_cons_succ]
          refine wpAnyH_take (i := 18) (v := ?_) rfl (by kernel_rfl) (by kernel_rfl) (by kernel_rfl) (fun _ _ _ h => h) (Or.inl ⟨by rfl, ?_⟩) (by assumption) ?_
          rotate_left 1
          · intro w hSw; (try dsimp only at hSw); go_simp; try with_reducible rfl
          try simp only [Act.put, List.getElem_toArray, List.getElem_cons_succ, List.getElem_cons_zero, List.setIfInBounds_toArray, List.set_cons_zero, List.set_cons_succ]
          refine wpAnyH_done (by kernel_rfl) ?_ _
          go_wp2
          go_roundg (N - (k + 1))
          case measure => have := HG.out; omega
          case rel => exact ⟨k + 1, by omega, Nat.le_refl _, by go_num, chain L1 hb1, HALL⟩
    · have e : k = N := by omega
      subst e
      have hM := HM.out
      rw [List.take_of_length_le (by omega)] at hM
      have hv := HV.out
      rw [decide_eq_true hM] at hv
      subst hv
      go_wp2
      go_ret
      exact ⟨rfl, hb⟩
/-- What is wrong with a seed, a height and accounts. -/
def wrongE (seed : ByteArray) (h : Int) (xs : List Ac) : Int := if shOk h = false then 120 else if 64 < seed.size then 3 else if mayA h xs = false then 2 else 0
set_option maxHeartbeats 1000000 in
theorem swrong_any (seed : ByteArray) (A : Option Addr) (c : Nat) (xs : List Ac) (hm : xs.length ≤ 1000000) (ho : AllAc xs) (hz : ∀ x ∈ xs, x.id.size ≤ 1000000 ∧ x.salt.size ≤ 1000000) (h : Int) (w : World) (hR : AcRow w w.heap.size A xs) (hT : TabU w) :
    Calls Tryd.prog 35 #[.string seed, .int .i64 h, .slice A xs.length c] w (Tells (.int .i64 (wrongE seed h xs)) w.heap.size w) := by
  have cH := fun u => smayHeight_any h u
  have cM := fun u hu hv => smay_any A c xs hm ho hz h u hu hv
  unfold wrongE
  generalize xs.length = N at *
  cases h1 : shOk h with
  | false =>
    rw [h1] at cH
    rw [if_pos rfl]
    go_enter Tryd.func35, Tryd.ntmps35
    go_wp2_with (first | (go_at_call 51; refine (cH _).mono ?_; rintro e v1 ⟨rfl, rfl⟩) | fail)
    go_ret
    exact ⟨rfl, Below.refl _ _⟩
  | true =>
    rw [h1] at cH
    rw [if_neg Bool.noConfusion]
    by_cases h2 : 64 < seed.size
    · have h2i : (64 : Int) < (seed.size : Int) := by omega
      rw [if_pos h2]
      go_enter Tryd.func35, Tryd.ntmps35
      go_wp2_with (first | (go_at_call 51; refine (cH _).mono ?_; rintro e v1 ⟨rfl, rfl⟩) | fail)
      go_ret
      exact ⟨rfl, Below.refl _ _⟩
    · have h2i : ¬ ((64 : Int) < (seed.size : Int)) := by omega
      rw [if_neg h2]
      cases h3 : mayA h xs with
      | false =>
        rw [h3] at cM
        rw [if_pos rfl]
        go_enter Tryd.func35, Tryd.ntmps35
        go_wp2_with (first
          | (go_at_call 51; refine (cH _).mono ?_; rintro e v1 ⟨rfl, rfl⟩)
          | (go_at_call 22; refine (cM _ hR hT).mono ?_; rintro e v2 ⟨rfl, j2⟩)
          | fail)
        go_ret
        exact ⟨rfl, j2⟩
      | true =>
        rw [h3] at cM
        rw [if_neg Bool.noConfusion]
        go_enter Tryd.func35, Tryd.ntmps35
        go_wp2_with (first
          | (go_at_call 51; refine (cH _).mono ?_; rintro e v1 ⟨rfl, rfl⟩)
          | (go_at_call 22; refine (cM _ hR hT).mono ?_; rintro e v2 ⟨rfl, j2⟩)
          | fail)
        go_ret
        exact ⟨rfl, j2⟩
end Go.Proofs.YtngofpdpangajaaDoor
