/-
  Package slots' Leaf, first, Find and At, walked.
-/
import Derived.Test.YtngofpdpangajaaDoorU12Set
import Derived.Test.YtngofpdpangajaaDoorU5Clone
import Derived.Test.YtngofpdpangajaaDoorU7Leaf
import Derived.Shelf.Abstract
import Derived.StillTail
import Derived.Deep.RegionHeld3
namespace Go.Proofs.YtngofpdpangajaaDoor
set_option linter.unusedVariables false
set_option linter.unusedSimpArgs false
set_option maxRecDepth 10000
open Go.RowKit Go.Sort

abbrev acB (i : ByteArray) (h l : Int) (s : ByteArray) (n : Int) : Array Value := #[.string i, .int .u64 h, .int .u64 l, .string s, .int .u64 n]
set_option maxRecDepth 100000 in
set_option maxHeartbeats 2000000 in
theorem sleaf_any (x : Ac) (h1 : x.id.size ≤ 1000000) (h2 : x.salt.size ≤ 1000000) (w : World) : Calls Tryd.prog 24 #[x.val] w (Tells (lfA x).val w.heap.size w) := by
  obtain ⟨i, h, l, s, n⟩ := x
  simp only at h1 h2
  have cI := fun u => clone_any i (by omega) u
  have cS := fun u => clone_any s (by omega) u
  have H0 : Has w [(w.heap.size + 1, 46, lfB false ⟨#[]⟩ ⟨#[]⟩ 0 0), (w.heap.size, 38, acB i h l s n)] ((w.alloc (.cells (acB i h l s n) 38)).alloc (.cells (lfB false ⟨#[]⟩ ⟨#[]⟩ 0 0) 46)) :=
    ((Has.start w).add 38 (acB i h l s n)).addAt 46 (lfB false ⟨#[]⟩ ⟨#[]⟩ 0 0) (by simp)
  go_enter Tryd.func24, Tryd.ntmps24
  go_upto_region 1 with fail
  change Code.wp _ _ _ _ ((w.alloc (.cells (acB i h l s n) 38)).alloc (.cells (lfB false ⟨#[]⟩ ⟨#[]⟩ 0 0) 46))
  generalize (w.alloc (.cells (acB i h l s n) 38)).alloc (.cells (lfB false ⟨#[]⟩ ⟨#[]⟩ 0 0) 46) = W at *
  have hS : ∀ u, Has w [(w.heap.size + 1, 46, lfB false ⟨#[]⟩ ⟨#[]⟩ 0 0), (w.heap.size, 38, acB i h l s n)] u →
      u.cell? ⟨w.heap.size, 0, none⟩ = some (.string i) ∧ u.cell? ⟨w.heap.size, 1, none⟩ = some (.int .u64 h) ∧ u.cell? ⟨w.heap.size, 2, none⟩ = some (.int .u64 l) ∧ u.cell? ⟨w.heap.size, 3, none⟩ = some (.string s) ∧ w.heap.size < u.heap.size :=
    fun u H => ⟨(H.box 1).read 0, (H.box 1).read 1, (H.box 1).read 2, (H.box 1).read 3, (H.box 1).inside⟩
  refine wp_region_held_drew (S := fun u => u.cell? ⟨w.heap.size, 0, none⟩ = some (.string i) ∧ u.cell? ⟨w.heap.size, 1, none⟩ = some (.int .u64 h) ∧ u.cell? ⟨w.heap.size, 2, none⟩ = some (.int .u64 l) ∧ u.cell? ⟨w.heap.size, 3, none⟩ = some (.string s) ∧ w.heap.size < u.heap.size) (by kernel_rfl) (hS _ H0.drew) (fun hHeld => ?_)
  have H1 := H0.drew
  clear H0
  generalize W.drew = W1 at *
  refine wpAnyH_take (i := 0) (v := ?_) rfl (by kernel_rfl) (by kernel_rfl) (by kernel_rfl) (fun _ _ _ h => h) (Or.inl ⟨by rfl, ?_⟩) (by assumption) ?_
  rotate_left 1
  · intro w hSw; (try dsimp only at hSw); go_simp; try with_reducible rfl
  try simp only [Act.put, List.getElem_toArray, List.getElem_cons_succ, List.getElem_cons_zero, List.setIfInBounds_toArray, List.set_cons_zero, List.set_cons_succ]
  refine wpAnyH_take (i := 1) (v := ?_) rfl (by kernel_rfl) (by kernel_rfl) (by kernel_rfl) (fun _ _ _ h => h) (Or.inl ⟨by rfl, ?_⟩) (by assumption) ?_
  rotate_left 1
  · intro w hSw; (try dsimp only at hSw); go_simp; try with_reducible rfl
  try simp only [Act.put, List.getElem_toArray, List.getElem_cons_succ, List.getElem_cons_zero, List.setIfInBounds_toArray, List.set_cons_zero, List.set_cons_succ]
  refine wpAnyH_take (i := 3) (v := ?_) rfl (by kernel_rfl) (by kernel_rfl) (by kernel_rfl) (fun _ _ _ h => h) (Or.inl ⟨by rfl, ?_⟩) (by assumption) ?_
  rotate_left 1
  · intro w hSw; (try dsimp only at hSw); go_simp; try with_reducible rfl
  try simp only [Act.put, List.getElem_toArray, List.getElem_cons_succ, List.getElem_cons_zero, List.setIfInBounds_toArray, List.set_cons_zero, List.set_cons_succ]
  refine wpAnyH_take (i := 4) (v := ?_) rfl (by kernel_rfl) (by kernel_rfl) (by kernel_rfl) (fun _ _ _ h => h) (Or.inl ⟨by rfl, ?_⟩) (by assumption) ?_
  rotate_left 1
  · intro w hSw; (try dsimp only at hSw); go_simp; try with_reducible rfl
  try simp only [Act.put, List.getElem_toArray, List.getElem_cons_succ, List.getElem_cons_zero, List.setIfInBounds_toArray, List.set_cons_zero, List.set_cons_succ]
  refine wpAnyH_take (i := 6) (v := ?_) rfl (by kernel_rfl) (by kernel_rfl) (by kernel_rfl) (fun _ _ _ h => h) (Or.inl ⟨by rfl, ?_⟩) (by assumption) ?_
  rotate_left 1
  · intro w hSw; (try dsimp only at hSw); go_simp; try with_reducible rfl
  try simp only [Act.put, List.getElem_toArray, List.getElem_cons_succ, List.getElem_cons_zero, List.setIfInBounds_toArray, List.set_cons_zero, List.set_cons_succ]
  refine wpAnyH_take (i := 7) (v := ?_) rfl (by kernel_rfl) (by kernel_rfl) (by kernel_rfl) (fun _ _ _ h => h) (Or.inl ⟨by rfl, ?_⟩) (by assumption) ?_
  rotate_left 1
  · intro w hSw; (try dsimp only at hSw); go_simp; try with_reducible rfl
  try simp only [Act.put, List.getElem_toArray, List.getElem_cons_succ, List.getElem_cons_zero, List.setIfInBounds_toArray, List.set_cons_zero, List.set_cons_succ]
  refine wpAnyH_ready (rs := [2]) (by kernel_rfl) (by simp) (AllReadyH.cons rfl (fun K hK => ?_) AllReadyH.nil)
  go_simp
  go_at_call 57
  refine (cI _).mono ?_
  rintro e w2 ⟨rfl, b2⟩
  have H2 := H1.call b2
  try simp only []
  refine hK.out _ _ (hS _ H2) (fun hHeld => ?_)
  clear hK K
  try simp only [Act.put, List.getElem_toArray, List.getElem_cons_succ, List.getElem_cons_zero, List.setIfInBounds_toArray, List.set_cons_zero, List.set_cons_succ]
  refine wpAnyH_ready (rs := [5]) (by kernel_rfl) (by simp) (AllReadyH.cons rfl (fun K hK => ?_) AllReadyH.nil)
  go_simp
  go_at_call 57
  refine (cS _).mono ?_
  rintro e w3 ⟨rfl, b3⟩
  have H3 := H2.call b3
  try simp only []
  refine hK.out _ _ (hS _ H3) (fun hHeld => ?_)
  clear hK K
  try simp only [Act.put, List.getElem_toArray, List.getElem_cons_succ, List.getElem_cons_zero, List.setIfInBounds_toArray, List.set_cons_zero, List.set_cons_succ]
  refine wpAnyH_take (i := 8) (v := ?_) rfl (by kernel_rfl) (by kernel_rfl) (by kernel_rfl) (fun _ _ _ h => h) (Or.inl ⟨by rfl, ?_⟩) (by assumption) ?_
  rotate_left 1
  · intro w hSw; (try dsimp only at hSw); go_simp; try with_reducible rfl
  try simp only [Act.put, List.getElem_toArray, List.getElem_cons_succ, List.getElem_cons_zero, List.setIfInBounds_toArray, List.set_cons_zero, List.set_cons_succ]
  obtain ⟨⟨y0, y1, y2, y3, y4⟩, ⟨g0, g1, g2, g3, g4⟩, hin1⟩ := (H3.box 0).five0
  refine wpAnyH_ready (rs := [9]) (by kernel_rfl) (by simp) (AllReadyH.cons rfl (fun K hK => ?_) AllReadyH.nil)
  go_simp
  have BX := (H3.box 0).put5 (.bool false) (.string i) (.string s) (.int .u64 h) (.int .u64 l)
  have LX := below_put5 (g := w.heap.size + 1) H3.below (by omega) (.bool false) (.string i) (.string s) (.int .u64 h) (.int .u64 l)
  have BY : Box (((((w3.setCell ⟨w.heap.size + 1, 0, none⟩ (.bool false)).setCell ⟨w.heap.size + 1, 1, none⟩ (.string i)).setCell ⟨w.heap.size + 1, 2, none⟩ (.string s)).setCell ⟨w.heap.size + 1, 3, none⟩ (.int .u64 h)).setCell ⟨w.heap.size + 1, 4, none⟩ (.int .u64 l)) w.heap.size 38 (acB i h l s n) :=
    (((((H3.box 1).apart (by dsimp only; omega) _).apart (by dsimp only; omega) _).apart (by dsimp only; omega) _).apart (by dsimp only; omega) _).apart (by dsimp only; omega) _
  generalize World.setCell (World.setCell (World.setCell (World.setCell (World.setCell w3 _ _) _ _) _ _) _ _) _ _ = X at *
  obtain ⟨⟨x0, x1, x2, x3, x4⟩, -, hgx⟩ := BX.five0
  refine hK.out _ _ (⟨BY.read 0, BY.read 1, BY.read 2, BY.read 3, BY.inside⟩) (fun hHeld => ?_)
  clear hK K
  try simp only [Act.put, List.getElem_toArray, List.getElem_cons_succ, List.getElem_cons_zero, List.setIfInBounds_toArray, List.set_cons_zero, List.set_cons_succ]
  refine wpAnyH_done (by kernel_rfl) ?_ _
  go_wp2
  exact bodyPost_ret (v := (lfA ⟨i, h, l, s, n⟩).val) (by simp [results, Tryd.results24, go_sem, Lf.val, lfA, x0, x1, x2, x3, x4]) rfl ⟨rfl, LX⟩
set_option maxRecDepth 100000 in
set_option maxHeartbeats 2000000 in
theorem sfirst_any (k g : Nat) (p : Ac → Bool) (A : Option Addr) (c : Nat) (xs : List Ac) (hm : xs.length ≤ 1000000000) (hz : ∀ x ∈ xs, x.id.size ≤ 1000000 ∧ x.salt.size ≤ 1000000) (w : World) (hR : AcRow w w.heap.size A xs)
    (he : ∀ args u, (callFunc k args).run Tryd.prog u = .ok (.enter k args) u) (hc : ∀ x ∈ xs, ∀ u, Below w.heap.size w u → Calls Tryd.prog k #[x.val, .pointer (some ⟨g, 0, none⟩)] u (Tells (.bool (p x)) u.heap.size u)) :
    Calls Tryd.prog 48 #[.slice A xs.length c, .func (.func k) #[] #[.pointer (some ⟨g, 0, none⟩)]] w (Tells (.tuple #[(firstA p xs).1.val, .bool (firstA p xs).2]) w.heap.size w) := by
  obtain ⟨V, hV⟩ : ∃ V : Ac × Bool, firstA p xs = V := ⟨_, rfl⟩
  rw [hV]
  have HV := hideIt hV
  clear hV
  have H0 := (Has.start w).add 38 (acB ⟨#[]⟩ 0 0 ⟨#[]⟩ 0)
  go_enter Tryd.func48, Tryd.ntmps48
  go_wp2
  change Code.wp _ _ _ _ (w.alloc (.cells (acB ⟨#[]⟩ 0 0 ⟨#[]⟩ 0) 38))
  generalize w.alloc (.cells (acB ⟨#[]⟩ 0 0 ⟨#[]⟩ 0) 38) = W at *
  go_loopg [10] xs.length (fun gk i wr => ∃ k : Nat, k ≤ xs.length ∧ xs.length - k ≤ gk ∧ i = .int .i64 k ∧ (∀ j y, j < k → xs[j]? = some y → p y = false) ∧ Has w [(w.heap.size, 38, acB ⟨#[]⟩ 0 0 ⟨#[]⟩ 0)] wr)
  case atStart => exact ⟨0, Nat.zero_le _, by omega, rfl, fun j y hj => absurd hj (Nat.not_lt_zero _), H0⟩
  case round =>
    obtain ⟨q, hq, hgk, rfl, hb, H⟩ := hrel
    have HG := hideIt hgk
    have HB := hideIt hb
    clear hgk hb
    by_cases hlt : q < xs.length
    · obtain ⟨x, hx⟩ : ∃ x, xs[q]? = some x := ⟨_, List.getElem?_eq_getElem hlt⟩
      obtain ⟨ad, rfl, had, p0, p1, p2, p3, p4⟩ := (hR.call H.below) q x hx
      have hlti : (q : Int) < (xs.length : Int) := by omega
      have p5 : (ad.add (q * 5)).block < wr.heap.size := by rw [o10_block]; exact Nat.lt_of_lt_of_le had H.size
      obtain ⟨z1, z2⟩ := hz x (List.mem_of_getElem? hx)
      have cX := hc x (List.mem_of_getElem? hx)
      have HX := hideIt hx
      clear hx
      have H1 := H.add 38 (acB x.id x.h x.l x.salt x.slot)
      have hgs := H.size
      go_upto_region 4 with fail
      change Code.wp _ _ _ _ (wr.alloc (.cells (acB x.id x.h x.l x.salt x.slot) 38))
      generalize wr.alloc (.cells (acB x.id x.h x.l x.salt x.slot) 38) = W1 at *
      have cX1 := cX W1 H1.below
      simp only [Ac.val] at cX1
      obtain ⟨q0, q1, q2, q3, q4, -, -, -, -, -, hin1⟩ := (H1.box 0).five
      cases hp : p x with
      | true =>
        have HF := hideIt (firstA_hit HB.out HX.out hp)
        rw [hp] at cX1
        go_upto_region 5 with (first
          | (go_at_fn k; refine cX1.mono ?_; rintro e w2 ⟨rfl, j2⟩)
          | fail)
        have H2 := H1.call j2
        clear q0 q1 q2 q3 q4 hin1 H1
        have hS : ∀ u, Has w [(wr.heap.size, 38, acB x.id x.h x.l x.salt x.slot), (w.heap.size, 38, acB ⟨#[]⟩ 0 0 ⟨#[]⟩ 0)] u →
            u.cell? ⟨wr.heap.size, 0, none⟩ = some (.string x.id) ∧ u.cell? ⟨wr.heap.size, 3, none⟩ = some (.string x.salt) ∧ wr.heap.size < u.heap.size :=
          fun u H => ⟨(H.box 0).read 0, (H.box 0).read 3, (H.box 0).inside⟩
        have cI := fun u => clone_any x.id (by omega) u
        have cS := fun u => clone_any x.salt (by omega) u
        refine wp_region_held_drew (S := fun u => u.cell? ⟨wr.heap.size, 0, none⟩ = some (.string x.id) ∧ u.cell? ⟨wr.heap.size, 3, none⟩ = some (.string x.salt) ∧ wr.heap.size < u.heap.size) (by kernel_rfl) (hS _ H2.drew) (fun hHeld => ?_)
        have H3 := H2.drew
        clear H2
        generalize w2.drew = W3 at *
        refine wpAnyH_take (i := 0) (v := ?_) rfl (by kernel_rfl) (by kernel_rfl) (by kernel_rfl) (fun _ _ _ h => h) (Or.inl ⟨by rfl, ?_⟩) (by assumption) ?_
        rotate_left 1
        · intro w hSw; (try dsimp only at hSw); go_simp; try with_reducible rfl
        try simp only [Act.put, List.getElem_toArray, List.getElem_cons_succ, List.getElem_cons_zero, List.setIfInBounds_toArray, List.set_cons_zero, List.set_cons_succ]
        refine wpAnyH_take (i := 1) (v := ?_) rfl (by kernel_rfl) (by kernel_rfl) (by kernel_rfl) (fun _ _ _ h => h) (Or.inl ⟨by rfl, ?_⟩) (by assumption) ?_
        rotate_left 1
        · intro w hSw; (try dsimp only at hSw); go_simp; try with_reducible rfl
        try simp only [Act.put, List.getElem_toArray, List.getElem_cons_succ, List.getElem_cons_zero, List.setIfInBounds_toArray, List.set_cons_zero, List.set_cons_succ]
        refine wpAnyH_take (i := 3) (v := ?_) rfl (by kernel_rfl) (by kernel_rfl) (by kernel_rfl) (fun _ _ _ h => h) (Or.inl ⟨by rfl, ?_⟩) (by assumption) ?_
        rotate_left 1
        · intro w hSw; (try dsimp only at hSw); go_simp; try with_reducible rfl
        try simp only [Act.put, List.getElem_toArray, List.getElem_cons_succ, List.getElem_cons_zero, List.setIfInBounds_toArray, List.set_cons_zero, List.set_cons_succ]
        refine wpAnyH_take (i := 4) (v := ?_) rfl (by kernel_rfl) (by kernel_rfl) (by kernel_rfl) (fun _ _ _ h => h) (Or.inl ⟨by rfl, ?_⟩) (by assumption) ?_
        rotate_left 1
        · intro w hSw; (try dsimp only at hSw); go_simp; try with_reducible rfl
        try simp only [Act.put, List.getElem_toArray, List.getElem_cons_succ, List.getElem_cons_zero, List.setIfInBounds_toArray, List.set_cons_zero, List.set_cons_succ]
        refine wpAnyH_ready (rs := [2]) (by kernel_rfl) (by simp) (AllReadyH.cons rfl (fun K hK => ?_) AllReadyH.nil)
        go_simp
        go_at_call 57
        refine (cI _).mono ?_
        rintro e w4 ⟨rfl, b4⟩
        have H4 := H3.call b4
        try simp only []
        refine hK.out _ _ (hS _ H4) (fun hHeld => ?_)
        clear hK K
        try simp only [Act.put, List.getElem_toArray, List.getElem_cons_succ, List.getElem_cons_zero, List.setIfInBounds_toArray, List.set_cons_zero, List.set_cons_succ]
        refine wpAnyH_take (i := 6) (v := ?_) rfl (by kernel_rfl) (by kernel_rfl) (by kernel_rfl) (fun _ _ _ h => h) (Or.inl ⟨by rfl, ?_⟩) (by assumption) ?_
        rotate_left 1
        · intro w hSw; (try dsimp only at hSw); go_simp; try with_reducible rfl
        try simp only [Act.put, List.getElem_toArray, List.getElem_cons_succ, List.getElem_cons_zero, List.setIfInBounds_toArray, List.set_cons_zero, List.set_cons_succ]
        refine wpAnyH_ready (rs := [5]) (by kernel_rfl) (by simp) (AllReadyH.cons rfl (fun K hK => ?_) AllReadyH.nil)
        go_simp
        go_at_call 57
        refine (cS _).mono ?_
        rintro e w5 ⟨rfl, b5⟩
        have H5 := H4.call b5
        try simp only []
        refine hK.out _ _ (hS _ H5) (fun hHeld => ?_)
        clear hK K
        try simp only [Act.put, List.getElem_toArray, List.getElem_cons_succ, List.getElem_cons_zero, List.setIfInBounds_toArray, List.set_cons_zero, List.set_cons_succ]
        obtain ⟨q0, q1, q2, q3, q4, r0, r1, r2, r3, r4, hin1⟩ := (H5.box 0).five
        refine wpAnyH_ready (rs := [7]) (by kernel_rfl) (by simp) (AllReadyH.cons rfl (fun K hK => ?_) AllReadyH.nil)
        go_simp
        have H6 := H5.wrote H.size (fun b hb => by
          rw [List.mem_singleton.1 hb]
          have := (H.box 0).inside
          show w.heap.size ≠ wr.heap.size
          omega) 0 (.string x.id)
        refine hK.out _ _ (hS _ H6) (fun hHeld => ?_)
        clear hK K
        try simp only [Act.put, List.getElem_toArray, List.getElem_cons_succ, List.getElem_cons_zero, List.setIfInBounds_toArray, List.set_cons_zero, List.set_cons_succ]
        clear q0 q1 q2 q3 q4 r0 r1 r2 r3 r4 hin1
        obtain ⟨q0, q1, q2, q3, q4, r0, r1, r2, r3, r4, hin1⟩ := (H6.box 0).five
        generalize World.setCell w5 _ _ = W6 at *
        refine wpAnyH_take (i := 8) (v := ?_) rfl (by kernel_rfl) (by kernel_rfl) (by kernel_rfl) (fun _ _ _ h => h) (Or.inl ⟨by rfl, ?_⟩) (by assumption) ?_
        rotate_left 1
        · intro w hSw; (try dsimp only at hSw); go_simp; try with_reducible rfl
        try simp only [Act.put, List.getElem_toArray, List.getElem_cons_succ, List.getElem_cons_zero, List.setIfInBounds_toArray, List.set_cons_zero, List.set_cons_succ]
        refine wpAnyH_ready (rs := [9]) (by kernel_rfl) (by simp) (AllReadyH.cons rfl (fun K hK => ?_) AllReadyH.nil)
        go_simp
        have H7 := H6.wrote H.size (fun b hb => by
          rw [List.mem_singleton.1 hb]
          have := (H.box 0).inside
          show w.heap.size ≠ wr.heap.size
          omega) 3 (.string x.salt)
        refine hK.out _ _ (hS _ H7) (fun hHeld => ?_)
        clear hK K
        try simp only [Act.put, List.getElem_toArray, List.getElem_cons_succ, List.getElem_cons_zero, List.setIfInBounds_toArray, List.set_cons_zero, List.set_cons_succ]
        clear q0 q1 q2 q3 q4 r0 r1 r2 r3 r4 hin1
        generalize World.setCell W6 _ _ = W7 at *
        refine wpAnyH_done (by kernel_rfl) ?_ _
        obtain ⟨q0, q1, q2, q3, q4, r0, r1, r2, r3, r4, hin1⟩ := (H7.box 0).five
        obtain ⟨f0, f1, f2, f3, f4, s0, s1, s2, s3, s4, hin⟩ := (H7.box 1).five
        go_wp2
        have B3 := box5_put (H7.box 1) (.string x.id) (.int .u64 x.h) (.int .u64 x.l) (.string x.salt) (.int .u64 x.slot)
        have L3 := below5_put H7.below (Nat.le_refl _) 0 1 2 3 4 (.string x.id) (.int .u64 x.h) (.int .u64 x.l) (.string x.salt) (.int .u64 x.slot)
        obtain ⟨e0, e1, e2, e3, e4, -⟩ := B3.five
        have e := HF.out
        rw [HV.out] at e
        subst e
        exact bodyPost_ret (v := .tuple #[x.val, .bool true]) (by simp [results, Tryd.results48, go_sem, Ac.val, e0, e1, e2, e3, e4]) rfl ⟨rfl, L3⟩
      | false =>
        have HF := hideIt hp
        rw [hp] at cX1
        clear hp
        go_wp2_with (first
          | (go_at_fn k; refine cX1.mono ?_; rintro e w2 ⟨rfl, j2⟩)
          | fail)
        go_roundg (xs.length - (q + 1))
        case measure => have := HG.out; omega
        case rel => exact ⟨q + 1, by omega, Nat.le_refl _, by go_num, fun j y hj hy => by
          by_cases e : j = q
          · subst e
            rw [HX.out] at hy
            injection hy with hy
            subst hy
            exact HF.out
          · exact HB.out j y (by omega) hy, (H1.call j2).tail⟩
    · have e : q = xs.length := by omega
      subst e
      have HF := hideIt (firstA_none HB.out)
      obtain ⟨f0, f1, f2, f3, f4, s0, s1, s2, s3, s4, hin⟩ := (H.box 0).five
      go_wp2
      have B3 := box5_put (H.box 0) (.string ⟨#[]⟩) (.int .u64 0) (.int .u64 0) (.string ⟨#[]⟩) (.int .u64 0)
      have L3 := below5_put H.below (Nat.le_refl _) 0 1 2 3 4 (.string ⟨#[]⟩) (.int .u64 0) (.int .u64 0) (.string ⟨#[]⟩) (.int .u64 0)
      obtain ⟨e0, e1, e2, e3, e4, -⟩ := B3.five
      have e := HF.out
      rw [HV.out] at e
      subst e
      exact bodyPost_ret (v := .tuple #[Ac.zero.val, .bool false]) (by simp [results, Tryd.results48, go_sem, Ac.val, Ac.zero, e0, e1, e2, e3, e4]) rfl ⟨rfl, L3⟩
theorem sid_same (x : Ac) (s : ByteArray) : (x.id.toList == s.toList) = decide (keyA x = s.data.toList) := by
  rw [Lib.toList_data, Lib.toList_data]
  exact Bool.beq_eq_decide_eq _ _
theorem sfind1_any (x : Ac) (g : Nat) (s : ByteArray) (w : World) (hB : Box w g 9 #[.string s]) : Calls Tryd.prog 49 #[x.val, .pointer (some ⟨g, 0, none⟩)] w (Tells (.bool (decide (keyA x = s.data.toList))) w.heap.size w) := by
  have e := sid_same x s
  generalize decide (keyA x = s.data.toList) = q at *
  obtain ⟨i, h, l, sa, n⟩ := x
  simp only [Ac.val] at e ⊢
  have c0 : (w.alloc (.cells (acB i h l sa n) 38)).cell? ⟨w.heap.size, 0, none⟩ = some (.string i) := (Box.made w _ _).read 0
  have c1 : (w.alloc (.cells (acB i h l sa n) 38)).cell? ⟨g, 0, none⟩ = some (.string s) := (hB.past _).read 0
  have i1 := (hB.past (.cells (acB i h l sa n) 38)).inside
  have i0 : w.heap.size < (w.alloc (.cells (acB i h l sa n) 38)).heap.size := by simp
  have L0 := chainA (Below.refl w.heap.size w) (.cells (acB i h l sa n) 38)
  go_enter Tryd.func49, Tryd.ntmps49
  go_upto_region 1 with fail
  change Code.wp _ _ _ _ (w.alloc (.cells (acB i h l sa n) 38))
  generalize w.alloc (.cells (acB i h l sa n) 38) = W at *
  go_wp2
  go_ret
  exact ⟨rfl, L0⟩
set_option maxHeartbeats 1000000 in
theorem sFind_any (A : Option Addr) (c : Nat) (xs : List Ac) (s : ByteArray) (hm : xs.length ≤ 1000000000) (hz : ∀ x ∈ xs, x.id.size ≤ 1000000 ∧ x.salt.size ≤ 1000000) (w : World) (hR : AcRow w w.heap.size A xs) :
    Calls Tryd.prog 16 #[.slice A xs.length c, .string s] w (Tells (.tuple #[(findA xs s.data.toList).1.val, .bool (findA xs s.data.toList).2]) w.heap.size w) := by
  have H0 := ((Has.start w).add 9 #[.string s]).addAt 38 (acB ⟨#[]⟩ 0 0 ⟨#[]⟩ 0) (g := w.heap.size + 1) (by simp)
  have cF : ∀ u, Has w [(w.heap.size + 1, 38, acB ⟨#[]⟩ 0 0 ⟨#[]⟩ 0), (w.heap.size, 9, #[.string s])] u → Calls Tryd.prog 48 #[.slice A xs.length c, .func (.func 49) #[] #[.pointer (some ⟨w.heap.size, 0, none⟩)]] u (Tells (.tuple #[(findA xs s.data.toList).1.val, .bool (findA xs s.data.toList).2]) u.heap.size u) :=
    fun u H => sfirst_any 49 w.heap.size (fun a => decide (keyA a = s.data.toList)) A c xs hm hz u ((hR.call H.below).more H.size) (enters_of Tryd.func49 (by kernel_rfl) rfl)
      (fun x _ v hv => sfind1_any x w.heap.size s v ((H.box 1).call hv))
  obtain ⟨V, hV⟩ : ∃ V : Ac × Bool, findA xs s.data.toList = V := ⟨_, rfl⟩
  rw [hV] at cF ⊢
  obtain ⟨⟨i, h, l, sa, n⟩, b⟩ := V
  simp only [Ac.val] at cF ⊢
  go_enter Tryd.func16, Tryd.ntmps16
  go_upto_region 1 with fail
  change Code.wp _ _ _ _ ((w.alloc (.cells #[.string s] 9)).alloc (.cells (acB ⟨#[]⟩ 0 0 ⟨#[]⟩ 0) 38))
  generalize (w.alloc (.cells #[.string s] 9)).alloc (.cells (acB ⟨#[]⟩ 0 0 ⟨#[]⟩ 0) 38) = W at *
  go_wp2_with (first
    | (go_at_call 48; refine (cF _ H0).mono ?_; rintro e w2 ⟨rfl, j2⟩; have H2 := H0.call j2; obtain ⟨f0, f1, f2, f3, f4, s0, s1, s2, s3, s4, hin⟩ := (H2.box 0).five)
    | fail)
  have B3 := box5_put (H2.box 0) (.string i) (.int .u64 h) (.int .u64 l) (.string sa) (.int .u64 n)
  have L3 := below5_put (g := w.heap.size + 1) H2.below (by omega) 0 1 2 3 4 (.string i) (.int .u64 h) (.int .u64 l) (.string sa) (.int .u64 n)
  obtain ⟨e0, e1, e2, e3, e4, -⟩ := B3.five
  exact bodyPost_ret (v := .tuple #[.agg #[.string i, .int .u64 h, .int .u64 l, .string sa, .int .u64 n], .bool b]) (by simp [results, Tryd.results16, go_sem, e0, e1, e2, e3, e4]) rfl ⟨rfl, L3⟩
theorem sat1_any (x : Ac) (g : Nat) (m : Int) (w : World) (hB : Box w g 34 #[.int .u64 m]) : Calls Tryd.prog 50 #[x.val, .pointer (some ⟨g, 0, none⟩)] w (Tells (.bool (decide (x.slot = m))) w.heap.size w) := by
  have e : (x.slot == m) = decide (x.slot = m) := Bool.beq_eq_decide_eq _ _
  generalize decide (x.slot = m) = q at *
  obtain ⟨i, h, l, sa, n⟩ := x
  simp only [Ac.val] at e ⊢
  have c0 : (w.alloc (.cells (acB i h l sa n) 38)).cell? ⟨w.heap.size, 4, none⟩ = some (.int .u64 n) := (Box.made w _ _).read 4
  have c1 : (w.alloc (.cells (acB i h l sa n) 38)).cell? ⟨g, 0, none⟩ = some (.int .u64 m) := (hB.past _).read 0
  have i1 := (hB.past (.cells (acB i h l sa n) 38)).inside
  have i0 : w.heap.size < (w.alloc (.cells (acB i h l sa n) 38)).heap.size := by simp
  have L0 := chainA (Below.refl w.heap.size w) (.cells (acB i h l sa n) 38)
  go_enter Tryd.func50, Tryd.ntmps50
  go_upto_region 1 with fail
  change Code.wp _ _ _ _ (w.alloc (.cells (acB i h l sa n) 38))
  generalize w.alloc (.cells (acB i h l sa n) 38) = W at *
  go_wp2
  go_ret
  exact ⟨rfl, L0⟩
set_option maxHeartbeats 1000000 in
theorem sAt_any (A : Option Addr) (c : Nat) (xs : List Ac) (m : Int) (hm : xs.length ≤ 1000000000) (hz : ∀ x ∈ xs, x.id.size ≤ 1000000 ∧ x.salt.size ≤ 1000000) (w : World) (hR : AcRow w w.heap.size A xs) :
    Calls Tryd.prog 18 #[.slice A xs.length c, .int .u64 m] w (Tells (.tuple #[(atA xs m).1.val, .bool (atA xs m).2]) w.heap.size w) := by
  have H0 := ((Has.start w).add 34 #[.int .u64 m]).addAt 38 (acB ⟨#[]⟩ 0 0 ⟨#[]⟩ 0) (g := w.heap.size + 1) (by simp)
  have cF : ∀ u, Has w [(w.heap.size + 1, 38, acB ⟨#[]⟩ 0 0 ⟨#[]⟩ 0), (w.heap.size, 34, #[.int .u64 m])] u → Calls Tryd.prog 48 #[.slice A xs.length c, .func (.func 50) #[] #[.pointer (some ⟨w.heap.size, 0, none⟩)]] u (Tells (.tuple #[(atA xs m).1.val, .bool (atA xs m).2]) u.heap.size u) :=
    fun u H => sfirst_any 50 w.heap.size (fun a => decide (a.slot = m)) A c xs hm hz u ((hR.call H.below).more H.size) (enters_of Tryd.func50 (by kernel_rfl) rfl)
      (fun x _ v hv => sat1_any x w.heap.size m v ((H.box 1).call hv))
  obtain ⟨V, hV⟩ : ∃ V : Ac × Bool, atA xs m = V := ⟨_, rfl⟩
  rw [hV] at cF ⊢
  obtain ⟨⟨i, h, l, sa, n⟩, b⟩ := V
  simp only [Ac.val] at cF ⊢
  go_enter Tryd.func18, Tryd.ntmps18
  go_upto_region 1 with fail
  change Code.wp _ _ _ _ ((w.alloc (.cells #[.int .u64 m] 34)).alloc (.cells (acB ⟨#[]⟩ 0 0 ⟨#[]⟩ 0) 38))
  generalize (w.alloc (.cells #[.int .u64 m] 34)).alloc (.cells (acB ⟨#[]⟩ 0 0 ⟨#[]⟩ 0) 38) = W at *
  go_wp2_with (first
    | (go_at_call 48; refine (cF _ H0).mono ?_; rintro e w2 ⟨rfl, j2⟩; have H2 := H0.call j2; obtain ⟨f0, f1, f2, f3, f4, s0, s1, s2, s3, s4, hin⟩ := (H2.box 0).five)
    | fail)
  have B3 := box5_put (H2.box 0) (.string i) (.int .u64 h) (.int .u64 l) (.string sa) (.int .u64 n)
  have L3 := below5_put (g := w.heap.size + 1) H2.below (by omega) 0 1 2 3 4 (.string i) (.int .u64 h) (.int .u64 l) (.string sa) (.int .u64 n)
  obtain ⟨e0, e1, e2, e3, e4, -⟩ := B3.five
  exact bodyPost_ret (v := .tuple #[.agg #[.string i, .int .u64 h, .int .u64 l, .string sa, .int .u64 n], .bool b]) (by simp [results, Tryd.results18, go_sem, e0, e1, e2, e3, e4]) rfl ⟨rfl, L3⟩
end Go.Proofs.YtngofpdpangajaaDoor
