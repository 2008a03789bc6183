/-
  Package node's joinAll, walked: a level up.
-/
import Derived.Test.YtjbaeiifamendaaDoorU14Pairs
import Derived.Test.YtjbaeiifamendaaDoorU14Climb
import Derived.Maps.OwnIn
import Derived.Deep.AppendLies
namespace Go.Proofs.YtjbaeiifamendaaDoor
set_option linter.unusedVariables false
set_option linter.unusedSimpArgs false
set_option maxRecDepth 10000
open Go.RowKit Go.Shelf
attribute [local go_sem] Oper.semAt_some

theorem info_nd : (Tryd.prog.info? 26).map (fun i => (i.zero, i.size, i.bytes)) = some (some (.agg #[.string ⟨#[]⟩, .int .u64 0, .int .u64 0]), 3, 32) := by kernel_rfl
/-- What a level up keeps: the results' cells, the width; where the new level is kept, and the new level. -/
def JaH (w : World) (n : Int) (W : World) : Prop := Has w [(w.heap.size + 2, 29, #[.int .i64 0]), (w.heap.size + 1, 28, #[.slice none 0 0]), (w.heap.size, 3, #[.int .i64 n])] W
def JaI (w : World) (H : Nat) (n : Int) (pre : List (Nd × Nd)) (W : World) : Prop :=
  H ≤ W.heap.size ∧ okP n pre = true ∧ JaH w n W ∧ ∃ v, Box W (w.heap.size + 4) 28 #[v] ∧ W.ownsRow (w.heap.size + 3) 26 3 v pre.length (ndS.flat (joinP n pre)) ∧ ∀ r, v.ownBlock = some r → r = w.heap.size + 3 ∨ H ≤ r
theorem JaI.call {w W W' : World} {H : Nat} {n : Int} {pre : List (Nd × Nd)} (h : JaI w H n pre W) (hb : Below W.heap.size W W') : JaI w H n pre W' := by
  obtain ⟨h1, h2, h3, v, h4, h5, h6⟩ := h
  exact ⟨Nat.le_trans h1 hb.size, h2, h3.call hb, v, h4.call hb, own_below h5 hb, h6⟩
set_option maxRecDepth 100000 in
set_option maxHeartbeats 8000000 in
theorem joinAll14_any (n : Int) (hmw : mayW n = true) (A : Option Addr) (c m : Nat) (ys : List Nd) (hm : ys.length = m + m) (hmx : m ≤ 1000000) (hy : ∀ x ∈ ys, x.of n = true ∧ x.halved)
    (w : World) (hR : ndS.Row w w.heap.size A ys) (hT : Tab w) :
    Calls Tryd.prog 31 #[.int .i64 n, .slice A ys.length c] w fun e w' => Below w.heap.size w w' ∧
      ((okP n (pairsK ys) = true ∧ ∃ A' c', e = .returned (.tuple #[.slice A' m c', .int .i64 0]) ∧ ndS.Row w' w'.heap.size A' (pairL n ys)) ∨ (okP n (pairsK ys) = false ∧ e = .returned (.tuple #[.slice none 0 0, .int .i64 10]))) := by
  have cP := fun u => pairs_any A ys.length c u
  obtain ⟨cs, hcs, hmk⟩ : ∃ cs : Array Value, cs.size = m * 3 ∧ ∀ u, (Instr.makeSlice 28 (.int .i64 0) (.int .i64 (m : Int))).run Tryd.prog u = .ok (.slice (some ⟨u.heap.size, 0, none⟩) 0 m) (u.alloc (.cells cs 26)) := by
    obtain ⟨i0, hi, hz0, hz1, hz2⟩ := info_parts info_nd
    refine ⟨madeCells #[.string ⟨#[]⟩, .int .u64 0, .int .u64 0] (m * 3), by simp [madeCells], fun u => by
      have h := run_make (P := Tryd.prog) u 28 26 i0 _ Tryd.underlying28 hi hz0 .i64 .i64 (0 : Int) (m : Int) (by omega) (by omega) (by rw [hz2]; omega) (by omega)
      rw [hz1, Int.toNat_natCast] at h
      exact h⟩
  obtain ⟨N, hN⟩ : ∃ N, ys.length = N := ⟨_, rfl⟩
  rw [hN] at cP ⊢
  have hq2 : (N : Int) / 2 = (m : Int) := by omega
  have H0 := (((Has.start w).add 3 #[.int .i64 n]).addAt 28 #[.slice none 0 0] (g := w.heap.size + 1) (by simp)).addAt 29 #[.int .i64 0] (g := w.heap.size + 1 + 1) (by simp)
  refine (callsIn_wide (n := 9)).1 (callsIn_of_wp_marks Tryd.func31 rfl trivial ?_ rfl)
  simp only [Tryd.ntmps31, List.size_toArray, List.length_cons, List.length_nil, Nat.reduceAdd, Nat.reduceSub, Array.replicate_succ, Array.replicate_zero, List.push_toArray, List.append_toArray, List.nil_append, List.cons_append]
  refine wpIn_wide.2 ?_
  refine Code.wp_mono (noPan_to _) ?_
  go_upto_region 1 with fail
  change Code.wp _ _ _ _ (((w.alloc (.cells #[.int .i64 n] 3)).alloc (.cells #[.slice none 0 0] 28)).alloc (.cells #[.int .i64 0] 29))
  have hW0 : (((w.alloc (.cells #[.int .i64 n] 3)).alloc (.cells #[.slice none 0 0] 28)).alloc (.cells #[.int .i64 0] 29)).heap.size = w.heap.size + 3 := by simp
  generalize ((w.alloc (.cells #[.int .i64 n] 3)).alloc (.cells #[.slice none 0 0] 28)).alloc (.cells #[.int .i64 0] 29) = W0 at *
  simp only [Nat.add_assoc, Nat.reduceAdd] at H0 ⊢
  have HW0 := hideIt hW0
  clear hW0
  go_upto_region 2 with fail
  have e0 := HW0.out
  have r0 := World.ownsRow_made (base := w.heap.size + 3) (e := 26) (size := 3) W0 cs m (by omega) (by unfold maxLen; omega) hcs
  have b0 := Box.made (W0.alloc (.cells cs 26)) 28 #[.slice (some ⟨W0.heap.size, 0, none⟩) 0 m]
  rw [World.size_alloc] at b0
  have H1 := (H0.past (.cells cs 26)).past (.cells #[.slice (some ⟨W0.heap.size, 0, none⟩) 0 m] 28)
  have r1 := r0.alloc (.cells #[.slice (some ⟨W0.heap.size, 0, none⟩) 0 m] 28)
  have hW1 : ((W0.alloc (.cells cs 26)).alloc (.cells #[.slice (some ⟨W0.heap.size, 0, none⟩) 0 m] 28)).heap.size = w.heap.size + 5 := by simp [e0]
  rw [e0] at b0 H1 r1 hW1 ⊢
  simp only [Nat.add_assoc, Nat.reduceAdd] at b0 ⊢
  generalize (W0.alloc (.cells cs 26)).alloc (.cells #[.slice (some ⟨w.heap.size + 3, 0, none⟩) 0 m] 28) = W1 at *
  clear r0 H0 HW0 e0 hmk
  have HW1 := hideIt hW1
  clear hW1
  go_wp2_with (first
    | (go_at_call 44; refine (cP _).mono ?_; rintro e v1 ⟨rfl, rfl⟩)
    | fail)
  have e1 := HW1.out
  have bxR := Box.made W1 28 #[.slice A N c]
  have LY := chainA (Below.refl W1.heap.size W1) (.cells #[.slice A N c] 28)
  have KY := H1.call LY
  have RY := hR.call KY.below
  have r2 := r1.alloc (.cells #[.slice A N c] 28)
  have b2 := b0.past (.cells #[.slice A N c] 28)
  have hYs : (W1.alloc (.cells #[.slice A N c] 28)).heap.size = w.heap.size + 6 := by simp [e1]
  rw [e1] at bxR ⊢
  generalize W1.alloc (.cells #[.slice A N c] 28) = Y at *
  clear LY H1 cP HW1 e1 r1 b0
  have hTY := hT.call KY.below
  have hAS : ∀ ad, A = some ad → 0 < ys.length → ad.block < w.heap.size := fun ad e h0 => by
    obtain ⟨r, hr⟩ : ∃ r, ys[0]? = some r := ⟨_, List.getElem?_eq_getElem h0⟩
    obtain ⟨ad', e', h', -⟩ := hR 0 r hr
    rw [e] at e'
    injection e' with e'
    rw [e']
    exact h'
  refine (wpIn_wide (n := 9)).1 ?_
  refine wpIn_rangeFunc_ownH (F := Fence.wide) (n := 9) rfl (by decide) (gf := 53) (lb := #[.pointer (some ⟨w.heap.size + 5, 0, none⟩)]) rfl trivial (enters_of Tryd.func53 (by kernel_rfl) rfl)
    (encs := fun x : PrOf ys => #[x.1.1.val, x.1.2.val]) (Kp := KpE Y.heap.size (fun i => i = w.heap.size + 3 ∨ i = w.heap.size + 4)) (S := fun xs => xs.map (·.1) = pairsK ys) (Sp := fun pre => pre.map (·.1) <+: pairsK ys) (N := m) (w0 := Y)
    ?hseq (fun a b => a.trans b) (fun W l o o' hl _ _ _ => KpE.putObj W l o' hl) (Below.refl _ _) (fun _ => rfl)
    (fun pre W => JaI w Y.heap.size n (pre.map fun x => x.1) W) (fun c pre W => c = .ret ∧ okP n (pre.map fun x => x.1) = false ∧ Has w [(w.heap.size + 2, 29, #[.int .i64 10]), (w.heap.size + 1, 28, #[.slice none 0 0])] W)
    ?hI ?hIx ?h0
    (fun x a' W => ∃ Bx By, Y.heap.size ≤ Bx ∧ Y.heap.size ≤ By ∧ Box W Bx 26 (ndB x.1.1.hash x.1.1.h x.1.1.l) ∧ Box W By 26 (ndB x.1.2.hash x.1.2.h x.1.2.l) ∧
      a' = { tmps := #[.int .i64 n, .slice A N c, .pointer (some ⟨w.heap.size, 0, none⟩), undef, .pointer (some ⟨w.heap.size + 1, 0, none⟩), .pointer (some ⟨w.heap.size + 2, 0, none⟩), .pointer (some ⟨w.heap.size + 4, 0, none⟩), .pointer (some ⟨Bx, 0, none⟩), .pointer (some ⟨By, 0, none⟩), undef, undef, .slice A N c, .int .i64 N, .int .i64 m, .slice (some ⟨w.heap.size + 3, 0, none⟩) 0 m, .slice A N c, .func (.func 53) #[] #[.pointer (some ⟨w.heap.size + 5, 0, none⟩)], x.1.1.val, x.1.2.val, undef, undef, undef, undef, undef, undef, undef, undef, undef, undef, undef, undef, undef, undef, undef], defers := [] })
    ?hAx ?assign ?body ?done ?stop
  case hseq =>
    intro l J Jx W hW hJ hJx hY h0
    have := pairs_in Y.heap.size (fun i => i = w.heap.size + 3 ∨ i = w.heap.size + 4) 8 (by decide) l (w.heap.size + 5) A c m ys hm hmx J Jx W hW.size hJ hY (by rw [hN]; exact bxR.call hW) ((RY.more (by omega)).call hW) ⟨by omega, by omega⟩ ?_ h0
    · exact this
    · intro ad e h0 hs
      have := hAS ad e h0
      omega
  case hI =>
    rintro q W W' row ⟨h1, h2, h3, v, h4, h5, h6⟩ hg hr
    have hr3 : ∀ r, row = some r → Y.heap.size ≤ r := fun r e => (hr r e).1
    refine ⟨Nat.le_trans h1 hg.size, h2, h3.grownE hg (fun r e => by have := hr3 r e; omega) (fun r e x hx => by
      have := hr3 r e
      simp only [List.mem_cons, List.not_mem_nil, or_false] at hx
      rcases hx with rfl | rfl | rfl <;> simp only <;> omega), v, h4.grown hg (fun e => by have := hr3 _ e.symm; omega), ?_, h6⟩
    refine h5.kept hg ?_
    by_cases hv : v.ownBlock = none
    · exact Or.inl hv
    · refine Or.inr fun e => ?_
      rcases h5.2 with ⟨rfl, -⟩ | ⟨gg, cap, cur, rfl, hb, hgg, -⟩
      · exact hv rfl
      · obtain ⟨-, o, ho, hc⟩ := hr gg e.symm
        rw [hgg] at ho
        cases ho
        cases hc
  case hIx =>
    rintro cc q W W' row ⟨h1, h2, h3⟩ hg hr
    exact ⟨h1, h2, h3.grownE hg (fun r e => by have := (hr r e).1; omega) fun r e x hx => by
      have := (hr r e).1
      simp only [List.mem_cons, List.not_mem_nil, or_false] at hx
      rcases hx with rfl | rfl <;> simp only <;> omega⟩
  case h0 => exact ⟨Nat.le_refl _, rfl, KY, _, b2, r2, fun r e => by injection e with e; exact Or.inl e.symm⟩
  case hAx =>
    rintro x a' s W W' row ⟨Bx, By, h1, h2, h3, h4, h5⟩ hg hr
    exact ⟨Bx, By, h1, h2, box_ownE (β := Unit) Bx _ _ (fun _ => _) () W W' row h3 hg hr, box_ownE (β := Unit) By _ _ (fun _ => _) () W W' row h4 hg hr, h5⟩
  case assign =>
    rintro lk pre ⟨⟨⟨xs, xh, xl⟩, ⟨zs, zh, zl⟩⟩, hq⟩ W K hI hK2
    simp only [Nd.val] at hK2 ⊢
    gi_wp2
    have hb := chainA (chainA (Below.refl W.heap.size W) (.cells (ndB xs xh xl) 26)) (.cells (ndB zs zh zl) 26)
    have hHs := hI.1
    have bz := Box.made (W.alloc (.cells (ndB xs xh xl) 26)) 26 (ndB zs zh zl)
    rw [World.size_alloc] at bz
    exact hK2 _ _ (keepsFrom_belowE hb) (KpE.below hb hHs) (hI.call hb) ⟨W.heap.size, W.heap.size + 1, hHs, Nat.le_succ_of_le hHs, (Box.made _ _ _).past _, bz, rfl⟩
  case body =>
    rintro lk pre ⟨⟨⟨xs, xh, xl⟩, ⟨zs, zh, zl⟩⟩, hq⟩ a' W hl ⟨rr, hrr⟩ hI ⟨Bx, By, hBx, hBy, bx, by_, rfl⟩ hlt
    simp only [Nd.val]
    obtain ⟨hHs, hok, hJ, v, bv, hrow, hvb⟩ := hI
    obtain ⟨l0, l1, l2, -, -, -, li⟩ := bx.three
    obtain ⟨r0, r1, r2, -, -, -, ri⟩ := by_.three
    have n0 := (hJ.box 2).read 0
    have hin2 := (hJ.box 2).inside
    obtain ⟨⟨hxo, hxh⟩, ⟨hzo, hzh⟩⟩ := And.intro (hy _ hq.1) (hy _ hq.2)
    have cJ := fun u hu => join14_any n ⟨xs, xh, xl⟩ ⟨zs, zh, zl⟩ (Nat.le_trans (of_size hxo) (by decide)) (Nat.le_trans (of_size hzo) (by decide)) hxh hzh u hu
    have hjc := join_code n ⟨xs, xh, xl⟩ ⟨zs, zh, zl⟩
    have hJP : joinP n (pre.map (fun x => x.1) ++ [(⟨xs, xh, xl⟩, ⟨zs, zh, zl⟩)]) = joinP n (pre.map fun x => x.1) ++ [(joinS n ⟨xs, xh, xl⟩ ⟨zs, zh, zl⟩).1] := by simp [joinP]
    have hOK : okP n (pre.map (fun x => x.1) ++ [(⟨xs, xh, xl⟩, ⟨zs, zh, zl⟩)]) = decide ((joinS n ⟨xs, xh, xl⟩ ⟨zs, zh, zl⟩).2 = 0) := by
      unfold okP at hok ⊢
      rw [List.all_append, hok, Bool.true_and]
      simp
    obtain ⟨⟨⟨js, jh, jl⟩, je⟩, hJe⟩ : ∃ V, joinS n ⟨xs, xh, xl⟩ ⟨zs, zh, zl⟩ = V := ⟨_, rfl⟩
    rw [hJe] at hjc cJ hJP hOK
    simp only [Nd.val] at cJ hJP hOK
    have HJP := hideIt hJP
    have HOK := hideIt hOK
    clear hJP hOK hJe hok
    rcases hjc with h0 | h0
    · simp only at h0
      subst h0
      obtain ⟨i0, hi, hz0, hz1, hz2⟩ := info_parts info_nd
      have vne : some (w.heap.size + 4) ≠ v.ownBlock := fun e => by have := hvb _ e.symm; omega
      have hml : (pre.map fun x => x.1).length + 1 ≤ maxLen := by rw [List.length_map]; unfold maxLen; omega
      have hpl : ((pre.map fun x => x.1).length + 1) * 32 ≤ 140737488355328 := by rw [List.length_map]; omega
      have hcn : ∀ u : World, ∀ j x, (ndS.cells ⟨js, jh, jl⟩)[j]? = some x → ((u.alloc (.cells (ndB js jh jl) 26)).alloc (.cells (ndB js jh jl) 26)).cell? ((⟨u.heap.size + 1, 0, none⟩ : Addr).add j) = some x := fun u => by
        have h := cells_new4 (u.alloc (.cells (ndB js jh jl) 26)) 26 (ndS.cells ⟨js, jh, jl⟩)
        rw [World.size_alloc] at h
        exact h
      gi_wp2_with (first
        | (gi_at_builtin; refine wpListIn_append_own_at _ rfl _ _ 28 rfl (w.heap.size + 3) 26 i0 (.agg #[.string ⟨#[]⟩, .int .u64 0, .int .u64 0]) 3 32 Tryd.underlying28 hi hz0 hz1 hz2 rfl (by decide) _ _ _ rfl (o6.alloc _) ⟨w6.heap.size + 1, 0, none⟩ 1 1 (ndS.cells ⟨js, jh, jl⟩) rfl rfl (hcn _) (ndS.one _) hml hpl (Nat.le_trans (by omega) s6) ?_; intro v' w7 hown' hgrow hnil hown2; obtain ⟨g', cap', rfl⟩ := ownsRow_succ hown'; have v7 := (v6.past (.cells (ndB js jh jl) 26)).grown hgrow vne; have vc := v7.read 0; have vf := v7.free 0; have vi := v7.inside)
        | (refine ⟨trivial, ?_⟩; gi_at_call 21; refine (CallsIn.inRound lk (callsIn_wide.2 (cJ _ (hT.call hJ.below)))).mono ?_; rintro e w6 ⟨rfl, b6⟩; have J6 := (hJ.call b6).past (.cells (ndB js jh jl) 26); have v6 := (bv.call b6).past (.cells (ndB js jh jl) 26); have o6 := (own_below hrow b6).alloc (.cells (ndB js jh jl) 26); have x6 := Box.made w6 26 (ndB js jh jl); obtain ⟨z0, z1, z2, -, -, -, zi⟩ := x6.three; have v0 := v6.read 0; have v1 := v6.inside; have s6 : Y.heap.size ≤ ((w6.alloc (.cells (ndB js jh jl) 26)).alloc (.cells (ndB js jh jl) 26)).heap.size := (by have := b6.size; simp; omega))
        | fail)
      have J7 := (J6.past (.cells (ndB js jh jl) 26)).grownE hgrow (fun r e => by have := hvb r e; omega) (fun r e x hx => by
        have := hvb r e
        simp only [List.mem_cons, List.not_mem_nil, or_false] at hx
        rcases hx with rfl | rfl | rfl <;> simp only <;> omega)
      obtain ⟨y1, y2, y3, y4, y5⟩ := Boxed.appended v6 (by decide) o6 (by have := b6.size; simp; omega) (by omega) hown' hgrow
      have kf := (keepsFrom_belowE (B := Y.heap.size) (chainA b6 (.cells (ndB js jh jl) 26))).trans (y4.from _)
      have kp : KpE Y.heap.size (fun i => i = w.heap.size + 3 ∨ i = w.heap.size + 4) W w7 := (KpE.below (chainA (chainA b6 (.cells (ndB js jh jl) 26)) (.cells (ndB js jh jl) 26)) hHs).trans ⟨hgrow.size, fun i hi hs => hgrow.block i (by have := b6.size; simp; omega) (fun e => by
        rcases hvb i e.symm with h | h
        · exact hs (Or.inl h)
        · omega)⟩
      have kp2 := kp.trans (KpE.set_ w7 ⟨w.heap.size + 4, 0, none⟩ (.slice (some ⟨g', 0, none⟩) ((pre.map fun x => x.1).length + 1) cap') (Or.inr rfl))
      rw [List.length_map] at kf kp2 y2 y3 hown2
      refine ⟨kf, kp2, Nat.le_trans hHs kp2.1, ?_, J7.set_ (p := ⟨w.heap.size + 4, 0, none⟩) (by simp only; omega) (fun x hx => by
        simp only [List.mem_cons, List.not_mem_nil, or_false] at hx
        rcases hx with rfl | rfl | rfl <;> simp only <;> omega) _, _, y2, ?_, ?_⟩
      · rw [List.map_append]
        exact HOK.out.trans (by simp)
      · rw [List.map_append, List.map_cons, List.map_nil, HJP.out, List.length_append, List.length_map, ndS.flat_app, ndS.flat_one]
        exact y3
      · intro r e
        rcases hown2 with h | h
        · rw [h] at e; exact hvb r e
        · rw [h] at e
          injection e with e
          right
          have := b6.size
          simp at e
          omega
    · injection h0 with h0 h1
      simp only [Nd.zero, Nd.mk.injEq] at h0
      obtain ⟨rfl, rfl, rfl⟩ := h0
      subst h1
      gi_wp2_with (first
        | (refine ⟨trivial, ?_⟩; gi_at_call 21; refine (CallsIn.inRound lk (callsIn_wide.2 (cJ _ (hT.call hJ.below)))).mono ?_; rintro e w6 ⟨rfl, b6⟩; have J6 := (hJ.call b6).past (.cells (ndB ⟨#[]⟩ 0 0) 26); have x6 := Box.made w6 26 (ndB ⟨#[]⟩ 0 0); obtain ⟨z0, z1, z2, -, -, -, zi⟩ := x6.three; have v0 := (J6.box 0).read 0; have v1 := (J6.box 0).inside; have v2 := (J6.box 0).free 0; have u0 := (J6.box 1).read 0; have u1 := (J6.box 1).inside; have u2 := (J6.box 1).free 0)
        | fail)
      have kf := (keepsFrom_belowE (B := Y.heap.size) (chainA b6 (.cells (ndB ⟨#[]⟩ 0 0) 26))).trans (((KeepsOthers.setCell _ ⟨w.heap.size + 1, 0, none⟩ (.slice none 0 0)).trans (KeepsOthers.setCell _ ⟨w.heap.size + 2, 0, none⟩ (.int .i64 10))).from Y.heap.size)
      have E := ((J6.swap.wrote (by omega) (fun x hx => by
        simp only [List.mem_cons, List.not_mem_nil, or_false] at hx
        rcases hx with rfl | rfl <;> simp only <;> omega) 0 (.slice none 0 0)).swap.wrote (by omega) (fun x hx => by
        simp only [List.mem_cons, List.not_mem_nil, or_false] at hx
        rcases hx with rfl | rfl <;> simp only <;> omega) 0 (.int .i64 10))
      exact ⟨kf, rfl, by rw [List.map_append]; exact HOK.out.trans (decide_eq_false (by decide)), E.some_ fun x hx => by
        simp only [List.mem_cons, List.not_mem_nil, or_false] at hx
        rcases hx with rfl | rfl <;> simp⟩
  case done =>
    rintro D xs W hD hxs ⟨hHs, hok, hJ, v, bv, hrow, hvb⟩ hK2
    have hxs' : xs.map (fun x => x.1) = pairsK ys := hxs
    rw [hxs'] at hok hrow
    have hpl := pairsK_len m ys hm
    rw [joinP_pairs n m ys hm, hpl] at hrow
    obtain ⟨A', c', rfl, -, -⟩ := Sh.own_row (S := ndS) (T := 26) (l := pairL n ys) (by rw [pairL_len n m ys hm]; exact hrow)
    rw [pairL_len n m ys hm] at hrow bv hvb
    have v0 := (hJ.box 0).read 0
    have v1 := (hJ.box 0).inside
    have v2 := (hJ.box 0).free 0
    have u0 := (hJ.box 1).read 0
    have u1 := (hJ.box 1).inside
    have u2 := (hJ.box 1).free 0
    have t0 := bv.read 0
    have t1 := bv.inside
    have E := ((hJ.swap.wrote (by omega) (fun x hx => by
      simp only [List.mem_cons, List.not_mem_nil, or_false] at hx
      rcases hx with rfl | rfl <;> simp only <;> omega) 0 (.slice A' m c')).swap.wrote (by omega) (fun x hx => by
      simp only [List.mem_cons, List.not_mem_nil, or_false] at hx
      rcases hx with rfl | rfl <;> simp only <;> omega) 0 (.int .i64 0))
    have hr2 := (hrow.kept (grownBy_setCell' W (w.heap.size + 1) (.slice A' m c')) (.inr fun e => by have := hvb _ e; omega)).kept (grownBy_setCell' _ (w.heap.size + 2) (.int .i64 0)) (.inr fun e => by have := hvb _ e; omega)
    have hK3 : ((W.setCell ⟨w.heap.size + 1, 0, none⟩ (.slice A' m c')).setCell ⟨w.heap.size + 2, 0, none⟩ (.int .i64 0)).heap[D]? = some (.deferred (some [])) :=
      ((Below.heap_setCell _ ⟨w.heap.size + 2, 0, none⟩ _ D (by dsimp only; omega)).trans (Below.heap_setCell _ ⟨w.heap.size + 1, 0, none⟩ _ D (by dsimp only; omega))).trans hK2
    try dsimp only [Exit.inBlock, Exit.then]
    go_wp2
    refine ⟨by simp, .inl ⟨_, _, rfl, run_takeDeferred hK3, ?_⟩⟩
    have b2 := box_putE (o' := .deferred none) (E.box 1) (show w.heap.size + 1 ≠ D by omega)
    have b3 := box_putE (o' := .deferred none) (E.box 0) (show w.heap.size + 2 ≠ D by omega)
    have bw := E.below.trans (belowK_b (w := w) (Nat.le_refl _) _ D _ (.deferred none) (by omega) hK3 rfl rfl)
    have hr3 := ownsRow_putObj hr2 (.deferred none) hK3 rfl
    generalize World.putObj _ D _ = Z at *
    have x2 : Z.cell? ⟨w.heap.size + 1, 0, none⟩ = some (.slice A' m c') := b2.read 0
    have x3 : Z.cell? ⟨w.heap.size + 2, 0, none⟩ = some (.int .i64 0) := b3.read 0
    have hr4 : ∃ A2 c2, (Value.slice A' m c' = .slice A2 (pairL n ys).length c2) ∧ (A2 = none → c2 = 0) ∧ ndS.Row Z Z.heap.size A2 (pairL n ys) := Sh.own_row (S := ndS) (T := 26) (l := pairL n ys) (by rw [pairL_len n m ys hm]; exact hr3)
    obtain ⟨A2, c2, e2, -, hr5⟩ := hr4
    injection e2 with e2
    subst e2
    exact ⟨.tuple #[.slice A' m c', .int .i64 0], by simp [results, Tryd.results31, go_sem, x2, x3], bw, Or.inl ⟨hok, A', c', rfl, hr5⟩⟩
  case stop =>
    rintro D cc pre W hD hSp ⟨rfl, hno, hK⟩ hK2
    have hno2 : okP n (pairsK ys) = false := by
      obtain ⟨rest, hrest⟩ := hSp
      rw [← hrest]
      unfold okP at hno ⊢
      rw [List.all_append, hno, Bool.false_and]
    gi_wp2
    refine ⟨by simp, .inl ⟨_, _, rfl, run_takeDeferred hK2, ?_⟩⟩
    have b2 := box_putE (o' := .deferred none) (hK.box 1) (show w.heap.size + 1 ≠ D by omega)
    have b3 := box_putE (o' := .deferred none) (hK.box 0) (show w.heap.size + 2 ≠ D by omega)
    have bw := hK.below.trans (belowK_b (w := w) (Nat.le_refl _) _ D _ (.deferred none) (by omega) hK2 rfl rfl)
    generalize World.putObj _ D _ = Z at *
    have x2 : Z.cell? ⟨w.heap.size + 1, 0, none⟩ = some (.slice none 0 0) := b2.read 0
    have x3 : Z.cell? ⟨w.heap.size + 2, 0, none⟩ = some (.int .i64 10) := b3.read 0
    exact ⟨.tuple #[.slice none 0 0, .int .i64 10], by simp [results, Tryd.results31, go_sem, x2, x3], bw, Or.inr ⟨hno2, rfl⟩⟩
end Go.Proofs.YtjbaeiifamendaaDoor
