/-
  Package proof's All, walked: of the tree only what Leaf and entry tell is asked.
-/
import Derived.Test.YtjndabnegmecmaaU16Pos
import Derived.Test.YtjndabnegmecmaaW5Round
import Derived.Maps.OwnIn
import Derived.Deep.AppendLies
namespace Go.Proofs.Ytjndabnegmecmaa
set_option linter.unusedVariables false
set_option linter.unusedSimpArgs false
set_option maxRecDepth 10000
open Go.RowKit Go.Shelf
attribute [local go_sem] Oper.semAt_some

def enE : El enS := ⟨46, 31, .agg #[.bool false, .string ⟨#[]⟩, .string ⟨#[]⟩, .int .u64 0, .int .u64 0, .int .u64 0, .slice none 0 0], 88, Try.underlying46, by kernel_rfl, rfl, by decide⟩
theorem en_app1 (w : World) (base : Nat) (v : Value) (n : Nat) (ys : List EnM) (hown : w.ownsRow base 31 7 v n (enS.flat ys)) (x : EnM) (hm : n ≤ 100000000) (hb : base ≤ w.heap.size) :
    ∃ v' w', (∀ ty, (Builtin.append_ #[46, 46] ty #[v, .slice (some ⟨w.heap.size, 0, none⟩) 1 1]).run Try.prog (w.alloc (.cells (enV x.lf x.pos x.A x.n x.c) 31)) = .ok v' w') ∧
      w'.ownsRow base 31 7 v' (n + 1) (enS.flat (ys ++ [x])) ∧ (w.alloc (.cells (enV x.lf x.pos x.A x.n x.c) 31)).grownBy w' v.ownBlock ∧ Below base w w' := enE.app1 w base v n ys hown x _ rfl hm hb
theorem own_slice16 {W : World} {b k n : Nat} {T : TypeId} {v : Value} {xs : List Value} (h : W.ownsRow b T k v n xs) : ∃ A c, v = .slice A n c := by
  rcases h.2 with ⟨h1, h2⟩ | ⟨g, cap, cur, hv, -⟩
  · exact ⟨none, 0, by rw [h1, h2]⟩
  · exact ⟨_, _, hv⟩
/-- What goes on in All's loop. -/
def AlI (w : World) (H : Nat) (a : Option Addr) (S : Nat → List Nd) (pre : List (Nat × Lf)) (W : World) : Prop :=
  H ≤ W.heap.size ∧ Has w [(w.heap.size, 37, #[.pointer a])] W ∧ ∃ v ms, Box W (w.heap.size + 1) 46 #[v] ∧ W.ownsRow H 31 7 v pre.length (enS.flat ms) ∧ ms.length = pre.length ∧ EnOk W H S pre ms
theorem AlI.call {w W W' : World} {H : Nat} {a : Option Addr} {S : Nat → List Nd} {pre : List (Nat × Lf)} (h : AlI w H a S pre W) (hb : Below W.heap.size W W') : AlI w H a S pre W' := by
  obtain ⟨h1, h2, v, ms, h3, h4, h5, h6⟩ := h
  exact ⟨Nat.le_trans h1 hb.size, h2.call hb, v, ms, h3.call hb, own_below h4 hb, h5, h6.call hb⟩
set_option maxRecDepth 100000 in
set_option maxHeartbeats 8000000 in
theorem all16_any (a : Option Addr) (l : List Lf) (hl : l.length ≤ 1000000) (S : Nat → List Nd) (I : World → Prop) (w : World) (hI0 : I w) (hst : ∀ u u', I u → (∀ b, b < w.heap.size → u'.heap[b]? = u.heap[b]?) → I u')
    (hL : ∀ u, I u → ∀ p : Nat, p < 18446744073709551616 → Calls Try.prog 20 #[.pointer a, .int .u64 p] u (Tells (.tuple #[(lfAt l p).val, .bool (decide (p < l.length))]) u.heap.size u))
    (hE : ∀ u, I u → ∀ (p : Nat) x, l[p]? = some x → Calls Try.prog 21 #[.pointer a, .int .u64 p, x.val] u (fun e w' => Below u.heap.size u w' ∧ ∃ A c, e = .returned (.agg (enV x p A (S p).length c)) ∧ SdAt w' u.heap.size A (S p))) :
    Calls Try.prog 10 #[.pointer a] w (fun e w' => Below w.heap.size w w' ∧ ∃ v ms, e = .returned v ∧ w'.ownsRow (w.heap.size + 3) 31 7 v l.length (enS.flat ms) ∧ ms.length = l.length ∧ EnOk w' (w.heap.size + 3) S (posL l) ms) := by
  have cP := fun u => positions_any a u
  have H0 := (Has.start w).addAt 37 #[.pointer a] (g := w.heap.size) rfl
  have B0 := Box.made (w.alloc (.cells #[.pointer a] 37)) 46 #[.slice none 0 0]
  rw [World.size_alloc] at B0
  have H1 := H0.past (.cells #[.slice none 0 0] 46)
  refine (callsIn_wide (n := 9)).1 (callsIn_of_wp_marks Try.func10 rfl trivial ?_ rfl)
  simp only [Try.ntmps10, List.size_toArray, List.length_cons, List.length_nil, Nat.reduceAdd, Nat.reduceSub, Array.replicate_succ, Array.replicate_zero, List.push_toArray, List.append_toArray, List.nil_append, List.cons_append]
  refine wpIn_wide.2 ?_
  refine Code.wp_mono (noPan_to _) ?_
  go_upto_region 2 with fail
  change Code.wp _ _ _ _ ((w.alloc (.cells #[.pointer a] 37)).alloc (.cells #[.slice none 0 0] 46))
  have hW1 : ((w.alloc (.cells #[.pointer a] 37)).alloc (.cells #[.slice none 0 0] 46)).heap.size = w.heap.size + 2 := by simp
  generalize (w.alloc (.cells #[.pointer a] 37)).alloc (.cells #[.slice none 0 0] 46) = W1 at *
  clear H0
  have y0 := (H1.box 0).read 0
  have yin := (H1.box 0).inside
  go_wp2_with (first
    | (go_at_call 23; refine (cP _).mono ?_; rintro e v1 ⟨rfl, rfl⟩)
    | fail)
  have e1 := hW1
  have bxT := Box.made W1 37 #[.pointer a]
  have LY := chainA (Below.refl W1.heap.size W1) (.cells #[.pointer a] 37)
  have KY := H1.call LY
  have bA := B0.call LY
  have hYs : (W1.alloc (.cells #[.pointer a] 37)).heap.size = w.heap.size + 3 := by simp [e1]
  rw [e1] at bxT
  change Code.wp _ _ _ _ (W1.alloc (.cells #[.pointer a] 37))
  generalize W1.alloc (.cells #[.pointer a] 37) = Y at *
  clear LY H1 cP hW1 e1 B0 y0 yin
  have hIY := hst _ _ hI0 (fun b hb => KY.below.block b hb)
  have hst2 : ∀ u u', I u → KpE Y.heap.size (fun i => i = w.heap.size + 1) u u' → I u' := fun u u' hu hk => hst u u' hu fun b hb => hk.2 b (by omega) (by omega)
  refine (wpIn_wide (n := 9)).1 ?_
  refine wpIn_rangeFunc_ownH (F := Fence.wide) (n := 9) rfl (by decide) (gf := 31) (lb := #[.pointer (some ⟨w.heap.size + 2, 0, none⟩)]) rfl trivial (enters_of Try.func31 (by kernel_rfl) rfl)
    (encs := fun x : PoOf l => #[.int .u64 (x.1.1 : Int), x.1.2.val]) (Kp := KpE Y.heap.size (fun i => i = w.heap.size + 1)) (S := fun xs => xs.map (·.1) = posL l) (Sp := fun pre => pre.map (·.1) <+: posL l) (N := l.length) (w0 := Y)
    ?hseq (fun a b => a.trans b) (fun W l o o' hl _ _ _ => KpE.putObj W l o' hl) (Below.refl _ _) (fun _ => rfl)
    (fun pre W => AlI w Y.heap.size a S (pre.map fun x => x.1) W ∧ I W) (fun _ _ _ => False)
    ?hI (fun _ _ _ _ _ hs _ _ => hs) ?h0
    (fun x a' W => ∃ Bx, Y.heap.size ≤ Bx ∧ Box W Bx 26 (lfB x.1.2.pad x.1.2.id x.1.2.salt x.1.2.h x.1.2.l) ∧
      a' = { tmps := #[.pointer a, .pointer (some ⟨w.heap.size, 0, none⟩), .slice none 0 0, .pointer (some ⟨w.heap.size + 1, 0, none⟩), .int .u64 (x.1.1 : Int), .pointer (some ⟨Bx, 0, none⟩), .pointer a, .func (.func 31) #[] #[.pointer (some ⟨w.heap.size + 2, 0, none⟩)], .int .u64 (x.1.1 : Int), x.1.2.val, undef, undef, undef, undef, undef, undef, undef, undef], defers := [] })
    ?hAx ?assign ?body ?done ?stop
  case hseq =>
    intro y J Jx W hW hJ hJx hY h0
    exact positions_in Y.heap.size (fun i => i = w.heap.size + 1) 8 (by decide) y (w.heap.size + 2) a l hl I hst2 hL J Jx W hW.size hJ hY (bxT.call hW) ⟨by omega, by omega⟩ (hst2 _ _ hIY (KpE.below hW (Nat.le_refl _))) h0
  case hI =>
    rintro q W W' row ⟨⟨h1, h2, v, ms, h3, h4, h5, h6⟩, hIW⟩ hg hr
    have hr3 : ∀ r, row = some r → Y.heap.size ≤ r := fun r e => (hr r e).1
    refine ⟨⟨Nat.le_trans h1 hg.size, h2.grownE hg (fun r e => by have := hr3 r e; omega) (fun r e x hx => by
      have := hr3 r e
      simp only [List.mem_cons, List.not_mem_nil, or_false] at hx
      rcases hx with rfl
      simp only
      omega), v, ms, h3.grown hg (fun e => by have := hr3 _ e.symm; omega), ?_, h5, ?_⟩, hst2 _ _ hIW ⟨hg.size, fun i hi _ => hg.block i (by omega) (fun e => by have := hr3 i e.symm; omega)⟩⟩
    · refine h4.kept hg ?_
      by_cases hv : v.ownBlock = none
      · exact Or.inl hv
      · refine Or.inr fun e => ?_
        rcases h4.2 with ⟨rfl, -⟩ | ⟨gg, cap, cur, rfl, hb, hgg, -⟩
        · exact hv rfl
        · obtain ⟨-, o, ho, hc⟩ := hr gg e.symm
          rw [hgg] at ho
          cases ho
          cases hc
    · refine h6.keep fun b _ hlt ⟨cs, fr, hcs⟩ => hg.block b hlt fun e => ?_
      obtain ⟨-, o, ho, hc⟩ := hr b e.symm
      rw [hcs] at ho
      cases ho
      cases hc
  case h0 => exact ⟨⟨Nat.le_refl _, KY, _, [], bA, World.ownsRow_nil _ _ _ _, rfl, fun i m hm => by simp at hm⟩, hIY⟩
  case hAx =>
    rintro x a' s W W' row ⟨Bx, h1, h2, h3⟩ hg hr
    exact ⟨Bx, h1, box_ownE (β := Unit) Bx _ _ (fun _ => _) () W W' row h2 hg hr, h3⟩
  case assign =>
    rintro lk pre ⟨⟨p, ⟨xp, xi, xs, xh, xl⟩⟩, hq⟩ W K ⟨hI, hIW⟩ hK2
    simp only [Lf.val] at hK2 ⊢
    have hHs := hI.1
    gi_wp2
    have hb := chainA (Below.refl W.heap.size W) (.cells (lfB xp xi xs xh xl) 26)
    exact hK2 _ _ (keepsFrom_belowE hb) (KpE.below hb hHs) ⟨hI.call hb, hst2 _ _ hIW (KpE.below hb hHs)⟩ ⟨W.heap.size, hHs, Box.made _ _ _, rfl⟩
  case body =>
    rintro lk pre ⟨⟨p, ⟨xp, xi, xs, xh, xl⟩⟩, hq⟩ a' W hlk ⟨rr, hrr⟩ ⟨hI, hIW⟩ ⟨Bx, hBx, bx, rfl⟩ hlt
    simp only [Lf.val]
    obtain ⟨hHs, hJ, v, ms, bv, hrow, hmn, hok⟩ := hI
    have hq : l[p]? = some ⟨xp, xi, xs, xh, xl⟩ := hq
    have bx : Box W Bx 26 (lfB xp xi xs xh xl) := bx
    have cE := fun u hu => hE u hu p _ hq
    simp only [Lf.val] at cE
    have hpl : (pre.map fun x => x.1).length ≤ 100000000 := by rw [List.length_map]; omega
    obtain ⟨Q, hQ⟩ : ∃ Q, (pre.map fun x => x.1) = Q := ⟨_, rfl⟩
    obtain ⟨T, hT⟩ : ∃ T, S p = T := ⟨_, rfl⟩
    rw [hQ] at hrow hmn hok hpl
    rw [hT] at cE
    have HQ := hideIt hQ
    have HT := hideIt hT
    clear hQ hT hL
    obtain ⟨M, hM⟩ : ∃ M, Q.length = M := ⟨_, rfl⟩
    rw [hM] at hrow hpl
    have HM := hideIt hM
    clear hM
    have hmx : Try.prog.follows .mixedOrders = true := by kernel_rfl
    have hS : ∀ u, Below W.heap.size W u → (u.cell? ⟨w.heap.size, 0, none⟩ = some (.pointer a) ∧ w.heap.size < u.heap.size) ∧ (u.cell? ⟨Bx, 0, none⟩ = some (.bool xp) ∧ u.cell? ⟨Bx, 1, none⟩ = some (.string xi) ∧ u.cell? ⟨Bx, 2, none⟩ = some (.string xs) ∧ u.cell? ⟨Bx, 3, none⟩ = some (.int .u64 xh) ∧ u.cell? ⟨Bx, 4, none⟩ = some (.int .u64 xl)) ∧ Bx < u.heap.size := fun u hb =>
      ⟨⟨((hJ.call hb).box 0).read 0, ((hJ.call hb).box 0).inside⟩, (bx.call hb).five0.1, (bx.call hb).inside⟩
    gi_wp2
    refine region_round (S := fun u => (u.cell? ⟨w.heap.size, 0, none⟩ = some (.pointer a) ∧ w.heap.size < u.heap.size) ∧ (u.cell? ⟨Bx, 0, none⟩ = some (.bool xp) ∧ u.cell? ⟨Bx, 1, none⟩ = some (.string xi) ∧ u.cell? ⟨Bx, 2, none⟩ = some (.string xs) ∧ u.cell? ⟨Bx, 3, none⟩ = some (.int .u64 xh) ∧ u.cell? ⟨Bx, 4, none⟩ = some (.int .u64 xl)) ∧ Bx < u.heap.size) hmx (by kernel_rfl) (fun ⟨a, u, h⟩ => h) (hS _ (Below.refl _ _).drew) (fun hHeld => ?_)
    have b0 := (Below.refl W.heap.size W).drew
    have hI0' := hst2 _ _ hIW (KpE.below b0 hHs)
    have y0 := (bv.call b0).read 0
    have yin := (bv.call b0).inside
    have hs0 : Y.heap.size ≤ W.drew.heap.size := Nat.le_trans hHs b0.size
    generalize W.drew = Wd at *
    refine wpAnyH_take (i := 1) (v := ?_) rfl (by kernel_rfl) (by kernel_rfl) (by kernel_rfl) (fun _ _ _ h => h) (Or.inl ⟨by rfl, ?_⟩) (by assumption) ?_
    rotate_left 1
    · intro w hSw; (try dsimp only at hSw); go_simp; try with_reducible rfl
    try simp only [Act.put, List.getElem_toArray, List.getElem_cons_succ, List.getElem_cons_zero, List.setIfInBounds_toArray, List.set_cons_zero, List.set_cons_succ]
    refine wpAnyH_take (i := 2) (v := ?_) rfl (by kernel_rfl) (by kernel_rfl) (by kernel_rfl) (fun _ _ _ h => h) (Or.inl ⟨by rfl, ?_⟩) (by assumption) ?_
    rotate_left 1
    · intro w hSw; (try dsimp only at hSw); go_simp; try with_reducible rfl
    try simp only [Act.put, List.getElem_toArray, List.getElem_cons_succ, List.getElem_cons_zero, List.setIfInBounds_toArray, List.set_cons_zero, List.set_cons_succ]
    refine wpAnyH_take (i := 3) (v := ?_) rfl (by kernel_rfl) (by kernel_rfl) (by kernel_rfl) (fun _ _ _ h => h) (Or.inl ⟨by rfl, ?_⟩) (by assumption) ?_
    rotate_left 1
    · intro w hSw; (try dsimp only at hSw); go_simp; try with_reducible rfl
    try simp only [Act.put, List.getElem_toArray, List.getElem_cons_succ, List.getElem_cons_zero, List.setIfInBounds_toArray, List.set_cons_zero, List.set_cons_succ]
    refine wpAnyH_ready (rs := [0, 4]) (by kernel_rfl) (by simp) (AllReadyH.cons rfl (fun K hK => ?_) (AllReadyH.cons rfl (fun K hK => ?_) AllReadyH.nil))
    · go_simp
      refine hK.out _ _ (hS _ b0) (fun hHeld => ?_)
      clear hK K
      try simp only [Act.put, List.getElem_toArray, List.getElem_cons_succ, List.getElem_cons_zero, List.setIfInBounds_toArray, List.set_cons_zero, List.set_cons_succ]
      refine wpAnyH_ready (rs := [4]) (by kernel_rfl) (by simp) (AllReadyH.cons rfl (fun K hK => ?_) AllReadyH.nil)
      go_simp
      clear y0 yin
      go_at_call 21
      refine (cE _ hI0').mono ?_
      rintro e w3 ⟨b3, A3, c3, rfl, hSd⟩
      have b4 := chain b0 b3
      have b5 := chainA b4 (.cells (enV ⟨xp, xi, xs, xh, xl⟩ p A3 T.length c3) 31)
      have y0 := (bv.call b4).read 0
      have yin := (bv.call b4).inside
      have z0 := (bv.call b5).read 0
      have zin := (bv.call b5).inside
      have hs3 : Y.heap.size ≤ w3.heap.size := Nat.le_trans hHs b4.size
      try simp only []
      refine hK.out _ _ (hS _ b4) (fun hHeld => ?_)
      clear hK K
      try simp only [Act.put, List.getElem_toArray, List.getElem_cons_succ, List.getElem_cons_zero, List.setIfInBounds_toArray, List.set_cons_zero, List.set_cons_succ]
      refine wpAnyH_ready (rs := [5]) (by kernel_rfl) (by simp) (AllReadyH.cons rfl (fun K hK => ?_) AllReadyH.nil)
      go_simp
      refine hK.out _ _ (hS _ b5) (fun hHeld => ?_)
      clear hK K
      try simp only [Act.put, List.getElem_toArray, List.getElem_cons_succ, List.getElem_cons_zero, List.setIfInBounds_toArray, List.set_cons_zero, List.set_cons_succ]
      have O3 := own_below hrow b4
      obtain ⟨v', w6, hrun, o6, gr6, b6⟩ := en_app1 w3 Y.heap.size v M ms O3 ⟨⟨xp, xi, xs, xh, xl⟩, p, A3, T.length, c3⟩ hpl hs3
      obtain ⟨A6, c6, rfl⟩ := own_slice16 o6
      have own3 := O3.alloc (.cells (enV ⟨xp, xi, xs, xh, xl⟩ p A3 T.length c3) 31)
      have X6 := (bx.call b5).grown gr6 (own_ty own3 (bx.call b5) (by decide))
      have J6 := ((hJ.call b5).box 0).grown gr6 (own_ty own3 ((hJ.call b5).box 0) (by decide))
      obtain ⟨V6, F7, -, kf, bf⟩ := Boxed.appended (bv.call b4) (by decide) (own_mono O3 (show w.heap.size + 1 ≤ Y.heap.size by omega)) (by omega) (Nat.le_refl _) (own_mono o6 (show w.heap.size + 1 ≤ Y.heap.size by omega)) gr6
      have V6 : Box w6 (w.heap.size + 1) 46 #[v] := V6
      have F7 : Box (w6.setCell ⟨w.heap.size + 1, 0, none⟩ (.slice A6 (M + 1) c6)) (w.heap.size + 1) 46 #[.slice A6 (M + 1) c6] := F7
      have ok6 := ((((hok.call b4).snoc hmn (q := (p, ⟨xp, xi, xs, xh, xl⟩)) (m := ⟨⟨xp, xi, xs, xh, xl⟩, p, A3, T.length, c3⟩) rfl rfl (by rw [HT.out]) (by rw [HT.out]; exact hSd.more hs0)).call (chainA (Below.refl _ w3) _)).grown own3 (by decide) gr6).set_ V6 (by decide) 0 (.slice A6 (M + 1) c6)
      have o7 := own_apart o6 (p := ⟨w.heap.size + 1, 0, none⟩) (fun e => by have := o6.lt _ e; simp only at this; omega) (.slice A6 (M + 1) c6)
      have X7 := X6.apart (p := ⟨w.heap.size + 1, 0, none⟩) (X6.type_ne V6 (by decide)) (.slice A6 (M + 1) c6)
      have J7 := J6.apart (p := ⟨w.heap.size + 1, 0, none⟩) (by show w.heap.size ≠ w.heap.size + 1; omega) (.slice A6 (M + 1) c6)
      have y0 := V6.read 0
      have yf := V6.free 0
      have yin := V6.inside
      refine wpAnyH_ready (rs := [6]) (by kernel_rfl) (by simp) (AllReadyH.cons rfl (fun K hK => ?_) AllReadyH.nil)
      refine gen_step rfl _ _ _ rfl _ _ rfl rfl _ w6 hrun ?_
      refine hK.out _ _ (⟨⟨J6.read 0, J6.inside⟩, X6.five0.1, X6.inside⟩) (fun hHeld => ?_)
      clear hK K
      try simp only [Act.put, List.getElem_toArray, List.getElem_cons_succ, List.getElem_cons_zero, List.setIfInBounds_toArray, List.set_cons_zero, List.set_cons_succ]
      refine wpAnyH_ready (rs := [7]) (by kernel_rfl) (by simp) (AllReadyH.cons rfl (fun K hK => ?_) AllReadyH.nil)
      go_simp
      have kp : KpE Y.heap.size (fun i => i = w.heap.size + 1) W (w6.setCell ⟨w.heap.size + 1, 0, none⟩ (.slice A6 (M + 1) c6)) := ((KpE.below b5 hHs).trans ⟨gr6.size, fun i hi _ => gr6.block i (Nat.lt_of_lt_of_le hi (Nat.le_trans hHs b5.size)) (fun e => by have := own3.lt i e.symm; omega)⟩).trans (KpE.set_ w6 _ _ rfl)
      have hbw := (hJ.call b4).below.trans (bf.mono (Nat.le_succ _))
      have kf2 := (keepsFrom_belowE (B := Y.heap.size) b4).trans (kf.from Y.heap.size)
      generalize World.setCell w6 _ _ = W9 at *
      refine hK.out _ _ (⟨⟨J7.read 0, J7.inside⟩, X7.five0.1, X7.inside⟩) (fun hHeld => ?_)
      clear hK K
      try simp only [Act.put, List.getElem_toArray, List.getElem_cons_succ, List.getElem_cons_zero, List.setIfInBounds_toArray, List.set_cons_zero, List.set_cons_succ]
      refine wpAnyH_done (by kernel_rfl) ?_ _
      try dsimp only [Exit.inBlock, Exit.then]
      clear y0 yf yin z0 zin
      gi_wp2
      have hI9 := hst2 _ _ hIW kp
      rw [hYs] at kf2 kp hHs o7 ok6
      refine ⟨kf2, kp, ⟨Nat.le_trans hHs kp.1, ⟨fun x hx => by obtain rfl := List.mem_singleton.1 hx; exact J7, hbw⟩, _, ms ++ [⟨⟨xp, xi, xs, xh, xl⟩, p, A3, T.length, c3⟩], F7, ?_, ?_, ?_⟩, hI9⟩
      · rw [List.map_append, HQ.out, List.length_append, HM.out]
        exact o7
      · rw [List.map_append, HQ.out, List.length_append, List.length_append, hmn]
        rfl
      · rw [List.map_append, HQ.out]
        exact ok6
    · go_simp
      clear y0 yin
      go_at_call 21
      refine (cE _ hI0').mono ?_
      rintro e w3 ⟨b3, A3, c3, rfl, hSd⟩
      have b4 := chain b0 b3
      have b5 := chainA b4 (.cells (enV ⟨xp, xi, xs, xh, xl⟩ p A3 T.length c3) 31)
      have y0 := (bv.call b4).read 0
      have yin := (bv.call b4).inside
      have z0 := (bv.call b5).read 0
      have zin := (bv.call b5).inside
      have hs3 : Y.heap.size ≤ w3.heap.size := Nat.le_trans hHs b4.size
      try simp only []
      refine hK.out _ _ (hS _ b4) (fun hHeld => ?_)
      clear hK K
      try simp only [Act.put, List.getElem_toArray, List.getElem_cons_succ, List.getElem_cons_zero, List.setIfInBounds_toArray, List.set_cons_zero, List.set_cons_succ]
      refine wpAnyH_ready (rs := [0, 5]) (by kernel_rfl) (by simp) (AllReadyH.cons rfl (fun K hK => ?_) (AllReadyH.cons rfl (fun K hK => ?_) AllReadyH.nil))
      · go_simp
        refine hK.out _ _ (hS _ b4) (fun hHeld => ?_)
        clear hK K
        try simp only [Act.put, List.getElem_toArray, List.getElem_cons_succ, List.getElem_cons_zero, List.setIfInBounds_toArray, List.set_cons_zero, List.set_cons_succ]
        refine wpAnyH_ready (rs := [5]) (by kernel_rfl) (by simp) (AllReadyH.cons rfl (fun K hK => ?_) AllReadyH.nil)
        go_simp
        refine hK.out _ _ (hS _ b5) (fun hHeld => ?_)
        clear hK K
        try simp only [Act.put, List.getElem_toArray, List.getElem_cons_succ, List.getElem_cons_zero, List.setIfInBounds_toArray, List.set_cons_zero, List.set_cons_succ]
        have O3 := own_below hrow b4
        obtain ⟨v', w6, hrun, o6, gr6, b6⟩ := en_app1 w3 Y.heap.size v M ms O3 ⟨⟨xp, xi, xs, xh, xl⟩, p, A3, T.length, c3⟩ hpl hs3
        obtain ⟨A6, c6, rfl⟩ := own_slice16 o6
        have own3 := O3.alloc (.cells (enV ⟨xp, xi, xs, xh, xl⟩ p A3 T.length c3) 31)
        have X6 := (bx.call b5).grown gr6 (own_ty own3 (bx.call b5) (by decide))
        have J6 := ((hJ.call b5).box 0).grown gr6 (own_ty own3 ((hJ.call b5).box 0) (by decide))
        obtain ⟨V6, F7, -, kf, bf⟩ := Boxed.appended (bv.call b4) (by decide) (own_mono O3 (show w.heap.size + 1 ≤ Y.heap.size by omega)) (by omega) (Nat.le_refl _) (own_mono o6 (show w.heap.size + 1 ≤ Y.heap.size by omega)) gr6
        have V6 : Box w6 (w.heap.size + 1) 46 #[v] := V6
        have F7 : Box (w6.setCell ⟨w.heap.size + 1, 0, none⟩ (.slice A6 (M + 1) c6)) (w.heap.size + 1) 46 #[.slice A6 (M + 1) c6] := F7
        have ok6 := ((((hok.call b4).snoc hmn (q := (p, ⟨xp, xi, xs, xh, xl⟩)) (m := ⟨⟨xp, xi, xs, xh, xl⟩, p, A3, T.length, c3⟩) rfl rfl (by rw [HT.out]) (by rw [HT.out]; exact hSd.more hs0)).call (chainA (Below.refl _ w3) _)).grown own3 (by decide) gr6).set_ V6 (by decide) 0 (.slice A6 (M + 1) c6)
        have o7 := own_apart o6 (p := ⟨w.heap.size + 1, 0, none⟩) (fun e => by have := o6.lt _ e; simp only at this; omega) (.slice A6 (M + 1) c6)
        have X7 := X6.apart (p := ⟨w.heap.size + 1, 0, none⟩) (X6.type_ne V6 (by decide)) (.slice A6 (M + 1) c6)
        have J7 := J6.apart (p := ⟨w.heap.size + 1, 0, none⟩) (by show w.heap.size ≠ w.heap.size + 1; omega) (.slice A6 (M + 1) c6)
        have y0 := V6.read 0
        have yf := V6.free 0
        have yin := V6.inside
        refine wpAnyH_ready (rs := [6]) (by kernel_rfl) (by simp) (AllReadyH.cons rfl (fun K hK => ?_) AllReadyH.nil)
        refine gen_step rfl _ _ _ rfl _ _ rfl rfl _ w6 hrun ?_
        refine hK.out _ _ (⟨⟨J6.read 0, J6.inside⟩, X6.five0.1, X6.inside⟩) (fun hHeld => ?_)
        clear hK K
        try simp only [Act.put, List.getElem_toArray, List.getElem_cons_succ, List.getElem_cons_zero, List.setIfInBounds_toArray, List.set_cons_zero, List.set_cons_succ]
        refine wpAnyH_ready (rs := [7]) (by kernel_rfl) (by simp) (AllReadyH.cons rfl (fun K hK => ?_) AllReadyH.nil)
        go_simp
        have kp : KpE Y.heap.size (fun i => i = w.heap.size + 1) W (w6.setCell ⟨w.heap.size + 1, 0, none⟩ (.slice A6 (M + 1) c6)) := ((KpE.below b5 hHs).trans ⟨gr6.size, fun i hi _ => gr6.block i (Nat.lt_of_lt_of_le hi (Nat.le_trans hHs b5.size)) (fun e => by have := own3.lt i e.symm; omega)⟩).trans (KpE.set_ w6 _ _ rfl)
        have hbw := (hJ.call b4).below.trans (bf.mono (Nat.le_succ _))
        have kf2 := (keepsFrom_belowE (B := Y.heap.size) b4).trans (kf.from Y.heap.size)
        generalize World.setCell w6 _ _ = W9 at *
        refine hK.out _ _ (⟨⟨J7.read 0, J7.inside⟩, X7.five0.1, X7.inside⟩) (fun hHeld => ?_)
        clear hK K
        try simp only [Act.put, List.getElem_toArray, List.getElem_cons_succ, List.getElem_cons_zero, List.setIfInBounds_toArray, List.set_cons_zero, List.set_cons_succ]
        refine wpAnyH_done (by kernel_rfl) ?_ _
        try dsimp only [Exit.inBlock, Exit.then]
        clear y0 yf yin z0 zin
        gi_wp2
        have hI9 := hst2 _ _ hIW kp
        rw [hYs] at kf2 kp hHs o7 ok6
        refine ⟨kf2, kp, ⟨Nat.le_trans hHs kp.1, ⟨fun x hx => by obtain rfl := List.mem_singleton.1 hx; exact J7, hbw⟩, _, ms ++ [⟨⟨xp, xi, xs, xh, xl⟩, p, A3, T.length, c3⟩], F7, ?_, ?_, ?_⟩, hI9⟩
        · rw [List.map_append, HQ.out, List.length_append, HM.out]
          exact o7
        · rw [List.map_append, HQ.out, List.length_append, List.length_append, hmn]
          rfl
        · rw [List.map_append, HQ.out]
          exact ok6
      · go_simp
        refine hK.out _ _ (hS _ b5) (fun hHeld => ?_)
        clear hK K
        try simp only [Act.put, List.getElem_toArray, List.getElem_cons_succ, List.getElem_cons_zero, List.setIfInBounds_toArray, List.set_cons_zero, List.set_cons_succ]
        refine wpAnyH_ready (rs := [0]) (by kernel_rfl) (by simp) (AllReadyH.cons rfl (fun K hK => ?_) AllReadyH.nil)
        go_simp
        refine hK.out _ _ (hS _ b5) (fun hHeld => ?_)
        clear hK K
        try simp only [Act.put, List.getElem_toArray, List.getElem_cons_succ, List.getElem_cons_zero, List.setIfInBounds_toArray, List.set_cons_zero, List.set_cons_succ]
        have O3 := own_below hrow b4
        obtain ⟨v', w6, hrun, o6, gr6, b6⟩ := en_app1 w3 Y.heap.size v M ms O3 ⟨⟨xp, xi, xs, xh, xl⟩, p, A3, T.length, c3⟩ hpl hs3
        obtain ⟨A6, c6, rfl⟩ := own_slice16 o6
        have own3 := O3.alloc (.cells (enV ⟨xp, xi, xs, xh, xl⟩ p A3 T.length c3) 31)
        have X6 := (bx.call b5).grown gr6 (own_ty own3 (bx.call b5) (by decide))
        have J6 := ((hJ.call b5).box 0).grown gr6 (own_ty own3 ((hJ.call b5).box 0) (by decide))
        obtain ⟨V6, F7, -, kf, bf⟩ := Boxed.appended (bv.call b4) (by decide) (own_mono O3 (show w.heap.size + 1 ≤ Y.heap.size by omega)) (by omega) (Nat.le_refl _) (own_mono o6 (show w.heap.size + 1 ≤ Y.heap.size by omega)) gr6
        have V6 : Box w6 (w.heap.size + 1) 46 #[v] := V6
        have F7 : Box (w6.setCell ⟨w.heap.size + 1, 0, none⟩ (.slice A6 (M + 1) c6)) (w.heap.size + 1) 46 #[.slice A6 (M + 1) c6] := F7
        have ok6 := ((((hok.call b4).snoc hmn (q := (p, ⟨xp, xi, xs, xh, xl⟩)) (m := ⟨⟨xp, xi, xs, xh, xl⟩, p, A3, T.length, c3⟩) rfl rfl (by rw [HT.out]) (by rw [HT.out]; exact hSd.more hs0)).call (chainA (Below.refl _ w3) _)).grown own3 (by decide) gr6).set_ V6 (by decide) 0 (.slice A6 (M + 1) c6)
        have o7 := own_apart o6 (p := ⟨w.heap.size + 1, 0, none⟩) (fun e => by have := o6.lt _ e; simp only at this; omega) (.slice A6 (M + 1) c6)
        have X7 := X6.apart (p := ⟨w.heap.size + 1, 0, none⟩) (X6.type_ne V6 (by decide)) (.slice A6 (M + 1) c6)
        have J7 := J6.apart (p := ⟨w.heap.size + 1, 0, none⟩) (by show w.heap.size ≠ w.heap.size + 1; omega) (.slice A6 (M + 1) c6)
        have y0 := V6.read 0
        have yf := V6.free 0
        have yin := V6.inside
        refine wpAnyH_ready (rs := [6]) (by kernel_rfl) (by simp) (AllReadyH.cons rfl (fun K hK => ?_) AllReadyH.nil)
        refine gen_step rfl _ _ _ rfl _ _ rfl rfl _ w6 hrun ?_
        refine hK.out _ _ (⟨⟨J6.read 0, J6.inside⟩, X6.five0.1, X6.inside⟩) (fun hHeld => ?_)
        clear hK K
        try simp only [Act.put, List.getElem_toArray, List.getElem_cons_succ, List.getElem_cons_zero, List.setIfInBounds_toArray, List.set_cons_zero, List.set_cons_succ]
        refine wpAnyH_ready (rs := [7]) (by kernel_rfl) (by simp) (AllReadyH.cons rfl (fun K hK => ?_) AllReadyH.nil)
        go_simp
        have kp : KpE Y.heap.size (fun i => i = w.heap.size + 1) W (w6.setCell ⟨w.heap.size + 1, 0, none⟩ (.slice A6 (M + 1) c6)) := ((KpE.below b5 hHs).trans ⟨gr6.size, fun i hi _ => gr6.block i (Nat.lt_of_lt_of_le hi (Nat.le_trans hHs b5.size)) (fun e => by have := own3.lt i e.symm; omega)⟩).trans (KpE.set_ w6 _ _ rfl)
        have hbw := (hJ.call b4).below.trans (bf.mono (Nat.le_succ _))
        have kf2 := (keepsFrom_belowE (B := Y.heap.size) b4).trans (kf.from Y.heap.size)
        generalize World.setCell w6 _ _ = W9 at *
        refine hK.out _ _ (⟨⟨J7.read 0, J7.inside⟩, X7.five0.1, X7.inside⟩) (fun hHeld => ?_)
        clear hK K
        try simp only [Act.put, List.getElem_toArray, List.getElem_cons_succ, List.getElem_cons_zero, List.setIfInBounds_toArray, List.set_cons_zero, List.set_cons_succ]
        refine wpAnyH_done (by kernel_rfl) ?_ _
        try dsimp only [Exit.inBlock, Exit.then]
        clear y0 yf yin z0 zin
        gi_wp2
        have hI9 := hst2 _ _ hIW kp
        rw [hYs] at kf2 kp hHs o7 ok6
        refine ⟨kf2, kp, ⟨Nat.le_trans hHs kp.1, ⟨fun x hx => by obtain rfl := List.mem_singleton.1 hx; exact J7, hbw⟩, _, ms ++ [⟨⟨xp, xi, xs, xh, xl⟩, p, A3, T.length, c3⟩], F7, ?_, ?_, ?_⟩, hI9⟩
        · rw [List.map_append, HQ.out, List.length_append, HM.out]
          exact o7
        · rw [List.map_append, HQ.out, List.length_append, List.length_append, hmn]
          rfl
        · rw [List.map_append, HQ.out]
          exact ok6
  case done =>
    rintro D xs W hD hxs ⟨⟨hHs, hJ, v, ms, bv, hrow, hmn, hok⟩, hIW⟩ hK2
    have hxs' : xs.map (fun x => x.1) = posL l := hxs
    rw [hxs', posL_len] at hrow hmn
    rw [hxs'] at hok
    have y0 := bv.read 0
    have yin := bv.inside
    obtain ⟨A6, c6, rfl⟩ := own_slice16 hrow
    try dsimp only [Exit.inBlock, Exit.then]
    go_wp2
    refine ⟨by simp, .inl ⟨_, _, rfl, run_takeDeferred hK2, ?_⟩⟩
    have bw := hJ.below.trans (belowK_b (w := w) (Nat.le_refl _) W D _ (.deferred none) (by omega) hK2 rfl rfl)
    have hr3 := ownsRow_putObj hrow (.deferred none) hK2 rfl
    have ok3 : EnOk (W.putObj D (.deferred none)) Y.heap.size S (posL l) ms := hok.keep fun b _ _ ⟨cs, fr, hc⟩ => World.putObj_heap_other fun e => by
      rw [e, hK2] at hc
      injection hc with hc
      cases hc
    rw [hYs] at hr3 ok3
    exact ⟨.slice A6 l.length c6, by simp [results, Try.results10, go_sem], bw, _, ms, rfl, hr3, hmn, ok3⟩
  case stop =>
    rintro D cc pre W _ _ hh _
    exact hh.elim
end Go.Proofs.Ytjndabnegmecmaa
