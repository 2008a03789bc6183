/-
  The law VerifyHigh: under a root of a height above 63, or below 0, nothing holds; nor under one without a digest, or with more than 32 bytes. Conditions: none.
-/
import Derived.Test.YtkecekfapiegjaaDoorM17Opn
namespace Go.Proofs.YtkecekfapiegjaaDoor
set_option linter.unusedVariables false
set_option linter.unusedSimpArgs false
set_option maxRecDepth 10000
open Go.ChangeShapes Go.WideShapes Go.ChangeAt Go.RowKit

/-- An entry alone in a row. -/
theorem en_row1 (w : World) (m : EnM) : enS.Row (w.alloc (.cells (enV m.lf m.pos m.A m.n m.c) 39)) (w.alloc (.cells (enV m.lf m.pos m.A m.n m.c) 39)).heap.size (some ⟨w.heap.size, 0, none⟩) [m] :=
  Sh.row_box (S := enS) (d := [m]) (Box.made w 39 (enV m.lf m.pos m.A m.n m.c))
/-- So many bytes 97. -/
def asB : Nat → ByteArray
  | 0 => ⟨#[]⟩
  | k + 1 => asB k ++ ⟨#[97]⟩
theorem asB_size : ∀ k, (asB k).size = k
  | 0 => rfl
  | k + 1 => by
    rw [asB, ByteArray.size_append, asB_size k]
    rfl
theorem put_one17 {W : World} {g : Nat} {T : TypeId} {cs : Array Value} (z : Box W g T cs) (i : Nat) (v : Value) :
    Box (W.setCell ⟨g, i, none⟩ v) g T (cs.setIfInBounds i v) ∧ Off (One g) W (W.setCell ⟨g, i, none⟩ v) := ⟨z.wrote i v, (Off.refl (One g) W).set_ (p := ⟨g, i, none⟩) (Or.inl rfl) v⟩
theorem put_four17 {W : World} {g : Nat} {T : TypeId} {a b c d : Value} (z : Box W g T #[a, b, c, d]) (s : ByteArray) (h l n : Int) :
    Box (World.setCell (World.setCell (World.setCell (World.setCell W ⟨g, 0, none⟩ (.string s)) ⟨g, 1, none⟩ (.int .u64 h)) ⟨g, 2, none⟩ (.int .u64 l)) ⟨g, 3, none⟩ (.int .i64 n)) g T (rtB s h l n) ∧
      Off (One g) W (World.setCell (World.setCell (World.setCell (World.setCell W ⟨g, 0, none⟩ (.string s)) ⟨g, 1, none⟩ (.int .u64 h)) ⟨g, 2, none⟩ (.int .u64 l)) ⟨g, 3, none⟩ (.int .i64 n)) :=
  ⟨(((z.wrote 0 (.string s)).wrote 1 (.int .u64 h)).wrote 2 (.int .u64 l)).wrote 3 (.int .i64 n),
    ((((Off.refl (One g) W).set_ (p := ⟨g, 0, none⟩) (Or.inl rfl) (.string s)).set_ (p := ⟨g, 1, none⟩) (Or.inl rfl) (.int .u64 h)).set_ (p := ⟨g, 2, none⟩) (Or.inl rfl) (.int .u64 l)).set_ (p := ⟨g, 3, none⟩) (Or.inl rfl) (.int .i64 n)⟩
set_option maxRecDepth 100000 in
set_option maxHeartbeats 8000000 in
theorem verifyHigh_any (r : RtP) (hr : r.fine17) (x : Lf) (q : Nat) (hq : q < 18446744073709551616) (A : Option Addr) (c : Nat) (l : List Nd) (hl : l.length ≤ 9223372036854775807) (hf : ∀ y ∈ l, y.fine) (hx : x.fine15) (more : Nat) (hm : more < 256) (w : World) (hR : ndS.Row w w.heap.size A l) (hK : Tab w) (hU : TabU w) :
    Calls Tryd.prog 5 #[r.val, .agg (enV x q A l.length c), .int .u8 more] w (Tells (.bool true) w.heap.size w) := by
  have cL := fun u (hu : ndS.Row u u.heap.size A l) => long17_any r hr.1 (some ⟨u.heap.size, 0, none⟩) 1 [⟨x, q, A, l.length, c⟩] (fun _ => l) (by simp) (u.alloc (.cells (enV x q A l.length c) 39)) (en_row1 u ⟨x, q, A, l.length, c⟩) (fun i m hm => by
    have hb := chainA (Below.refl u.heap.size u) (.cells (enV x q A l.length c) 39)
    cases i with
    | zero =>
      obtain rfl : (⟨x, q, A, l.length, c⟩ : EnM) = m := by simpa using hm
      exact ⟨hx, ⟨by simp only; omega, by simp only; omega⟩, rfl, hl, hf, hu.on hb⟩
    | succ i => simp at hm)
  have hlong : ∀ e, LongP r [⟨x, q, A, l.length, c⟩] (fun _ => l) e → e = .returned (.bool true) ∨ e = .returned (.bool false) ∧ longE x l = false := fun e h => by
    rcases h with h | ⟨h, -, -, h2⟩
    · exact Or.inl h
    · exact Or.inr ⟨h, h2 0 _ rfl⟩
  have hlong2 := fun (h : longE x l = false) => longE_no h
  obtain ⟨B, hB⟩ : ∃ B, longE x l = B := ⟨_, rfl⟩
  rw [hB] at hlong hlong2
  obtain ⟨N, hN⟩ : ∃ N, l.length = N := ⟨_, rfl⟩
  rw [hN] at cL hlong hlong2 ⊢
  obtain ⟨rs, rh', rl', rn⟩ := r
  obtain ⟨xp, xi, xs, xh, xl⟩ := x
  obtain ⟨ge, hge⟩ : ∃ g, w.heap.size = g := ⟨_, rfl⟩
  have J0 := ((Has.start w).addAt 26 (rtB rs rh' rl' rn) (g := ge) hge).addAt 39 (enV ⟨xp, xi, xs, xh, xl⟩ q A N c) (g := ge + 1) (by simp [hge])
  simp only [RtP.val, List.length_cons, List.length_nil, Nat.reduceAdd] at cL
  show Calls _ _ #[.agg (rtB rs rh' rl' rn), _, _] _ _
  go_enter Tryd.func5, Tryd.ntmps5
  go_upto_region 1 with fail
  change Code.wp _ _ _ _ ((w.alloc (.cells (rtB rs rh' rl' rn) 26)).alloc (.cells (enV ⟨xp, xi, xs, xh, xl⟩ q A N c) 39))
  generalize (w.alloc (.cells (rtB rs rh' rl' rn) 26)).alloc (.cells (enV ⟨xp, xi, xs, xh, xl⟩ q A N c) 39) = W0 at *
  obtain ⟨⟨x0, x1, x2, x3, x4, x5, x6⟩, xin⟩ := (J0.box 0).seven
  obtain ⟨⟨y0, y1, y2, y3⟩, -, yin⟩ := (J0.box 1).four4
  simp only at x0 x1 x2 x3 x4
  have cL := cL W0 (hR.on J0.below)
  go_upto_region 3 with (first
    | (go_at_call 9; refine cL.mono ?_; rintro e w1 ⟨b1, hP⟩; rcases hlong _ hP with rfl | ⟨rfl, rfl⟩)
    | fail)
  · go_ret
    exact ⟨rfl, by first | exact ((J0.past _).call b1).below | (rw [← hge]; exact ((J0.past _).call b1).below)⟩
  · have J1 : Has w [(ge + 1, 39, enV ⟨xp, xi, xs, xh, xl⟩ q A N c), (ge, 26, rtB rs rh' rl' rn)] w1 := (J0.past _).call b1
    have hS : ∀ u, Below w1.heap.size w1 u → (u.cell? ⟨ge, 0, none⟩ = some (.string rs) ∧ u.cell? ⟨ge, 1, none⟩ = some (.int .u64 rh') ∧ u.cell? ⟨ge, 2, none⟩ = some (.int .u64 rl') ∧ u.cell? ⟨ge, 3, none⟩ = some (.int .i64 rn)) ∧ ge < u.heap.size := fun u hu => ⟨((J1.call hu).box 1).four4.1, ((J1.call hu).box 1).inside⟩
    have hge1 : ge + 1 < w1.heap.size := (J1.box 0).inside
    obtain ⟨n0, hn0⟩ : ∃ n, w1.heap.size = n := ⟨_, rfl⟩
    clear x0 x1 x2 x3 x4 x5 x6 xin cL hlong b1 hP
    go_cut [7, 8, 9, 10] (fun s7 s8 s9 s10 wx => ∃ a b c d : Nat, s7 = .pointer (some ⟨a, 0, none⟩) ∧ s8 = .pointer (some ⟨b, 0, none⟩) ∧ s9 = .pointer (some ⟨c, 0, none⟩) ∧ s10 = .pointer (some ⟨d, 0, none⟩) ∧ Below w1.heap.size w1 wx ∧
      Box wx a 26 (rtB rs rh' rl' rn) ∧ Box wx b 26 (rtB rs rh' rl' rn) ∧ Box wx c 26 (rtB rs rh' rl' rn) ∧ Box wx d 26 (rtB rs rh' rl' rn) ∧ n0 ≤ a ∧ n0 ≤ b ∧ n0 ≤ c ∧ n0 ≤ d ∧ a ≠ b ∧ a ≠ c ∧ a ≠ d ∧ b ≠ c ∧ b ≠ d ∧ c ≠ d)
    case first =>
      have b0 := (Below.refl w1.heap.size w1).drew
      have hs0 : w1.drew.heap.size = n0 := hn0
      refine wp_region_held_drew (S := fun u => (u.cell? ⟨ge, 0, none⟩ = some (.string rs) ∧ u.cell? ⟨ge, 1, none⟩ = some (.int .u64 rh') ∧ u.cell? ⟨ge, 2, none⟩ = some (.int .u64 rl') ∧ u.cell? ⟨ge, 3, none⟩ = some (.int .i64 rn)) ∧ ge < u.heap.size) (by kernel_rfl) (hS _ b0) (fun hHeld => ?_)
      generalize w1.drew = V0 at *
      refine wpAnyH_take (i := 0) (v := ?_) rfl (by kernel_rfl) (by kernel_rfl) (by kernel_rfl) (fun _ _ _ h => h) (Or.inl ⟨by rfl, ?_⟩) (by assumption) ?_
      rotate_left 1
      · intro w hSw; (try dsimp only at hSw); go_simp; try with_reducible rfl
      try simp only [Act.put, List.getElem_toArray, List.getElem_cons_succ, List.getElem_cons_zero, List.setIfInBounds_toArray, List.set_cons_zero, List.set_cons_succ]
      refine wpAnyH_take (i := 1) (v := ?_) rfl (by kernel_rfl) (by kernel_rfl) (by kernel_rfl) (fun _ _ _ h => h) (Or.inl ⟨by rfl, ?_⟩) (by assumption) ?_
      rotate_left 1
      · intro w hSw; (try dsimp only at hSw); go_simp; try with_reducible rfl
      try simp only [Act.put, List.getElem_toArray, List.getElem_cons_succ, List.getElem_cons_zero, List.setIfInBounds_toArray, List.set_cons_zero, List.set_cons_succ]
      refine wpAnyH_take (i := 2) (v := ?_) rfl (by kernel_rfl) (by kernel_rfl) (by kernel_rfl) (fun _ _ _ h => h) (Or.inl ⟨by rfl, ?_⟩) (by assumption) ?_
      rotate_left 1
      · intro w hSw; (try dsimp only at hSw); go_simp; try with_reducible rfl
      try simp only [Act.put, List.getElem_toArray, List.getElem_cons_succ, List.getElem_cons_zero, List.setIfInBounds_toArray, List.set_cons_zero, List.set_cons_succ]
      refine wpAnyH_take (i := 3) (v := ?_) rfl (by kernel_rfl) (by kernel_rfl) (by kernel_rfl) (fun _ _ _ h => h) (Or.inl ⟨by rfl, ?_⟩) (by assumption) ?_
      rotate_left 1
      · intro w hSw; (try dsimp only at hSw); go_simp; try with_reducible rfl
      try simp only [Act.put, List.getElem_toArray, List.getElem_cons_succ, List.getElem_cons_zero, List.setIfInBounds_toArray, List.set_cons_zero, List.set_cons_succ]
      refine wpAnyH_ready (rs := [4, 5, 6, 7]) (by kernel_rfl) (by simp) (AllReadyH.cons rfl (fun K hK => ?_) (AllReadyH.cons rfl (fun K hK => ?_) (AllReadyH.cons rfl (fun K hK => ?_) (AllReadyH.cons rfl (fun K hK => ?_) AllReadyH.nil))))
      · go_simp
        have b1 := chainA b0 (.cells (rtB ⟨#[]⟩ 0 0 0) 26)
        have z7 := Box.madeAt hs0 26 (rtB ⟨#[]⟩ 0 0 0)
        have hs1 : (World.alloc V0 (.cells (rtB ⟨#[]⟩ 0 0 0) 26)).heap.size = n0 + 1 := by simp [hs0]
        try rw [hs0]
        change K _ (World.alloc V0 (.cells (rtB ⟨#[]⟩ 0 0 0) 26))
        generalize World.alloc V0 (.cells (rtB ⟨#[]⟩ 0 0 0) 26) = V1 at *
        refine hK.out _ _ (hS _ b1) (fun hHeld => ?_)
        clear hK K
        try simp only [Act.put, List.getElem_toArray, List.getElem_cons_succ, List.getElem_cons_zero, List.setIfInBounds_toArray, List.set_cons_zero, List.set_cons_succ]
        refine wpAnyH_ready (rs := [5, 6, 7]) (by kernel_rfl) (by simp) (AllReadyH.cons rfl (fun K hK => ?_) (AllReadyH.cons rfl (fun K hK => ?_) (AllReadyH.cons rfl (fun K hK => ?_) AllReadyH.nil)))
        · go_simp
          have b2 := chainA b1 (.cells (rtB ⟨#[]⟩ 0 0 0) 26)
          have z8 := Box.madeAt hs1 26 (rtB ⟨#[]⟩ 0 0 0)
          have z7 := z7.past (.cells (rtB ⟨#[]⟩ 0 0 0) 26)
          have hs2 : (World.alloc V1 (.cells (rtB ⟨#[]⟩ 0 0 0) 26)).heap.size = n0 + 2 := by simp [hs1]
          try rw [hs1]
          change K _ (World.alloc V1 (.cells (rtB ⟨#[]⟩ 0 0 0) 26))
          generalize World.alloc V1 (.cells (rtB ⟨#[]⟩ 0 0 0) 26) = V2 at *
          refine hK.out _ _ (hS _ b2) (fun hHeld => ?_)
          clear hK K
          try simp only [Act.put, List.getElem_toArray, List.getElem_cons_succ, List.getElem_cons_zero, List.setIfInBounds_toArray, List.set_cons_zero, List.set_cons_succ]
          refine wpAnyH_ready (rs := [6, 7]) (by kernel_rfl) (by simp) (AllReadyH.cons rfl (fun K hK => ?_) (AllReadyH.cons rfl (fun K hK => ?_) AllReadyH.nil))
          · go_simp
            have b3 := chainA b2 (.cells (rtB ⟨#[]⟩ 0 0 0) 26)
            have z9 := Box.madeAt hs2 26 (rtB ⟨#[]⟩ 0 0 0)
            have z7 := z7.past (.cells (rtB ⟨#[]⟩ 0 0 0) 26)
            have z8 := z8.past (.cells (rtB ⟨#[]⟩ 0 0 0) 26)
            have hs3 : (World.alloc V2 (.cells (rtB ⟨#[]⟩ 0 0 0) 26)).heap.size = n0 + 3 := by simp [hs2]
            try rw [hs2]
            change K _ (World.alloc V2 (.cells (rtB ⟨#[]⟩ 0 0 0) 26))
            generalize World.alloc V2 (.cells (rtB ⟨#[]⟩ 0 0 0) 26) = V3 at *
            refine hK.out _ _ (hS _ b3) (fun hHeld => ?_)
            clear hK K
            try simp only [Act.put, List.getElem_toArray, List.getElem_cons_succ, List.getElem_cons_zero, List.setIfInBounds_toArray, List.set_cons_zero, List.set_cons_succ]
            refine wpAnyH_ready (rs := [7]) (by kernel_rfl) (by simp) (AllReadyH.cons rfl (fun K hK => ?_) AllReadyH.nil)
            · go_simp
              have b4 := chainA b3 (.cells (rtB ⟨#[]⟩ 0 0 0) 26)
              have z10 := Box.madeAt hs3 26 (rtB ⟨#[]⟩ 0 0 0)
              have z7 := z7.past (.cells (rtB ⟨#[]⟩ 0 0 0) 26)
              have z8 := z8.past (.cells (rtB ⟨#[]⟩ 0 0 0) 26)
              have z9 := z9.past (.cells (rtB ⟨#[]⟩ 0 0 0) 26)
              have hs4 : (World.alloc V3 (.cells (rtB ⟨#[]⟩ 0 0 0) 26)).heap.size = n0 + 4 := by simp [hs3]
              try rw [hs3]
              change K _ (World.alloc V3 (.cells (rtB ⟨#[]⟩ 0 0 0) 26))
              generalize World.alloc V3 (.cells (rtB ⟨#[]⟩ 0 0 0) 26) = V4 at *
              refine hK.out _ _ (hS _ b4) (fun hHeld => ?_)
              clear hK K
              try simp only [Act.put, List.getElem_toArray, List.getElem_cons_succ, List.getElem_cons_zero, List.setIfInBounds_toArray, List.set_cons_zero, List.set_cons_succ]
              obtain ⟨⟨v0, v1, v2, v3⟩, ⟨f0, f1, f2, f3⟩, vin⟩ := z7.four4
              refine wpAnyH_ready (rs := [8]) (by kernel_rfl) (by simp) (AllReadyH.cons rfl (fun K hK => ?_) AllReadyH.nil)
              go_simp
              obtain ⟨z7, o7⟩ := put_four17 z7 rs rh' rl' rn
              have z8 := o7.box z8 (fun e => by have e := (show _ = _ from e); omega)
              have z9 := o7.box z9 (fun e => by have e := (show _ = _ from e); omega)
              have z10 := o7.box z10 (fun e => by have e := (show _ = _ from e); omega)
              have b5 := b4.trans (o7.below (B := w1.heap.size) (fun i hi => by rw [show i = _ from hi]; omega) b4.size)
              generalize World.setCell (World.setCell (World.setCell (World.setCell V4 _ _) _ _) _ _) _ _ = V5 at *
              refine hK.out _ _ (hS _ b5) (fun hHeld => ?_)
              clear hK K
              try simp only [Act.put, List.getElem_toArray, List.getElem_cons_succ, List.getElem_cons_zero, List.setIfInBounds_toArray, List.set_cons_zero, List.set_cons_succ]
              clear v0 v1 v2 v3 f0 f1 f2 f3 vin
              obtain ⟨⟨v0, v1, v2, v3⟩, ⟨f0, f1, f2, f3⟩, vin⟩ := z8.four4
              refine wpAnyH_ready (rs := [9]) (by kernel_rfl) (by simp) (AllReadyH.cons rfl (fun K hK => ?_) AllReadyH.nil)
              go_simp
              obtain ⟨z8, o8⟩ := put_four17 z8 rs rh' rl' rn
              have z7 := o8.box z7 (fun e => by have e := (show _ = _ from e); omega)
              have z9 := o8.box z9 (fun e => by have e := (show _ = _ from e); omega)
              have z10 := o8.box z10 (fun e => by have e := (show _ = _ from e); omega)
              have b6 := b5.trans (o8.below (B := w1.heap.size) (fun i hi => by rw [show i = _ from hi]; omega) b5.size)
              generalize World.setCell (World.setCell (World.setCell (World.setCell V5 _ _) _ _) _ _) _ _ = V6 at *
              refine hK.out _ _ (hS _ b6) (fun hHeld => ?_)
              clear hK K
              try simp only [Act.put, List.getElem_toArray, List.getElem_cons_succ, List.getElem_cons_zero, List.setIfInBounds_toArray, List.set_cons_zero, List.set_cons_succ]
              clear v0 v1 v2 v3 f0 f1 f2 f3 vin
              obtain ⟨⟨v0, v1, v2, v3⟩, ⟨f0, f1, f2, f3⟩, vin⟩ := z9.four4
              refine wpAnyH_ready (rs := [10]) (by kernel_rfl) (by simp) (AllReadyH.cons rfl (fun K hK => ?_) AllReadyH.nil)
              go_simp
              obtain ⟨z9, o9⟩ := put_four17 z9 rs rh' rl' rn
              have z7 := o9.box z7 (fun e => by have e := (show _ = _ from e); omega)
              have z8 := o9.box z8 (fun e => by have e := (show _ = _ from e); omega)
              have z10 := o9.box z10 (fun e => by have e := (show _ = _ from e); omega)
              have b7 := b6.trans (o9.below (B := w1.heap.size) (fun i hi => by rw [show i = _ from hi]; omega) b6.size)
              generalize World.setCell (World.setCell (World.setCell (World.setCell V6 _ _) _ _) _ _) _ _ = V7 at *
              refine hK.out _ _ (hS _ b7) (fun hHeld => ?_)
              clear hK K
              try simp only [Act.put, List.getElem_toArray, List.getElem_cons_succ, List.getElem_cons_zero, List.setIfInBounds_toArray, List.set_cons_zero, List.set_cons_succ]
              clear v0 v1 v2 v3 f0 f1 f2 f3 vin
              obtain ⟨⟨v0, v1, v2, v3⟩, ⟨f0, f1, f2, f3⟩, vin⟩ := z10.four4
              refine wpAnyH_ready (rs := [11]) (by kernel_rfl) (by simp) (AllReadyH.cons rfl (fun K hK => ?_) AllReadyH.nil)
              go_simp
              obtain ⟨z10, o10⟩ := put_four17 z10 rs rh' rl' rn
              have z7 := o10.box z7 (fun e => by have e := (show _ = _ from e); omega)
              have z8 := o10.box z8 (fun e => by have e := (show _ = _ from e); omega)
              have z9 := o10.box z9 (fun e => by have e := (show _ = _ from e); omega)
              have b8 := b7.trans (o10.below (B := w1.heap.size) (fun i hi => by rw [show i = _ from hi]; omega) b7.size)
              generalize World.setCell (World.setCell (World.setCell (World.setCell V7 _ _) _ _) _ _) _ _ = V8 at *
              refine hK.out _ _ (hS _ b8) (fun hHeld => ?_)
              clear hK K
              try simp only [Act.put, List.getElem_toArray, List.getElem_cons_succ, List.getElem_cons_zero, List.setIfInBounds_toArray, List.set_cons_zero, List.set_cons_succ]
              clear v0 v1 v2 v3 f0 f1 f2 f3 vin
              refine wpAnyH_done (by kernel_rfl) ?_ _
              go_wp2
              go_meet
              exact ⟨_, _, _, _, rfl, rfl, rfl, rfl, b8, z7, z8, z9, z10, by omega, by omega, by omega, by omega, by omega, by omega, by omega, by omega, by omega, by omega⟩
          · go_simp
            have b3 := chainA b2 (.cells (rtB ⟨#[]⟩ 0 0 0) 26)
            have z10 := Box.madeAt hs2 26 (rtB ⟨#[]⟩ 0 0 0)
            have z7 := z7.past (.cells (rtB ⟨#[]⟩ 0 0 0) 26)
            have z8 := z8.past (.cells (rtB ⟨#[]⟩ 0 0 0) 26)
            have hs3 : (World.alloc V2 (.cells (rtB ⟨#[]⟩ 0 0 0) 26)).heap.size = n0 + 3 := by simp [hs2]
            try rw [hs2]
            change K _ (World.alloc V2 (.cells (rtB ⟨#[]⟩ 0 0 0) 26))
            generalize World.alloc V2 (.cells (rtB ⟨#[]⟩ 0 0 0) 26) = V3 at *
            refine hK.out _ _ (hS _ b3) (fun hHeld => ?_)
            clear hK K
            try simp only [Act.put, List.getElem_toArray, List.getElem_cons_succ, List.getElem_cons_zero, List.setIfInBounds_toArray, List.set_cons_zero, List.set_cons_succ]
            refine wpAnyH_ready (rs := [6]) (by kernel_rfl) (by simp) (AllReadyH.cons rfl (fun K hK => ?_) AllReadyH.nil)
            · go_simp
              have b4 := chainA b3 (.cells (rtB ⟨#[]⟩ 0 0 0) 26)
              have z9 := Box.madeAt hs3 26 (rtB ⟨#[]⟩ 0 0 0)
              have z7 := z7.past (.cells (rtB ⟨#[]⟩ 0 0 0) 26)
              have z8 := z8.past (.cells (rtB ⟨#[]⟩ 0 0 0) 26)
              have z10 := z10.past (.cells (rtB ⟨#[]⟩ 0 0 0) 26)
              have hs4 : (World.alloc V3 (.cells (rtB ⟨#[]⟩ 0 0 0) 26)).heap.size = n0 + 4 := by simp [hs3]
              try rw [hs3]
              change K _ (World.alloc V3 (.cells (rtB ⟨#[]⟩ 0 0 0) 26))
              generalize World.alloc V3 (.cells (rtB ⟨#[]⟩ 0 0 0) 26) = V4 at *
              refine hK.out _ _ (hS _ b4) (fun hHeld => ?_)
              clear hK K
              try simp only [Act.put, List.getElem_toArray, List.getElem_cons_succ, List.getElem_cons_zero, List.setIfInBounds_toArray, List.set_cons_zero, List.set_cons_succ]
              obtain ⟨⟨v0, v1, v2, v3⟩, ⟨f0, f1, f2, f3⟩, vin⟩ := z7.four4
              refine wpAnyH_ready (rs := [8]) (by kernel_rfl) (by simp) (AllReadyH.cons rfl (fun K hK => ?_) AllReadyH.nil)
              go_simp
              obtain ⟨z7, o7⟩ := put_four17 z7 rs rh' rl' rn
              have z8 := o7.box z8 (fun e => by have e := (show _ = _ from e); omega)
              have z9 := o7.box z9 (fun e => by have e := (show _ = _ from e); omega)
              have z10 := o7.box z10 (fun e => by have e := (show _ = _ from e); omega)
              have b5 := b4.trans (o7.below (B := w1.heap.size) (fun i hi => by rw [show i = _ from hi]; omega) b4.size)
              generalize World.setCell (World.setCell (World.setCell (World.setCell V4 _ _) _ _) _ _) _ _ = V5 at *
              refine hK.out _ _ (hS _ b5) (fun hHeld => ?_)
              clear hK K
              try simp only [Act.put, List.getElem_toArray, List.getElem_cons_succ, List.getElem_cons_zero, List.setIfInBounds_toArray, List.set_cons_zero, List.set_cons_succ]
              clear v0 v1 v2 v3 f0 f1 f2 f3 vin
              obtain ⟨⟨v0, v1, v2, v3⟩, ⟨f0, f1, f2, f3⟩, vin⟩ := z8.four4
              refine wpAnyH_ready (rs := [9]) (by kernel_rfl) (by simp) (AllReadyH.cons rfl (fun K hK => ?_) AllReadyH.nil)
              go_simp
              obtain ⟨z8, o8⟩ := put_four17 z8 rs rh' rl' rn
              have z7 := o8.box z7 (fun e => by have e := (show _ = _ from e); omega)
              have z9 := o8.box z9 (fun e => by have e := (show _ = _ from e); omega)
              have z10 := o8.box z10 (fun e => by have e := (show _ = _ from e); omega)
              have b6 := b5.trans (o8.below (B := w1.heap.size) (fun i hi => by rw [show i = _ from hi]; omega) b5.size)
              generalize World.setCell (World.setCell (World.setCell (World.setCell V5 _ _) _ _) _ _) _ _ = V6 at *
              refine hK.out _ _ (hS _ b6) (fun hHeld => ?_)
              clear hK K
              try simp only [Act.put, List.getElem_toArray, List.getElem_cons_succ, List.getElem_cons_zero, List.setIfInBounds_toArray, List.set_cons_zero, List.set_cons_succ]
              clear v0 v1 v2 v3 f0 f1 f2 f3 vin
              obtain ⟨⟨v0, v1, v2, v3⟩, ⟨f0, f1, f2, f3⟩, vin⟩ := z9.four4
              refine wpAnyH_ready (rs := [10]) (by kernel_rfl) (by simp) (AllReadyH.cons rfl (fun K hK => ?_) AllReadyH.nil)
              go_simp
              obtain ⟨z9, o9⟩ := put_four17 z9 rs rh' rl' rn
              have z7 := o9.box z7 (fun e => by have e := (show _ = _ from e); omega)
              have z8 := o9.box z8 (fun e => by have e := (show _ = _ from e); omega)
              have z10 := o9.box z10 (fun e => by have e := (show _ = _ from e); omega)
              have b7 := b6.trans (o9.below (B := w1.heap.size) (fun i hi => by rw [show i = _ from hi]; omega) b6.size)
              generalize World.setCell (World.setCell (World.setCell (World.setCell V6 _ _) _ _) _ _) _ _ = V7 at *
              refine hK.out _ _ (hS _ b7) (fun hHeld => ?_)
              clear hK K
              try simp only [Act.put, List.getElem_toArray, List.getElem_cons_succ, List.getElem_cons_zero, List.setIfInBounds_toArray, List.set_cons_zero, List.set_cons_succ]
              clear v0 v1 v2 v3 f0 f1 f2 f3 vin
              obtain ⟨⟨v0, v1, v2, v3⟩, ⟨f0, f1, f2, f3⟩, vin⟩ := z10.four4
              refine wpAnyH_ready (rs := [11]) (by kernel_rfl) (by simp) (AllReadyH.cons rfl (fun K hK => ?_) AllReadyH.nil)
              go_simp
              obtain ⟨z10, o10⟩ := put_four17 z10 rs rh' rl' rn
              have z7 := o10.box z7 (fun e => by have e := (show _ = _ from e); omega)
              have z8 := o10.box z8 (fun e => by have e := (show _ = _ from e); omega)
              have z9 := o10.box z9 (fun e => by have e := (show _ = _ from e); omega)
              have b8 := b7.trans (o10.below (B := w1.heap.size) (fun i hi => by rw [show i = _ from hi]; omega) b7.size)
              generalize World.setCell (World.setCell (World.setCell (World.setCell V7 _ _) _ _) _ _) _ _ = V8 at *
              refine hK.out _ _ (hS _ b8) (fun hHeld => ?_)
              clear hK K
              try simp only [Act.put, List.getElem_toArray, List.getElem_cons_succ, List.getElem_cons_zero, List.setIfInBounds_toArray, List.set_cons_zero, List.set_cons_succ]
              clear v0 v1 v2 v3 f0 f1 f2 f3 vin
              refine wpAnyH_done (by kernel_rfl) ?_ _
              go_wp2
              go_meet
              exact ⟨_, _, _, _, rfl, rfl, rfl, rfl, b8, z7, z8, z9, z10, by omega, by omega, by omega, by omega, by omega, by omega, by omega, by omega, by omega, by omega⟩
        · go_simp
          have b2 := chainA b1 (.cells (rtB ⟨#[]⟩ 0 0 0) 26)
          have z9 := Box.madeAt hs1 26 (rtB ⟨#[]⟩ 0 0 0)
          have z7 := z7.past (.cells (rtB ⟨#[]⟩ 0 0 0) 26)
          have hs2 : (World.alloc V1 (.cells (rtB ⟨#[]⟩ 0 0 0) 26)).heap.size = n0 + 2 := by simp [hs1]
          try rw [hs1]
          change K _ (World.alloc V1 (.cells (rtB ⟨#[]⟩ 0 0 0) 26))
          generalize World.alloc V1 (.cells (rtB ⟨#[]⟩ 0 0 0) 26) = V2 at *
          refine hK.out _ _ (hS _ b2) (fun hHeld => ?_)
          clear hK K
          try simp only [Act.put, List.getElem_toArray, List.getElem_cons_succ, List.getElem_cons_zero, List.setIfInBounds_toArray, List.set_cons_zero, List.set_cons_succ]
          refine wpAnyH_ready (rs := [5, 7]) (by kernel_rfl) (by simp) (AllReadyH.cons rfl (fun K hK => ?_) (AllReadyH.cons rfl (fun K hK => ?_) AllReadyH.nil))
          · go_simp
            have b3 := chainA b2 (.cells (rtB ⟨#[]⟩ 0 0 0) 26)
            have z8 := Box.madeAt hs2 26 (rtB ⟨#[]⟩ 0 0 0)
            have z7 := z7.past (.cells (rtB ⟨#[]⟩ 0 0 0) 26)
            have z9 := z9.past (.cells (rtB ⟨#[]⟩ 0 0 0) 26)
            have hs3 : (World.alloc V2 (.cells (rtB ⟨#[]⟩ 0 0 0) 26)).heap.size = n0 + 3 := by simp [hs2]
            try rw [hs2]
            change K _ (World.alloc V2 (.cells (rtB ⟨#[]⟩ 0 0 0) 26))
            generalize World.alloc V2 (.cells (rtB ⟨#[]⟩ 0 0 0) 26) = V3 at *
            refine hK.out _ _ (hS _ b3) (fun hHeld => ?_)
            clear hK K
            try simp only [Act.put, List.getElem_toArray, List.getElem_cons_succ, List.getElem_cons_zero, List.setIfInBounds_toArray, List.set_cons_zero, List.set_cons_succ]
            refine wpAnyH_ready (rs := [7]) (by kernel_rfl) (by simp) (AllReadyH.cons rfl (fun K hK => ?_) AllReadyH.nil)
            · go_simp
              have b4 := chainA b3 (.cells (rtB ⟨#[]⟩ 0 0 0) 26)
              have z10 := Box.madeAt hs3 26 (rtB ⟨#[]⟩ 0 0 0)
              have z7 := z7.past (.cells (rtB ⟨#[]⟩ 0 0 0) 26)
              have z9 := z9.past (.cells (rtB ⟨#[]⟩ 0 0 0) 26)
              have z8 := z8.past (.cells (rtB ⟨#[]⟩ 0 0 0) 26)
              have hs4 : (World.alloc V3 (.cells (rtB ⟨#[]⟩ 0 0 0) 26)).heap.size = n0 + 4 := by simp [hs3]
              try rw [hs3]
              change K _ (World.alloc V3 (.cells (rtB ⟨#[]⟩ 0 0 0) 26))
              generalize World.alloc V3 (.cells (rtB ⟨#[]⟩ 0 0 0) 26) = V4 at *
              refine hK.out _ _ (hS _ b4) (fun hHeld => ?_)
              clear hK K
              try simp only [Act.put, List.getElem_toArray, List.getElem_cons_succ, List.getElem_cons_zero, List.setIfInBounds_toArray, List.set_cons_zero, List.set_cons_succ]
              obtain ⟨⟨v0, v1, v2, v3⟩, ⟨f0, f1, f2, f3⟩, vin⟩ := z7.four4
              refine wpAnyH_ready (rs := [8]) (by kernel_rfl) (by simp) (AllReadyH.cons rfl (fun K hK => ?_) AllReadyH.nil)
              go_simp
              obtain ⟨z7, o7⟩ := put_four17 z7 rs rh' rl' rn
              have z8 := o7.box z8 (fun e => by have e := (show _ = _ from e); omega)
              have z9 := o7.box z9 (fun e => by have e := (show _ = _ from e); omega)
              have z10 := o7.box z10 (fun e => by have e := (show _ = _ from e); omega)
              have b5 := b4.trans (o7.below (B := w1.heap.size) (fun i hi => by rw [show i = _ from hi]; omega) b4.size)
              generalize World.setCell (World.setCell (World.setCell (World.setCell V4 _ _) _ _) _ _) _ _ = V5 at *
              refine hK.out _ _ (hS _ b5) (fun hHeld => ?_)
              clear hK K
              try simp only [Act.put, List.getElem_toArray, List.getElem_cons_succ, List.getElem_cons_zero, List.setIfInBounds_toArray, List.set_cons_zero, List.set_cons_succ]
              clear v0 v1 v2 v3 f0 f1 f2 f3 vin
              obtain ⟨⟨v0, v1, v2, v3⟩, ⟨f0, f1, f2, f3⟩, vin⟩ := z8.four4
              refine wpAnyH_ready (rs := [9]) (by kernel_rfl) (by simp) (AllReadyH.cons rfl (fun K hK => ?_) AllReadyH.nil)
              go_simp
              obtain ⟨z8, o8⟩ := put_four17 z8 rs rh' rl' rn
              have z7 := o8.box z7 (fun e => by have e := (show _ = _ from e); omega)
              have z9 := o8.box z9 (fun e => by have e := (show _ = _ from e); omega)
              have z10 := o8.box z10 (fun e => by have e := (show _ = _ from e); omega)
              have b6 := b5.trans (o8.below (B := w1.heap.size) (fun i hi => by rw [show i = _ from hi]; omega) b5.size)
              generalize World.setCell (World.setCell (World.setCell (World.setCell V5 _ _) _ _) _ _) _ _ = V6 at *
              refine hK.out _ _ (hS _ b6) (fun hHeld => ?_)
              clear hK K
              try simp only [Act.put, List.getElem_toArray, List.getElem_cons_succ, List.getElem_cons_zero, List.setIfInBounds_toArray, List.set_cons_zero, List.set_cons_succ]
              clear v0 v1 v2 v3 f0 f1 f2 f3 vin
              obtain ⟨⟨v0, v1, v2, v3⟩, ⟨f0, f1, f2, f3⟩, vin⟩ := z9.four4
              refine wpAnyH_ready (rs := [10]) (by kernel_rfl) (by simp) (AllReadyH.cons rfl (fun K hK => ?_) AllReadyH.nil)
              go_simp
              obtain ⟨z9, o9⟩ := put_four17 z9 rs rh' rl' rn
              have z7 := o9.box z7 (fun e => by have e := (show _ = _ from e); omega)
              have z8 := o9.box z8 (fun e => by have e := (show _ = _ from e); omega)
              have z10 := o9.box z10 (fun e => by have e := (show _ = _ from e); omega)
              have b7 := b6.trans (o9.below (B := w1.heap.size) (fun i hi => by rw [show i = _ from hi]; omega) b6.size)
              generalize World.setCell (World.setCell (World.setCell (World.setCell V6 _ _) _ _) _ _) _ _ = V7 at *
              refine hK.out _ _ (hS _ b7) (fun hHeld => ?_)
              clear hK K
              try simp only [Act.put, List.getElem_toArray, List.getElem_cons_succ, List.getElem_cons_zero, List.setIfInBounds_toArray, List.set_cons_zero, List.set_cons_succ]
              clear v0 v1 v2 v3 f0 f1 f2 f3 vin
              obtain ⟨⟨v0, v1, v2, v3⟩, ⟨f0, f1, f2, f3⟩, vin⟩ := z10.four4
              refine wpAnyH_ready (rs := [11]) (by kernel_rfl) (by simp) (AllReadyH.cons rfl (fun K hK => ?_) AllReadyH.nil)
              go_simp
              obtain ⟨z10, o10⟩ := put_four17 z10 rs rh' rl' rn
              have z7 := o10.box z7 (fun e => by have e := (show _ = _ from e); omega)
              have z8 := o10.box z8 (fun e => by have e := (show _ = _ from e); omega)
              have z9 := o10.box z9 (fun e => by have e := (show _ = _ from e); omega)
              have b8 := b7.trans (o10.below (B := w1.heap.size) (fun i hi => by rw [show i = _ from hi]; omega) b7.size)
              generalize World.setCell (World.setCell (World.setCell (World.setCell V7 _ _) _ _) _ _) _ _ = V8 at *
              refine hK.out _ _ (hS _ b8) (fun hHeld => ?_)
              clear hK K
              try simp only [Act.put, List.getElem_toArray, List.getElem_cons_succ, List.getElem_cons_zero, List.setIfInBounds_toArray, List.set_cons_zero, List.set_cons_succ]
              clear v0 v1 v2 v3 f0 f1 f2 f3 vin
              refine wpAnyH_done (by kernel_rfl) ?_ _
              go_wp2
              go_meet
              exact ⟨_, _, _, _, rfl, rfl, rfl, rfl, b8, z7, z8, z9, z10, by omega, by omega, by omega, by omega, by omega, by omega, by omega, by omega, by omega, by omega⟩
          · go_simp
            have b3 := chainA b2 (.cells (rtB ⟨#[]⟩ 0 0 0) 26)
            have z10 := Box.madeAt hs2 26 (rtB ⟨#[]⟩ 0 0 0)
            have z7 := z7.past (.cells (rtB ⟨#[]⟩ 0 0 0) 26)
            have z9 := z9.past (.cells (rtB ⟨#[]⟩ 0 0 0) 26)
            have hs3 : (World.alloc V2 (.cells (rtB ⟨#[]⟩ 0 0 0) 26)).heap.size = n0 + 3 := by simp [hs2]
            try rw [hs2]
            change K _ (World.alloc V2 (.cells (rtB ⟨#[]⟩ 0 0 0) 26))
            generalize World.alloc V2 (.cells (rtB ⟨#[]⟩ 0 0 0) 26) = V3 at *
            refine hK.out _ _ (hS _ b3) (fun hHeld => ?_)
            clear hK K
            try simp only [Act.put, List.getElem_toArray, List.getElem_cons_succ, List.getElem_cons_zero, List.setIfInBounds_toArray, List.set_cons_zero, List.set_cons_succ]
            refine wpAnyH_ready (rs := [5]) (by kernel_rfl) (by simp) (AllReadyH.cons rfl (fun K hK => ?_) AllReadyH.nil)
            · go_simp
              have b4 := chainA b3 (.cells (rtB ⟨#[]⟩ 0 0 0) 26)
              have z8 := Box.madeAt hs3 26 (rtB ⟨#[]⟩ 0 0 0)
              have z7 := z7.past (.cells (rtB ⟨#[]⟩ 0 0 0) 26)
              have z9 := z9.past (.cells (rtB ⟨#[]⟩ 0 0 0) 26)
              have z10 := z10.past (.cells (rtB ⟨#[]⟩ 0 0 0) 26)
              have hs4 : (World.alloc V3 (.cells (rtB ⟨#[]⟩ 0 0 0) 26)).heap.size = n0 + 4 := by simp [hs3]
              try rw [hs3]
              change K _ (World.alloc V3 (.cells (rtB ⟨#[]⟩ 0 0 0) 26))
              generalize World.alloc V3 (.cells (rtB ⟨#[]⟩ 0 0 0) 26) = V4 at *
              refine hK.out _ _ (hS _ b4) (fun hHeld => ?_)
              clear hK K
              try simp only [Act.put, List.getElem_toArray, List.getElem_cons_succ, List.getElem_cons_zero, List.setIfInBounds_toArray, List.set_cons_zero, List.set_cons_succ]
              obtain ⟨⟨v0, v1, v2, v3⟩, ⟨f0, f1, f2, f3⟩, vin⟩ := z7.four4
              refine wpAnyH_ready (rs := [8]) (by kernel_rfl) (by simp) (AllReadyH.cons rfl (fun K hK => ?_) AllReadyH.nil)
              go_simp
              obtain ⟨z7, o7⟩ := put_four17 z7 rs rh' rl' rn
              have z8 := o7.box z8 (fun e => by have e := (show _ = _ from e); omega)
              have z9 := o7.box z9 (fun e => by have e := (show _ = _ from e); omega)
              have z10 := o7.box z10 (fun e => by have e := (show _ = _ from e); omega)
              have b5 := b4.trans (o7.below (B := w1.heap.size) (fun i hi => by rw [show i = _ from hi]; omega) b4.size)
              generalize World.setCell (World.setCell (World.setCell (World.setCell V4 _ _) _ _) _ _) _ _ = V5 at *
              refine hK.out _ _ (hS _ b5) (fun hHeld => ?_)
              clear hK K
              try simp only [Act.put, List.getElem_toArray, List.getElem_cons_succ, List.getElem_cons_zero, List.setIfInBounds_toArray, List.set_cons_zero, List.set_cons_succ]
              clear v0 v1 v2 v3 f0 f1 f2 f3 vin
              obtain ⟨⟨v0, v1, v2, v3⟩, ⟨f0, f1, f2, f3⟩, vin⟩ := z8.four4
              refine wpAnyH_ready (rs := [9]) (by kernel_rfl) (by simp) (AllReadyH.cons rfl (fun K hK => ?_) AllReadyH.nil)
              go_simp
              obtain ⟨z8, o8⟩ := put_four17 z8 rs rh' rl' rn
              have z7 := o8.box z7 (fun e => by have e := (show _ = _ from e); omega)
              have z9 := o8.box z9 (fun e => by have e := (show _ = _ from e); omega)
              have z10 := o8.box z10 (fun e => by have e := (show _ = _ from e); omega)
              have b6 := b5.trans (o8.below (B := w1.heap.size) (fun i hi => by rw [show i = _ from hi]; omega) b5.size)
              generalize World.setCell (World.setCell (World.setCell (World.setCell V5 _ _) _ _) _ _) _ _ = V6 at *
              refine hK.out _ _ (hS _ b6) (fun hHeld => ?_)
              clear hK K
              try simp only [Act.put, List.getElem_toArray, List.getElem_cons_succ, List.getElem_cons_zero, List.setIfInBounds_toArray, List.set_cons_zero, List.set_cons_succ]
              clear v0 v1 v2 v3 f0 f1 f2 f3 vin
              obtain ⟨⟨v0, v1, v2, v3⟩, ⟨f0, f1, f2, f3⟩, vin⟩ := z9.four4
              refine wpAnyH_ready (rs := [10]) (by kernel_rfl) (by simp) (AllReadyH.cons rfl (fun K hK => ?_) AllReadyH.nil)
              go_simp
              obtain ⟨z9, o9⟩ := put_four17 z9 rs rh' rl' rn
              have z7 := o9.box z7 (fun e => by have e := (show _ = _ from e); omega)
              have z8 := o9.box z8 (fun e => by have e := (show _ = _ from e); omega)
              have z10 := o9.box z10 (fun e => by have e := (show _ = _ from e); omega)
              have b7 := b6.trans (o9.below (B := w1.heap.size) (fun i hi => by rw [show i = _ from hi]; omega) b6.size)
              generalize World.setCell (World.setCell (World.setCell (World.setCell V6 _ _) _ _) _ _) _ _ = V7 at *
              refine hK.out _ _ (hS _ b7) (fun hHeld => ?_)
              clear hK K
              try simp only [Act.put, List.getElem_toArray, List.getElem_cons_succ, List.getElem_cons_zero, List.setIfInBounds_toArray, List.set_cons_zero, List.set_cons_succ]
              clear v0 v1 v2 v3 f0 f1 f2 f3 vin
              obtain ⟨⟨v0, v1, v2, v3⟩, ⟨f0, f1, f2, f3⟩, vin⟩ := z10.four4
              refine wpAnyH_ready (rs := [11]) (by kernel_rfl) (by simp) (AllReadyH.cons rfl (fun K hK => ?_) AllReadyH.nil)
              go_simp
              obtain ⟨z10, o10⟩ := put_four17 z10 rs rh' rl' rn
              have z7 := o10.box z7 (fun e => by have e := (show _ = _ from e); omega)
              have z8 := o10.box z8 (fun e => by have e := (show _ = _ from e); omega)
              have z9 := o10.box z9 (fun e => by have e := (show _ = _ from e); omega)
              have b8 := b7.trans (o10.below (B := w1.heap.size) (fun i hi => by rw [show i = _ from hi]; omega) b7.size)
              generalize World.setCell (World.setCell (World.setCell (World.setCell V7 _ _) _ _) _ _) _ _ = V8 at *
              refine hK.out _ _ (hS _ b8) (fun hHeld => ?_)
              clear hK K
              try simp only [Act.put, List.getElem_toArray, List.getElem_cons_succ, List.getElem_cons_zero, List.setIfInBounds_toArray, List.set_cons_zero, List.set_cons_succ]
              clear v0 v1 v2 v3 f0 f1 f2 f3 vin
              refine wpAnyH_done (by kernel_rfl) ?_ _
              go_wp2
              go_meet
              exact ⟨_, _, _, _, rfl, rfl, rfl, rfl, b8, z7, z8, z9, z10, by omega, by omega, by omega, by omega, by omega, by omega, by omega, by omega, by omega, by omega⟩
        · go_simp
          have b2 := chainA b1 (.cells (rtB ⟨#[]⟩ 0 0 0) 26)
          have z10 := Box.madeAt hs1 26 (rtB ⟨#[]⟩ 0 0 0)
          have z7 := z7.past (.cells (rtB ⟨#[]⟩ 0 0 0) 26)
          have hs2 : (World.alloc V1 (.cells (rtB ⟨#[]⟩ 0 0 0) 26)).heap.size = n0 + 2 := by simp [hs1]
          try rw [hs1]
          change K _ (World.alloc V1 (.cells (rtB ⟨#[]⟩ 0 0 0) 26))
          generalize World.alloc V1 (.cells (rtB ⟨#[]⟩ 0 0 0) 26) = V2 at *
          refine hK.out _ _ (hS _ b2) (fun hHeld => ?_)
          clear hK K
          try simp only [Act.put, List.getElem_toArray, List.getElem_cons_succ, List.getElem_cons_zero, List.setIfInBounds_toArray, List.set_cons_zero, List.set_cons_succ]
          refine wpAnyH_ready (rs := [5, 6]) (by kernel_rfl) (by simp) (AllReadyH.cons rfl (fun K hK => ?_) (AllReadyH.cons rfl (fun K hK => ?_) AllReadyH.nil))
          · go_simp
            have b3 := chainA b2 (.cells (rtB ⟨#[]⟩ 0 0 0) 26)
            have z8 := Box.madeAt hs2 26 (rtB ⟨#[]⟩ 0 0 0)
            have z7 := z7.past (.cells (rtB ⟨#[]⟩ 0 0 0) 26)
            have z10 := z10.past (.cells (rtB ⟨#[]⟩ 0 0 0) 26)
            have hs3 : (World.alloc V2 (.cells (rtB ⟨#[]⟩ 0 0 0) 26)).heap.size = n0 + 3 := by simp [hs2]
            try rw [hs2]
            change K _ (World.alloc V2 (.cells (rtB ⟨#[]⟩ 0 0 0) 26))
            generalize World.alloc V2 (.cells (rtB ⟨#[]⟩ 0 0 0) 26) = V3 at *
            refine hK.out _ _ (hS _ b3) (fun hHeld => ?_)
            clear hK K
            try simp only [Act.put, List.getElem_toArray, List.getElem_cons_succ, List.getElem_cons_zero, List.setIfInBounds_toArray, List.set_cons_zero, List.set_cons_succ]
            refine wpAnyH_ready (rs := [6]) (by kernel_rfl) (by simp) (AllReadyH.cons rfl (fun K hK => ?_) AllReadyH.nil)
            · go_simp
              have b4 := chainA b3 (.cells (rtB ⟨#[]⟩ 0 0 0) 26)
              have z9 := Box.madeAt hs3 26 (rtB ⟨#[]⟩ 0 0 0)
              have z7 := z7.past (.cells (rtB ⟨#[]⟩ 0 0 0) 26)
              have z10 := z10.past (.cells (rtB ⟨#[]⟩ 0 0 0) 26)
              have z8 := z8.past (.cells (rtB ⟨#[]⟩ 0 0 0) 26)
              have hs4 : (World.alloc V3 (.cells (rtB ⟨#[]⟩ 0 0 0) 26)).heap.size = n0 + 4 := by simp [hs3]
              try rw [hs3]
              change K _ (World.alloc V3 (.cells (rtB ⟨#[]⟩ 0 0 0) 26))
              generalize World.alloc V3 (.cells (rtB ⟨#[]⟩ 0 0 0) 26) = V4 at *
              refine hK.out _ _ (hS _ b4) (fun hHeld => ?_)
              clear hK K
              try simp only [Act.put, List.getElem_toArray, List.getElem_cons_succ, List.getElem_cons_zero, List.setIfInBounds_toArray, List.set_cons_zero, List.set_cons_succ]
              obtain ⟨⟨v0, v1, v2, v3⟩, ⟨f0, f1, f2, f3⟩, vin⟩ := z7.four4
              refine wpAnyH_ready (rs := [8]) (by kernel_rfl) (by simp) (AllReadyH.cons rfl (fun K hK => ?_) AllReadyH.nil)
              go_simp
              obtain ⟨z7, o7⟩ := put_four17 z7 rs rh' rl' rn
              have z8 := o7.box z8 (fun e => by have e := (show _ = _ from e); omega)
              have z9 := o7.box z9 (fun e => by have e := (show _ = _ from e); omega)
              have z10 := o7.box z10 (fun e => by have e := (show _ = _ from e); omega)
              have b5 := b4.trans (o7.below (B := w1.heap.size) (fun i hi => by rw [show i = _ from hi]; omega) b4.size)
              generalize World.setCell (World.setCell (World.setCell (World.setCell V4 _ _) _ _) _ _) _ _ = V5 at *
              refine hK.out _ _ (hS _ b5) (fun hHeld => ?_)
              clear hK K
              try simp only [Act.put, List.getElem_toArray, List.getElem_cons_succ, List.getElem_cons_zero, List.setIfInBounds_toArray, List.set_cons_zero, List.set_cons_succ]
              clear v0 v1 v2 v3 f0 f1 f2 f3 vin
              obtain ⟨⟨v0, v1, v2, v3⟩, ⟨f0, f1, f2, f3⟩, vin⟩ := z8.four4
              refine wpAnyH_ready (rs := [9]) (by kernel_rfl) (by simp) (AllReadyH.cons rfl (fun K hK => ?_) AllReadyH.nil)
              go_simp
              obtain ⟨z8, o8⟩ := put_four17 z8 rs rh' rl' rn
              have z7 := o8.box z7 (fun e => by have e := (show _ = _ from e); omega)
              have z9 := o8.box z9 (fun e => by have e := (show _ = _ from e); omega)
              have z10 := o8.box z10 (fun e => by have e := (show _ = _ from e); omega)
              have b6 := b5.trans (o8.below (B := w1.heap.size) (fun i hi => by rw [show i = _ from hi]; omega) b5.size)
              generalize World.setCell (World.setCell (World.setCell (World.setCell V5 _ _) _ _) _ _) _ _ = V6 at *
              refine hK.out _ _ (hS _ b6) (fun hHeld => ?_)
              clear hK K
              try simp only [Act.put, List.getElem_toArray, List.getElem_cons_succ, List.getElem_cons_zero, List.setIfInBounds_toArray, List.set_cons_zero, List.set_cons_succ]
              clear v0 v1 v2 v3 f0 f1 f2 f3 vin
              obtain ⟨⟨v0, v1, v2, v3⟩, ⟨f0, f1, f2, f3⟩, vin⟩ := z9.four4
              refine wpAnyH_ready (rs := [10]) (by kernel_rfl) (by simp) (AllReadyH.cons rfl (fun K hK => ?_) AllReadyH.nil)
              go_simp
              obtain ⟨z9, o9⟩ := put_four17 z9 rs rh' rl' rn
              have z7 := o9.box z7 (fun e => by have e := (show _ = _ from e); omega)
              have z8 := o9.box z8 (fun e => by have e := (show _ = _ from e); omega)
              have z10 := o9.box z10 (fun e => by have e := (show _ = _ from e); omega)
              have b7 := b6.trans (o9.below (B := w1.heap.size) (fun i hi => by rw [show i = _ from hi]; omega) b6.size)
              generalize World.setCell (World.setCell (World.setCell (World.setCell V6 _ _) _ _) _ _) _ _ = V7 at *
              refine hK.out _ _ (hS _ b7) (fun hHeld => ?_)
              clear hK K
              try simp only [Act.put, List.getElem_toArray, List.getElem_cons_succ, List.getElem_cons_zero, List.setIfInBounds_toArray, List.set_cons_zero, List.set_cons_succ]
              clear v0 v1 v2 v3 f0 f1 f2 f3 vin
              obtain ⟨⟨v0, v1, v2, v3⟩, ⟨f0, f1, f2, f3⟩, vin⟩ := z10.four4
              refine wpAnyH_ready (rs := [11]) (by kernel_rfl) (by simp) (AllReadyH.cons rfl (fun K hK => ?_) AllReadyH.nil)
              go_simp
              obtain ⟨z10, o10⟩ := put_four17 z10 rs rh' rl' rn
              have z7 := o10.box z7 (fun e => by have e := (show _ = _ from e); omega)
              have z8 := o10.box z8 (fun e => by have e := (show _ = _ from e); omega)
              have z9 := o10.box z9 (fun e => by have e := (show _ = _ from e); omega)
              have b8 := b7.trans (o10.below (B := w1.heap.size) (fun i hi => by rw [show i = _ from hi]; omega) b7.size)
              generalize World.setCell (World.setCell (World.setCell (World.setCell V7 _ _) _ _) _ _) _ _ = V8 at *
              refine hK.out _ _ (hS _ b8) (fun hHeld => ?_)
              clear hK K
              try simp only [Act.put, List.getElem_toArray, List.getElem_cons_succ, List.getElem_cons_zero, List.setIfInBounds_toArray, List.set_cons_zero, List.set_cons_succ]
              clear v0 v1 v2 v3 f0 f1 f2 f3 vin
              refine wpAnyH_done (by kernel_rfl) ?_ _
              go_wp2
              go_meet
              exact ⟨_, _, _, _, rfl, rfl, rfl, rfl, b8, z7, z8, z9, z10, by omega, by omega, by omega, by omega, by omega, by omega, by omega, by omega, by omega, by omega⟩
          · go_simp
            have b3 := chainA b2 (.cells (rtB ⟨#[]⟩ 0 0 0) 26)
            have z9 := Box.madeAt hs2 26 (rtB ⟨#[]⟩ 0 0 0)
            have z7 := z7.past (.cells (rtB ⟨#[]⟩ 0 0 0) 26)
            have z10 := z10.past (.cells (rtB ⟨#[]⟩ 0 0 0) 26)
            have hs3 : (World.alloc V2 (.cells (rtB ⟨#[]⟩ 0 0 0) 26)).heap.size = n0 + 3 := by simp [hs2]
            try rw [hs2]
            change K _ (World.alloc V2 (.cells (rtB ⟨#[]⟩ 0 0 0) 26))
            generalize World.alloc V2 (.cells (rtB ⟨#[]⟩ 0 0 0) 26) = V3 at *
            refine hK.out _ _ (hS _ b3) (fun hHeld => ?_)
            clear hK K
            try simp only [Act.put, List.getElem_toArray, List.getElem_cons_succ, List.getElem_cons_zero, List.setIfInBounds_toArray, List.set_cons_zero, List.set_cons_succ]
            refine wpAnyH_ready (rs := [5]) (by kernel_rfl) (by simp) (AllReadyH.cons rfl (fun K hK => ?_) AllReadyH.nil)
            · go_simp
              have b4 := chainA b3 (.cells (rtB ⟨#[]⟩ 0 0 0) 26)
              have z8 := Box.madeAt hs3 26 (rtB ⟨#[]⟩ 0 0 0)
              have z7 := z7.past (.cells (rtB ⟨#[]⟩ 0 0 0) 26)
              have z10 := z10.past (.cells (rtB ⟨#[]⟩ 0 0 0) 26)
              have z9 := z9.past (.cells (rtB ⟨#[]⟩ 0 0 0) 26)
              have hs4 : (World.alloc V3 (.cells (rtB ⟨#[]⟩ 0 0 0) 26)).heap.size = n0 + 4 := by simp [hs3]
              try rw [hs3]
              change K _ (World.alloc V3 (.cells (rtB ⟨#[]⟩ 0 0 0) 26))
              generalize World.alloc V3 (.cells (rtB ⟨#[]⟩ 0 0 0) 26) = V4 at *
              refine hK.out _ _ (hS _ b4) (fun hHeld => ?_)
              clear hK K
              try simp only [Act.put, List.getElem_toArray, List.getElem_cons_succ, List.getElem_cons_zero, List.setIfInBounds_toArray, List.set_cons_zero, List.set_cons_succ]
              obtain ⟨⟨v0, v1, v2, v3⟩, ⟨f0, f1, f2, f3⟩, vin⟩ := z7.four4
              refine wpAnyH_ready (rs := [8]) (by kernel_rfl) (by simp) (AllReadyH.cons rfl (fun K hK => ?_) AllReadyH.nil)
              go_simp
              obtain ⟨z7, o7⟩ := put_four17 z7 rs rh' rl' rn
              have z8 := o7.box z8 (fun e => by have e := (show _ = _ from e); omega)
              have z9 := o7.box z9 (fun e => by have e := (show _ = _ from e); omega)
              have z10 := o7.box z10 (fun e => by have e := (show _ = _ from e); omega)
              have b5 := b4.trans (o7.below (B := w1.heap.size) (fun i hi => by rw [show i = _ from hi]; omega) b4.size)
              generalize World.setCell (World.setCell (World.setCell (World.setCell V4 _ _) _ _) _ _) _ _ = V5 at *
              refine hK.out _ _ (hS _ b5) (fun hHeld => ?_)
              clear hK K
              try simp only [Act.put, List.getElem_toArray, List.getElem_cons_succ, List.getElem_cons_zero, List.setIfInBounds_toArray, List.set_cons_zero, List.set_cons_succ]
              clear v0 v1 v2 v3 f0 f1 f2 f3 vin
              obtain ⟨⟨v0, v1, v2, v3⟩, ⟨f0, f1, f2, f3⟩, vin⟩ := z8.four4
              refine wpAnyH_ready (rs := [9]) (by kernel_rfl) (by simp) (AllReadyH.cons rfl (fun K hK => ?_) AllReadyH.nil)
              go_simp
              obtain ⟨z8, o8⟩ := put_four17 z8 rs rh' rl' rn
              have z7 := o8.box z7 (fun e => by have e := (show _ = _ from e); omega)
              have z9 := o8.box z9 (fun e => by have e := (show _ = _ from e); omega)
              have z10 := o8.box z10 (fun e => by have e := (show _ = _ from e); omega)
              have b6 := b5.trans (o8.below (B := w1.heap.size) (fun i hi => by rw [show i = _ from hi]; omega) b5.size)
              generalize World.setCell (World.setCell (World.setCell (World.setCell V5 _ _) _ _) _ _) _ _ = V6 at *
              refine hK.out _ _ (hS _ b6) (fun hHeld => ?_)
              clear hK K
              try simp only [Act.put, List.getElem_toArray, List.getElem_cons_succ, List.getElem_cons_zero, List.setIfInBounds_toArray, List.set_cons_zero, List.set_cons_succ]
              clear v0 v1 v2 v3 f0 f1 f2 f3 vin
              obtain ⟨⟨v0, v1, v2, v3⟩, ⟨f0, f1, f2, f3⟩, vin⟩ := z9.four4
              refine wpAnyH_ready (rs := [10]) (by kernel_rfl) (by simp) (AllReadyH.cons rfl (fun K hK => ?_) AllReadyH.nil)
              go_simp
              obtain ⟨z9, o9⟩ := put_four17 z9 rs rh' rl' rn
              have z7 := o9.box z7 (fun e => by have e := (show _ = _ from e); omega)
              have z8 := o9.box z8 (fun e => by have e := (show _ = _ from e); omega)
              have z10 := o9.box z10 (fun e => by have e := (show _ = _ from e); omega)
              have b7 := b6.trans (o9.below (B := w1.heap.size) (fun i hi => by rw [show i = _ from hi]; omega) b6.size)
              generalize World.setCell (World.setCell (World.setCell (World.setCell V6 _ _) _ _) _ _) _ _ = V7 at *
              refine hK.out _ _ (hS _ b7) (fun hHeld => ?_)
              clear hK K
              try simp only [Act.put, List.getElem_toArray, List.getElem_cons_succ, List.getElem_cons_zero, List.setIfInBounds_toArray, List.set_cons_zero, List.set_cons_succ]
              clear v0 v1 v2 v3 f0 f1 f2 f3 vin
              obtain ⟨⟨v0, v1, v2, v3⟩, ⟨f0, f1, f2, f3⟩, vin⟩ := z10.four4
              refine wpAnyH_ready (rs := [11]) (by kernel_rfl) (by simp) (AllReadyH.cons rfl (fun K hK => ?_) AllReadyH.nil)
              go_simp
              obtain ⟨z10, o10⟩ := put_four17 z10 rs rh' rl' rn
              have z7 := o10.box z7 (fun e => by have e := (show _ = _ from e); omega)
              have z8 := o10.box z8 (fun e => by have e := (show _ = _ from e); omega)
              have z9 := o10.box z9 (fun e => by have e := (show _ = _ from e); omega)
              have b8 := b7.trans (o10.below (B := w1.heap.size) (fun i hi => by rw [show i = _ from hi]; omega) b7.size)
              generalize World.setCell (World.setCell (World.setCell (World.setCell V7 _ _) _ _) _ _) _ _ = V8 at *
              refine hK.out _ _ (hS _ b8) (fun hHeld => ?_)
              clear hK K
              try simp only [Act.put, List.getElem_toArray, List.getElem_cons_succ, List.getElem_cons_zero, List.setIfInBounds_toArray, List.set_cons_zero, List.set_cons_succ]
              clear v0 v1 v2 v3 f0 f1 f2 f3 vin
              refine wpAnyH_done (by kernel_rfl) ?_ _
              go_wp2
              go_meet
              exact ⟨_, _, _, _, rfl, rfl, rfl, rfl, b8, z7, z8, z9, z10, by omega, by omega, by omega, by omega, by omega, by omega, by omega, by omega, by omega, by omega⟩
      · go_simp
        have b1 := chainA b0 (.cells (rtB ⟨#[]⟩ 0 0 0) 26)
        have z8 := Box.madeAt hs0 26 (rtB ⟨#[]⟩ 0 0 0)
        have hs1 : (World.alloc V0 (.cells (rtB ⟨#[]⟩ 0 0 0) 26)).heap.size = n0 + 1 := by simp [hs0]
        try rw [hs0]
        change K _ (World.alloc V0 (.cells (rtB ⟨#[]⟩ 0 0 0) 26))
        generalize World.alloc V0 (.cells (rtB ⟨#[]⟩ 0 0 0) 26) = V1 at *
        refine hK.out _ _ (hS _ b1) (fun hHeld => ?_)
        clear hK K
        try simp only [Act.put, List.getElem_toArray, List.getElem_cons_succ, List.getElem_cons_zero, List.setIfInBounds_toArray, List.set_cons_zero, List.set_cons_succ]
        refine wpAnyH_ready (rs := [4, 6, 7]) (by kernel_rfl) (by simp) (AllReadyH.cons rfl (fun K hK => ?_) (AllReadyH.cons rfl (fun K hK => ?_) (AllReadyH.cons rfl (fun K hK => ?_) AllReadyH.nil)))
        · go_simp
          have b2 := chainA b1 (.cells (rtB ⟨#[]⟩ 0 0 0) 26)
          have z7 := Box.madeAt hs1 26 (rtB ⟨#[]⟩ 0 0 0)
          have z8 := z8.past (.cells (rtB ⟨#[]⟩ 0 0 0) 26)
          have hs2 : (World.alloc V1 (.cells (rtB ⟨#[]⟩ 0 0 0) 26)).heap.size = n0 + 2 := by simp [hs1]
          try rw [hs1]
          change K _ (World.alloc V1 (.cells (rtB ⟨#[]⟩ 0 0 0) 26))
          generalize World.alloc V1 (.cells (rtB ⟨#[]⟩ 0 0 0) 26) = V2 at *
          refine hK.out _ _ (hS _ b2) (fun hHeld => ?_)
          clear hK K
          try simp only [Act.put, List.getElem_toArray, List.getElem_cons_succ, List.getElem_cons_zero, List.setIfInBounds_toArray, List.set_cons_zero, List.set_cons_succ]
          refine wpAnyH_ready (rs := [6, 7]) (by kernel_rfl) (by simp) (AllReadyH.cons rfl (fun K hK => ?_) (AllReadyH.cons rfl (fun K hK => ?_) AllReadyH.nil))
          · go_simp
            have b3 := chainA b2 (.cells (rtB ⟨#[]⟩ 0 0 0) 26)
            have z9 := Box.madeAt hs2 26 (rtB ⟨#[]⟩ 0 0 0)
            have z8 := z8.past (.cells (rtB ⟨#[]⟩ 0 0 0) 26)
            have z7 := z7.past (.cells (rtB ⟨#[]⟩ 0 0 0) 26)
            have hs3 : (World.alloc V2 (.cells (rtB ⟨#[]⟩ 0 0 0) 26)).heap.size = n0 + 3 := by simp [hs2]
            try rw [hs2]
            change K _ (World.alloc V2 (.cells (rtB ⟨#[]⟩ 0 0 0) 26))
            generalize World.alloc V2 (.cells (rtB ⟨#[]⟩ 0 0 0) 26) = V3 at *
            refine hK.out _ _ (hS _ b3) (fun hHeld => ?_)
            clear hK K
            try simp only [Act.put, List.getElem_toArray, List.getElem_cons_succ, List.getElem_cons_zero, List.setIfInBounds_toArray, List.set_cons_zero, List.set_cons_succ]
            refine wpAnyH_ready (rs := [7]) (by kernel_rfl) (by simp) (AllReadyH.cons rfl (fun K hK => ?_) AllReadyH.nil)
            · go_simp
              have b4 := chainA b3 (.cells (rtB ⟨#[]⟩ 0 0 0) 26)
              have z10 := Box.madeAt hs3 26 (rtB ⟨#[]⟩ 0 0 0)
              have z8 := z8.past (.cells (rtB ⟨#[]⟩ 0 0 0) 26)
              have z7 := z7.past (.cells (rtB ⟨#[]⟩ 0 0 0) 26)
              have z9 := z9.past (.cells (rtB ⟨#[]⟩ 0 0 0) 26)
              have hs4 : (World.alloc V3 (.cells (rtB ⟨#[]⟩ 0 0 0) 26)).heap.size = n0 + 4 := by simp [hs3]
              try rw [hs3]
              change K _ (World.alloc V3 (.cells (rtB ⟨#[]⟩ 0 0 0) 26))
              generalize World.alloc V3 (.cells (rtB ⟨#[]⟩ 0 0 0) 26) = V4 at *
              refine hK.out _ _ (hS _ b4) (fun hHeld => ?_)
              clear hK K
              try simp only [Act.put, List.getElem_toArray, List.getElem_cons_succ, List.getElem_cons_zero, List.setIfInBounds_toArray, List.set_cons_zero, List.set_cons_succ]
              obtain ⟨⟨v0, v1, v2, v3⟩, ⟨f0, f1, f2, f3⟩, vin⟩ := z7.four4
              refine wpAnyH_ready (rs := [8]) (by kernel_rfl) (by simp) (AllReadyH.cons rfl (fun K hK => ?_) AllReadyH.nil)
              go_simp
              obtain ⟨z7, o7⟩ := put_four17 z7 rs rh' rl' rn
              have z8 := o7.box z8 (fun e => by have e := (show _ = _ from e); omega)
              have z9 := o7.box z9 (fun e => by have e := (show _ = _ from e); omega)
              have z10 := o7.box z10 (fun e => by have e := (show _ = _ from e); omega)
              have b5 := b4.trans (o7.below (B := w1.heap.size) (fun i hi => by rw [show i = _ from hi]; omega) b4.size)
              generalize World.setCell (World.setCell (World.setCell (World.setCell V4 _ _) _ _) _ _) _ _ = V5 at *
              refine hK.out _ _ (hS _ b5) (fun hHeld => ?_)
              clear hK K
              try simp only [Act.put, List.getElem_toArray, List.getElem_cons_succ, List.getElem_cons_zero, List.setIfInBounds_toArray, List.set_cons_zero, List.set_cons_succ]
              clear v0 v1 v2 v3 f0 f1 f2 f3 vin
              obtain ⟨⟨v0, v1, v2, v3⟩, ⟨f0, f1, f2, f3⟩, vin⟩ := z8.four4
              refine wpAnyH_ready (rs := [9]) (by kernel_rfl) (by simp) (AllReadyH.cons rfl (fun K hK => ?_) AllReadyH.nil)
              go_simp
              obtain ⟨z8, o8⟩ := put_four17 z8 rs rh' rl' rn
              have z7 := o8.box z7 (fun e => by have e := (show _ = _ from e); omega)
              have z9 := o8.box z9 (fun e => by have e := (show _ = _ from e); omega)
              have z10 := o8.box z10 (fun e => by have e := (show _ = _ from e); omega)
              have b6 := b5.trans (o8.below (B := w1.heap.size) (fun i hi => by rw [show i = _ from hi]; omega) b5.size)
              generalize World.setCell (World.setCell (World.setCell (World.setCell V5 _ _) _ _) _ _) _ _ = V6 at *
              refine hK.out _ _ (hS _ b6) (fun hHeld => ?_)
              clear hK K
              try simp only [Act.put, List.getElem_toArray, List.getElem_cons_succ, List.getElem_cons_zero, List.setIfInBounds_toArray, List.set_cons_zero, List.set_cons_succ]
              clear v0 v1 v2 v3 f0 f1 f2 f3 vin
              obtain ⟨⟨v0, v1, v2, v3⟩, ⟨f0, f1, f2, f3⟩, vin⟩ := z9.four4
              refine wpAnyH_ready (rs := [10]) (by kernel_rfl) (by simp) (AllReadyH.cons rfl (fun K hK => ?_) AllReadyH.nil)
              go_simp
              obtain ⟨z9, o9⟩ := put_four17 z9 rs rh' rl' rn
              have z7 := o9.box z7 (fun e => by have e := (show _ = _ from e); omega)
              have z8 := o9.box z8 (fun e => by have e := (show _ = _ from e); omega)
              have z10 := o9.box z10 (fun e => by have e := (show _ = _ from e); omega)
              have b7 := b6.trans (o9.below (B := w1.heap.size) (fun i hi => by rw [show i = _ from hi]; omega) b6.size)
              generalize World.setCell (World.setCell (World.setCell (World.setCell V6 _ _) _ _) _ _) _ _ = V7 at *
              refine hK.out _ _ (hS _ b7) (fun hHeld => ?_)
              clear hK K
              try simp only [Act.put, List.getElem_toArray, List.getElem_cons_succ, List.getElem_cons_zero, List.setIfInBounds_toArray, List.set_cons_zero, List.set_cons_succ]
              clear v0 v1 v2 v3 f0 f1 f2 f3 vin
              obtain ⟨⟨v0, v1, v2, v3⟩, ⟨f0, f1, f2, f3⟩, vin⟩ := z10.four4
              refine wpAnyH_ready (rs := [11]) (by kernel_rfl) (by simp) (AllReadyH.cons rfl (fun K hK => ?_) AllReadyH.nil)
              go_simp
              obtain ⟨z10, o10⟩ := put_four17 z10 rs rh' rl' rn
              have z7 := o10.box z7 (fun e => by have e := (show _ = _ from e); omega)
              have z8 := o10.box z8 (fun e => by have e := (show _ = _ from e); omega)
              have z9 := o10.box z9 (fun e => by have e := (show _ = _ from e); omega)
              have b8 := b7.trans (o10.below (B := w1.heap.size) (fun i hi => by rw [show i = _ from hi]; omega) b7.size)
              generalize World.setCell (World.setCell (World.setCell (World.setCell V7 _ _) _ _) _ _) _ _ = V8 at *
              refine hK.out _ _ (hS _ b8) (fun hHeld => ?_)
              clear hK K
              try simp only [Act.put, List.getElem_toArray, List.getElem_cons_succ, List.getElem_cons_zero, List.setIfInBounds_toArray, List.set_cons_zero, List.set_cons_succ]
              clear v0 v1 v2 v3 f0 f1 f2 f3 vin
              refine wpAnyH_done (by kernel_rfl) ?_ _
              go_wp2
              go_meet
              exact ⟨_, _, _, _, rfl, rfl, rfl, rfl, b8, z7, z8, z9, z10, by omega, by omega, by omega, by omega, by omega, by omega, by omega, by omega, by omega, by omega⟩
          · go_simp
            have b3 := chainA b2 (.cells (rtB ⟨#[]⟩ 0 0 0) 26)
            have z10 := Box.madeAt hs2 26 (rtB ⟨#[]⟩ 0 0 0)
            have z8 := z8.past (.cells (rtB ⟨#[]⟩ 0 0 0) 26)
            have z7 := z7.past (.cells (rtB ⟨#[]⟩ 0 0 0) 26)
            have hs3 : (World.alloc V2 (.cells (rtB ⟨#[]⟩ 0 0 0) 26)).heap.size = n0 + 3 := by simp [hs2]
            try rw [hs2]
            change K _ (World.alloc V2 (.cells (rtB ⟨#[]⟩ 0 0 0) 26))
            generalize World.alloc V2 (.cells (rtB ⟨#[]⟩ 0 0 0) 26) = V3 at *
            refine hK.out _ _ (hS _ b3) (fun hHeld => ?_)
            clear hK K
            try simp only [Act.put, List.getElem_toArray, List.getElem_cons_succ, List.getElem_cons_zero, List.setIfInBounds_toArray, List.set_cons_zero, List.set_cons_succ]
            refine wpAnyH_ready (rs := [6]) (by kernel_rfl) (by simp) (AllReadyH.cons rfl (fun K hK => ?_) AllReadyH.nil)
            · go_simp
              have b4 := chainA b3 (.cells (rtB ⟨#[]⟩ 0 0 0) 26)
              have z9 := Box.madeAt hs3 26 (rtB ⟨#[]⟩ 0 0 0)
              have z8 := z8.past (.cells (rtB ⟨#[]⟩ 0 0 0) 26)
              have z7 := z7.past (.cells (rtB ⟨#[]⟩ 0 0 0) 26)
              have z10 := z10.past (.cells (rtB ⟨#[]⟩ 0 0 0) 26)
              have hs4 : (World.alloc V3 (.cells (rtB ⟨#[]⟩ 0 0 0) 26)).heap.size = n0 + 4 := by simp [hs3]
              try rw [hs3]
              change K _ (World.alloc V3 (.cells (rtB ⟨#[]⟩ 0 0 0) 26))
              generalize World.alloc V3 (.cells (rtB ⟨#[]⟩ 0 0 0) 26) = V4 at *
              refine hK.out _ _ (hS _ b4) (fun hHeld => ?_)
              clear hK K
              try simp only [Act.put, List.getElem_toArray, List.getElem_cons_succ, List.getElem_cons_zero, List.setIfInBounds_toArray, List.set_cons_zero, List.set_cons_succ]
              obtain ⟨⟨v0, v1, v2, v3⟩, ⟨f0, f1, f2, f3⟩, vin⟩ := z7.four4
              refine wpAnyH_ready (rs := [8]) (by kernel_rfl) (by simp) (AllReadyH.cons rfl (fun K hK => ?_) AllReadyH.nil)
              go_simp
              obtain ⟨z7, o7⟩ := put_four17 z7 rs rh' rl' rn
              have z8 := o7.box z8 (fun e => by have e := (show _ = _ from e); omega)
              have z9 := o7.box z9 (fun e => by have e := (show _ = _ from e); omega)
              have z10 := o7.box z10 (fun e => by have e := (show _ = _ from e); omega)
              have b5 := b4.trans (o7.below (B := w1.heap.size) (fun i hi => by rw [show i = _ from hi]; omega) b4.size)
              generalize World.setCell (World.setCell (World.setCell (World.setCell V4 _ _) _ _) _ _) _ _ = V5 at *
              refine hK.out _ _ (hS _ b5) (fun hHeld => ?_)
              clear hK K
              try simp only [Act.put, List.getElem_toArray, List.getElem_cons_succ, List.getElem_cons_zero, List.setIfInBounds_toArray, List.set_cons_zero, List.set_cons_succ]
              clear v0 v1 v2 v3 f0 f1 f2 f3 vin
              obtain ⟨⟨v0, v1, v2, v3⟩, ⟨f0, f1, f2, f3⟩, vin⟩ := z8.four4
              refine wpAnyH_ready (rs := [9]) (by kernel_rfl) (by simp) (AllReadyH.cons rfl (fun K hK => ?_) AllReadyH.nil)
              go_simp
              obtain ⟨z8, o8⟩ := put_four17 z8 rs rh' rl' rn
              have z7 := o8.box z7 (fun e => by have e := (show _ = _ from e); omega)
              have z9 := o8.box z9 (fun e => by have e := (show _ = _ from e); omega)
              have z10 := o8.box z10 (fun e => by have e := (show _ = _ from e); omega)
              have b6 := b5.trans (o8.below (B := w1.heap.size) (fun i hi => by rw [show i = _ from hi]; omega) b5.size)
              generalize World.setCell (World.setCell (World.setCell (World.setCell V5 _ _) _ _) _ _) _ _ = V6 at *
              refine hK.out _ _ (hS _ b6) (fun hHeld => ?_)
              clear hK K
              try simp only [Act.put, List.getElem_toArray, List.getElem_cons_succ, List.getElem_cons_zero, List.setIfInBounds_toArray, List.set_cons_zero, List.set_cons_succ]
              clear v0 v1 v2 v3 f0 f1 f2 f3 vin
              obtain ⟨⟨v0, v1, v2, v3⟩, ⟨f0, f1, f2, f3⟩, vin⟩ := z9.four4
              refine wpAnyH_ready (rs := [10]) (by kernel_rfl) (by simp) (AllReadyH.cons rfl (fun K hK => ?_) AllReadyH.nil)
              go_simp
              obtain ⟨z9, o9⟩ := put_four17 z9 rs rh' rl' rn
              have z7 := o9.box z7 (fun e => by have e := (show _ = _ from e); omega)
              have z8 := o9.box z8 (fun e => by have e := (show _ = _ from e); omega)
              have z10 := o9.box z10 (fun e => by have e := (show _ = _ from e); omega)
              have b7 := b6.trans (o9.below (B := w1.heap.size) (fun i hi => by rw [show i = _ from hi]; omega) b6.size)
              generalize World.setCell (World.setCell (World.setCell (World.setCell V6 _ _) _ _) _ _) _ _ = V7 at *
              refine hK.out _ _ (hS _ b7) (fun hHeld => ?_)
              clear hK K
              try simp only [Act.put, List.getElem_toArray, List.getElem_cons_succ, List.getElem_cons_zero, List.setIfInBounds_toArray, List.set_cons_zero, List.set_cons_succ]
              clear v0 v1 v2 v3 f0 f1 f2 f3 vin
              obtain ⟨⟨v0, v1, v2, v3⟩, ⟨f0, f1, f2, f3⟩, vin⟩ := z10.four4
              refine wpAnyH_ready (rs := [11]) (by kernel_rfl) (by simp) (AllReadyH.cons rfl (fun K hK => ?_) AllReadyH.nil)
              go_simp
              obtain ⟨z10, o10⟩ := put_four17 z10 rs rh' rl' rn
              have z7 := o10.box z7 (fun e => by have e := (show _ = _ from e); omega)
              have z8 := o10.box z8 (fun e => by have e := (show _ = _ from e); omega)
              have z9 := o10.box z9 (fun e => by have e := (show _ = _ from e); omega)
              have b8 := b7.trans (o10.below (B := w1.heap.size) (fun i hi => by rw [show i = _ from hi]; omega) b7.size)
              generalize World.setCell (World.setCell (World.setCell (World.setCell V7 _ _) _ _) _ _) _ _ = V8 at *
              refine hK.out _ _ (hS _ b8) (fun hHeld => ?_)
              clear hK K
              try simp only [Act.put, List.getElem_toArray, List.getElem_cons_succ, List.getElem_cons_zero, List.setIfInBounds_toArray, List.set_cons_zero, List.set_cons_succ]
              clear v0 v1 v2 v3 f0 f1 f2 f3 vin
              refine wpAnyH_done (by kernel_rfl) ?_ _
              go_wp2
              go_meet
              exact ⟨_, _, _, _, rfl, rfl, rfl, rfl, b8, z7, z8, z9, z10, by omega, by omega, by omega, by omega, by omega, by omega, by omega, by omega, by omega, by omega⟩
        · go_simp
          have b2 := chainA b1 (.cells (rtB ⟨#[]⟩ 0 0 0) 26)
          have z9 := Box.madeAt hs1 26 (rtB ⟨#[]⟩ 0 0 0)
          have z8 := z8.past (.cells (rtB ⟨#[]⟩ 0 0 0) 26)
          have hs2 : (World.alloc V1 (.cells (rtB ⟨#[]⟩ 0 0 0) 26)).heap.size = n0 + 2 := by simp [hs1]
          try rw [hs1]
          change K _ (World.alloc V1 (.cells (rtB ⟨#[]⟩ 0 0 0) 26))
          generalize World.alloc V1 (.cells (rtB ⟨#[]⟩ 0 0 0) 26) = V2 at *
          refine hK.out _ _ (hS _ b2) (fun hHeld => ?_)
          clear hK K
          try simp only [Act.put, List.getElem_toArray, List.getElem_cons_succ, List.getElem_cons_zero, List.setIfInBounds_toArray, List.set_cons_zero, List.set_cons_succ]
          refine wpAnyH_ready (rs := [4, 7]) (by kernel_rfl) (by simp) (AllReadyH.cons rfl (fun K hK => ?_) (AllReadyH.cons rfl (fun K hK => ?_) AllReadyH.nil))
          · go_simp
            have b3 := chainA b2 (.cells (rtB ⟨#[]⟩ 0 0 0) 26)
            have z7 := Box.madeAt hs2 26 (rtB ⟨#[]⟩ 0 0 0)
            have z8 := z8.past (.cells (rtB ⟨#[]⟩ 0 0 0) 26)
            have z9 := z9.past (.cells (rtB ⟨#[]⟩ 0 0 0) 26)
            have hs3 : (World.alloc V2 (.cells (rtB ⟨#[]⟩ 0 0 0) 26)).heap.size = n0 + 3 := by simp [hs2]
            try rw [hs2]
            change K _ (World.alloc V2 (.cells (rtB ⟨#[]⟩ 0 0 0) 26))
            generalize World.alloc V2 (.cells (rtB ⟨#[]⟩ 0 0 0) 26) = V3 at *
            refine hK.out _ _ (hS _ b3) (fun hHeld => ?_)
            clear hK K
            try simp only [Act.put, List.getElem_toArray, List.getElem_cons_succ, List.getElem_cons_zero, List.setIfInBounds_toArray, List.set_cons_zero, List.set_cons_succ]
            refine wpAnyH_ready (rs := [7]) (by kernel_rfl) (by simp) (AllReadyH.cons rfl (fun K hK => ?_) AllReadyH.nil)
            · go_simp
              have b4 := chainA b3 (.cells (rtB ⟨#[]⟩ 0 0 0) 26)
              have z10 := Box.madeAt hs3 26 (rtB ⟨#[]⟩ 0 0 0)
              have z8 := z8.past (.cells (rtB ⟨#[]⟩ 0 0 0) 26)
              have z9 := z9.past (.cells (rtB ⟨#[]⟩ 0 0 0) 26)
              have z7 := z7.past (.cells (rtB ⟨#[]⟩ 0 0 0) 26)
              have hs4 : (World.alloc V3 (.cells (rtB ⟨#[]⟩ 0 0 0) 26)).heap.size = n0 + 4 := by simp [hs3]
              try rw [hs3]
              change K _ (World.alloc V3 (.cells (rtB ⟨#[]⟩ 0 0 0) 26))
              generalize World.alloc V3 (.cells (rtB ⟨#[]⟩ 0 0 0) 26) = V4 at *
              refine hK.out _ _ (hS _ b4) (fun hHeld => ?_)
              clear hK K
              try simp only [Act.put, List.getElem_toArray, List.getElem_cons_succ, List.getElem_cons_zero, List.setIfInBounds_toArray, List.set_cons_zero, List.set_cons_succ]
              obtain ⟨⟨v0, v1, v2, v3⟩, ⟨f0, f1, f2, f3⟩, vin⟩ := z7.four4
              refine wpAnyH_ready (rs := [8]) (by kernel_rfl) (by simp) (AllReadyH.cons rfl (fun K hK => ?_) AllReadyH.nil)
              go_simp
              obtain ⟨z7, o7⟩ := put_four17 z7 rs rh' rl' rn
              have z8 := o7.box z8 (fun e => by have e := (show _ = _ from e); omega)
              have z9 := o7.box z9 (fun e => by have e := (show _ = _ from e); omega)
              have z10 := o7.box z10 (fun e => by have e := (show _ = _ from e); omega)
              have b5 := b4.trans (o7.below (B := w1.heap.size) (fun i hi => by rw [show i = _ from hi]; omega) b4.size)
              generalize World.setCell (World.setCell (World.setCell (World.setCell V4 _ _) _ _) _ _) _ _ = V5 at *
              refine hK.out _ _ (hS _ b5) (fun hHeld => ?_)
              clear hK K
              try simp only [Act.put, List.getElem_toArray, List.getElem_cons_succ, List.getElem_cons_zero, List.setIfInBounds_toArray, List.set_cons_zero, List.set_cons_succ]
              clear v0 v1 v2 v3 f0 f1 f2 f3 vin
              obtain ⟨⟨v0, v1, v2, v3⟩, ⟨f0, f1, f2, f3⟩, vin⟩ := z8.four4
              refine wpAnyH_ready (rs := [9]) (by kernel_rfl) (by simp) (AllReadyH.cons rfl (fun K hK => ?_) AllReadyH.nil)
              go_simp
              obtain ⟨z8, o8⟩ := put_four17 z8 rs rh' rl' rn
              have z7 := o8.box z7 (fun e => by have e := (show _ = _ from e); omega)
              have z9 := o8.box z9 (fun e => by have e := (show _ = _ from e); omega)
              have z10 := o8.box z10 (fun e => by have e := (show _ = _ from e); omega)
              have b6 := b5.trans (o8.below (B := w1.heap.size) (fun i hi => by rw [show i = _ from hi]; omega) b5.size)
              generalize World.setCell (World.setCell (World.setCell (World.setCell V5 _ _) _ _) _ _) _ _ = V6 at *
              refine hK.out _ _ (hS _ b6) (fun hHeld => ?_)
              clear hK K
              try simp only [Act.put, List.getElem_toArray, List.getElem_cons_succ, List.getElem_cons_zero, List.setIfInBounds_toArray, List.set_cons_zero, List.set_cons_succ]
              clear v0 v1 v2 v3 f0 f1 f2 f3 vin
              obtain ⟨⟨v0, v1, v2, v3⟩, ⟨f0, f1, f2, f3⟩, vin⟩ := z9.four4
              refine wpAnyH_ready (rs := [10]) (by kernel_rfl) (by simp) (AllReadyH.cons rfl (fun K hK => ?_) AllReadyH.nil)
              go_simp
              obtain ⟨z9, o9⟩ := put_four17 z9 rs rh' rl' rn
              have z7 := o9.box z7 (fun e => by have e := (show _ = _ from e); omega)
              have z8 := o9.box z8 (fun e => by have e := (show _ = _ from e); omega)
              have z10 := o9.box z10 (fun e => by have e := (show _ = _ from e); omega)
              have b7 := b6.trans (o9.below (B := w1.heap.size) (fun i hi => by rw [show i = _ from hi]; omega) b6.size)
              generalize World.setCell (World.setCell (World.setCell (World.setCell V6 _ _) _ _) _ _) _ _ = V7 at *
              refine hK.out _ _ (hS _ b7) (fun hHeld => ?_)
              clear hK K
              try simp only [Act.put, List.getElem_toArray, List.getElem_cons_succ, List.getElem_cons_zero, List.setIfInBounds_toArray, List.set_cons_zero, List.set_cons_succ]
              clear v0 v1 v2 v3 f0 f1 f2 f3 vin
              obtain ⟨⟨v0, v1, v2, v3⟩, ⟨f0, f1, f2, f3⟩, vin⟩ := z10.four4
              refine wpAnyH_ready (rs := [11]) (by kernel_rfl) (by simp) (AllReadyH.cons rfl (fun K hK => ?_) AllReadyH.nil)
              go_simp
              obtain ⟨z10, o10⟩ := put_four17 z10 rs rh' rl' rn
              have z7 := o10.box z7 (fun e => by have e := (show _ = _ from e); omega)
              have z8 := o10.box z8 (fun e => by have e := (show _ = _ from e); omega)
              have z9 := o10.box z9 (fun e => by have e := (show _ = _ from e); omega)
              have b8 := b7.trans (o10.below (B := w1.heap.size) (fun i hi => by rw [show i = _ from hi]; omega) b7.size)
              generalize World.setCell (World.setCell (World.setCell (World.setCell V7 _ _) _ _) _ _) _ _ = V8 at *
              refine hK.out _ _ (hS _ b8) (fun hHeld => ?_)
              clear hK K
              try simp only [Act.put, List.getElem_toArray, List.getElem_cons_succ, List.getElem_cons_zero, List.setIfInBounds_toArray, List.set_cons_zero, List.set_cons_succ]
              clear v0 v1 v2 v3 f0 f1 f2 f3 vin
              refine wpAnyH_done (by kernel_rfl) ?_ _
              go_wp2
              go_meet
              exact ⟨_, _, _, _, rfl, rfl, rfl, rfl, b8, z7, z8, z9, z10, by omega, by omega, by omega, by omega, by omega, by omega, by omega, by omega, by omega, by omega⟩
          · go_simp
            have b3 := chainA b2 (.cells (rtB ⟨#[]⟩ 0 0 0) 26)
            have z10 := Box.madeAt hs2 26 (rtB ⟨#[]⟩ 0 0 0)
            have z8 := z8.past (.cells (rtB ⟨#[]⟩ 0 0 0) 26)
            have z9 := z9.past (.cells (rtB ⟨#[]⟩ 0 0 0) 26)
            have hs3 : (World.alloc V2 (.cells (rtB ⟨#[]⟩ 0 0 0) 26)).heap.size = n0 + 3 := by simp [hs2]
            try rw [hs2]
            change K _ (World.alloc V2 (.cells (rtB ⟨#[]⟩ 0 0 0) 26))
            generalize World.alloc V2 (.cells (rtB ⟨#[]⟩ 0 0 0) 26) = V3 at *
            refine hK.out _ _ (hS _ b3) (fun hHeld => ?_)
            clear hK K
            try simp only [Act.put, List.getElem_toArray, List.getElem_cons_succ, List.getElem_cons_zero, List.setIfInBounds_toArray, List.set_cons_zero, List.set_cons_succ]
            refine wpAnyH_ready (rs := [4]) (by kernel_rfl) (by simp) (AllReadyH.cons rfl (fun K hK => ?_) AllReadyH.nil)
            · go_simp
              have b4 := chainA b3 (.cells (rtB ⟨#[]⟩ 0 0 0) 26)
              have z7 := Box.madeAt hs3 26 (rtB ⟨#[]⟩ 0 0 0)
              have z8 := z8.past (.cells (rtB ⟨#[]⟩ 0 0 0) 26)
              have z9 := z9.past (.cells (rtB ⟨#[]⟩ 0 0 0) 26)
              have z10 := z10.past (.cells (rtB ⟨#[]⟩ 0 0 0) 26)
              have hs4 : (World.alloc V3 (.cells (rtB ⟨#[]⟩ 0 0 0) 26)).heap.size = n0 + 4 := by simp [hs3]
              try rw [hs3]
              change K _ (World.alloc V3 (.cells (rtB ⟨#[]⟩ 0 0 0) 26))
              generalize World.alloc V3 (.cells (rtB ⟨#[]⟩ 0 0 0) 26) = V4 at *
              refine hK.out _ _ (hS _ b4) (fun hHeld => ?_)
              clear hK K
              try simp only [Act.put, List.getElem_toArray, List.getElem_cons_succ, List.getElem_cons_zero, List.setIfInBounds_toArray, List.set_cons_zero, List.set_cons_succ]
              obtain ⟨⟨v0, v1, v2, v3⟩, ⟨f0, f1, f2, f3⟩, vin⟩ := z7.four4
              refine wpAnyH_ready (rs := [8]) (by kernel_rfl) (by simp) (AllReadyH.cons rfl (fun K hK => ?_) AllReadyH.nil)
              go_simp
              obtain ⟨z7, o7⟩ := put_four17 z7 rs rh' rl' rn
              have z8 := o7.box z8 (fun e => by have e := (show _ = _ from e); omega)
              have z9 := o7.box z9 (fun e => by have e := (show _ = _ from e); omega)
              have z10 := o7.box z10 (fun e => by have e := (show _ = _ from e); omega)
              have b5 := b4.trans (o7.below (B := w1.heap.size) (fun i hi => by rw [show i = _ from hi]; omega) b4.size)
              generalize World.setCell (World.setCell (World.setCell (World.setCell V4 _ _) _ _) _ _) _ _ = V5 at *
              refine hK.out _ _ (hS _ b5) (fun hHeld => ?_)
              clear hK K
              try simp only [Act.put, List.getElem_toArray, List.getElem_cons_succ, List.getElem_cons_zero, List.setIfInBounds_toArray, List.set_cons_zero, List.set_cons_succ]
              clear v0 v1 v2 v3 f0 f1 f2 f3 vin
              obtain ⟨⟨v0, v1, v2, v3⟩, ⟨f0, f1, f2, f3⟩, vin⟩ := z8.four4
              refine wpAnyH_ready (rs := [9]) (by kernel_rfl) (by simp) (AllReadyH.cons rfl (fun K hK => ?_) AllReadyH.nil)
              go_simp
              obtain ⟨z8, o8⟩ := put_four17 z8 rs rh' rl' rn
              have z7 := o8.box z7 (fun e => by have e := (show _ = _ from e); omega)
              have z9 := o8.box z9 (fun e => by have e := (show _ = _ from e); omega)
              have z10 := o8.box z10 (fun e => by have e := (show _ = _ from e); omega)
              have b6 := b5.trans (o8.below (B := w1.heap.size) (fun i hi => by rw [show i = _ from hi]; omega) b5.size)
              generalize World.setCell (World.setCell (World.setCell (World.setCell V5 _ _) _ _) _ _) _ _ = V6 at *
              refine hK.out _ _ (hS _ b6) (fun hHeld => ?_)
              clear hK K
              try simp only [Act.put, List.getElem_toArray, List.getElem_cons_succ, List.getElem_cons_zero, List.setIfInBounds_toArray, List.set_cons_zero, List.set_cons_succ]
              clear v0 v1 v2 v3 f0 f1 f2 f3 vin
              obtain ⟨⟨v0, v1, v2, v3⟩, ⟨f0, f1, f2, f3⟩, vin⟩ := z9.four4
              refine wpAnyH_ready (rs := [10]) (by kernel_rfl) (by simp) (AllReadyH.cons rfl (fun K hK => ?_) AllReadyH.nil)
              go_simp
              obtain ⟨z9, o9⟩ := put_four17 z9 rs rh' rl' rn
              have z7 := o9.box z7 (fun e => by have e := (show _ = _ from e); omega)
              have z8 := o9.box z8 (fun e => by have e := (show _ = _ from e); omega)
              have z10 := o9.box z10 (fun e => by have e := (show _ = _ from e); omega)
              have b7 := b6.trans (o9.below (B := w1.heap.size) (fun i hi => by rw [show i = _ from hi]; omega) b6.size)
              generalize World.setCell (World.setCell (World.setCell (World.setCell V6 _ _) _ _) _ _) _ _ = V7 at *
              refine hK.out _ _ (hS _ b7) (fun hHeld => ?_)
              clear hK K
              try simp only [Act.put, List.getElem_toArray, List.getElem_cons_succ, List.getElem_cons_zero, List.setIfInBounds_toArray, List.set_cons_zero, List.set_cons_succ]
              clear v0 v1 v2 v3 f0 f1 f2 f3 vin
              obtain ⟨⟨v0, v1, v2, v3⟩, ⟨f0, f1, f2, f3⟩, vin⟩ := z10.four4
              refine wpAnyH_ready (rs := [11]) (by kernel_rfl) (by simp) (AllReadyH.cons rfl (fun K hK => ?_) AllReadyH.nil)
              go_simp
              obtain ⟨z10, o10⟩ := put_four17 z10 rs rh' rl' rn
              have z7 := o10.box z7 (fun e => by have e := (show _ = _ from e); omega)
              have z8 := o10.box z8 (fun e => by have e := (show _ = _ from e); omega)
              have z9 := o10.box z9 (fun e => by have e := (show _ = _ from e); omega)
              have b8 := b7.trans (o10.below (B := w1.heap.size) (fun i hi => by rw [show i = _ from hi]; omega) b7.size)
              generalize World.setCell (World.setCell (World.setCell (World.setCell V7 _ _) _ _) _ _) _ _ = V8 at *
              refine hK.out _ _ (hS _ b8) (fun hHeld => ?_)
              clear hK K
              try simp only [Act.put, List.getElem_toArray, List.getElem_cons_succ, List.getElem_cons_zero, List.setIfInBounds_toArray, List.set_cons_zero, List.set_cons_succ]
              clear v0 v1 v2 v3 f0 f1 f2 f3 vin
              refine wpAnyH_done (by kernel_rfl) ?_ _
              go_wp2
              go_meet
              exact ⟨_, _, _, _, rfl, rfl, rfl, rfl, b8, z7, z8, z9, z10, by omega, by omega, by omega, by omega, by omega, by omega, by omega, by omega, by omega, by omega⟩
        · go_simp
          have b2 := chainA b1 (.cells (rtB ⟨#[]⟩ 0 0 0) 26)
          have z10 := Box.madeAt hs1 26 (rtB ⟨#[]⟩ 0 0 0)
          have z8 := z8.past (.cells (rtB ⟨#[]⟩ 0 0 0) 26)
          have hs2 : (World.alloc V1 (.cells (rtB ⟨#[]⟩ 0 0 0) 26)).heap.size = n0 + 2 := by simp [hs1]
          try rw [hs1]
          change K _ (World.alloc V1 (.cells (rtB ⟨#[]⟩ 0 0 0) 26))
          generalize World.alloc V1 (.cells (rtB ⟨#[]⟩ 0 0 0) 26) = V2 at *
          refine hK.out _ _ (hS _ b2) (fun hHeld => ?_)
          clear hK K
          try simp only [Act.put, List.getElem_toArray, List.getElem_cons_succ, List.getElem_cons_zero, List.setIfInBounds_toArray, List.set_cons_zero, List.set_cons_succ]
          refine wpAnyH_ready (rs := [4, 6]) (by kernel_rfl) (by simp) (AllReadyH.cons rfl (fun K hK => ?_) (AllReadyH.cons rfl (fun K hK => ?_) AllReadyH.nil))
          · go_simp
            have b3 := chainA b2 (.cells (rtB ⟨#[]⟩ 0 0 0) 26)
            have z7 := Box.madeAt hs2 26 (rtB ⟨#[]⟩ 0 0 0)
            have z8 := z8.past (.cells (rtB ⟨#[]⟩ 0 0 0) 26)
            have z10 := z10.past (.cells (rtB ⟨#[]⟩ 0 0 0) 26)
            have hs3 : (World.alloc V2 (.cells (rtB ⟨#[]⟩ 0 0 0) 26)).heap.size = n0 + 3 := by simp [hs2]
            try rw [hs2]
            change K _ (World.alloc V2 (.cells (rtB ⟨#[]⟩ 0 0 0) 26))
            generalize World.alloc V2 (.cells (rtB ⟨#[]⟩ 0 0 0) 26) = V3 at *
            refine hK.out _ _ (hS _ b3) (fun hHeld => ?_)
            clear hK K
            try simp only [Act.put, List.getElem_toArray, List.getElem_cons_succ, List.getElem_cons_zero, List.setIfInBounds_toArray, List.set_cons_zero, List.set_cons_succ]
            refine wpAnyH_ready (rs := [6]) (by kernel_rfl) (by simp) (AllReadyH.cons rfl (fun K hK => ?_) AllReadyH.nil)
            · go_simp
              have b4 := chainA b3 (.cells (rtB ⟨#[]⟩ 0 0 0) 26)
              have z9 := Box.madeAt hs3 26 (rtB ⟨#[]⟩ 0 0 0)
              have z8 := z8.past (.cells (rtB ⟨#[]⟩ 0 0 0) 26)
              have z10 := z10.past (.cells (rtB ⟨#[]⟩ 0 0 0) 26)
              have z7 := z7.past (.cells (rtB ⟨#[]⟩ 0 0 0) 26)
              have hs4 : (World.alloc V3 (.cells (rtB ⟨#[]⟩ 0 0 0) 26)).heap.size = n0 + 4 := by simp [hs3]
              try rw [hs3]
              change K _ (World.alloc V3 (.cells (rtB ⟨#[]⟩ 0 0 0) 26))
              generalize World.alloc V3 (.cells (rtB ⟨#[]⟩ 0 0 0) 26) = V4 at *
              refine hK.out _ _ (hS _ b4) (fun hHeld => ?_)
              clear hK K
              try simp only [Act.put, List.getElem_toArray, List.getElem_cons_succ, List.getElem_cons_zero, List.setIfInBounds_toArray, List.set_cons_zero, List.set_cons_succ]
              obtain ⟨⟨v0, v1, v2, v3⟩, ⟨f0, f1, f2, f3⟩, vin⟩ := z7.four4
              refine wpAnyH_ready (rs := [8]) (by kernel_rfl) (by simp) (AllReadyH.cons rfl (fun K hK => ?_) AllReadyH.nil)
              go_simp
              obtain ⟨z7, o7⟩ := put_four17 z7 rs rh' rl' rn
              have z8 := o7.box z8 (fun e => by have e := (show _ = _ from e); omega)
              have z9 := o7.box z9 (fun e => by have e := (show _ = _ from e); omega)
              have z10 := o7.box z10 (fun e => by have e := (show _ = _ from e); omega)
              have b5 := b4.trans (o7.below (B := w1.heap.size) (fun i hi => by rw [show i = _ from hi]; omega) b4.size)
              generalize World.setCell (World.setCell (World.setCell (World.setCell V4 _ _) _ _) _ _) _ _ = V5 at *
              refine hK.out _ _ (hS _ b5) (fun hHeld => ?_)
              clear hK K
              try simp only [Act.put, List.getElem_toArray, List.getElem_cons_succ, List.getElem_cons_zero, List.setIfInBounds_toArray, List.set_cons_zero, List.set_cons_succ]
              clear v0 v1 v2 v3 f0 f1 f2 f3 vin
              obtain ⟨⟨v0, v1, v2, v3⟩, ⟨f0, f1, f2, f3⟩, vin⟩ := z8.four4
              refine wpAnyH_ready (rs := [9]) (by kernel_rfl) (by simp) (AllReadyH.cons rfl (fun K hK => ?_) AllReadyH.nil)
              go_simp
              obtain ⟨z8, o8⟩ := put_four17 z8 rs rh' rl' rn
              have z7 := o8.box z7 (fun e => by have e := (show _ = _ from e); omega)
              have z9 := o8.box z9 (fun e => by have e := (show _ = _ from e); omega)
              have z10 := o8.box z10 (fun e => by have e := (show _ = _ from e); omega)
              have b6 := b5.trans (o8.below (B := w1.heap.size) (fun i hi => by rw [show i = _ from hi]; omega) b5.size)
              generalize World.setCell (World.setCell (World.setCell (World.setCell V5 _ _) _ _) _ _) _ _ = V6 at *
              refine hK.out _ _ (hS _ b6) (fun hHeld => ?_)
              clear hK K
              try simp only [Act.put, List.getElem_toArray, List.getElem_cons_succ, List.getElem_cons_zero, List.setIfInBounds_toArray, List.set_cons_zero, List.set_cons_succ]
              clear v0 v1 v2 v3 f0 f1 f2 f3 vin
              obtain ⟨⟨v0, v1, v2, v3⟩, ⟨f0, f1, f2, f3⟩, vin⟩ := z9.four4
              refine wpAnyH_ready (rs := [10]) (by kernel_rfl) (by simp) (AllReadyH.cons rfl (fun K hK => ?_) AllReadyH.nil)
              go_simp
              obtain ⟨z9, o9⟩ := put_four17 z9 rs rh' rl' rn
              have z7 := o9.box z7 (fun e => by have e := (show _ = _ from e); omega)
              have z8 := o9.box z8 (fun e => by have e := (show _ = _ from e); omega)
              have z10 := o9.box z10 (fun e => by have e := (show _ = _ from e); omega)
              have b7 := b6.trans (o9.below (B := w1.heap.size) (fun i hi => by rw [show i = _ from hi]; omega) b6.size)
              generalize World.setCell (World.setCell (World.setCell (World.setCell V6 _ _) _ _) _ _) _ _ = V7 at *
              refine hK.out _ _ (hS _ b7) (fun hHeld => ?_)
              clear hK K
              try simp only [Act.put, List.getElem_toArray, List.getElem_cons_succ, List.getElem_cons_zero, List.setIfInBounds_toArray, List.set_cons_zero, List.set_cons_succ]
              clear v0 v1 v2 v3 f0 f1 f2 f3 vin
              obtain ⟨⟨v0, v1, v2, v3⟩, ⟨f0, f1, f2, f3⟩, vin⟩ := z10.four4
              refine wpAnyH_ready (rs := [11]) (by kernel_rfl) (by simp) (AllReadyH.cons rfl (fun K hK => ?_) AllReadyH.nil)
              go_simp
              obtain ⟨z10, o10⟩ := put_four17 z10 rs rh' rl' rn
              have z7 := o10.box z7 (fun e => by have e := (show _ = _ from e); omega)
              have z8 := o10.box z8 (fun e => by have e := (show _ = _ from e); omega)
              have z9 := o10.box z9 (fun e => by have e := (show _ = _ from e); omega)
              have b8 := b7.trans (o10.below (B := w1.heap.size) (fun i hi => by rw [show i = _ from hi]; omega) b7.size)
              generalize World.setCell (World.setCell (World.setCell (World.setCell V7 _ _) _ _) _ _) _ _ = V8 at *
              refine hK.out _ _ (hS _ b8) (fun hHeld => ?_)
              clear hK K
              try simp only [Act.put, List.getElem_toArray, List.getElem_cons_succ, List.getElem_cons_zero, List.setIfInBounds_toArray, List.set_cons_zero, List.set_cons_succ]
              clear v0 v1 v2 v3 f0 f1 f2 f3 vin
              refine wpAnyH_done (by kernel_rfl) ?_ _
              go_wp2
              go_meet
              exact ⟨_, _, _, _, rfl, rfl, rfl, rfl, b8, z7, z8, z9, z10, by omega, by omega, by omega, by omega, by omega, by omega, by omega, by omega, by omega, by omega⟩
          · go_simp
            have b3 := chainA b2 (.cells (rtB ⟨#[]⟩ 0 0 0) 26)
            have z9 := Box.madeAt hs2 26 (rtB ⟨#[]⟩ 0 0 0)
            have z8 := z8.past (.cells (rtB ⟨#[]⟩ 0 0 0) 26)
            have z10 := z10.past (.cells (rtB ⟨#[]⟩ 0 0 0) 26)
            have hs3 : (World.alloc V2 (.cells (rtB ⟨#[]⟩ 0 0 0) 26)).heap.size = n0 + 3 := by simp [hs2]
            try rw [hs2]
            change K _ (World.alloc V2 (.cells (rtB ⟨#[]⟩ 0 0 0) 26))
            generalize World.alloc V2 (.cells (rtB ⟨#[]⟩ 0 0 0) 26) = V3 at *
            refine hK.out _ _ (hS _ b3) (fun hHeld => ?_)
            clear hK K
            try simp only [Act.put, List.getElem_toArray, List.getElem_cons_succ, List.getElem_cons_zero, List.setIfInBounds_toArray, List.set_cons_zero, List.set_cons_succ]
            refine wpAnyH_ready (rs := [4]) (by kernel_rfl) (by simp) (AllReadyH.cons rfl (fun K hK => ?_) AllReadyH.nil)
            · go_simp
              have b4 := chainA b3 (.cells (rtB ⟨#[]⟩ 0 0 0) 26)
              have z7 := Box.madeAt hs3 26 (rtB ⟨#[]⟩ 0 0 0)
              have z8 := z8.past (.cells (rtB ⟨#[]⟩ 0 0 0) 26)
              have z10 := z10.past (.cells (rtB ⟨#[]⟩ 0 0 0) 26)
              have z9 := z9.past (.cells (rtB ⟨#[]⟩ 0 0 0) 26)
              have hs4 : (World.alloc V3 (.cells (rtB ⟨#[]⟩ 0 0 0) 26)).heap.size = n0 + 4 := by simp [hs3]
              try rw [hs3]
              change K _ (World.alloc V3 (.cells (rtB ⟨#[]⟩ 0 0 0) 26))
              generalize World.alloc V3 (.cells (rtB ⟨#[]⟩ 0 0 0) 26) = V4 at *
              refine hK.out _ _ (hS _ b4) (fun hHeld => ?_)
              clear hK K
              try simp only [Act.put, List.getElem_toArray, List.getElem_cons_succ, List.getElem_cons_zero, List.setIfInBounds_toArray, List.set_cons_zero, List.set_cons_succ]
              obtain ⟨⟨v0, v1, v2, v3⟩, ⟨f0, f1, f2, f3⟩, vin⟩ := z7.four4
              refine wpAnyH_ready (rs := [8]) (by kernel_rfl) (by simp) (AllReadyH.cons rfl (fun K hK => ?_) AllReadyH.nil)
              go_simp
              obtain ⟨z7, o7⟩ := put_four17 z7 rs rh' rl' rn
              have z8 := o7.box z8 (fun e => by have e := (show _ = _ from e); omega)
              have z9 := o7.box z9 (fun e => by have e := (show _ = _ from e); omega)
              have z10 := o7.box z10 (fun e => by have e := (show _ = _ from e); omega)
              have b5 := b4.trans (o7.below (B := w1.heap.size) (fun i hi => by rw [show i = _ from hi]; omega) b4.size)
              generalize World.setCell (World.setCell (World.setCell (World.setCell V4 _ _) _ _) _ _) _ _ = V5 at *
              refine hK.out _ _ (hS _ b5) (fun hHeld => ?_)
              clear hK K
              try simp only [Act.put, List.getElem_toArray, List.getElem_cons_succ, List.getElem_cons_zero, List.setIfInBounds_toArray, List.set_cons_zero, List.set_cons_succ]
              clear v0 v1 v2 v3 f0 f1 f2 f3 vin
              obtain ⟨⟨v0, v1, v2, v3⟩, ⟨f0, f1, f2, f3⟩, vin⟩ := z8.four4
              refine wpAnyH_ready (rs := [9]) (by kernel_rfl) (by simp) (AllReadyH.cons rfl (fun K hK => ?_) AllReadyH.nil)
              go_simp
              obtain ⟨z8, o8⟩ := put_four17 z8 rs rh' rl' rn
              have z7 := o8.box z7 (fun e => by have e := (show _ = _ from e); omega)
              have z9 := o8.box z9 (fun e => by have e := (show _ = _ from e); omega)
              have z10 := o8.box z10 (fun e => by have e := (show _ = _ from e); omega)
              have b6 := b5.trans (o8.below (B := w1.heap.size) (fun i hi => by rw [show i = _ from hi]; omega) b5.size)
              generalize World.setCell (World.setCell (World.setCell (World.setCell V5 _ _) _ _) _ _) _ _ = V6 at *
              refine hK.out _ _ (hS _ b6) (fun hHeld => ?_)
              clear hK K
              try simp only [Act.put, List.getElem_toArray, List.getElem_cons_succ, List.getElem_cons_zero, List.setIfInBounds_toArray, List.set_cons_zero, List.set_cons_succ]
              clear v0 v1 v2 v3 f0 f1 f2 f3 vin
              obtain ⟨⟨v0, v1, v2, v3⟩, ⟨f0, f1, f2, f3⟩, vin⟩ := z9.four4
              refine wpAnyH_ready (rs := [10]) (by kernel_rfl) (by simp) (AllReadyH.cons rfl (fun K hK => ?_) AllReadyH.nil)
              go_simp
              obtain ⟨z9, o9⟩ := put_four17 z9 rs rh' rl' rn
              have z7 := o9.box z7 (fun e => by have e := (show _ = _ from e); omega)
              have z8 := o9.box z8 (fun e => by have e := (show _ = _ from e); omega)
              have z10 := o9.box z10 (fun e => by have e := (show _ = _ from e); omega)
              have b7 := b6.trans (o9.below (B := w1.heap.size) (fun i hi => by rw [show i = _ from hi]; omega) b6.size)
              generalize World.setCell (World.setCell (World.setCell (World.setCell V6 _ _) _ _) _ _) _ _ = V7 at *
              refine hK.out _ _ (hS _ b7) (fun hHeld => ?_)
              clear hK K
              try simp only [Act.put, List.getElem_toArray, List.getElem_cons_succ, List.getElem_cons_zero, List.setIfInBounds_toArray, List.set_cons_zero, List.set_cons_succ]
              clear v0 v1 v2 v3 f0 f1 f2 f3 vin
              obtain ⟨⟨v0, v1, v2, v3⟩, ⟨f0, f1, f2, f3⟩, vin⟩ := z10.four4
              refine wpAnyH_ready (rs := [11]) (by kernel_rfl) (by simp) (AllReadyH.cons rfl (fun K hK => ?_) AllReadyH.nil)
              go_simp
              obtain ⟨z10, o10⟩ := put_four17 z10 rs rh' rl' rn
              have z7 := o10.box z7 (fun e => by have e := (show _ = _ from e); omega)
              have z8 := o10.box z8 (fun e => by have e := (show _ = _ from e); omega)
              have z9 := o10.box z9 (fun e => by have e := (show _ = _ from e); omega)
              have b8 := b7.trans (o10.below (B := w1.heap.size) (fun i hi => by rw [show i = _ from hi]; omega) b7.size)
              generalize World.setCell (World.setCell (World.setCell (World.setCell V7 _ _) _ _) _ _) _ _ = V8 at *
              refine hK.out _ _ (hS _ b8) (fun hHeld => ?_)
              clear hK K
              try simp only [Act.put, List.getElem_toArray, List.getElem_cons_succ, List.getElem_cons_zero, List.setIfInBounds_toArray, List.set_cons_zero, List.set_cons_succ]
              clear v0 v1 v2 v3 f0 f1 f2 f3 vin
              refine wpAnyH_done (by kernel_rfl) ?_ _
              go_wp2
              go_meet
              exact ⟨_, _, _, _, rfl, rfl, rfl, rfl, b8, z7, z8, z9, z10, by omega, by omega, by omega, by omega, by omega, by omega, by omega, by omega, by omega, by omega⟩
      · go_simp
        have b1 := chainA b0 (.cells (rtB ⟨#[]⟩ 0 0 0) 26)
        have z9 := Box.madeAt hs0 26 (rtB ⟨#[]⟩ 0 0 0)
        have hs1 : (World.alloc V0 (.cells (rtB ⟨#[]⟩ 0 0 0) 26)).heap.size = n0 + 1 := by simp [hs0]
        try rw [hs0]
        change K _ (World.alloc V0 (.cells (rtB ⟨#[]⟩ 0 0 0) 26))
        generalize World.alloc V0 (.cells (rtB ⟨#[]⟩ 0 0 0) 26) = V1 at *
        refine hK.out _ _ (hS _ b1) (fun hHeld => ?_)
        clear hK K
        try simp only [Act.put, List.getElem_toArray, List.getElem_cons_succ, List.getElem_cons_zero, List.setIfInBounds_toArray, List.set_cons_zero, List.set_cons_succ]
        refine wpAnyH_ready (rs := [4, 5, 7]) (by kernel_rfl) (by simp) (AllReadyH.cons rfl (fun K hK => ?_) (AllReadyH.cons rfl (fun K hK => ?_) (AllReadyH.cons rfl (fun K hK => ?_) AllReadyH.nil)))
        · go_simp
          have b2 := chainA b1 (.cells (rtB ⟨#[]⟩ 0 0 0) 26)
          have z7 := Box.madeAt hs1 26 (rtB ⟨#[]⟩ 0 0 0)
          have z9 := z9.past (.cells (rtB ⟨#[]⟩ 0 0 0) 26)
          have hs2 : (World.alloc V1 (.cells (rtB ⟨#[]⟩ 0 0 0) 26)).heap.size = n0 + 2 := by simp [hs1]
          try rw [hs1]
          change K _ (World.alloc V1 (.cells (rtB ⟨#[]⟩ 0 0 0) 26))
          generalize World.alloc V1 (.cells (rtB ⟨#[]⟩ 0 0 0) 26) = V2 at *
          refine hK.out _ _ (hS _ b2) (fun hHeld => ?_)
          clear hK K
          try simp only [Act.put, List.getElem_toArray, List.getElem_cons_succ, List.getElem_cons_zero, List.setIfInBounds_toArray, List.set_cons_zero, List.set_cons_succ]
          refine wpAnyH_ready (rs := [5, 7]) (by kernel_rfl) (by simp) (AllReadyH.cons rfl (fun K hK => ?_) (AllReadyH.cons rfl (fun K hK => ?_) AllReadyH.nil))
          · go_simp
            have b3 := chainA b2 (.cells (rtB ⟨#[]⟩ 0 0 0) 26)
            have z8 := Box.madeAt hs2 26 (rtB ⟨#[]⟩ 0 0 0)
            have z9 := z9.past (.cells (rtB ⟨#[]⟩ 0 0 0) 26)
            have z7 := z7.past (.cells (rtB ⟨#[]⟩ 0 0 0) 26)
            have hs3 : (World.alloc V2 (.cells (rtB ⟨#[]⟩ 0 0 0) 26)).heap.size = n0 + 3 := by simp [hs2]
            try rw [hs2]
            change K _ (World.alloc V2 (.cells (rtB ⟨#[]⟩ 0 0 0) 26))
            generalize World.alloc V2 (.cells (rtB ⟨#[]⟩ 0 0 0) 26) = V3 at *
            refine hK.out _ _ (hS _ b3) (fun hHeld => ?_)
            clear hK K
            try simp only [Act.put, List.getElem_toArray, List.getElem_cons_succ, List.getElem_cons_zero, List.setIfInBounds_toArray, List.set_cons_zero, List.set_cons_succ]
            refine wpAnyH_ready (rs := [7]) (by kernel_rfl) (by simp) (AllReadyH.cons rfl (fun K hK => ?_) AllReadyH.nil)
            · go_simp
              have b4 := chainA b3 (.cells (rtB ⟨#[]⟩ 0 0 0) 26)
              have z10 := Box.madeAt hs3 26 (rtB ⟨#[]⟩ 0 0 0)
              have z9 := z9.past (.cells (rtB ⟨#[]⟩ 0 0 0) 26)
              have z7 := z7.past (.cells (rtB ⟨#[]⟩ 0 0 0) 26)
              have z8 := z8.past (.cells (rtB ⟨#[]⟩ 0 0 0) 26)
              have hs4 : (World.alloc V3 (.cells (rtB ⟨#[]⟩ 0 0 0) 26)).heap.size = n0 + 4 := by simp [hs3]
              try rw [hs3]
              change K _ (World.alloc V3 (.cells (rtB ⟨#[]⟩ 0 0 0) 26))
              generalize World.alloc V3 (.cells (rtB ⟨#[]⟩ 0 0 0) 26) = V4 at *
              refine hK.out _ _ (hS _ b4) (fun hHeld => ?_)
              clear hK K
              try simp only [Act.put, List.getElem_toArray, List.getElem_cons_succ, List.getElem_cons_zero, List.setIfInBounds_toArray, List.set_cons_zero, List.set_cons_succ]
              obtain ⟨⟨v0, v1, v2, v3⟩, ⟨f0, f1, f2, f3⟩, vin⟩ := z7.four4
              refine wpAnyH_ready (rs := [8]) (by kernel_rfl) (by simp) (AllReadyH.cons rfl (fun K hK => ?_) AllReadyH.nil)
              go_simp
              obtain ⟨z7, o7⟩ := put_four17 z7 rs rh' rl' rn
              have z8 := o7.box z8 (fun e => by have e := (show _ = _ from e); omega)
              have z9 := o7.box z9 (fun e => by have e := (show _ = _ from e); omega)
              have z10 := o7.box z10 (fun e => by have e := (show _ = _ from e); omega)
              have b5 := b4.trans (o7.below (B := w1.heap.size) (fun i hi => by rw [show i = _ from hi]; omega) b4.size)
              generalize World.setCell (World.setCell (World.setCell (World.setCell V4 _ _) _ _) _ _) _ _ = V5 at *
              refine hK.out _ _ (hS _ b5) (fun hHeld => ?_)
              clear hK K
              try simp only [Act.put, List.getElem_toArray, List.getElem_cons_succ, List.getElem_cons_zero, List.setIfInBounds_toArray, List.set_cons_zero, List.set_cons_succ]
              clear v0 v1 v2 v3 f0 f1 f2 f3 vin
              obtain ⟨⟨v0, v1, v2, v3⟩, ⟨f0, f1, f2, f3⟩, vin⟩ := z8.four4
              refine wpAnyH_ready (rs := [9]) (by kernel_rfl) (by simp) (AllReadyH.cons rfl (fun K hK => ?_) AllReadyH.nil)
              go_simp
              obtain ⟨z8, o8⟩ := put_four17 z8 rs rh' rl' rn
              have z7 := o8.box z7 (fun e => by have e := (show _ = _ from e); omega)
              have z9 := o8.box z9 (fun e => by have e := (show _ = _ from e); omega)
              have z10 := o8.box z10 (fun e => by have e := (show _ = _ from e); omega)
              have b6 := b5.trans (o8.below (B := w1.heap.size) (fun i hi => by rw [show i = _ from hi]; omega) b5.size)
              generalize World.setCell (World.setCell (World.setCell (World.setCell V5 _ _) _ _) _ _) _ _ = V6 at *
              refine hK.out _ _ (hS _ b6) (fun hHeld => ?_)
              clear hK K
              try simp only [Act.put, List.getElem_toArray, List.getElem_cons_succ, List.getElem_cons_zero, List.setIfInBounds_toArray, List.set_cons_zero, List.set_cons_succ]
              clear v0 v1 v2 v3 f0 f1 f2 f3 vin
              obtain ⟨⟨v0, v1, v2, v3⟩, ⟨f0, f1, f2, f3⟩, vin⟩ := z9.four4
              refine wpAnyH_ready (rs := [10]) (by kernel_rfl) (by simp) (AllReadyH.cons rfl (fun K hK => ?_) AllReadyH.nil)
              go_simp
              obtain ⟨z9, o9⟩ := put_four17 z9 rs rh' rl' rn
              have z7 := o9.box z7 (fun e => by have e := (show _ = _ from e); omega)
              have z8 := o9.box z8 (fun e => by have e := (show _ = _ from e); omega)
              have z10 := o9.box z10 (fun e => by have e := (show _ = _ from e); omega)
              have b7 := b6.trans (o9.below (B := w1.heap.size) (fun i hi => by rw [show i = _ from hi]; omega) b6.size)
              generalize World.setCell (World.setCell (World.setCell (World.setCell V6 _ _) _ _) _ _) _ _ = V7 at *
              refine hK.out _ _ (hS _ b7) (fun hHeld => ?_)
              clear hK K
              try simp only [Act.put, List.getElem_toArray, List.getElem_cons_succ, List.getElem_cons_zero, List.setIfInBounds_toArray, List.set_cons_zero, List.set_cons_succ]
              clear v0 v1 v2 v3 f0 f1 f2 f3 vin
              obtain ⟨⟨v0, v1, v2, v3⟩, ⟨f0, f1, f2, f3⟩, vin⟩ := z10.four4
              refine wpAnyH_ready (rs := [11]) (by kernel_rfl) (by simp) (AllReadyH.cons rfl (fun K hK => ?_) AllReadyH.nil)
              go_simp
              obtain ⟨z10, o10⟩ := put_four17 z10 rs rh' rl' rn
              have z7 := o10.box z7 (fun e => by have e := (show _ = _ from e); omega)
              have z8 := o10.box z8 (fun e => by have e := (show _ = _ from e); omega)
              have z9 := o10.box z9 (fun e => by have e := (show _ = _ from e); omega)
              have b8 := b7.trans (o10.below (B := w1.heap.size) (fun i hi => by rw [show i = _ from hi]; omega) b7.size)
              generalize World.setCell (World.setCell (World.setCell (World.setCell V7 _ _) _ _) _ _) _ _ = V8 at *
              refine hK.out _ _ (hS _ b8) (fun hHeld => ?_)
              clear hK K
              try simp only [Act.put, List.getElem_toArray, List.getElem_cons_succ, List.getElem_cons_zero, List.setIfInBounds_toArray, List.set_cons_zero, List.set_cons_succ]
              clear v0 v1 v2 v3 f0 f1 f2 f3 vin
              refine wpAnyH_done (by kernel_rfl) ?_ _
              go_wp2
              go_meet
              exact ⟨_, _, _, _, rfl, rfl, rfl, rfl, b8, z7, z8, z9, z10, by omega, by omega, by omega, by omega, by omega, by omega, by omega, by omega, by omega, by omega⟩
          · go_simp
            have b3 := chainA b2 (.cells (rtB ⟨#[]⟩ 0 0 0) 26)
            have z10 := Box.madeAt hs2 26 (rtB ⟨#[]⟩ 0 0 0)
            have z9 := z9.past (.cells (rtB ⟨#[]⟩ 0 0 0) 26)
            have z7 := z7.past (.cells (rtB ⟨#[]⟩ 0 0 0) 26)
            have hs3 : (World.alloc V2 (.cells (rtB ⟨#[]⟩ 0 0 0) 26)).heap.size = n0 + 3 := by simp [hs2]
            try rw [hs2]
            change K _ (World.alloc V2 (.cells (rtB ⟨#[]⟩ 0 0 0) 26))
            generalize World.alloc V2 (.cells (rtB ⟨#[]⟩ 0 0 0) 26) = V3 at *
            refine hK.out _ _ (hS _ b3) (fun hHeld => ?_)
            clear hK K
            try simp only [Act.put, List.getElem_toArray, List.getElem_cons_succ, List.getElem_cons_zero, List.setIfInBounds_toArray, List.set_cons_zero, List.set_cons_succ]
            refine wpAnyH_ready (rs := [5]) (by kernel_rfl) (by simp) (AllReadyH.cons rfl (fun K hK => ?_) AllReadyH.nil)
            · go_simp
              have b4 := chainA b3 (.cells (rtB ⟨#[]⟩ 0 0 0) 26)
              have z8 := Box.madeAt hs3 26 (rtB ⟨#[]⟩ 0 0 0)
              have z9 := z9.past (.cells (rtB ⟨#[]⟩ 0 0 0) 26)
              have z7 := z7.past (.cells (rtB ⟨#[]⟩ 0 0 0) 26)
              have z10 := z10.past (.cells (rtB ⟨#[]⟩ 0 0 0) 26)
              have hs4 : (World.alloc V3 (.cells (rtB ⟨#[]⟩ 0 0 0) 26)).heap.size = n0 + 4 := by simp [hs3]
              try rw [hs3]
              change K _ (World.alloc V3 (.cells (rtB ⟨#[]⟩ 0 0 0) 26))
              generalize World.alloc V3 (.cells (rtB ⟨#[]⟩ 0 0 0) 26) = V4 at *
              refine hK.out _ _ (hS _ b4) (fun hHeld => ?_)
              clear hK K
              try simp only [Act.put, List.getElem_toArray, List.getElem_cons_succ, List.getElem_cons_zero, List.setIfInBounds_toArray, List.set_cons_zero, List.set_cons_succ]
              obtain ⟨⟨v0, v1, v2, v3⟩, ⟨f0, f1, f2, f3⟩, vin⟩ := z7.four4
              refine wpAnyH_ready (rs := [8]) (by kernel_rfl) (by simp) (AllReadyH.cons rfl (fun K hK => ?_) AllReadyH.nil)
              go_simp
              obtain ⟨z7, o7⟩ := put_four17 z7 rs rh' rl' rn
              have z8 := o7.box z8 (fun e => by have e := (show _ = _ from e); omega)
              have z9 := o7.box z9 (fun e => by have e := (show _ = _ from e); omega)
              have z10 := o7.box z10 (fun e => by have e := (show _ = _ from e); omega)
              have b5 := b4.trans (o7.below (B := w1.heap.size) (fun i hi => by rw [show i = _ from hi]; omega) b4.size)
              generalize World.setCell (World.setCell (World.setCell (World.setCell V4 _ _) _ _) _ _) _ _ = V5 at *
              refine hK.out _ _ (hS _ b5) (fun hHeld => ?_)
              clear hK K
              try simp only [Act.put, List.getElem_toArray, List.getElem_cons_succ, List.getElem_cons_zero, List.setIfInBounds_toArray, List.set_cons_zero, List.set_cons_succ]
              clear v0 v1 v2 v3 f0 f1 f2 f3 vin
              obtain ⟨⟨v0, v1, v2, v3⟩, ⟨f0, f1, f2, f3⟩, vin⟩ := z8.four4
              refine wpAnyH_ready (rs := [9]) (by kernel_rfl) (by simp) (AllReadyH.cons rfl (fun K hK => ?_) AllReadyH.nil)
              go_simp
              obtain ⟨z8, o8⟩ := put_four17 z8 rs rh' rl' rn
              have z7 := o8.box z7 (fun e => by have e := (show _ = _ from e); omega)
              have z9 := o8.box z9 (fun e => by have e := (show _ = _ from e); omega)
              have z10 := o8.box z10 (fun e => by have e := (show _ = _ from e); omega)
              have b6 := b5.trans (o8.below (B := w1.heap.size) (fun i hi => by rw [show i = _ from hi]; omega) b5.size)
              generalize World.setCell (World.setCell (World.setCell (World.setCell V5 _ _) _ _) _ _) _ _ = V6 at *
              refine hK.out _ _ (hS _ b6) (fun hHeld => ?_)
              clear hK K
              try simp only [Act.put, List.getElem_toArray, List.getElem_cons_succ, List.getElem_cons_zero, List.setIfInBounds_toArray, List.set_cons_zero, List.set_cons_succ]
              clear v0 v1 v2 v3 f0 f1 f2 f3 vin
              obtain ⟨⟨v0, v1, v2, v3⟩, ⟨f0, f1, f2, f3⟩, vin⟩ := z9.four4
              refine wpAnyH_ready (rs := [10]) (by kernel_rfl) (by simp) (AllReadyH.cons rfl (fun K hK => ?_) AllReadyH.nil)
              go_simp
              obtain ⟨z9, o9⟩ := put_four17 z9 rs rh' rl' rn
              have z7 := o9.box z7 (fun e => by have e := (show _ = _ from e); omega)
              have z8 := o9.box z8 (fun e => by have e := (show _ = _ from e); omega)
              have z10 := o9.box z10 (fun e => by have e := (show _ = _ from e); omega)
              have b7 := b6.trans (o9.below (B := w1.heap.size) (fun i hi => by rw [show i = _ from hi]; omega) b6.size)
              generalize World.setCell (World.setCell (World.setCell (World.setCell V6 _ _) _ _) _ _) _ _ = V7 at *
              refine hK.out _ _ (hS _ b7) (fun hHeld => ?_)
              clear hK K
              try simp only [Act.put, List.getElem_toArray, List.getElem_cons_succ, List.getElem_cons_zero, List.setIfInBounds_toArray, List.set_cons_zero, List.set_cons_succ]
              clear v0 v1 v2 v3 f0 f1 f2 f3 vin
              obtain ⟨⟨v0, v1, v2, v3⟩, ⟨f0, f1, f2, f3⟩, vin⟩ := z10.four4
              refine wpAnyH_ready (rs := [11]) (by kernel_rfl) (by simp) (AllReadyH.cons rfl (fun K hK => ?_) AllReadyH.nil)
              go_simp
              obtain ⟨z10, o10⟩ := put_four17 z10 rs rh' rl' rn
              have z7 := o10.box z7 (fun e => by have e := (show _ = _ from e); omega)
              have z8 := o10.box z8 (fun e => by have e := (show _ = _ from e); omega)
              have z9 := o10.box z9 (fun e => by have e := (show _ = _ from e); omega)
              have b8 := b7.trans (o10.below (B := w1.heap.size) (fun i hi => by rw [show i = _ from hi]; omega) b7.size)
              generalize World.setCell (World.setCell (World.setCell (World.setCell V7 _ _) _ _) _ _) _ _ = V8 at *
              refine hK.out _ _ (hS _ b8) (fun hHeld => ?_)
              clear hK K
              try simp only [Act.put, List.getElem_toArray, List.getElem_cons_succ, List.getElem_cons_zero, List.setIfInBounds_toArray, List.set_cons_zero, List.set_cons_succ]
              clear v0 v1 v2 v3 f0 f1 f2 f3 vin
              refine wpAnyH_done (by kernel_rfl) ?_ _
              go_wp2
              go_meet
              exact ⟨_, _, _, _, rfl, rfl, rfl, rfl, b8, z7, z8, z9, z10, by omega, by omega, by omega, by omega, by omega, by omega, by omega, by omega, by omega, by omega⟩
        · go_simp
          have b2 := chainA b1 (.cells (rtB ⟨#[]⟩ 0 0 0) 26)
          have z8 := Box.madeAt hs1 26 (rtB ⟨#[]⟩ 0 0 0)
          have z9 := z9.past (.cells (rtB ⟨#[]⟩ 0 0 0) 26)
          have hs2 : (World.alloc V1 (.cells (rtB ⟨#[]⟩ 0 0 0) 26)).heap.size = n0 + 2 := by simp [hs1]
          try rw [hs1]
          change K _ (World.alloc V1 (.cells (rtB ⟨#[]⟩ 0 0 0) 26))
          generalize World.alloc V1 (.cells (rtB ⟨#[]⟩ 0 0 0) 26) = V2 at *
          refine hK.out _ _ (hS _ b2) (fun hHeld => ?_)
          clear hK K
          try simp only [Act.put, List.getElem_toArray, List.getElem_cons_succ, List.getElem_cons_zero, List.setIfInBounds_toArray, List.set_cons_zero, List.set_cons_succ]
          refine wpAnyH_ready (rs := [4, 7]) (by kernel_rfl) (by simp) (AllReadyH.cons rfl (fun K hK => ?_) (AllReadyH.cons rfl (fun K hK => ?_) AllReadyH.nil))
          · go_simp
            have b3 := chainA b2 (.cells (rtB ⟨#[]⟩ 0 0 0) 26)
            have z7 := Box.madeAt hs2 26 (rtB ⟨#[]⟩ 0 0 0)
            have z9 := z9.past (.cells (rtB ⟨#[]⟩ 0 0 0) 26)
            have z8 := z8.past (.cells (rtB ⟨#[]⟩ 0 0 0) 26)
            have hs3 : (World.alloc V2 (.cells (rtB ⟨#[]⟩ 0 0 0) 26)).heap.size = n0 + 3 := by simp [hs2]
            try rw [hs2]
            change K _ (World.alloc V2 (.cells (rtB ⟨#[]⟩ 0 0 0) 26))
            generalize World.alloc V2 (.cells (rtB ⟨#[]⟩ 0 0 0) 26) = V3 at *
            refine hK.out _ _ (hS _ b3) (fun hHeld => ?_)
            clear hK K
            try simp only [Act.put, List.getElem_toArray, List.getElem_cons_succ, List.getElem_cons_zero, List.setIfInBounds_toArray, List.set_cons_zero, List.set_cons_succ]
            refine wpAnyH_ready (rs := [7]) (by kernel_rfl) (by simp) (AllReadyH.cons rfl (fun K hK => ?_) AllReadyH.nil)
            · go_simp
              have b4 := chainA b3 (.cells (rtB ⟨#[]⟩ 0 0 0) 26)
              have z10 := Box.madeAt hs3 26 (rtB ⟨#[]⟩ 0 0 0)
              have z9 := z9.past (.cells (rtB ⟨#[]⟩ 0 0 0) 26)
              have z8 := z8.past (.cells (rtB ⟨#[]⟩ 0 0 0) 26)
              have z7 := z7.past (.cells (rtB ⟨#[]⟩ 0 0 0) 26)
              have hs4 : (World.alloc V3 (.cells (rtB ⟨#[]⟩ 0 0 0) 26)).heap.size = n0 + 4 := by simp [hs3]
              try rw [hs3]
              change K _ (World.alloc V3 (.cells (rtB ⟨#[]⟩ 0 0 0) 26))
              generalize World.alloc V3 (.cells (rtB ⟨#[]⟩ 0 0 0) 26) = V4 at *
              refine hK.out _ _ (hS _ b4) (fun hHeld => ?_)
              clear hK K
              try simp only [Act.put, List.getElem_toArray, List.getElem_cons_succ, List.getElem_cons_zero, List.setIfInBounds_toArray, List.set_cons_zero, List.set_cons_succ]
              obtain ⟨⟨v0, v1, v2, v3⟩, ⟨f0, f1, f2, f3⟩, vin⟩ := z7.four4
              refine wpAnyH_ready (rs := [8]) (by kernel_rfl) (by simp) (AllReadyH.cons rfl (fun K hK => ?_) AllReadyH.nil)
              go_simp
              obtain ⟨z7, o7⟩ := put_four17 z7 rs rh' rl' rn
              have z8 := o7.box z8 (fun e => by have e := (show _ = _ from e); omega)
              have z9 := o7.box z9 (fun e => by have e := (show _ = _ from e); omega)
              have z10 := o7.box z10 (fun e => by have e := (show _ = _ from e); omega)
              have b5 := b4.trans (o7.below (B := w1.heap.size) (fun i hi => by rw [show i = _ from hi]; omega) b4.size)
              generalize World.setCell (World.setCell (World.setCell (World.setCell V4 _ _) _ _) _ _) _ _ = V5 at *
              refine hK.out _ _ (hS _ b5) (fun hHeld => ?_)
              clear hK K
              try simp only [Act.put, List.getElem_toArray, List.getElem_cons_succ, List.getElem_cons_zero, List.setIfInBounds_toArray, List.set_cons_zero, List.set_cons_succ]
              clear v0 v1 v2 v3 f0 f1 f2 f3 vin
              obtain ⟨⟨v0, v1, v2, v3⟩, ⟨f0, f1, f2, f3⟩, vin⟩ := z8.four4
              refine wpAnyH_ready (rs := [9]) (by kernel_rfl) (by simp) (AllReadyH.cons rfl (fun K hK => ?_) AllReadyH.nil)
              go_simp
              obtain ⟨z8, o8⟩ := put_four17 z8 rs rh' rl' rn
              have z7 := o8.box z7 (fun e => by have e := (show _ = _ from e); omega)
              have z9 := o8.box z9 (fun e => by have e := (show _ = _ from e); omega)
              have z10 := o8.box z10 (fun e => by have e := (show _ = _ from e); omega)
              have b6 := b5.trans (o8.below (B := w1.heap.size) (fun i hi => by rw [show i = _ from hi]; omega) b5.size)
              generalize World.setCell (World.setCell (World.setCell (World.setCell V5 _ _) _ _) _ _) _ _ = V6 at *
              refine hK.out _ _ (hS _ b6) (fun hHeld => ?_)
              clear hK K
              try simp only [Act.put, List.getElem_toArray, List.getElem_cons_succ, List.getElem_cons_zero, List.setIfInBounds_toArray, List.set_cons_zero, List.set_cons_succ]
              clear v0 v1 v2 v3 f0 f1 f2 f3 vin
              obtain ⟨⟨v0, v1, v2, v3⟩, ⟨f0, f1, f2, f3⟩, vin⟩ := z9.four4
              refine wpAnyH_ready (rs := [10]) (by kernel_rfl) (by simp) (AllReadyH.cons rfl (fun K hK => ?_) AllReadyH.nil)
              go_simp
              obtain ⟨z9, o9⟩ := put_four17 z9 rs rh' rl' rn
              have z7 := o9.box z7 (fun e => by have e := (show _ = _ from e); omega)
              have z8 := o9.box z8 (fun e => by have e := (show _ = _ from e); omega)
              have z10 := o9.box z10 (fun e => by have e := (show _ = _ from e); omega)
              have b7 := b6.trans (o9.below (B := w1.heap.size) (fun i hi => by rw [show i = _ from hi]; omega) b6.size)
              generalize World.setCell (World.setCell (World.setCell (World.setCell V6 _ _) _ _) _ _) _ _ = V7 at *
              refine hK.out _ _ (hS _ b7) (fun hHeld => ?_)
              clear hK K
              try simp only [Act.put, List.getElem_toArray, List.getElem_cons_succ, List.getElem_cons_zero, List.setIfInBounds_toArray, List.set_cons_zero, List.set_cons_succ]
              clear v0 v1 v2 v3 f0 f1 f2 f3 vin
              obtain ⟨⟨v0, v1, v2, v3⟩, ⟨f0, f1, f2, f3⟩, vin⟩ := z10.four4
              refine wpAnyH_ready (rs := [11]) (by kernel_rfl) (by simp) (AllReadyH.cons rfl (fun K hK => ?_) AllReadyH.nil)
              go_simp
              obtain ⟨z10, o10⟩ := put_four17 z10 rs rh' rl' rn
              have z7 := o10.box z7 (fun e => by have e := (show _ = _ from e); omega)
              have z8 := o10.box z8 (fun e => by have e := (show _ = _ from e); omega)
              have z9 := o10.box z9 (fun e => by have e := (show _ = _ from e); omega)
              have b8 := b7.trans (o10.below (B := w1.heap.size) (fun i hi => by rw [show i = _ from hi]; omega) b7.size)
              generalize World.setCell (World.setCell (World.setCell (World.setCell V7 _ _) _ _) _ _) _ _ = V8 at *
              refine hK.out _ _ (hS _ b8) (fun hHeld => ?_)
              clear hK K
              try simp only [Act.put, List.getElem_toArray, List.getElem_cons_succ, List.getElem_cons_zero, List.setIfInBounds_toArray, List.set_cons_zero, List.set_cons_succ]
              clear v0 v1 v2 v3 f0 f1 f2 f3 vin
              refine wpAnyH_done (by kernel_rfl) ?_ _
              go_wp2
              go_meet
              exact ⟨_, _, _, _, rfl, rfl, rfl, rfl, b8, z7, z8, z9, z10, by omega, by omega, by omega, by omega, by omega, by omega, by omega, by omega, by omega, by omega⟩
          · go_simp
            have b3 := chainA b2 (.cells (rtB ⟨#[]⟩ 0 0 0) 26)
            have z10 := Box.madeAt hs2 26 (rtB ⟨#[]⟩ 0 0 0)
            have z9 := z9.past (.cells (rtB ⟨#[]⟩ 0 0 0) 26)
            have z8 := z8.past (.cells (rtB ⟨#[]⟩ 0 0 0) 26)
            have hs3 : (World.alloc V2 (.cells (rtB ⟨#[]⟩ 0 0 0) 26)).heap.size = n0 + 3 := by simp [hs2]
            try rw [hs2]
            change K _ (World.alloc V2 (.cells (rtB ⟨#[]⟩ 0 0 0) 26))
            generalize World.alloc V2 (.cells (rtB ⟨#[]⟩ 0 0 0) 26) = V3 at *
            refine hK.out _ _ (hS _ b3) (fun hHeld => ?_)
            clear hK K
            try simp only [Act.put, List.getElem_toArray, List.getElem_cons_succ, List.getElem_cons_zero, List.setIfInBounds_toArray, List.set_cons_zero, List.set_cons_succ]
            refine wpAnyH_ready (rs := [4]) (by kernel_rfl) (by simp) (AllReadyH.cons rfl (fun K hK => ?_) AllReadyH.nil)
            · go_simp
              have b4 := chainA b3 (.cells (rtB ⟨#[]⟩ 0 0 0) 26)
              have z7 := Box.madeAt hs3 26 (rtB ⟨#[]⟩ 0 0 0)
              have z9 := z9.past (.cells (rtB ⟨#[]⟩ 0 0 0) 26)
              have z8 := z8.past (.cells (rtB ⟨#[]⟩ 0 0 0) 26)
              have z10 := z10.past (.cells (rtB ⟨#[]⟩ 0 0 0) 26)
              have hs4 : (World.alloc V3 (.cells (rtB ⟨#[]⟩ 0 0 0) 26)).heap.size = n0 + 4 := by simp [hs3]
              try rw [hs3]
              change K _ (World.alloc V3 (.cells (rtB ⟨#[]⟩ 0 0 0) 26))
              generalize World.alloc V3 (.cells (rtB ⟨#[]⟩ 0 0 0) 26) = V4 at *
              refine hK.out _ _ (hS _ b4) (fun hHeld => ?_)
              clear hK K
              try simp only [Act.put, List.getElem_toArray, List.getElem_cons_succ, List.getElem_cons_zero, List.setIfInBounds_toArray, List.set_cons_zero, List.set_cons_succ]
              obtain ⟨⟨v0, v1, v2, v3⟩, ⟨f0, f1, f2, f3⟩, vin⟩ := z7.four4
              refine wpAnyH_ready (rs := [8]) (by kernel_rfl) (by simp) (AllReadyH.cons rfl (fun K hK => ?_) AllReadyH.nil)
              go_simp
              obtain ⟨z7, o7⟩ := put_four17 z7 rs rh' rl' rn
              have z8 := o7.box z8 (fun e => by have e := (show _ = _ from e); omega)
              have z9 := o7.box z9 (fun e => by have e := (show _ = _ from e); omega)
              have z10 := o7.box z10 (fun e => by have e := (show _ = _ from e); omega)
              have b5 := b4.trans (o7.below (B := w1.heap.size) (fun i hi => by rw [show i = _ from hi]; omega) b4.size)
              generalize World.setCell (World.setCell (World.setCell (World.setCell V4 _ _) _ _) _ _) _ _ = V5 at *
              refine hK.out _ _ (hS _ b5) (fun hHeld => ?_)
              clear hK K
              try simp only [Act.put, List.getElem_toArray, List.getElem_cons_succ, List.getElem_cons_zero, List.setIfInBounds_toArray, List.set_cons_zero, List.set_cons_succ]
              clear v0 v1 v2 v3 f0 f1 f2 f3 vin
              obtain ⟨⟨v0, v1, v2, v3⟩, ⟨f0, f1, f2, f3⟩, vin⟩ := z8.four4
              refine wpAnyH_ready (rs := [9]) (by kernel_rfl) (by simp) (AllReadyH.cons rfl (fun K hK => ?_) AllReadyH.nil)
              go_simp
              obtain ⟨z8, o8⟩ := put_four17 z8 rs rh' rl' rn
              have z7 := o8.box z7 (fun e => by have e := (show _ = _ from e); omega)
              have z9 := o8.box z9 (fun e => by have e := (show _ = _ from e); omega)
              have z10 := o8.box z10 (fun e => by have e := (show _ = _ from e); omega)
              have b6 := b5.trans (o8.below (B := w1.heap.size) (fun i hi => by rw [show i = _ from hi]; omega) b5.size)
              generalize World.setCell (World.setCell (World.setCell (World.setCell V5 _ _) _ _) _ _) _ _ = V6 at *
              refine hK.out _ _ (hS _ b6) (fun hHeld => ?_)
              clear hK K
              try simp only [Act.put, List.getElem_toArray, List.getElem_cons_succ, List.getElem_cons_zero, List.setIfInBounds_toArray, List.set_cons_zero, List.set_cons_succ]
              clear v0 v1 v2 v3 f0 f1 f2 f3 vin
              obtain ⟨⟨v0, v1, v2, v3⟩, ⟨f0, f1, f2, f3⟩, vin⟩ := z9.four4
              refine wpAnyH_ready (rs := [10]) (by kernel_rfl) (by simp) (AllReadyH.cons rfl (fun K hK => ?_) AllReadyH.nil)
              go_simp
              obtain ⟨z9, o9⟩ := put_four17 z9 rs rh' rl' rn
              have z7 := o9.box z7 (fun e => by have e := (show _ = _ from e); omega)
              have z8 := o9.box z8 (fun e => by have e := (show _ = _ from e); omega)
              have z10 := o9.box z10 (fun e => by have e := (show _ = _ from e); omega)
              have b7 := b6.trans (o9.below (B := w1.heap.size) (fun i hi => by rw [show i = _ from hi]; omega) b6.size)
              generalize World.setCell (World.setCell (World.setCell (World.setCell V6 _ _) _ _) _ _) _ _ = V7 at *
              refine hK.out _ _ (hS _ b7) (fun hHeld => ?_)
              clear hK K
              try simp only [Act.put, List.getElem_toArray, List.getElem_cons_succ, List.getElem_cons_zero, List.setIfInBounds_toArray, List.set_cons_zero, List.set_cons_succ]
              clear v0 v1 v2 v3 f0 f1 f2 f3 vin
              obtain ⟨⟨v0, v1, v2, v3⟩, ⟨f0, f1, f2, f3⟩, vin⟩ := z10.four4
              refine wpAnyH_ready (rs := [11]) (by kernel_rfl) (by simp) (AllReadyH.cons rfl (fun K hK => ?_) AllReadyH.nil)
              go_simp
              obtain ⟨z10, o10⟩ := put_four17 z10 rs rh' rl' rn
              have z7 := o10.box z7 (fun e => by have e := (show _ = _ from e); omega)
              have z8 := o10.box z8 (fun e => by have e := (show _ = _ from e); omega)
              have z9 := o10.box z9 (fun e => by have e := (show _ = _ from e); omega)
              have b8 := b7.trans (o10.below (B := w1.heap.size) (fun i hi => by rw [show i = _ from hi]; omega) b7.size)
              generalize World.setCell (World.setCell (World.setCell (World.setCell V7 _ _) _ _) _ _) _ _ = V8 at *
              refine hK.out _ _ (hS _ b8) (fun hHeld => ?_)
              clear hK K
              try simp only [Act.put, List.getElem_toArray, List.getElem_cons_succ, List.getElem_cons_zero, List.setIfInBounds_toArray, List.set_cons_zero, List.set_cons_succ]
              clear v0 v1 v2 v3 f0 f1 f2 f3 vin
              refine wpAnyH_done (by kernel_rfl) ?_ _
              go_wp2
              go_meet
              exact ⟨_, _, _, _, rfl, rfl, rfl, rfl, b8, z7, z8, z9, z10, by omega, by omega, by omega, by omega, by omega, by omega, by omega, by omega, by omega, by omega⟩
        · go_simp
          have b2 := chainA b1 (.cells (rtB ⟨#[]⟩ 0 0 0) 26)
          have z10 := Box.madeAt hs1 26 (rtB ⟨#[]⟩ 0 0 0)
          have z9 := z9.past (.cells (rtB ⟨#[]⟩ 0 0 0) 26)
          have hs2 : (World.alloc V1 (.cells (rtB ⟨#[]⟩ 0 0 0) 26)).heap.size = n0 + 2 := by simp [hs1]
          try rw [hs1]
          change K _ (World.alloc V1 (.cells (rtB ⟨#[]⟩ 0 0 0) 26))
          generalize World.alloc V1 (.cells (rtB ⟨#[]⟩ 0 0 0) 26) = V2 at *
          refine hK.out _ _ (hS _ b2) (fun hHeld => ?_)
          clear hK K
          try simp only [Act.put, List.getElem_toArray, List.getElem_cons_succ, List.getElem_cons_zero, List.setIfInBounds_toArray, List.set_cons_zero, List.set_cons_succ]
          refine wpAnyH_ready (rs := [4, 5]) (by kernel_rfl) (by simp) (AllReadyH.cons rfl (fun K hK => ?_) (AllReadyH.cons rfl (fun K hK => ?_) AllReadyH.nil))
          · go_simp
            have b3 := chainA b2 (.cells (rtB ⟨#[]⟩ 0 0 0) 26)
            have z7 := Box.madeAt hs2 26 (rtB ⟨#[]⟩ 0 0 0)
            have z9 := z9.past (.cells (rtB ⟨#[]⟩ 0 0 0) 26)
            have z10 := z10.past (.cells (rtB ⟨#[]⟩ 0 0 0) 26)
            have hs3 : (World.alloc V2 (.cells (rtB ⟨#[]⟩ 0 0 0) 26)).heap.size = n0 + 3 := by simp [hs2]
            try rw [hs2]
            change K _ (World.alloc V2 (.cells (rtB ⟨#[]⟩ 0 0 0) 26))
            generalize World.alloc V2 (.cells (rtB ⟨#[]⟩ 0 0 0) 26) = V3 at *
            refine hK.out _ _ (hS _ b3) (fun hHeld => ?_)
            clear hK K
            try simp only [Act.put, List.getElem_toArray, List.getElem_cons_succ, List.getElem_cons_zero, List.setIfInBounds_toArray, List.set_cons_zero, List.set_cons_succ]
            refine wpAnyH_ready (rs := [5]) (by kernel_rfl) (by simp) (AllReadyH.cons rfl (fun K hK => ?_) AllReadyH.nil)
            · go_simp
              have b4 := chainA b3 (.cells (rtB ⟨#[]⟩ 0 0 0) 26)
              have z8 := Box.madeAt hs3 26 (rtB ⟨#[]⟩ 0 0 0)
              have z9 := z9.past (.cells (rtB ⟨#[]⟩ 0 0 0) 26)
              have z10 := z10.past (.cells (rtB ⟨#[]⟩ 0 0 0) 26)
              have z7 := z7.past (.cells (rtB ⟨#[]⟩ 0 0 0) 26)
              have hs4 : (World.alloc V3 (.cells (rtB ⟨#[]⟩ 0 0 0) 26)).heap.size = n0 + 4 := by simp [hs3]
              try rw [hs3]
              change K _ (World.alloc V3 (.cells (rtB ⟨#[]⟩ 0 0 0) 26))
              generalize World.alloc V3 (.cells (rtB ⟨#[]⟩ 0 0 0) 26) = V4 at *
              refine hK.out _ _ (hS _ b4) (fun hHeld => ?_)
              clear hK K
              try simp only [Act.put, List.getElem_toArray, List.getElem_cons_succ, List.getElem_cons_zero, List.setIfInBounds_toArray, List.set_cons_zero, List.set_cons_succ]
              obtain ⟨⟨v0, v1, v2, v3⟩, ⟨f0, f1, f2, f3⟩, vin⟩ := z7.four4
              refine wpAnyH_ready (rs := [8]) (by kernel_rfl) (by simp) (AllReadyH.cons rfl (fun K hK => ?_) AllReadyH.nil)
              go_simp
              obtain ⟨z7, o7⟩ := put_four17 z7 rs rh' rl' rn
              have z8 := o7.box z8 (fun e => by have e := (show _ = _ from e); omega)
              have z9 := o7.box z9 (fun e => by have e := (show _ = _ from e); omega)
              have z10 := o7.box z10 (fun e => by have e := (show _ = _ from e); omega)
              have b5 := b4.trans (o7.below (B := w1.heap.size) (fun i hi => by rw [show i = _ from hi]; omega) b4.size)
              generalize World.setCell (World.setCell (World.setCell (World.setCell V4 _ _) _ _) _ _) _ _ = V5 at *
              refine hK.out _ _ (hS _ b5) (fun hHeld => ?_)
              clear hK K
              try simp only [Act.put, List.getElem_toArray, List.getElem_cons_succ, List.getElem_cons_zero, List.setIfInBounds_toArray, List.set_cons_zero, List.set_cons_succ]
              clear v0 v1 v2 v3 f0 f1 f2 f3 vin
              obtain ⟨⟨v0, v1, v2, v3⟩, ⟨f0, f1, f2, f3⟩, vin⟩ := z8.four4
              refine wpAnyH_ready (rs := [9]) (by kernel_rfl) (by simp) (AllReadyH.cons rfl (fun K hK => ?_) AllReadyH.nil)
              go_simp
              obtain ⟨z8, o8⟩ := put_four17 z8 rs rh' rl' rn
              have z7 := o8.box z7 (fun e => by have e := (show _ = _ from e); omega)
              have z9 := o8.box z9 (fun e => by have e := (show _ = _ from e); omega)
              have z10 := o8.box z10 (fun e => by have e := (show _ = _ from e); omega)
              have b6 := b5.trans (o8.below (B := w1.heap.size) (fun i hi => by rw [show i = _ from hi]; omega) b5.size)
              generalize World.setCell (World.setCell (World.setCell (World.setCell V5 _ _) _ _) _ _) _ _ = V6 at *
              refine hK.out _ _ (hS _ b6) (fun hHeld => ?_)
              clear hK K
              try simp only [Act.put, List.getElem_toArray, List.getElem_cons_succ, List.getElem_cons_zero, List.setIfInBounds_toArray, List.set_cons_zero, List.set_cons_succ]
              clear v0 v1 v2 v3 f0 f1 f2 f3 vin
              obtain ⟨⟨v0, v1, v2, v3⟩, ⟨f0, f1, f2, f3⟩, vin⟩ := z9.four4
              refine wpAnyH_ready (rs := [10]) (by kernel_rfl) (by simp) (AllReadyH.cons rfl (fun K hK => ?_) AllReadyH.nil)
              go_simp
              obtain ⟨z9, o9⟩ := put_four17 z9 rs rh' rl' rn
              have z7 := o9.box z7 (fun e => by have e := (show _ = _ from e); omega)
              have z8 := o9.box z8 (fun e => by have e := (show _ = _ from e); omega)
              have z10 := o9.box z10 (fun e => by have e := (show _ = _ from e); omega)
              have b7 := b6.trans (o9.below (B := w1.heap.size) (fun i hi => by rw [show i = _ from hi]; omega) b6.size)
              generalize World.setCell (World.setCell (World.setCell (World.setCell V6 _ _) _ _) _ _) _ _ = V7 at *
              refine hK.out _ _ (hS _ b7) (fun hHeld => ?_)
              clear hK K
              try simp only [Act.put, List.getElem_toArray, List.getElem_cons_succ, List.getElem_cons_zero, List.setIfInBounds_toArray, List.set_cons_zero, List.set_cons_succ]
              clear v0 v1 v2 v3 f0 f1 f2 f3 vin
              obtain ⟨⟨v0, v1, v2, v3⟩, ⟨f0, f1, f2, f3⟩, vin⟩ := z10.four4
              refine wpAnyH_ready (rs := [11]) (by kernel_rfl) (by simp) (AllReadyH.cons rfl (fun K hK => ?_) AllReadyH.nil)
              go_simp
              obtain ⟨z10, o10⟩ := put_four17 z10 rs rh' rl' rn
              have z7 := o10.box z7 (fun e => by have e := (show _ = _ from e); omega)
              have z8 := o10.box z8 (fun e => by have e := (show _ = _ from e); omega)
              have z9 := o10.box z9 (fun e => by have e := (show _ = _ from e); omega)
              have b8 := b7.trans (o10.below (B := w1.heap.size) (fun i hi => by rw [show i = _ from hi]; omega) b7.size)
              generalize World.setCell (World.setCell (World.setCell (World.setCell V7 _ _) _ _) _ _) _ _ = V8 at *
              refine hK.out _ _ (hS _ b8) (fun hHeld => ?_)
              clear hK K
              try simp only [Act.put, List.getElem_toArray, List.getElem_cons_succ, List.getElem_cons_zero, List.setIfInBounds_toArray, List.set_cons_zero, List.set_cons_succ]
              clear v0 v1 v2 v3 f0 f1 f2 f3 vin
              refine wpAnyH_done (by kernel_rfl) ?_ _
              go_wp2
              go_meet
              exact ⟨_, _, _, _, rfl, rfl, rfl, rfl, b8, z7, z8, z9, z10, by omega, by omega, by omega, by omega, by omega, by omega, by omega, by omega, by omega, by omega⟩
          · go_simp
            have b3 := chainA b2 (.cells (rtB ⟨#[]⟩ 0 0 0) 26)
            have z8 := Box.madeAt hs2 26 (rtB ⟨#[]⟩ 0 0 0)
            have z9 := z9.past (.cells (rtB ⟨#[]⟩ 0 0 0) 26)
            have z10 := z10.past (.cells (rtB ⟨#[]⟩ 0 0 0) 26)
            have hs3 : (World.alloc V2 (.cells (rtB ⟨#[]⟩ 0 0 0) 26)).heap.size = n0 + 3 := by simp [hs2]
            try rw [hs2]
            change K _ (World.alloc V2 (.cells (rtB ⟨#[]⟩ 0 0 0) 26))
            generalize World.alloc V2 (.cells (rtB ⟨#[]⟩ 0 0 0) 26) = V3 at *
            refine hK.out _ _ (hS _ b3) (fun hHeld => ?_)
            clear hK K
            try simp only [Act.put, List.getElem_toArray, List.getElem_cons_succ, List.getElem_cons_zero, List.setIfInBounds_toArray, List.set_cons_zero, List.set_cons_succ]
            refine wpAnyH_ready (rs := [4]) (by kernel_rfl) (by simp) (AllReadyH.cons rfl (fun K hK => ?_) AllReadyH.nil)
            · go_simp
              have b4 := chainA b3 (.cells (rtB ⟨#[]⟩ 0 0 0) 26)
              have z7 := Box.madeAt hs3 26 (rtB ⟨#[]⟩ 0 0 0)
              have z9 := z9.past (.cells (rtB ⟨#[]⟩ 0 0 0) 26)
              have z10 := z10.past (.cells (rtB ⟨#[]⟩ 0 0 0) 26)
              have z8 := z8.past (.cells (rtB ⟨#[]⟩ 0 0 0) 26)
              have hs4 : (World.alloc V3 (.cells (rtB ⟨#[]⟩ 0 0 0) 26)).heap.size = n0 + 4 := by simp [hs3]
              try rw [hs3]
              change K _ (World.alloc V3 (.cells (rtB ⟨#[]⟩ 0 0 0) 26))
              generalize World.alloc V3 (.cells (rtB ⟨#[]⟩ 0 0 0) 26) = V4 at *
              refine hK.out _ _ (hS _ b4) (fun hHeld => ?_)
              clear hK K
              try simp only [Act.put, List.getElem_toArray, List.getElem_cons_succ, List.getElem_cons_zero, List.setIfInBounds_toArray, List.set_cons_zero, List.set_cons_succ]
              obtain ⟨⟨v0, v1, v2, v3⟩, ⟨f0, f1, f2, f3⟩, vin⟩ := z7.four4
              refine wpAnyH_ready (rs := [8]) (by kernel_rfl) (by simp) (AllReadyH.cons rfl (fun K hK => ?_) AllReadyH.nil)
              go_simp
              obtain ⟨z7, o7⟩ := put_four17 z7 rs rh' rl' rn
              have z8 := o7.box z8 (fun e => by have e := (show _ = _ from e); omega)
              have z9 := o7.box z9 (fun e => by have e := (show _ = _ from e); omega)
              have z10 := o7.box z10 (fun e => by have e := (show _ = _ from e); omega)
              have b5 := b4.trans (o7.below (B := w1.heap.size) (fun i hi => by rw [show i = _ from hi]; omega) b4.size)
              generalize World.setCell (World.setCell (World.setCell (World.setCell V4 _ _) _ _) _ _) _ _ = V5 at *
              refine hK.out _ _ (hS _ b5) (fun hHeld => ?_)
              clear hK K
              try simp only [Act.put, List.getElem_toArray, List.getElem_cons_succ, List.getElem_cons_zero, List.setIfInBounds_toArray, List.set_cons_zero, List.set_cons_succ]
              clear v0 v1 v2 v3 f0 f1 f2 f3 vin
              obtain ⟨⟨v0, v1, v2, v3⟩, ⟨f0, f1, f2, f3⟩, vin⟩ := z8.four4
              refine wpAnyH_ready (rs := [9]) (by kernel_rfl) (by simp) (AllReadyH.cons rfl (fun K hK => ?_) AllReadyH.nil)
              go_simp
              obtain ⟨z8, o8⟩ := put_four17 z8 rs rh' rl' rn
              have z7 := o8.box z7 (fun e => by have e := (show _ = _ from e); omega)
              have z9 := o8.box z9 (fun e => by have e := (show _ = _ from e); omega)
              have z10 := o8.box z10 (fun e => by have e := (show _ = _ from e); omega)
              have b6 := b5.trans (o8.below (B := w1.heap.size) (fun i hi => by rw [show i = _ from hi]; omega) b5.size)
              generalize World.setCell (World.setCell (World.setCell (World.setCell V5 _ _) _ _) _ _) _ _ = V6 at *
              refine hK.out _ _ (hS _ b6) (fun hHeld => ?_)
              clear hK K
              try simp only [Act.put, List.getElem_toArray, List.getElem_cons_succ, List.getElem_cons_zero, List.setIfInBounds_toArray, List.set_cons_zero, List.set_cons_succ]
              clear v0 v1 v2 v3 f0 f1 f2 f3 vin
              obtain ⟨⟨v0, v1, v2, v3⟩, ⟨f0, f1, f2, f3⟩, vin⟩ := z9.four4
              refine wpAnyH_ready (rs := [10]) (by kernel_rfl) (by simp) (AllReadyH.cons rfl (fun K hK => ?_) AllReadyH.nil)
              go_simp
              obtain ⟨z9, o9⟩ := put_four17 z9 rs rh' rl' rn
              have z7 := o9.box z7 (fun e => by have e := (show _ = _ from e); omega)
              have z8 := o9.box z8 (fun e => by have e := (show _ = _ from e); omega)
              have z10 := o9.box z10 (fun e => by have e := (show _ = _ from e); omega)
              have b7 := b6.trans (o9.below (B := w1.heap.size) (fun i hi => by rw [show i = _ from hi]; omega) b6.size)
              generalize World.setCell (World.setCell (World.setCell (World.setCell V6 _ _) _ _) _ _) _ _ = V7 at *
              refine hK.out _ _ (hS _ b7) (fun hHeld => ?_)
              clear hK K
              try simp only [Act.put, List.getElem_toArray, List.getElem_cons_succ, List.getElem_cons_zero, List.setIfInBounds_toArray, List.set_cons_zero, List.set_cons_succ]
              clear v0 v1 v2 v3 f0 f1 f2 f3 vin
              obtain ⟨⟨v0, v1, v2, v3⟩, ⟨f0, f1, f2, f3⟩, vin⟩ := z10.four4
              refine wpAnyH_ready (rs := [11]) (by kernel_rfl) (by simp) (AllReadyH.cons rfl (fun K hK => ?_) AllReadyH.nil)
              go_simp
              obtain ⟨z10, o10⟩ := put_four17 z10 rs rh' rl' rn
              have z7 := o10.box z7 (fun e => by have e := (show _ = _ from e); omega)
              have z8 := o10.box z8 (fun e => by have e := (show _ = _ from e); omega)
              have z9 := o10.box z9 (fun e => by have e := (show _ = _ from e); omega)
              have b8 := b7.trans (o10.below (B := w1.heap.size) (fun i hi => by rw [show i = _ from hi]; omega) b7.size)
              generalize World.setCell (World.setCell (World.setCell (World.setCell V7 _ _) _ _) _ _) _ _ = V8 at *
              refine hK.out _ _ (hS _ b8) (fun hHeld => ?_)
              clear hK K
              try simp only [Act.put, List.getElem_toArray, List.getElem_cons_succ, List.getElem_cons_zero, List.setIfInBounds_toArray, List.set_cons_zero, List.set_cons_succ]
              clear v0 v1 v2 v3 f0 f1 f2 f3 vin
              refine wpAnyH_done (by kernel_rfl) ?_ _
              go_wp2
              go_meet
              exact ⟨_, _, _, _, rfl, rfl, rfl, rfl, b8, z7, z8, z9, z10, by omega, by omega, by omega, by omega, by omega, by omega, by omega, by omega, by omega, by omega⟩
      · go_simp
        have b1 := chainA b0 (.cells (rtB ⟨#[]⟩ 0 0 0) 26)
        have z10 := Box.madeAt hs0 26 (rtB ⟨#[]⟩ 0 0 0)
        have hs1 : (World.alloc V0 (.cells (rtB ⟨#[]⟩ 0 0 0) 26)).heap.size = n0 + 1 := by simp [hs0]
        try rw [hs0]
        change K _ (World.alloc V0 (.cells (rtB ⟨#[]⟩ 0 0 0) 26))
        generalize World.alloc V0 (.cells (rtB ⟨#[]⟩ 0 0 0) 26) = V1 at *
        refine hK.out _ _ (hS _ b1) (fun hHeld => ?_)
        clear hK K
        try simp only [Act.put, List.getElem_toArray, List.getElem_cons_succ, List.getElem_cons_zero, List.setIfInBounds_toArray, List.set_cons_zero, List.set_cons_succ]
        refine wpAnyH_ready (rs := [4, 5, 6]) (by kernel_rfl) (by simp) (AllReadyH.cons rfl (fun K hK => ?_) (AllReadyH.cons rfl (fun K hK => ?_) (AllReadyH.cons rfl (fun K hK => ?_) AllReadyH.nil)))
        · go_simp
          have b2 := chainA b1 (.cells (rtB ⟨#[]⟩ 0 0 0) 26)
          have z7 := Box.madeAt hs1 26 (rtB ⟨#[]⟩ 0 0 0)
          have z10 := z10.past (.cells (rtB ⟨#[]⟩ 0 0 0) 26)
          have hs2 : (World.alloc V1 (.cells (rtB ⟨#[]⟩ 0 0 0) 26)).heap.size = n0 + 2 := by simp [hs1]
          try rw [hs1]
          change K _ (World.alloc V1 (.cells (rtB ⟨#[]⟩ 0 0 0) 26))
          generalize World.alloc V1 (.cells (rtB ⟨#[]⟩ 0 0 0) 26) = V2 at *
          refine hK.out _ _ (hS _ b2) (fun hHeld => ?_)
          clear hK K
          try simp only [Act.put, List.getElem_toArray, List.getElem_cons_succ, List.getElem_cons_zero, List.setIfInBounds_toArray, List.set_cons_zero, List.set_cons_succ]
          refine wpAnyH_ready (rs := [5, 6]) (by kernel_rfl) (by simp) (AllReadyH.cons rfl (fun K hK => ?_) (AllReadyH.cons rfl (fun K hK => ?_) AllReadyH.nil))
          · go_simp
            have b3 := chainA b2 (.cells (rtB ⟨#[]⟩ 0 0 0) 26)
            have z8 := Box.madeAt hs2 26 (rtB ⟨#[]⟩ 0 0 0)
            have z10 := z10.past (.cells (rtB ⟨#[]⟩ 0 0 0) 26)
            have z7 := z7.past (.cells (rtB ⟨#[]⟩ 0 0 0) 26)
            have hs3 : (World.alloc V2 (.cells (rtB ⟨#[]⟩ 0 0 0) 26)).heap.size = n0 + 3 := by simp [hs2]
            try rw [hs2]
            change K _ (World.alloc V2 (.cells (rtB ⟨#[]⟩ 0 0 0) 26))
            generalize World.alloc V2 (.cells (rtB ⟨#[]⟩ 0 0 0) 26) = V3 at *
            refine hK.out _ _ (hS _ b3) (fun hHeld => ?_)
            clear hK K
            try simp only [Act.put, List.getElem_toArray, List.getElem_cons_succ, List.getElem_cons_zero, List.setIfInBounds_toArray, List.set_cons_zero, List.set_cons_succ]
            refine wpAnyH_ready (rs := [6]) (by kernel_rfl) (by simp) (AllReadyH.cons rfl (fun K hK => ?_) AllReadyH.nil)
            · go_simp
              have b4 := chainA b3 (.cells (rtB ⟨#[]⟩ 0 0 0) 26)
              have z9 := Box.madeAt hs3 26 (rtB ⟨#[]⟩ 0 0 0)
              have z10 := z10.past (.cells (rtB ⟨#[]⟩ 0 0 0) 26)
              have z7 := z7.past (.cells (rtB ⟨#[]⟩ 0 0 0) 26)
              have z8 := z8.past (.cells (rtB ⟨#[]⟩ 0 0 0) 26)
              have hs4 : (World.alloc V3 (.cells (rtB ⟨#[]⟩ 0 0 0) 26)).heap.size = n0 + 4 := by simp [hs3]
              try rw [hs3]
              change K _ (World.alloc V3 (.cells (rtB ⟨#[]⟩ 0 0 0) 26))
              generalize World.alloc V3 (.cells (rtB ⟨#[]⟩ 0 0 0) 26) = V4 at *
              refine hK.out _ _ (hS _ b4) (fun hHeld => ?_)
              clear hK K
              try simp only [Act.put, List.getElem_toArray, List.getElem_cons_succ, List.getElem_cons_zero, List.setIfInBounds_toArray, List.set_cons_zero, List.set_cons_succ]
              obtain ⟨⟨v0, v1, v2, v3⟩, ⟨f0, f1, f2, f3⟩, vin⟩ := z7.four4
              refine wpAnyH_ready (rs := [8]) (by kernel_rfl) (by simp) (AllReadyH.cons rfl (fun K hK => ?_) AllReadyH.nil)
              go_simp
              obtain ⟨z7, o7⟩ := put_four17 z7 rs rh' rl' rn
              have z8 := o7.box z8 (fun e => by have e := (show _ = _ from e); omega)
              have z9 := o7.box z9 (fun e => by have e := (show _ = _ from e); omega)
              have z10 := o7.box z10 (fun e => by have e := (show _ = _ from e); omega)
              have b5 := b4.trans (o7.below (B := w1.heap.size) (fun i hi => by rw [show i = _ from hi]; omega) b4.size)
              generalize World.setCell (World.setCell (World.setCell (World.setCell V4 _ _) _ _) _ _) _ _ = V5 at *
              refine hK.out _ _ (hS _ b5) (fun hHeld => ?_)
              clear hK K
              try simp only [Act.put, List.getElem_toArray, List.getElem_cons_succ, List.getElem_cons_zero, List.setIfInBounds_toArray, List.set_cons_zero, List.set_cons_succ]
              clear v0 v1 v2 v3 f0 f1 f2 f3 vin
              obtain ⟨⟨v0, v1, v2, v3⟩, ⟨f0, f1, f2, f3⟩, vin⟩ := z8.four4
              refine wpAnyH_ready (rs := [9]) (by kernel_rfl) (by simp) (AllReadyH.cons rfl (fun K hK => ?_) AllReadyH.nil)
              go_simp
              obtain ⟨z8, o8⟩ := put_four17 z8 rs rh' rl' rn
              have z7 := o8.box z7 (fun e => by have e := (show _ = _ from e); omega)
              have z9 := o8.box z9 (fun e => by have e := (show _ = _ from e); omega)
              have z10 := o8.box z10 (fun e => by have e := (show _ = _ from e); omega)
              have b6 := b5.trans (o8.below (B := w1.heap.size) (fun i hi => by rw [show i = _ from hi]; omega) b5.size)
              generalize World.setCell (World.setCell (World.setCell (World.setCell V5 _ _) _ _) _ _) _ _ = V6 at *
              refine hK.out _ _ (hS _ b6) (fun hHeld => ?_)
              clear hK K
              try simp only [Act.put, List.getElem_toArray, List.getElem_cons_succ, List.getElem_cons_zero, List.setIfInBounds_toArray, List.set_cons_zero, List.set_cons_succ]
              clear v0 v1 v2 v3 f0 f1 f2 f3 vin
              obtain ⟨⟨v0, v1, v2, v3⟩, ⟨f0, f1, f2, f3⟩, vin⟩ := z9.four4
              refine wpAnyH_ready (rs := [10]) (by kernel_rfl) (by simp) (AllReadyH.cons rfl (fun K hK => ?_) AllReadyH.nil)
              go_simp
              obtain ⟨z9, o9⟩ := put_four17 z9 rs rh' rl' rn
              have z7 := o9.box z7 (fun e => by have e := (show _ = _ from e); omega)
              have z8 := o9.box z8 (fun e => by have e := (show _ = _ from e); omega)
              have z10 := o9.box z10 (fun e => by have e := (show _ = _ from e); omega)
              have b7 := b6.trans (o9.below (B := w1.heap.size) (fun i hi => by rw [show i = _ from hi]; omega) b6.size)
              generalize World.setCell (World.setCell (World.setCell (World.setCell V6 _ _) _ _) _ _) _ _ = V7 at *
              refine hK.out _ _ (hS _ b7) (fun hHeld => ?_)
              clear hK K
              try simp only [Act.put, List.getElem_toArray, List.getElem_cons_succ, List.getElem_cons_zero, List.setIfInBounds_toArray, List.set_cons_zero, List.set_cons_succ]
              clear v0 v1 v2 v3 f0 f1 f2 f3 vin
              obtain ⟨⟨v0, v1, v2, v3⟩, ⟨f0, f1, f2, f3⟩, vin⟩ := z10.four4
              refine wpAnyH_ready (rs := [11]) (by kernel_rfl) (by simp) (AllReadyH.cons rfl (fun K hK => ?_) AllReadyH.nil)
              go_simp
              obtain ⟨z10, o10⟩ := put_four17 z10 rs rh' rl' rn
              have z7 := o10.box z7 (fun e => by have e := (show _ = _ from e); omega)
              have z8 := o10.box z8 (fun e => by have e := (show _ = _ from e); omega)
              have z9 := o10.box z9 (fun e => by have e := (show _ = _ from e); omega)
              have b8 := b7.trans (o10.below (B := w1.heap.size) (fun i hi => by rw [show i = _ from hi]; omega) b7.size)
              generalize World.setCell (World.setCell (World.setCell (World.setCell V7 _ _) _ _) _ _) _ _ = V8 at *
              refine hK.out _ _ (hS _ b8) (fun hHeld => ?_)
              clear hK K
              try simp only [Act.put, List.getElem_toArray, List.getElem_cons_succ, List.getElem_cons_zero, List.setIfInBounds_toArray, List.set_cons_zero, List.set_cons_succ]
              clear v0 v1 v2 v3 f0 f1 f2 f3 vin
              refine wpAnyH_done (by kernel_rfl) ?_ _
              go_wp2
              go_meet
              exact ⟨_, _, _, _, rfl, rfl, rfl, rfl, b8, z7, z8, z9, z10, by omega, by omega, by omega, by omega, by omega, by omega, by omega, by omega, by omega, by omega⟩
          · go_simp
            have b3 := chainA b2 (.cells (rtB ⟨#[]⟩ 0 0 0) 26)
            have z9 := Box.madeAt hs2 26 (rtB ⟨#[]⟩ 0 0 0)
            have z10 := z10.past (.cells (rtB ⟨#[]⟩ 0 0 0) 26)
            have z7 := z7.past (.cells (rtB ⟨#[]⟩ 0 0 0) 26)
            have hs3 : (World.alloc V2 (.cells (rtB ⟨#[]⟩ 0 0 0) 26)).heap.size = n0 + 3 := by simp [hs2]
            try rw [hs2]
            change K _ (World.alloc V2 (.cells (rtB ⟨#[]⟩ 0 0 0) 26))
            generalize World.alloc V2 (.cells (rtB ⟨#[]⟩ 0 0 0) 26) = V3 at *
            refine hK.out _ _ (hS _ b3) (fun hHeld => ?_)
            clear hK K
            try simp only [Act.put, List.getElem_toArray, List.getElem_cons_succ, List.getElem_cons_zero, List.setIfInBounds_toArray, List.set_cons_zero, List.set_cons_succ]
            refine wpAnyH_ready (rs := [5]) (by kernel_rfl) (by simp) (AllReadyH.cons rfl (fun K hK => ?_) AllReadyH.nil)
            · go_simp
              have b4 := chainA b3 (.cells (rtB ⟨#[]⟩ 0 0 0) 26)
              have z8 := Box.madeAt hs3 26 (rtB ⟨#[]⟩ 0 0 0)
              have z10 := z10.past (.cells (rtB ⟨#[]⟩ 0 0 0) 26)
              have z7 := z7.past (.cells (rtB ⟨#[]⟩ 0 0 0) 26)
              have z9 := z9.past (.cells (rtB ⟨#[]⟩ 0 0 0) 26)
              have hs4 : (World.alloc V3 (.cells (rtB ⟨#[]⟩ 0 0 0) 26)).heap.size = n0 + 4 := by simp [hs3]
              try rw [hs3]
              change K _ (World.alloc V3 (.cells (rtB ⟨#[]⟩ 0 0 0) 26))
              generalize World.alloc V3 (.cells (rtB ⟨#[]⟩ 0 0 0) 26) = V4 at *
              refine hK.out _ _ (hS _ b4) (fun hHeld => ?_)
              clear hK K
              try simp only [Act.put, List.getElem_toArray, List.getElem_cons_succ, List.getElem_cons_zero, List.setIfInBounds_toArray, List.set_cons_zero, List.set_cons_succ]
              obtain ⟨⟨v0, v1, v2, v3⟩, ⟨f0, f1, f2, f3⟩, vin⟩ := z7.four4
              refine wpAnyH_ready (rs := [8]) (by kernel_rfl) (by simp) (AllReadyH.cons rfl (fun K hK => ?_) AllReadyH.nil)
              go_simp
              obtain ⟨z7, o7⟩ := put_four17 z7 rs rh' rl' rn
              have z8 := o7.box z8 (fun e => by have e := (show _ = _ from e); omega)
              have z9 := o7.box z9 (fun e => by have e := (show _ = _ from e); omega)
              have z10 := o7.box z10 (fun e => by have e := (show _ = _ from e); omega)
              have b5 := b4.trans (o7.below (B := w1.heap.size) (fun i hi => by rw [show i = _ from hi]; omega) b4.size)
              generalize World.setCell (World.setCell (World.setCell (World.setCell V4 _ _) _ _) _ _) _ _ = V5 at *
              refine hK.out _ _ (hS _ b5) (fun hHeld => ?_)
              clear hK K
              try simp only [Act.put, List.getElem_toArray, List.getElem_cons_succ, List.getElem_cons_zero, List.setIfInBounds_toArray, List.set_cons_zero, List.set_cons_succ]
              clear v0 v1 v2 v3 f0 f1 f2 f3 vin
              obtain ⟨⟨v0, v1, v2, v3⟩, ⟨f0, f1, f2, f3⟩, vin⟩ := z8.four4
              refine wpAnyH_ready (rs := [9]) (by kernel_rfl) (by simp) (AllReadyH.cons rfl (fun K hK => ?_) AllReadyH.nil)
              go_simp
              obtain ⟨z8, o8⟩ := put_four17 z8 rs rh' rl' rn
              have z7 := o8.box z7 (fun e => by have e := (show _ = _ from e); omega)
              have z9 := o8.box z9 (fun e => by have e := (show _ = _ from e); omega)
              have z10 := o8.box z10 (fun e => by have e := (show _ = _ from e); omega)
              have b6 := b5.trans (o8.below (B := w1.heap.size) (fun i hi => by rw [show i = _ from hi]; omega) b5.size)
              generalize World.setCell (World.setCell (World.setCell (World.setCell V5 _ _) _ _) _ _) _ _ = V6 at *
              refine hK.out _ _ (hS _ b6) (fun hHeld => ?_)
              clear hK K
              try simp only [Act.put, List.getElem_toArray, List.getElem_cons_succ, List.getElem_cons_zero, List.setIfInBounds_toArray, List.set_cons_zero, List.set_cons_succ]
              clear v0 v1 v2 v3 f0 f1 f2 f3 vin
              obtain ⟨⟨v0, v1, v2, v3⟩, ⟨f0, f1, f2, f3⟩, vin⟩ := z9.four4
              refine wpAnyH_ready (rs := [10]) (by kernel_rfl) (by simp) (AllReadyH.cons rfl (fun K hK => ?_) AllReadyH.nil)
              go_simp
              obtain ⟨z9, o9⟩ := put_four17 z9 rs rh' rl' rn
              have z7 := o9.box z7 (fun e => by have e := (show _ = _ from e); omega)
              have z8 := o9.box z8 (fun e => by have e := (show _ = _ from e); omega)
              have z10 := o9.box z10 (fun e => by have e := (show _ = _ from e); omega)
              have b7 := b6.trans (o9.below (B := w1.heap.size) (fun i hi => by rw [show i = _ from hi]; omega) b6.size)
              generalize World.setCell (World.setCell (World.setCell (World.setCell V6 _ _) _ _) _ _) _ _ = V7 at *
              refine hK.out _ _ (hS _ b7) (fun hHeld => ?_)
              clear hK K
              try simp only [Act.put, List.getElem_toArray, List.getElem_cons_succ, List.getElem_cons_zero, List.setIfInBounds_toArray, List.set_cons_zero, List.set_cons_succ]
              clear v0 v1 v2 v3 f0 f1 f2 f3 vin
              obtain ⟨⟨v0, v1, v2, v3⟩, ⟨f0, f1, f2, f3⟩, vin⟩ := z10.four4
              refine wpAnyH_ready (rs := [11]) (by kernel_rfl) (by simp) (AllReadyH.cons rfl (fun K hK => ?_) AllReadyH.nil)
              go_simp
              obtain ⟨z10, o10⟩ := put_four17 z10 rs rh' rl' rn
              have z7 := o10.box z7 (fun e => by have e := (show _ = _ from e); omega)
              have z8 := o10.box z8 (fun e => by have e := (show _ = _ from e); omega)
              have z9 := o10.box z9 (fun e => by have e := (show _ = _ from e); omega)
              have b8 := b7.trans (o10.below (B := w1.heap.size) (fun i hi => by rw [show i = _ from hi]; omega) b7.size)
              generalize World.setCell (World.setCell (World.setCell (World.setCell V7 _ _) _ _) _ _) _ _ = V8 at *
              refine hK.out _ _ (hS _ b8) (fun hHeld => ?_)
              clear hK K
              try simp only [Act.put, List.getElem_toArray, List.getElem_cons_succ, List.getElem_cons_zero, List.setIfInBounds_toArray, List.set_cons_zero, List.set_cons_succ]
              clear v0 v1 v2 v3 f0 f1 f2 f3 vin
              refine wpAnyH_done (by kernel_rfl) ?_ _
              go_wp2
              go_meet
              exact ⟨_, _, _, _, rfl, rfl, rfl, rfl, b8, z7, z8, z9, z10, by omega, by omega, by omega, by omega, by omega, by omega, by omega, by omega, by omega, by omega⟩
        · go_simp
          have b2 := chainA b1 (.cells (rtB ⟨#[]⟩ 0 0 0) 26)
          have z8 := Box.madeAt hs1 26 (rtB ⟨#[]⟩ 0 0 0)
          have z10 := z10.past (.cells (rtB ⟨#[]⟩ 0 0 0) 26)
          have hs2 : (World.alloc V1 (.cells (rtB ⟨#[]⟩ 0 0 0) 26)).heap.size = n0 + 2 := by simp [hs1]
          try rw [hs1]
          change K _ (World.alloc V1 (.cells (rtB ⟨#[]⟩ 0 0 0) 26))
          generalize World.alloc V1 (.cells (rtB ⟨#[]⟩ 0 0 0) 26) = V2 at *
          refine hK.out _ _ (hS _ b2) (fun hHeld => ?_)
          clear hK K
          try simp only [Act.put, List.getElem_toArray, List.getElem_cons_succ, List.getElem_cons_zero, List.setIfInBounds_toArray, List.set_cons_zero, List.set_cons_succ]
          refine wpAnyH_ready (rs := [4, 6]) (by kernel_rfl) (by simp) (AllReadyH.cons rfl (fun K hK => ?_) (AllReadyH.cons rfl (fun K hK => ?_) AllReadyH.nil))
          · go_simp
            have b3 := chainA b2 (.cells (rtB ⟨#[]⟩ 0 0 0) 26)
            have z7 := Box.madeAt hs2 26 (rtB ⟨#[]⟩ 0 0 0)
            have z10 := z10.past (.cells (rtB ⟨#[]⟩ 0 0 0) 26)
            have z8 := z8.past (.cells (rtB ⟨#[]⟩ 0 0 0) 26)
            have hs3 : (World.alloc V2 (.cells (rtB ⟨#[]⟩ 0 0 0) 26)).heap.size = n0 + 3 := by simp [hs2]
            try rw [hs2]
            change K _ (World.alloc V2 (.cells (rtB ⟨#[]⟩ 0 0 0) 26))
            generalize World.alloc V2 (.cells (rtB ⟨#[]⟩ 0 0 0) 26) = V3 at *
            refine hK.out _ _ (hS _ b3) (fun hHeld => ?_)
            clear hK K
            try simp only [Act.put, List.getElem_toArray, List.getElem_cons_succ, List.getElem_cons_zero, List.setIfInBounds_toArray, List.set_cons_zero, List.set_cons_succ]
            refine wpAnyH_ready (rs := [6]) (by kernel_rfl) (by simp) (AllReadyH.cons rfl (fun K hK => ?_) AllReadyH.nil)
            · go_simp
              have b4 := chainA b3 (.cells (rtB ⟨#[]⟩ 0 0 0) 26)
              have z9 := Box.madeAt hs3 26 (rtB ⟨#[]⟩ 0 0 0)
              have z10 := z10.past (.cells (rtB ⟨#[]⟩ 0 0 0) 26)
              have z8 := z8.past (.cells (rtB ⟨#[]⟩ 0 0 0) 26)
              have z7 := z7.past (.cells (rtB ⟨#[]⟩ 0 0 0) 26)
              have hs4 : (World.alloc V3 (.cells (rtB ⟨#[]⟩ 0 0 0) 26)).heap.size = n0 + 4 := by simp [hs3]
              try rw [hs3]
              change K _ (World.alloc V3 (.cells (rtB ⟨#[]⟩ 0 0 0) 26))
              generalize World.alloc V3 (.cells (rtB ⟨#[]⟩ 0 0 0) 26) = V4 at *
              refine hK.out _ _ (hS _ b4) (fun hHeld => ?_)
              clear hK K
              try simp only [Act.put, List.getElem_toArray, List.getElem_cons_succ, List.getElem_cons_zero, List.setIfInBounds_toArray, List.set_cons_zero, List.set_cons_succ]
              obtain ⟨⟨v0, v1, v2, v3⟩, ⟨f0, f1, f2, f3⟩, vin⟩ := z7.four4
              refine wpAnyH_ready (rs := [8]) (by kernel_rfl) (by simp) (AllReadyH.cons rfl (fun K hK => ?_) AllReadyH.nil)
              go_simp
              obtain ⟨z7, o7⟩ := put_four17 z7 rs rh' rl' rn
              have z8 := o7.box z8 (fun e => by have e := (show _ = _ from e); omega)
              have z9 := o7.box z9 (fun e => by have e := (show _ = _ from e); omega)
              have z10 := o7.box z10 (fun e => by have e := (show _ = _ from e); omega)
              have b5 := b4.trans (o7.below (B := w1.heap.size) (fun i hi => by rw [show i = _ from hi]; omega) b4.size)
              generalize World.setCell (World.setCell (World.setCell (World.setCell V4 _ _) _ _) _ _) _ _ = V5 at *
              refine hK.out _ _ (hS _ b5) (fun hHeld => ?_)
              clear hK K
              try simp only [Act.put, List.getElem_toArray, List.getElem_cons_succ, List.getElem_cons_zero, List.setIfInBounds_toArray, List.set_cons_zero, List.set_cons_succ]
              clear v0 v1 v2 v3 f0 f1 f2 f3 vin
              obtain ⟨⟨v0, v1, v2, v3⟩, ⟨f0, f1, f2, f3⟩, vin⟩ := z8.four4
              refine wpAnyH_ready (rs := [9]) (by kernel_rfl) (by simp) (AllReadyH.cons rfl (fun K hK => ?_) AllReadyH.nil)
              go_simp
              obtain ⟨z8, o8⟩ := put_four17 z8 rs rh' rl' rn
              have z7 := o8.box z7 (fun e => by have e := (show _ = _ from e); omega)
              have z9 := o8.box z9 (fun e => by have e := (show _ = _ from e); omega)
              have z10 := o8.box z10 (fun e => by have e := (show _ = _ from e); omega)
              have b6 := b5.trans (o8.below (B := w1.heap.size) (fun i hi => by rw [show i = _ from hi]; omega) b5.size)
              generalize World.setCell (World.setCell (World.setCell (World.setCell V5 _ _) _ _) _ _) _ _ = V6 at *
              refine hK.out _ _ (hS _ b6) (fun hHeld => ?_)
              clear hK K
              try simp only [Act.put, List.getElem_toArray, List.getElem_cons_succ, List.getElem_cons_zero, List.setIfInBounds_toArray, List.set_cons_zero, List.set_cons_succ]
              clear v0 v1 v2 v3 f0 f1 f2 f3 vin
              obtain ⟨⟨v0, v1, v2, v3⟩, ⟨f0, f1, f2, f3⟩, vin⟩ := z9.four4
              refine wpAnyH_ready (rs := [10]) (by kernel_rfl) (by simp) (AllReadyH.cons rfl (fun K hK => ?_) AllReadyH.nil)
              go_simp
              obtain ⟨z9, o9⟩ := put_four17 z9 rs rh' rl' rn
              have z7 := o9.box z7 (fun e => by have e := (show _ = _ from e); omega)
              have z8 := o9.box z8 (fun e => by have e := (show _ = _ from e); omega)
              have z10 := o9.box z10 (fun e => by have e := (show _ = _ from e); omega)
              have b7 := b6.trans (o9.below (B := w1.heap.size) (fun i hi => by rw [show i = _ from hi]; omega) b6.size)
              generalize World.setCell (World.setCell (World.setCell (World.setCell V6 _ _) _ _) _ _) _ _ = V7 at *
              refine hK.out _ _ (hS _ b7) (fun hHeld => ?_)
              clear hK K
              try simp only [Act.put, List.getElem_toArray, List.getElem_cons_succ, List.getElem_cons_zero, List.setIfInBounds_toArray, List.set_cons_zero, List.set_cons_succ]
              clear v0 v1 v2 v3 f0 f1 f2 f3 vin
              obtain ⟨⟨v0, v1, v2, v3⟩, ⟨f0, f1, f2, f3⟩, vin⟩ := z10.four4
              refine wpAnyH_ready (rs := [11]) (by kernel_rfl) (by simp) (AllReadyH.cons rfl (fun K hK => ?_) AllReadyH.nil)
              go_simp
              obtain ⟨z10, o10⟩ := put_four17 z10 rs rh' rl' rn
              have z7 := o10.box z7 (fun e => by have e := (show _ = _ from e); omega)
              have z8 := o10.box z8 (fun e => by have e := (show _ = _ from e); omega)
              have z9 := o10.box z9 (fun e => by have e := (show _ = _ from e); omega)
              have b8 := b7.trans (o10.below (B := w1.heap.size) (fun i hi => by rw [show i = _ from hi]; omega) b7.size)
              generalize World.setCell (World.setCell (World.setCell (World.setCell V7 _ _) _ _) _ _) _ _ = V8 at *
              refine hK.out _ _ (hS _ b8) (fun hHeld => ?_)
              clear hK K
              try simp only [Act.put, List.getElem_toArray, List.getElem_cons_succ, List.getElem_cons_zero, List.setIfInBounds_toArray, List.set_cons_zero, List.set_cons_succ]
              clear v0 v1 v2 v3 f0 f1 f2 f3 vin
              refine wpAnyH_done (by kernel_rfl) ?_ _
              go_wp2
              go_meet
              exact ⟨_, _, _, _, rfl, rfl, rfl, rfl, b8, z7, z8, z9, z10, by omega, by omega, by omega, by omega, by omega, by omega, by omega, by omega, by omega, by omega⟩
          · go_simp
            have b3 := chainA b2 (.cells (rtB ⟨#[]⟩ 0 0 0) 26)
            have z9 := Box.madeAt hs2 26 (rtB ⟨#[]⟩ 0 0 0)
            have z10 := z10.past (.cells (rtB ⟨#[]⟩ 0 0 0) 26)
            have z8 := z8.past (.cells (rtB ⟨#[]⟩ 0 0 0) 26)
            have hs3 : (World.alloc V2 (.cells (rtB ⟨#[]⟩ 0 0 0) 26)).heap.size = n0 + 3 := by simp [hs2]
            try rw [hs2]
            change K _ (World.alloc V2 (.cells (rtB ⟨#[]⟩ 0 0 0) 26))
            generalize World.alloc V2 (.cells (rtB ⟨#[]⟩ 0 0 0) 26) = V3 at *
            refine hK.out _ _ (hS _ b3) (fun hHeld => ?_)
            clear hK K
            try simp only [Act.put, List.getElem_toArray, List.getElem_cons_succ, List.getElem_cons_zero, List.setIfInBounds_toArray, List.set_cons_zero, List.set_cons_succ]
            refine wpAnyH_ready (rs := [4]) (by kernel_rfl) (by simp) (AllReadyH.cons rfl (fun K hK => ?_) AllReadyH.nil)
            · go_simp
              have b4 := chainA b3 (.cells (rtB ⟨#[]⟩ 0 0 0) 26)
              have z7 := Box.madeAt hs3 26 (rtB ⟨#[]⟩ 0 0 0)
              have z10 := z10.past (.cells (rtB ⟨#[]⟩ 0 0 0) 26)
              have z8 := z8.past (.cells (rtB ⟨#[]⟩ 0 0 0) 26)
              have z9 := z9.past (.cells (rtB ⟨#[]⟩ 0 0 0) 26)
              have hs4 : (World.alloc V3 (.cells (rtB ⟨#[]⟩ 0 0 0) 26)).heap.size = n0 + 4 := by simp [hs3]
              try rw [hs3]
              change K _ (World.alloc V3 (.cells (rtB ⟨#[]⟩ 0 0 0) 26))
              generalize World.alloc V3 (.cells (rtB ⟨#[]⟩ 0 0 0) 26) = V4 at *
              refine hK.out _ _ (hS _ b4) (fun hHeld => ?_)
              clear hK K
              try simp only [Act.put, List.getElem_toArray, List.getElem_cons_succ, List.getElem_cons_zero, List.setIfInBounds_toArray, List.set_cons_zero, List.set_cons_succ]
              obtain ⟨⟨v0, v1, v2, v3⟩, ⟨f0, f1, f2, f3⟩, vin⟩ := z7.four4
              refine wpAnyH_ready (rs := [8]) (by kernel_rfl) (by simp) (AllReadyH.cons rfl (fun K hK => ?_) AllReadyH.nil)
              go_simp
              obtain ⟨z7, o7⟩ := put_four17 z7 rs rh' rl' rn
              have z8 := o7.box z8 (fun e => by have e := (show _ = _ from e); omega)
              have z9 := o7.box z9 (fun e => by have e := (show _ = _ from e); omega)
              have z10 := o7.box z10 (fun e => by have e := (show _ = _ from e); omega)
              have b5 := b4.trans (o7.below (B := w1.heap.size) (fun i hi => by rw [show i = _ from hi]; omega) b4.size)
              generalize World.setCell (World.setCell (World.setCell (World.setCell V4 _ _) _ _) _ _) _ _ = V5 at *
              refine hK.out _ _ (hS _ b5) (fun hHeld => ?_)
              clear hK K
              try simp only [Act.put, List.getElem_toArray, List.getElem_cons_succ, List.getElem_cons_zero, List.setIfInBounds_toArray, List.set_cons_zero, List.set_cons_succ]
              clear v0 v1 v2 v3 f0 f1 f2 f3 vin
              obtain ⟨⟨v0, v1, v2, v3⟩, ⟨f0, f1, f2, f3⟩, vin⟩ := z8.four4
              refine wpAnyH_ready (rs := [9]) (by kernel_rfl) (by simp) (AllReadyH.cons rfl (fun K hK => ?_) AllReadyH.nil)
              go_simp
              obtain ⟨z8, o8⟩ := put_four17 z8 rs rh' rl' rn
              have z7 := o8.box z7 (fun e => by have e := (show _ = _ from e); omega)
              have z9 := o8.box z9 (fun e => by have e := (show _ = _ from e); omega)
              have z10 := o8.box z10 (fun e => by have e := (show _ = _ from e); omega)
              have b6 := b5.trans (o8.below (B := w1.heap.size) (fun i hi => by rw [show i = _ from hi]; omega) b5.size)
              generalize World.setCell (World.setCell (World.setCell (World.setCell V5 _ _) _ _) _ _) _ _ = V6 at *
              refine hK.out _ _ (hS _ b6) (fun hHeld => ?_)
              clear hK K
              try simp only [Act.put, List.getElem_toArray, List.getElem_cons_succ, List.getElem_cons_zero, List.setIfInBounds_toArray, List.set_cons_zero, List.set_cons_succ]
              clear v0 v1 v2 v3 f0 f1 f2 f3 vin
              obtain ⟨⟨v0, v1, v2, v3⟩, ⟨f0, f1, f2, f3⟩, vin⟩ := z9.four4
              refine wpAnyH_ready (rs := [10]) (by kernel_rfl) (by simp) (AllReadyH.cons rfl (fun K hK => ?_) AllReadyH.nil)
              go_simp
              obtain ⟨z9, o9⟩ := put_four17 z9 rs rh' rl' rn
              have z7 := o9.box z7 (fun e => by have e := (show _ = _ from e); omega)
              have z8 := o9.box z8 (fun e => by have e := (show _ = _ from e); omega)
              have z10 := o9.box z10 (fun e => by have e := (show _ = _ from e); omega)
              have b7 := b6.trans (o9.below (B := w1.heap.size) (fun i hi => by rw [show i = _ from hi]; omega) b6.size)
              generalize World.setCell (World.setCell (World.setCell (World.setCell V6 _ _) _ _) _ _) _ _ = V7 at *
              refine hK.out _ _ (hS _ b7) (fun hHeld => ?_)
              clear hK K
              try simp only [Act.put, List.getElem_toArray, List.getElem_cons_succ, List.getElem_cons_zero, List.setIfInBounds_toArray, List.set_cons_zero, List.set_cons_succ]
              clear v0 v1 v2 v3 f0 f1 f2 f3 vin
              obtain ⟨⟨v0, v1, v2, v3⟩, ⟨f0, f1, f2, f3⟩, vin⟩ := z10.four4
              refine wpAnyH_ready (rs := [11]) (by kernel_rfl) (by simp) (AllReadyH.cons rfl (fun K hK => ?_) AllReadyH.nil)
              go_simp
              obtain ⟨z10, o10⟩ := put_four17 z10 rs rh' rl' rn
              have z7 := o10.box z7 (fun e => by have e := (show _ = _ from e); omega)
              have z8 := o10.box z8 (fun e => by have e := (show _ = _ from e); omega)
              have z9 := o10.box z9 (fun e => by have e := (show _ = _ from e); omega)
              have b8 := b7.trans (o10.below (B := w1.heap.size) (fun i hi => by rw [show i = _ from hi]; omega) b7.size)
              generalize World.setCell (World.setCell (World.setCell (World.setCell V7 _ _) _ _) _ _) _ _ = V8 at *
              refine hK.out _ _ (hS _ b8) (fun hHeld => ?_)
              clear hK K
              try simp only [Act.put, List.getElem_toArray, List.getElem_cons_succ, List.getElem_cons_zero, List.setIfInBounds_toArray, List.set_cons_zero, List.set_cons_succ]
              clear v0 v1 v2 v3 f0 f1 f2 f3 vin
              refine wpAnyH_done (by kernel_rfl) ?_ _
              go_wp2
              go_meet
              exact ⟨_, _, _, _, rfl, rfl, rfl, rfl, b8, z7, z8, z9, z10, by omega, by omega, by omega, by omega, by omega, by omega, by omega, by omega, by omega, by omega⟩
        · go_simp
          have b2 := chainA b1 (.cells (rtB ⟨#[]⟩ 0 0 0) 26)
          have z9 := Box.madeAt hs1 26 (rtB ⟨#[]⟩ 0 0 0)
          have z10 := z10.past (.cells (rtB ⟨#[]⟩ 0 0 0) 26)
          have hs2 : (World.alloc V1 (.cells (rtB ⟨#[]⟩ 0 0 0) 26)).heap.size = n0 + 2 := by simp [hs1]
          try rw [hs1]
          change K _ (World.alloc V1 (.cells (rtB ⟨#[]⟩ 0 0 0) 26))
          generalize World.alloc V1 (.cells (rtB ⟨#[]⟩ 0 0 0) 26) = V2 at *
          refine hK.out _ _ (hS _ b2) (fun hHeld => ?_)
          clear hK K
          try simp only [Act.put, List.getElem_toArray, List.getElem_cons_succ, List.getElem_cons_zero, List.setIfInBounds_toArray, List.set_cons_zero, List.set_cons_succ]
          refine wpAnyH_ready (rs := [4, 5]) (by kernel_rfl) (by simp) (AllReadyH.cons rfl (fun K hK => ?_) (AllReadyH.cons rfl (fun K hK => ?_) AllReadyH.nil))
          · go_simp
            have b3 := chainA b2 (.cells (rtB ⟨#[]⟩ 0 0 0) 26)
            have z7 := Box.madeAt hs2 26 (rtB ⟨#[]⟩ 0 0 0)
            have z10 := z10.past (.cells (rtB ⟨#[]⟩ 0 0 0) 26)
            have z9 := z9.past (.cells (rtB ⟨#[]⟩ 0 0 0) 26)
            have hs3 : (World.alloc V2 (.cells (rtB ⟨#[]⟩ 0 0 0) 26)).heap.size = n0 + 3 := by simp [hs2]
            try rw [hs2]
            change K _ (World.alloc V2 (.cells (rtB ⟨#[]⟩ 0 0 0) 26))
            generalize World.alloc V2 (.cells (rtB ⟨#[]⟩ 0 0 0) 26) = V3 at *
            refine hK.out _ _ (hS _ b3) (fun hHeld => ?_)
            clear hK K
            try simp only [Act.put, List.getElem_toArray, List.getElem_cons_succ, List.getElem_cons_zero, List.setIfInBounds_toArray, List.set_cons_zero, List.set_cons_succ]
            refine wpAnyH_ready (rs := [5]) (by kernel_rfl) (by simp) (AllReadyH.cons rfl (fun K hK => ?_) AllReadyH.nil)
            · go_simp
              have b4 := chainA b3 (.cells (rtB ⟨#[]⟩ 0 0 0) 26)
              have z8 := Box.madeAt hs3 26 (rtB ⟨#[]⟩ 0 0 0)
              have z10 := z10.past (.cells (rtB ⟨#[]⟩ 0 0 0) 26)
              have z9 := z9.past (.cells (rtB ⟨#[]⟩ 0 0 0) 26)
              have z7 := z7.past (.cells (rtB ⟨#[]⟩ 0 0 0) 26)
              have hs4 : (World.alloc V3 (.cells (rtB ⟨#[]⟩ 0 0 0) 26)).heap.size = n0 + 4 := by simp [hs3]
              try rw [hs3]
              change K _ (World.alloc V3 (.cells (rtB ⟨#[]⟩ 0 0 0) 26))
              generalize World.alloc V3 (.cells (rtB ⟨#[]⟩ 0 0 0) 26) = V4 at *
              refine hK.out _ _ (hS _ b4) (fun hHeld => ?_)
              clear hK K
              try simp only [Act.put, List.getElem_toArray, List.getElem_cons_succ, List.getElem_cons_zero, List.setIfInBounds_toArray, List.set_cons_zero, List.set_cons_succ]
              obtain ⟨⟨v0, v1, v2, v3⟩, ⟨f0, f1, f2, f3⟩, vin⟩ := z7.four4
              refine wpAnyH_ready (rs := [8]) (by kernel_rfl) (by simp) (AllReadyH.cons rfl (fun K hK => ?_) AllReadyH.nil)
              go_simp
              obtain ⟨z7, o7⟩ := put_four17 z7 rs rh' rl' rn
              have z8 := o7.box z8 (fun e => by have e := (show _ = _ from e); omega)
              have z9 := o7.box z9 (fun e => by have e := (show _ = _ from e); omega)
              have z10 := o7.box z10 (fun e => by have e := (show _ = _ from e); omega)
              have b5 := b4.trans (o7.below (B := w1.heap.size) (fun i hi => by rw [show i = _ from hi]; omega) b4.size)
              generalize World.setCell (World.setCell (World.setCell (World.setCell V4 _ _) _ _) _ _) _ _ = V5 at *
              refine hK.out _ _ (hS _ b5) (fun hHeld => ?_)
              clear hK K
              try simp only [Act.put, List.getElem_toArray, List.getElem_cons_succ, List.getElem_cons_zero, List.setIfInBounds_toArray, List.set_cons_zero, List.set_cons_succ]
              clear v0 v1 v2 v3 f0 f1 f2 f3 vin
              obtain ⟨⟨v0, v1, v2, v3⟩, ⟨f0, f1, f2, f3⟩, vin⟩ := z8.four4
              refine wpAnyH_ready (rs := [9]) (by kernel_rfl) (by simp) (AllReadyH.cons rfl (fun K hK => ?_) AllReadyH.nil)
              go_simp
              obtain ⟨z8, o8⟩ := put_four17 z8 rs rh' rl' rn
              have z7 := o8.box z7 (fun e => by have e := (show _ = _ from e); omega)
              have z9 := o8.box z9 (fun e => by have e := (show _ = _ from e); omega)
              have z10 := o8.box z10 (fun e => by have e := (show _ = _ from e); omega)
              have b6 := b5.trans (o8.below (B := w1.heap.size) (fun i hi => by rw [show i = _ from hi]; omega) b5.size)
              generalize World.setCell (World.setCell (World.setCell (World.setCell V5 _ _) _ _) _ _) _ _ = V6 at *
              refine hK.out _ _ (hS _ b6) (fun hHeld => ?_)
              clear hK K
              try simp only [Act.put, List.getElem_toArray, List.getElem_cons_succ, List.getElem_cons_zero, List.setIfInBounds_toArray, List.set_cons_zero, List.set_cons_succ]
              clear v0 v1 v2 v3 f0 f1 f2 f3 vin
              obtain ⟨⟨v0, v1, v2, v3⟩, ⟨f0, f1, f2, f3⟩, vin⟩ := z9.four4
              refine wpAnyH_ready (rs := [10]) (by kernel_rfl) (by simp) (AllReadyH.cons rfl (fun K hK => ?_) AllReadyH.nil)
              go_simp
              obtain ⟨z9, o9⟩ := put_four17 z9 rs rh' rl' rn
              have z7 := o9.box z7 (fun e => by have e := (show _ = _ from e); omega)
              have z8 := o9.box z8 (fun e => by have e := (show _ = _ from e); omega)
              have z10 := o9.box z10 (fun e => by have e := (show _ = _ from e); omega)
              have b7 := b6.trans (o9.below (B := w1.heap.size) (fun i hi => by rw [show i = _ from hi]; omega) b6.size)
              generalize World.setCell (World.setCell (World.setCell (World.setCell V6 _ _) _ _) _ _) _ _ = V7 at *
              refine hK.out _ _ (hS _ b7) (fun hHeld => ?_)
              clear hK K
              try simp only [Act.put, List.getElem_toArray, List.getElem_cons_succ, List.getElem_cons_zero, List.setIfInBounds_toArray, List.set_cons_zero, List.set_cons_succ]
              clear v0 v1 v2 v3 f0 f1 f2 f3 vin
              obtain ⟨⟨v0, v1, v2, v3⟩, ⟨f0, f1, f2, f3⟩, vin⟩ := z10.four4
              refine wpAnyH_ready (rs := [11]) (by kernel_rfl) (by simp) (AllReadyH.cons rfl (fun K hK => ?_) AllReadyH.nil)
              go_simp
              obtain ⟨z10, o10⟩ := put_four17 z10 rs rh' rl' rn
              have z7 := o10.box z7 (fun e => by have e := (show _ = _ from e); omega)
              have z8 := o10.box z8 (fun e => by have e := (show _ = _ from e); omega)
              have z9 := o10.box z9 (fun e => by have e := (show _ = _ from e); omega)
              have b8 := b7.trans (o10.below (B := w1.heap.size) (fun i hi => by rw [show i = _ from hi]; omega) b7.size)
              generalize World.setCell (World.setCell (World.setCell (World.setCell V7 _ _) _ _) _ _) _ _ = V8 at *
              refine hK.out _ _ (hS _ b8) (fun hHeld => ?_)
              clear hK K
              try simp only [Act.put, List.getElem_toArray, List.getElem_cons_succ, List.getElem_cons_zero, List.setIfInBounds_toArray, List.set_cons_zero, List.set_cons_succ]
              clear v0 v1 v2 v3 f0 f1 f2 f3 vin
              refine wpAnyH_done (by kernel_rfl) ?_ _
              go_wp2
              go_meet
              exact ⟨_, _, _, _, rfl, rfl, rfl, rfl, b8, z7, z8, z9, z10, by omega, by omega, by omega, by omega, by omega, by omega, by omega, by omega, by omega, by omega⟩
          · go_simp
            have b3 := chainA b2 (.cells (rtB ⟨#[]⟩ 0 0 0) 26)
            have z8 := Box.madeAt hs2 26 (rtB ⟨#[]⟩ 0 0 0)
            have z10 := z10.past (.cells (rtB ⟨#[]⟩ 0 0 0) 26)
            have z9 := z9.past (.cells (rtB ⟨#[]⟩ 0 0 0) 26)
            have hs3 : (World.alloc V2 (.cells (rtB ⟨#[]⟩ 0 0 0) 26)).heap.size = n0 + 3 := by simp [hs2]
            try rw [hs2]
            change K _ (World.alloc V2 (.cells (rtB ⟨#[]⟩ 0 0 0) 26))
            generalize World.alloc V2 (.cells (rtB ⟨#[]⟩ 0 0 0) 26) = V3 at *
            refine hK.out _ _ (hS _ b3) (fun hHeld => ?_)
            clear hK K
            try simp only [Act.put, List.getElem_toArray, List.getElem_cons_succ, List.getElem_cons_zero, List.setIfInBounds_toArray, List.set_cons_zero, List.set_cons_succ]
            refine wpAnyH_ready (rs := [4]) (by kernel_rfl) (by simp) (AllReadyH.cons rfl (fun K hK => ?_) AllReadyH.nil)
            · go_simp
              have b4 := chainA b3 (.cells (rtB ⟨#[]⟩ 0 0 0) 26)
              have z7 := Box.madeAt hs3 26 (rtB ⟨#[]⟩ 0 0 0)
              have z10 := z10.past (.cells (rtB ⟨#[]⟩ 0 0 0) 26)
              have z9 := z9.past (.cells (rtB ⟨#[]⟩ 0 0 0) 26)
              have z8 := z8.past (.cells (rtB ⟨#[]⟩ 0 0 0) 26)
              have hs4 : (World.alloc V3 (.cells (rtB ⟨#[]⟩ 0 0 0) 26)).heap.size = n0 + 4 := by simp [hs3]
              try rw [hs3]
              change K _ (World.alloc V3 (.cells (rtB ⟨#[]⟩ 0 0 0) 26))
              generalize World.alloc V3 (.cells (rtB ⟨#[]⟩ 0 0 0) 26) = V4 at *
              refine hK.out _ _ (hS _ b4) (fun hHeld => ?_)
              clear hK K
              try simp only [Act.put, List.getElem_toArray, List.getElem_cons_succ, List.getElem_cons_zero, List.setIfInBounds_toArray, List.set_cons_zero, List.set_cons_succ]
              obtain ⟨⟨v0, v1, v2, v3⟩, ⟨f0, f1, f2, f3⟩, vin⟩ := z7.four4
              refine wpAnyH_ready (rs := [8]) (by kernel_rfl) (by simp) (AllReadyH.cons rfl (fun K hK => ?_) AllReadyH.nil)
              go_simp
              obtain ⟨z7, o7⟩ := put_four17 z7 rs rh' rl' rn
              have z8 := o7.box z8 (fun e => by have e := (show _ = _ from e); omega)
              have z9 := o7.box z9 (fun e => by have e := (show _ = _ from e); omega)
              have z10 := o7.box z10 (fun e => by have e := (show _ = _ from e); omega)
              have b5 := b4.trans (o7.below (B := w1.heap.size) (fun i hi => by rw [show i = _ from hi]; omega) b4.size)
              generalize World.setCell (World.setCell (World.setCell (World.setCell V4 _ _) _ _) _ _) _ _ = V5 at *
              refine hK.out _ _ (hS _ b5) (fun hHeld => ?_)
              clear hK K
              try simp only [Act.put, List.getElem_toArray, List.getElem_cons_succ, List.getElem_cons_zero, List.setIfInBounds_toArray, List.set_cons_zero, List.set_cons_succ]
              clear v0 v1 v2 v3 f0 f1 f2 f3 vin
              obtain ⟨⟨v0, v1, v2, v3⟩, ⟨f0, f1, f2, f3⟩, vin⟩ := z8.four4
              refine wpAnyH_ready (rs := [9]) (by kernel_rfl) (by simp) (AllReadyH.cons rfl (fun K hK => ?_) AllReadyH.nil)
              go_simp
              obtain ⟨z8, o8⟩ := put_four17 z8 rs rh' rl' rn
              have z7 := o8.box z7 (fun e => by have e := (show _ = _ from e); omega)
              have z9 := o8.box z9 (fun e => by have e := (show _ = _ from e); omega)
              have z10 := o8.box z10 (fun e => by have e := (show _ = _ from e); omega)
              have b6 := b5.trans (o8.below (B := w1.heap.size) (fun i hi => by rw [show i = _ from hi]; omega) b5.size)
              generalize World.setCell (World.setCell (World.setCell (World.setCell V5 _ _) _ _) _ _) _ _ = V6 at *
              refine hK.out _ _ (hS _ b6) (fun hHeld => ?_)
              clear hK K
              try simp only [Act.put, List.getElem_toArray, List.getElem_cons_succ, List.getElem_cons_zero, List.setIfInBounds_toArray, List.set_cons_zero, List.set_cons_succ]
              clear v0 v1 v2 v3 f0 f1 f2 f3 vin
              obtain ⟨⟨v0, v1, v2, v3⟩, ⟨f0, f1, f2, f3⟩, vin⟩ := z9.four4
              refine wpAnyH_ready (rs := [10]) (by kernel_rfl) (by simp) (AllReadyH.cons rfl (fun K hK => ?_) AllReadyH.nil)
              go_simp
              obtain ⟨z9, o9⟩ := put_four17 z9 rs rh' rl' rn
              have z7 := o9.box z7 (fun e => by have e := (show _ = _ from e); omega)
              have z8 := o9.box z8 (fun e => by have e := (show _ = _ from e); omega)
              have z10 := o9.box z10 (fun e => by have e := (show _ = _ from e); omega)
              have b7 := b6.trans (o9.below (B := w1.heap.size) (fun i hi => by rw [show i = _ from hi]; omega) b6.size)
              generalize World.setCell (World.setCell (World.setCell (World.setCell V6 _ _) _ _) _ _) _ _ = V7 at *
              refine hK.out _ _ (hS _ b7) (fun hHeld => ?_)
              clear hK K
              try simp only [Act.put, List.getElem_toArray, List.getElem_cons_succ, List.getElem_cons_zero, List.setIfInBounds_toArray, List.set_cons_zero, List.set_cons_succ]
              clear v0 v1 v2 v3 f0 f1 f2 f3 vin
              obtain ⟨⟨v0, v1, v2, v3⟩, ⟨f0, f1, f2, f3⟩, vin⟩ := z10.four4
              refine wpAnyH_ready (rs := [11]) (by kernel_rfl) (by simp) (AllReadyH.cons rfl (fun K hK => ?_) AllReadyH.nil)
              go_simp
              obtain ⟨z10, o10⟩ := put_four17 z10 rs rh' rl' rn
              have z7 := o10.box z7 (fun e => by have e := (show _ = _ from e); omega)
              have z8 := o10.box z8 (fun e => by have e := (show _ = _ from e); omega)
              have z9 := o10.box z9 (fun e => by have e := (show _ = _ from e); omega)
              have b8 := b7.trans (o10.below (B := w1.heap.size) (fun i hi => by rw [show i = _ from hi]; omega) b7.size)
              generalize World.setCell (World.setCell (World.setCell (World.setCell V7 _ _) _ _) _ _) _ _ = V8 at *
              refine hK.out _ _ (hS _ b8) (fun hHeld => ?_)
              clear hK K
              try simp only [Act.put, List.getElem_toArray, List.getElem_cons_succ, List.getElem_cons_zero, List.setIfInBounds_toArray, List.set_cons_zero, List.set_cons_succ]
              clear v0 v1 v2 v3 f0 f1 f2 f3 vin
              refine wpAnyH_done (by kernel_rfl) ?_ _
              go_wp2
              go_meet
              exact ⟨_, _, _, _, rfl, rfl, rfl, rfl, b8, z7, z8, z9, z10, by omega, by omega, by omega, by omega, by omega, by omega, by omega, by omega, by omega, by omega⟩
    case rest =>
      obtain ⟨ga, gb, gc, gd, rfl, rfl, rfl, rfl, bX, zA, zB, zC, zD, l1, l2, l3, l4, d1, d2, d3, d4, d5, d6⟩ := hcut
      have J2 := J1.call bX
      have hwn : w.heap.size ≤ n0 := by rw [← hn0]; exact J1.size
      have zE := J2.box 0
      have zR := J2.box 1
      have L0 := J2.below
      clear bX J2 J1 hS
      rw [hn0] at hge1
      obtain ⟨e100, -, e200, e201⟩ := hlong2 trivial
      have w1' : IntKind.i64.wrap (more : Int) = (more : Int) := by rw [IntKind.wrap_i64]; omega
      have w2' : IntKind.i64.wrap (64 + (more : Int)) = 64 + (more : Int) := by rw [IntKind.wrap_i64]; omega
      have w3' : IntKind.i64.wrap (-1 - (more : Int)) = -1 - (more : Int) := by rw [IntKind.wrap_i64]; omega
      have w4' : IntKind.i64.wrap (33 + (more : Int)) = 33 + (more : Int) := by rw [IntKind.wrap_i64]; omega
      have cC := fun (r : RtP) u (hu : Below w.heap.size w u) => check17_any r ⟨xp, xi, xs, xh, xl⟩ q hq A c l (by omega) ⟨by simp only; omega, by simp only; omega⟩ hx.2 (fun y hy => (hf y hy).2) u (hR.on hu) (hK.call hu) (hU.call hu)
      rw [hN] at cC
      obtain ⟨⟨v0, v1, v2, v3⟩, ⟨f0, f1, f2, f3⟩, vin⟩ := zA.four4
      go_upto_region 5 with fail
      obtain ⟨zA, o⟩ := put_one17 zA 3 (.int .i64 (64 + (more : Int)))
      have zB := o.box zB (fun e => by have e := (show _ = _ from e); omega)
      have zC := o.box zC (fun e => by have e := (show _ = _ from e); omega)
      have zD := o.box zD (fun e => by have e := (show _ = _ from e); omega)
      have zE := o.box zE (fun e => by have e := (show _ = _ from e); omega)
      have zR := o.box zR (fun e => by have e := (show _ = _ from e); omega)
      have L0 := L0.trans (o.below (B := w.heap.size) (fun i hi => by rw [show i = _ from hi]; omega) L0.size)
      change Code.wp _ _ _ _ (World.setCell wc ⟨ga, 3, none⟩ (.int .i64 (64 + (more : Int))))
      generalize World.setCell wc ⟨ga, 3, none⟩ (.int .i64 (64 + (more : Int))) = V4 at *
      have zA : Box V4 ga 26 (rtB rs rh' rl' (64 + (more : Int))) := zA
      clear v0 v1 v2 v3 f0 f1 f2 f3 vin o
      obtain ⟨⟨v0, v1, v2, v3⟩, ⟨f0, f1, f2, f3⟩, vin⟩ := zB.four4
      go_upto_region 6 with fail
      obtain ⟨zB, o⟩ := put_one17 zB 3 (.int .i64 (-1 - (more : Int)))
      have zA := o.box zA (fun e => by have e := (show _ = _ from e); omega)
      have zC := o.box zC (fun e => by have e := (show _ = _ from e); omega)
      have zD := o.box zD (fun e => by have e := (show _ = _ from e); omega)
      have zE := o.box zE (fun e => by have e := (show _ = _ from e); omega)
      have zR := o.box zR (fun e => by have e := (show _ = _ from e); omega)
      have L0 := L0.trans (o.below (B := w.heap.size) (fun i hi => by rw [show i = _ from hi]; omega) L0.size)
      change Code.wp _ _ _ _ (World.setCell V4 ⟨gb, 3, none⟩ (.int .i64 (-1 - (more : Int))))
      generalize World.setCell V4 ⟨gb, 3, none⟩ (.int .i64 (-1 - (more : Int))) = V5 at *
      have zB : Box V5 gb 26 (rtB rs rh' rl' (-1 - (more : Int))) := zB
      clear v0 v1 v2 v3 f0 f1 f2 f3 vin o
      obtain ⟨⟨v0, v1, v2, v3⟩, ⟨f0, f1, f2, f3⟩, vin⟩ := zC.four4
      go_upto_region 7 with fail
      obtain ⟨zC, o⟩ := put_one17 zC 0 (.string ⟨#[]⟩)
      have zA := o.box zA (fun e => by have e := (show _ = _ from e); omega)
      have zB := o.box zB (fun e => by have e := (show _ = _ from e); omega)
      have zD := o.box zD (fun e => by have e := (show _ = _ from e); omega)
      have zE := o.box zE (fun e => by have e := (show _ = _ from e); omega)
      have zR := o.box zR (fun e => by have e := (show _ = _ from e); omega)
      have L0 := L0.trans (o.below (B := w.heap.size) (fun i hi => by rw [show i = _ from hi]; omega) L0.size)
      change Code.wp _ _ _ _ (World.setCell V5 ⟨gc, 0, none⟩ (.string ⟨#[]⟩))
      generalize World.setCell V5 ⟨gc, 0, none⟩ (.string ⟨#[]⟩) = V6 at *
      have zC : Box V6 gc 26 (rtB ⟨#[]⟩ rh' rl' rn) := zC
      clear v0 v1 v2 v3 f0 f1 f2 f3 vin o
      obtain ⟨⟨v0, v1, v2, v3⟩, ⟨f0, f1, f2, f3⟩, vin⟩ := zD.four4
      go_upto_region 8 with fail
      obtain ⟨zD, o⟩ := put_one17 zD 0 (.string ⟨#[]⟩)
      have zA := o.box zA (fun e => by have e := (show _ = _ from e); omega)
      have zB := o.box zB (fun e => by have e := (show _ = _ from e); omega)
      have zC := o.box zC (fun e => by have e := (show _ = _ from e); omega)
      have zE := o.box zE (fun e => by have e := (show _ = _ from e); omega)
      have zR := o.box zR (fun e => by have e := (show _ = _ from e); omega)
      have L0 := L0.trans (o.below (B := w.heap.size) (fun i hi => by rw [show i = _ from hi]; omega) L0.size)
      change Code.wp _ _ _ _ (World.setCell V6 ⟨gd, 0, none⟩ (.string ⟨#[]⟩))
      generalize World.setCell V6 ⟨gd, 0, none⟩ (.string ⟨#[]⟩) = V7 at *
      have zD : Box V7 gd 26 (rtB ⟨#[]⟩ rh' rl' rn) := zD
      clear v0 v1 v2 v3 f0 f1 f2 f3 vin o
      go_wp2
      go_loopg [11] (33 + more) (fun gk i wr => ∃ k : Nat, k ≤ 33 + more ∧ 33 + more - k ≤ gk ∧ i = .int .i64 k ∧ Box wr gd 26 (rtB (asB k) rh' rl' rn) ∧ Off (One gd) V7 wr)
      case atStart => exact ⟨0, Nat.zero_le _, by omega, rfl, zD, Off.refl _ _⟩
      case round =>
        obtain ⟨k, hk, hgk, rfl, zD, oX⟩ := hrel
        have HG := hideIt hgk
        clear hgk
        by_cases hlt : k < 33 + more
        · have hlti : (k : Int) < 33 + (more : Int) := by omega
          obtain ⟨⟨v0, v1, v2, v3⟩, ⟨f0, f1, f2, f3⟩, vin⟩ := zD.four4
          have hcx := adds_any (asB k) ⟨#[97]⟩ (asB (k + 1)) rfl (by rw [asB_size]; omega) (by decide)
          obtain ⟨zD1, o⟩ := put_one17 zD 0 (.string (asB (k + 1)))
          have oY := oX.trans o
          have zD2 : Box (World.setCell wr ⟨gd, 0, none⟩ (.string (asB (k + 1)))) gd 26 (rtB (asB (k + 1)) rh' rl' rn) := zD1
          obtain ⟨P1, hP1⟩ : ∃ P, asB (k + 1) = P := ⟨_, rfl⟩
          clear zD1
          rw [hP1] at hcx zD2 oY
          have HP1 := hideIt hP1
          clear hP1 o
          generalize asB k = P0 at *
          go_wp2
          go_roundg (33 + more - (k + 1))
          case measure => have := HG.out; omega
          case rel => exact ⟨k + 1, by omega, Nat.le_refl _, by go_num, by rw [HP1.out]; exact zD2, oY⟩
        · obtain rfl : k = 33 + more := by omega
          have hlti : ¬ ((33 + more : Nat) : Int) < 33 + (more : Int) := by omega
          have zA := oX.box zA (fun e => by have e := (show _ = _ from e); omega)
          have zB := oX.box zB (fun e => by have e := (show _ = _ from e); omega)
          have zC := oX.box zC (fun e => by have e := (show _ = _ from e); omega)
          have zE := oX.box zE (fun e => by have e := (show _ = _ from e); omega)
          have zR := oX.box zR (fun e => by have e := (show _ = _ from e); omega)
          have L0 := L0.trans (oX.below (B := w.heap.size) (fun i hi => by rw [show i = _ from hi]; omega) L0.size)
          have K0 : Has w [(gd, 26, rtB (asB (33 + more)) rh' rl' rn), (gc, 26, rtB ⟨#[]⟩ rh' rl' rn), (gb, 26, rtB rs rh' rl' (-1 - (more : Int))), (ga, 26, rtB rs rh' rl' (64 + (more : Int))), (ge + 1, 39, enV ⟨xp, xi, xs, xh, xl⟩ q A N c), (ge, 26, rtB rs rh' rl' rn)] wr :=
            ⟨fun y hy => by
              simp only [List.mem_cons, List.not_mem_nil, or_false] at hy
              rcases hy with rfl | rfl | rfl | rfl | rfl | rfl
              · exact zD
              · exact zC
              · exact zB
              · exact zA
              · exact zE
              · exact zR, L0⟩
          clear zA zB zC zD zE zR oX L0
          have hsz := asB_size (33 + more)
          have kC1 := fun u hu => (cC ⟨rs, rh', rl', 64 + (more : Int)⟩ u hu)
          rw [check_high (r := ⟨rs, rh', rl', 64 + (more : Int)⟩) (Or.inr (by simp only; omega))] at kC1
          have kC2 := fun u hu => (cC ⟨rs, rh', rl', -1 - (more : Int)⟩ u hu)
          rw [check_high (r := ⟨rs, rh', rl', -1 - (more : Int)⟩) (Or.inl (by simp only; omega))] at kC2
          have kC5 := fun u => may17_any ⟨asB (33 + more), rh', rl', rn⟩ u
          have hwide : mayW (asB (33 + more)).size = false := by rw [hsz]; exact decide_eq_false (by omega)
          have hMay : mayR ⟨asB (33 + more), rh', rl', rn⟩ ≠ 0 := by
            rw [mayR]
            split
            · decide
            · simp only
              rw [if_neg (by rw [hwide]; decide)]
              decide
          by_cases hin : rn < 0 ∨ 63 < rn
          · obtain ⟨M, hM⟩ : ∃ M, mayR ⟨asB (33 + more), rh', rl', rn⟩ = M := ⟨_, rfl⟩
            rw [hM] at kC5 hMay
            have qM : (M != 0) = true := bne_iff_ne.2 hMay
            clear cC hwide hM hMay hsz
            generalize asB (33 + more) = P at *
            simp only [RtP.val] at kC1 kC2 kC5
            obtain ⟨⟨a0, a1, a2, a3⟩, -, ain⟩ := (K0.box 3).four4; obtain ⟨⟨b0, b1, b2, b3⟩, -, bin⟩ := (K0.box 2).four4; obtain ⟨⟨c0, c1, c2, c3⟩, -, cin⟩ := (K0.box 1).four4; obtain ⟨⟨d0, d1, d2, d3⟩, -, din⟩ := (K0.box 0).four4; obtain ⟨⟨x0, x1, x2, x3, x4, x5, x6⟩, xin⟩ := (K0.box 4).seven; obtain ⟨⟨r0, r1, r2, r3⟩, -, rin⟩ := (K0.box 5).four4; simp only at x0 x1 x2 x3 x4
            rcases hin with h1 | h1
            · have q1 : ¬ (0 : Int) ≤ rn := by omega
              go_wp2_with (first
                | (go_at_call 10; refine (kC5 _).mono ?_; rintro e w9 ⟨rfl, b9⟩; have K5 := K2.call b9)
                | (go_at_call 13; first
                    | (refine (kC2 _ K1.below).mono ?_; rintro e w6 ⟨rfl, b6⟩; have K2 := K1.call b6; obtain ⟨⟨a0, a1, a2, a3⟩, -, ain⟩ := (K2.box 3).four4; obtain ⟨⟨b0, b1, b2, b3⟩, -, bin⟩ := (K2.box 2).four4; obtain ⟨⟨c0, c1, c2, c3⟩, -, cin⟩ := (K2.box 1).four4; obtain ⟨⟨d0, d1, d2, d3⟩, -, din⟩ := (K2.box 0).four4; obtain ⟨⟨x0, x1, x2, x3, x4, x5, x6⟩, xin⟩ := (K2.box 4).seven; obtain ⟨⟨r0, r1, r2, r3⟩, -, rin⟩ := (K2.box 5).four4; simp only at x0 x1 x2 x3 x4)
                    | (refine (kC1 _ K0.below).mono ?_; rintro e w5 ⟨rfl, b5⟩; have K1 := K0.call b5; obtain ⟨⟨a0, a1, a2, a3⟩, -, ain⟩ := (K1.box 3).four4; obtain ⟨⟨b0, b1, b2, b3⟩, -, bin⟩ := (K1.box 2).four4; obtain ⟨⟨c0, c1, c2, c3⟩, -, cin⟩ := (K1.box 1).four4; obtain ⟨⟨d0, d1, d2, d3⟩, -, din⟩ := (K1.box 0).four4; obtain ⟨⟨x0, x1, x2, x3, x4, x5, x6⟩, xin⟩ := (K1.box 4).seven; obtain ⟨⟨r0, r1, r2, r3⟩, -, rin⟩ := (K1.box 5).four4; simp only at x0 x1 x2 x3 x4))
                | fail)
              go_ret
              exact ⟨rfl, by first | exact K5.below | (rw [← hge]; exact K5.below)⟩
            · have q1 : (0 : Int) ≤ rn := by omega
              have q2 : ¬ rn ≤ (63 : Int) := by omega
              go_wp2_with (first
                | (go_at_call 10; refine (kC5 _).mono ?_; rintro e w9 ⟨rfl, b9⟩; have K5 := K2.call b9)
                | (go_at_call 13; first
                    | (refine (kC2 _ K1.below).mono ?_; rintro e w6 ⟨rfl, b6⟩; have K2 := K1.call b6; obtain ⟨⟨a0, a1, a2, a3⟩, -, ain⟩ := (K2.box 3).four4; obtain ⟨⟨b0, b1, b2, b3⟩, -, bin⟩ := (K2.box 2).four4; obtain ⟨⟨c0, c1, c2, c3⟩, -, cin⟩ := (K2.box 1).four4; obtain ⟨⟨d0, d1, d2, d3⟩, -, din⟩ := (K2.box 0).four4; obtain ⟨⟨x0, x1, x2, x3, x4, x5, x6⟩, xin⟩ := (K2.box 4).seven; obtain ⟨⟨r0, r1, r2, r3⟩, -, rin⟩ := (K2.box 5).four4; simp only at x0 x1 x2 x3 x4)
                    | (refine (kC1 _ K0.below).mono ?_; rintro e w5 ⟨rfl, b5⟩; have K1 := K0.call b5; obtain ⟨⟨a0, a1, a2, a3⟩, -, ain⟩ := (K1.box 3).four4; obtain ⟨⟨b0, b1, b2, b3⟩, -, bin⟩ := (K1.box 2).four4; obtain ⟨⟨c0, c1, c2, c3⟩, -, cin⟩ := (K1.box 1).four4; obtain ⟨⟨d0, d1, d2, d3⟩, -, din⟩ := (K1.box 0).four4; obtain ⟨⟨x0, x1, x2, x3, x4, x5, x6⟩, xin⟩ := (K1.box 4).seven; obtain ⟨⟨r0, r1, r2, r3⟩, -, rin⟩ := (K1.box 5).four4; simp only at x0 x1 x2 x3 x4))
                | fail)
              go_ret
              exact ⟨rfl, by first | exact K5.below | (rw [← hge]; exact K5.below)⟩
          · have q1 : (0 : Int) ≤ rn := by omega
            have q2 : rn ≤ (63 : Int) := by omega
            have kC3 := fun u hu => (cC ⟨⟨#[]⟩, rh', rl', rn⟩ u hu)
            rw [check_wide (r := ⟨⟨#[]⟩, rh', rl', rn⟩) hin (show mayW (((⟨#[]⟩ : ByteArray).size : Nat) : Int) = false from by decide)] at kC3
            have kC4 := fun u hu => (cC ⟨asB (33 + more), rh', rl', rn⟩ u hu)
            rw [check_wide (r := ⟨asB (33 + more), rh', rl', rn⟩) hin hwide] at kC4
            obtain ⟨M, hM⟩ : ∃ M, mayR ⟨asB (33 + more), rh', rl', rn⟩ = M := ⟨_, rfl⟩
            rw [hM] at kC5 hMay
            have qM : (M != 0) = true := bne_iff_ne.2 hMay
            clear cC hwide hM hMay hin hsz
            generalize asB (33 + more) = P at *
            simp only [RtP.val] at kC1 kC2 kC3 kC4 kC5
            obtain ⟨⟨a0, a1, a2, a3⟩, -, ain⟩ := (K0.box 3).four4; obtain ⟨⟨b0, b1, b2, b3⟩, -, bin⟩ := (K0.box 2).four4; obtain ⟨⟨c0, c1, c2, c3⟩, -, cin⟩ := (K0.box 1).four4; obtain ⟨⟨d0, d1, d2, d3⟩, -, din⟩ := (K0.box 0).four4; obtain ⟨⟨x0, x1, x2, x3, x4, x5, x6⟩, xin⟩ := (K0.box 4).seven; obtain ⟨⟨r0, r1, r2, r3⟩, -, rin⟩ := (K0.box 5).four4; simp only at x0 x1 x2 x3 x4
            go_wp2_with (first
              | (go_at_call 10; refine (kC5 _).mono ?_; rintro e w9 ⟨rfl, b9⟩; have K5 := K4.call b9)
              | (go_at_call 13; first
                  | (refine (kC4 _ K3.below).mono ?_; rintro e w8 ⟨rfl, b8⟩; have K4 := K3.call b8; obtain ⟨⟨a0, a1, a2, a3⟩, -, ain⟩ := (K4.box 3).four4; obtain ⟨⟨b0, b1, b2, b3⟩, -, bin⟩ := (K4.box 2).four4; obtain ⟨⟨c0, c1, c2, c3⟩, -, cin⟩ := (K4.box 1).four4; obtain ⟨⟨d0, d1, d2, d3⟩, -, din⟩ := (K4.box 0).four4; obtain ⟨⟨x0, x1, x2, x3, x4, x5, x6⟩, xin⟩ := (K4.box 4).seven; obtain ⟨⟨r0, r1, r2, r3⟩, -, rin⟩ := (K4.box 5).four4; simp only at x0 x1 x2 x3 x4)
                  | (refine (kC3 _ K2.below).mono ?_; rintro e w7 ⟨rfl, b7⟩; have K3 := K2.call b7; obtain ⟨⟨a0, a1, a2, a3⟩, -, ain⟩ := (K3.box 3).four4; obtain ⟨⟨b0, b1, b2, b3⟩, -, bin⟩ := (K3.box 2).four4; obtain ⟨⟨c0, c1, c2, c3⟩, -, cin⟩ := (K3.box 1).four4; obtain ⟨⟨d0, d1, d2, d3⟩, -, din⟩ := (K3.box 0).four4; obtain ⟨⟨x0, x1, x2, x3, x4, x5, x6⟩, xin⟩ := (K3.box 4).seven; obtain ⟨⟨r0, r1, r2, r3⟩, -, rin⟩ := (K3.box 5).four4; simp only at x0 x1 x2 x3 x4)
                  | (refine (kC2 _ K1.below).mono ?_; rintro e w6 ⟨rfl, b6⟩; have K2 := K1.call b6; obtain ⟨⟨a0, a1, a2, a3⟩, -, ain⟩ := (K2.box 3).four4; obtain ⟨⟨b0, b1, b2, b3⟩, -, bin⟩ := (K2.box 2).four4; obtain ⟨⟨c0, c1, c2, c3⟩, -, cin⟩ := (K2.box 1).four4; obtain ⟨⟨d0, d1, d2, d3⟩, -, din⟩ := (K2.box 0).four4; obtain ⟨⟨x0, x1, x2, x3, x4, x5, x6⟩, xin⟩ := (K2.box 4).seven; obtain ⟨⟨r0, r1, r2, r3⟩, -, rin⟩ := (K2.box 5).four4; simp only at x0 x1 x2 x3 x4)
                  | (refine (kC1 _ K0.below).mono ?_; rintro e w5 ⟨rfl, b5⟩; have K1 := K0.call b5; obtain ⟨⟨a0, a1, a2, a3⟩, -, ain⟩ := (K1.box 3).four4; obtain ⟨⟨b0, b1, b2, b3⟩, -, bin⟩ := (K1.box 2).four4; obtain ⟨⟨c0, c1, c2, c3⟩, -, cin⟩ := (K1.box 1).four4; obtain ⟨⟨d0, d1, d2, d3⟩, -, din⟩ := (K1.box 0).four4; obtain ⟨⟨x0, x1, x2, x3, x4, x5, x6⟩, xin⟩ := (K1.box 4).seven; obtain ⟨⟨r0, r1, r2, r3⟩, -, rin⟩ := (K1.box 5).four4; simp only at x0 x1 x2 x3 x4))
              | fail)
            go_ret
            exact ⟨rfl, by first | exact K5.below | (rw [← hge]; exact K5.below)⟩
theorem verifyHigh_core (H : Type) (enc : TypeId × Value → H) (W : World) (base : Nat) (args : Array Value) (ds gs : List (DataW H)) (before : List MemPlace)
    (hval : ∀ (j : Nat) t v, Tryd.f5.params[j]? = some t → args[j]? = some v → Value.okWide Tryd.prog W .any base t v)
    (hW : DataW.Whole enc Tryd.prog Tryd.f5.params.toList Rows.verifyHighSpec.vars false W args.toList ds gs before) (hT : Tab W ∧ TabU W) :
    gs = [] ∧ ds.length = 3 ∧ Calls Tryd.prog 5 args W (Tells (.bool true) W.heap.size W) := by
  obtain ⟨p, q, hA, hV, -, -, -⟩ := hW
  obtain ⟨rfl, rfl⟩ := trodVars_none hV
  have hA : DataW.TrodAll enc Tryd.prog W 0 (fun _ => true) true Tryd.f5.params.toList args.toList ds p := hA
  rw [Tryd.params5] at hA hval
  obtain ⟨v0, vs0, d0, ds0, p0, ps0, e0, rfl, -, h0, hA⟩ := trodAll_cons hA
  obtain ⟨v1, vs1, d1, ds1, p1, ps1, rfl, rfl, -, h1, hA⟩ := trodAll_cons hA
  obtain ⟨v2, vs2, d2, ds2, p2, ps2, rfl, rfl, -, h2, hA⟩ := trodAll_cons hA
  obtain ⟨rfl, rfl, rfl⟩ := trodAll_nil hA
  obtain rfl : args = #[v0, v1, v2] := Array.ext' e0
  obtain ⟨r, rfl, hr⟩ := open_root17 (hval 0 26 v0 rfl rfl) h0
  obtain ⟨x, m, A, c, l, rfl, hx, hm, hl, hf, hR⟩ := open_entry16 (hval 1 39 v1 rfl rfl) h1
  obtain ⟨b, rfl, -, -, bb⟩ := open_int Tryd.underlying5 (hval 2 5 v2 rfl rfl) h2
  obtain ⟨m, rfl⟩ := Int.eq_ofNat_of_zero_le hm.1
  have hb := byte_of bb
  obtain ⟨b, rfl⟩ := Int.eq_ofNat_of_zero_le hb.1
  exact ⟨rfl, rfl, verifyHigh_any r hr x m (by have := hm.2; omega) A c l hl hf hx b (by have := hb.2; omega) W hR hT.1 hT.2⟩
end Go.Proofs.YtkecekfapiegjaaDoor
