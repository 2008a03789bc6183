/-
  Package tag's nodes and digests, walked: NodeText, MayWidth, Digest, LeafNode.
-/
import Derived.Test.YtjndabnegmecmaaDoorU7Leaf
import Derived.Test.YtjndabnegmecmaaDoorU1Bytes
import Derived.Test.YtjndabnegmecmaaDoorM5Sha
import Derived.Test.YtjndabnegmecmaaDoorM14One
import Derived.Test.YtjndabnegmecmaaDoorW7Node
namespace Go.Proofs.YtjndabnegmecmaaDoor
set_option linter.unusedVariables false
set_option linter.unusedSimpArgs false
set_option maxRecDepth 10000
open Go.RowKit

set_option maxHeartbeats 4000000 in
theorem nodeText_any (a b : Nd) (h1 : a.hash.size ≤ 1000000) (h2 : b.hash.size ≤ 1000000) (a1 : Word a.h) (a0 : Word a.l) (b1 : Word b.h) (b0 : Word b.l) (w : World) : Calls Tryd.prog 53 #[a.val, b.val] w (Tells (.string (ndText a b)) w.heap.size w) := by
  obtain ⟨s, h, l⟩ := a
  obtain ⟨z, j, m⟩ := b
  simp only at h1 h2 a1 a0 b1 b0
  have A0 := (Box.made w 46 #[.string s, .int .u64 h, .int .u64 l]).past (.cells #[.string z, .int .u64 j, .int .u64 m] 46)
  have B0 : Box ((w.alloc (.cells #[.string s, .int .u64 h, .int .u64 l] 46)).alloc (.cells #[.string z, .int .u64 j, .int .u64 m] 46)) (w.heap.size + 1) 46 #[.string z, .int .u64 j, .int .u64 m] := by
    have := Box.made (w.alloc (.cells #[.string s, .int .u64 h, .int .u64 l] 46)) 46 #[.string z, .int .u64 j, .int .u64 m]
    simpa using this
  have L0 : Below w.heap.size w ((w.alloc (.cells #[.string s, .int .u64 h, .int .u64 l] 46)).alloc (.cells #[.string z, .int .u64 j, .int .u64 m] 46)) := by repeat (first | exact Below.refl _ _ | apply Below.drew | apply below_drewN | refine Below.alloc ?_ (by simp; try omega) _ | refine Below.setCell ?_ (by simp; try omega) _)
  have cA := fun u => ubytes_any h l a1 a0 u
  have cB := fun u => ubytes_any j m b1 b0 u
  have zA := textOf_size h l
  have zB := textOf_size j m
  have e : ndText ⟨s, h, l⟩ ⟨z, j, m⟩ = (((⟨#[1]⟩ ++ s) ++ textOf h l) ++ z) ++ textOf j m := rfl
  generalize ndText ⟨s, h, l⟩ ⟨z, j, m⟩ = T at *
  generalize textOf h l = A at *
  generalize textOf j m = B at *
  obtain ⟨X, hX⟩ : ∃ X, (⟨#[1]⟩ : ByteArray) ++ s = X := ⟨_, rfl⟩
  obtain ⟨Y, hY⟩ : ∃ Y, X ++ A = Y := ⟨_, rfl⟩
  obtain ⟨Z, hZ⟩ : ∃ Z, Y ++ z = Z := ⟨_, rfl⟩
  rw [hX, hY, hZ] at e
  have zX : X.size = 1 + s.size := by rw [← hX, ByteArray.size_append]; rfl
  have zY : Y.size = X.size + 16 := by rw [← hY, ByteArray.size_append, zA]
  have zZ : Z.size = Y.size + z.size := by rw [← hZ, ByteArray.size_append]
  have hc1 := adds_any ⟨#[1]⟩ s X hX (by decide) (by omega)
  have hc2 := adds_any X A Y hY (by omega) (by omega)
  have hc3 := adds_any Y z Z hZ (by omega) (by omega)
  have hc4 := adds_any Z B T e.symm (by omega) (by omega)
  clear e hX hY hZ zX zY zZ zA zB
  show Calls _ _ #[.agg #[.string s, .int .u64 h, .int .u64 l], .agg #[.string z, .int .u64 j, .int .u64 m]] _ _
  go_enter Tryd.func53, Tryd.ntmps53
  go_upto_region 1 with fail
  change Code.wp _ _ _ _ ((w.alloc (.cells #[.string s, .int .u64 h, .int .u64 l] 46)).alloc (.cells #[.string z, .int .u64 j, .int .u64 m] 46))
  generalize (w.alloc (.cells #[.string s, .int .u64 h, .int .u64 l] 46)).alloc (.cells #[.string z, .int .u64 j, .int .u64 m] 46) = W at *
  obtain ⟨r0, r1, r2⟩ := A0.node
  obtain ⟨q0, q1, q2⟩ := B0.node
  have hinA := A0.inside
  have hinB := B0.inside
  go_region_held3 (fun w' => Below W.heap.size W w' ∧ w'.cell? ⟨w.heap.size, 0, none⟩ = some (.string s) ∧ w'.cell? ⟨w.heap.size, 1, none⟩ = some (.int .u64 h) ∧ w'.cell? ⟨w.heap.size, 2, none⟩ = some (.int .u64 l) ∧
      w'.cell? ⟨w.heap.size + 1, 0, none⟩ = some (.string z) ∧ w'.cell? ⟨w.heap.size + 1, 1, none⟩ = some (.int .u64 j) ∧ w'.cell? ⟨w.heap.size + 1, 2, none⟩ = some (.int .u64 m))
    (first
      | exact keep_first (by assumption) (by assumption) (fun hb => ⟨hb, (A0.call hb).read 0, (A0.call hb).read 1, (A0.call hb).read 2, (B0.call hb).read 0, (B0.call hb).read 1, (B0.call hb).read 2⟩)
      | exact ⟨(Below.refl _ _).drew, r0, r1, r2, q0, q1, q2⟩)
    (first
      | (go_at_call_of 58 (Value.agg #[.int .u64 h, .int .u64 l]); refine (cA _).mono ?_; rintro e v1 ⟨rfl, hv1⟩)
      | (go_at_call_of 58 (Value.agg #[.int .u64 j, .int .u64 m]); refine (cB _).mono ?_; rintro e v2 ⟨rfl, hv2⟩)
      | fail)
  all_goals go_wp2
  all_goals go_ret
  all_goals exact ⟨rfl, chain L0 (And.left (by assumption))⟩

set_option maxHeartbeats 1000000 in
theorem digestT_any (n : Int) (t : ByteArray) (ht : t.size ≤ 1000000000) (w : World) (hT : Tab w) : Calls Tryd.prog 36 #[.int .i64 n, .string t] w (Tells (.string (dgB n t)) w.heap.size w) := by
  have cW := fun u => mayWidth_any n u
  have cS := fun u hu => sum_any t (by omega) u hu
  have zD := digB_size t.data.toList
  unfold dgB
  generalize digB t.data.toList = D at *
  by_cases hw : mayW n = true
  · rw [if_pos hw]
    rw [hw] at cW
    have hn := of_decide_eq_true hw
    obtain ⟨k, rfl⟩ := Int.eq_ofNat_of_zero_le (show 0 ≤ n by omega)
    have k1 : (k : Int) ≤ 32 := by omega
    clear hw hn
    go_enter Tryd.func36, Tryd.ntmps36
    go_wp2_with (first
      | (go_at_call 34; refine (cW _).mono ?_; rintro e w' ⟨rfl, rfl⟩)
      | (go_at_call 56; refine (cS _ hT).mono ?_; rintro e w1 ⟨rfl, b1⟩))
    go_ret
    exact ⟨rfl, b1⟩
  · rw [if_neg hw]
    rw [Bool.not_eq_true] at hw
    rw [hw] at cW
    go_enter Tryd.func36, Tryd.ntmps36
    go_wp2_with (first
      | (go_at_call 34; refine (cW _).mono ?_; rintro e w' ⟨rfl, rfl⟩))
    go_ret
    exact ⟨rfl, Below.refl _ _⟩
set_option maxRecDepth 100000 in
set_option maxHeartbeats 4000000 in
theorem leafNode_any (n : Int) (x : Lf) (h1 : x.id.size ≤ 1000000) (h2 : x.salt.size ≤ 1000000) (hh : Word x.h) (hl : Word x.l) (w : World) (hTK : Tab w) (hT : TabU w) : Calls Tryd.prog 13 #[.int .i64 n, x.val] w (Tells (nodeOf n x).val w.heap.size w) := by
  have cW := fun u => mayWidth_any n u
  have cM := fun u hu => mayLeaf_any x (by omega) (by omega) u hu
  have cT := fun u hu => leafText_any x h1 h2 hh hl u hu
  have zT := text_bound x h1 h2
  have cD := fun u hu => digestT_any n x.text (by omega) u hu
  have en : nodeOf n x = if mayW n = true ∧ x.may = true then ⟨dgB n x.text, x.h, x.l⟩ else Nd.zero := rfl
  obtain ⟨p, i, s, h, l⟩ := x
  simp only at hh hl en
  have A0 : Box ((w.alloc (.cells #[.bool p, .string i, .string s, .int .u64 h, .int .u64 l] 36)).alloc (.cells #[.string ⟨#[]⟩, .int .u64 0, .int .u64 0] 46)) w.heap.size 36 #[.bool p, .string i, .string s, .int .u64 h, .int .u64 l] := (Box.made w _ _).past _
  have B0 : Box ((w.alloc (.cells #[.bool p, .string i, .string s, .int .u64 h, .int .u64 l] 36)).alloc (.cells #[.string ⟨#[]⟩, .int .u64 0, .int .u64 0] 46)) (w.heap.size + 1) 46 #[.string ⟨#[]⟩, .int .u64 0, .int .u64 0] := by
    have := Box.made (w.alloc (.cells #[.bool p, .string i, .string s, .int .u64 h, .int .u64 l] 36)) 46 #[.string ⟨#[]⟩, .int .u64 0, .int .u64 0]
    simpa using this
  have L0 : Below w.heap.size w ((w.alloc (.cells #[.bool p, .string i, .string s, .int .u64 h, .int .u64 l] 36)).alloc (.cells #[.string ⟨#[]⟩, .int .u64 0, .int .u64 0] 46)) := by repeat (first | exact Below.refl _ _ | apply Below.drew | apply below_drewN | refine Below.alloc ?_ (by simp; try omega) _ | refine Below.setCell ?_ (by simp; try omega) _)
  have ev : Lf.val ⟨p, i, s, h, l⟩ = .agg #[.bool p, .string i, .string s, .int .u64 h, .int .u64 l] := rfl
  rw [ev] at cM cT ⊢
  clear ev
  generalize Lf.text ⟨p, i, s, h, l⟩ = T at *
  generalize Lf.may ⟨p, i, s, h, l⟩ = M at *
  generalize nodeOf n ⟨p, i, s, h, l⟩ = R at *
  generalize dgB n T = D at *
  generalize mayW n = V at *
  have HN := hideIt en
  clear en
  go_enter Tryd.func13, Tryd.ntmps13
  go_upto_region 1 with fail
  change Code.wp _ _ _ _ ((w.alloc (.cells #[.bool p, .string i, .string s, .int .u64 h, .int .u64 l] 36)).alloc (.cells #[.string ⟨#[]⟩, .int .u64 0, .int .u64 0] 46))
  generalize (w.alloc (.cells #[.bool p, .string i, .string s, .int .u64 h, .int .u64 l] 36)).alloc (.cells #[.string ⟨#[]⟩, .int .u64 0, .int .u64 0] 46) = W at *
  obtain ⟨r0, r1, r2, r3, r4⟩ := A0.lfat
  obtain ⟨⟨q0, q1, q2⟩, f0, f1, f2, hinB⟩ := B0.three0
  have hinA := A0.inside
  cases V with
  | false =>
    have e := HN.out
    rw [if_neg (by simp)] at e
    subst e
    go_wp2_with (first | (go_at_call 34; refine (cW _).mono ?_; rintro e w' ⟨rfl, rfl⟩))
    generalize hX : World.setCell (World.setCell (World.setCell _ _ _) _ _) _ _ = X
    have hbx : Box X (w.heap.size + 1) 46 #[.string ⟨#[]⟩, .int .u64 0, .int .u64 0] := by rw [← hX]; exact Box.put3 B0 _ _ _
    have hbl : Below w.heap.size w X := by rw [← hX]; exact below_put3 L0 (by omega) _ _ _
    clear hX
    obtain ⟨⟨x0, x1, x2⟩, -, -, -, hgx⟩ := hbx.three0
    exact bodyPost_ret (v := Nd.zero.val) (by simp [results, Tryd.results13, go_sem, Nd.val, Nd.zero, x0, x1, x2]) rfl ⟨rfl, hbl⟩
  | true =>
    cases M with
    | false =>
      have e := HN.out
      rw [if_neg (by simp)] at e
      subst e
      go_upto_region 2 with (first
        | (go_at_call 34; refine (cW _).mono ?_; rintro e w' ⟨rfl, rfl⟩)
        | (go_at_call 35; refine (cM _ (hT.call L0)).mono ?_; rintro e w1 ⟨rfl, b1⟩))
      have B1 := B0.call b1
      obtain ⟨⟨y0, y1, y2⟩, g0, g1, g2, hin1⟩ := B1.three0
      go_wp2
      generalize hX : World.setCell (World.setCell (World.setCell _ _ _) _ _) _ _ = X
      have hbx : Box X (w.heap.size + 1) 46 #[.string ⟨#[]⟩, .int .u64 0, .int .u64 0] := by rw [← hX]; exact Box.put3 B1 _ _ _
      have hbl : Below w.heap.size w X := by rw [← hX]; exact below_put3 (chain L0 b1) (by omega) _ _ _
      clear hX
      obtain ⟨⟨x0, x1, x2⟩, -, -, -, hgx⟩ := hbx.three0
      exact bodyPost_ret (v := Nd.zero.val) (by simp [results, Tryd.results13, go_sem, Nd.val, Nd.zero, x0, x1, x2]) rfl ⟨rfl, hbl⟩
    | true =>
      have e := HN.out
      rw [if_pos ⟨rfl, rfl⟩] at e
      subst e
      go_upto_region 3 with (first
        | (go_at_call 34; refine (cW _).mono ?_; rintro e w' ⟨rfl, rfl⟩)
        | (go_at_call 35; refine (cM _ (hT.call L0)).mono ?_; rintro e w1 ⟨rfl, b1⟩))
      have A1 := A0.call b1
      have B1 := B0.call b1
      have f0 : Below w.heap.size w w1.drew ∧ (w1.drew.cell? ⟨w.heap.size, 0, none⟩ = some (.bool p) ∧ w1.drew.cell? ⟨w.heap.size, 1, none⟩ = some (.string i) ∧ w1.drew.cell? ⟨w.heap.size, 2, none⟩ = some (.string s) ∧ w1.drew.cell? ⟨w.heap.size, 3, none⟩ = some (.int .u64 h) ∧ w1.drew.cell? ⟨w.heap.size, 4, none⟩ = some (.int .u64 l)) :=
        ⟨(chain L0 b1).drew, A1.lfat⟩
      have BB : Box w1.drew (w.heap.size + 1) 46 #[.string ⟨#[]⟩, .int .u64 0, .int .u64 0] := B1
      have AB : Box w1.drew w.heap.size 36 #[.bool p, .string i, .string s, .int .u64 h, .int .u64 l] := A1
      refine wp_region_held_drew (S := fun u => Below w.heap.size w u ∧ (u.cell? ⟨w.heap.size, 0, none⟩ = some (.bool p) ∧ u.cell? ⟨w.heap.size, 1, none⟩ = some (.string i) ∧ u.cell? ⟨w.heap.size, 2, none⟩ = some (.string s) ∧ u.cell? ⟨w.heap.size, 3, none⟩ = some (.int .u64 h) ∧ u.cell? ⟨w.heap.size, 4, none⟩ = some (.int .u64 l))) (by kernel_rfl) f0 (fun hHeld => ?_)
      refine wpAnyH_take (i := 0) (v := ?_) rfl (by kernel_rfl) (by kernel_rfl) (by kernel_rfl) (fun _ _ _ h => h) (Or.inl ⟨by rfl, ?_⟩) (by assumption) ?_
      rotate_left 1
      · intro w hSw; (try dsimp only at hSw); go_simp; try with_reducible rfl
      try simp only [Act.put, List.getElem_toArray, List.getElem_cons_succ, List.getElem_cons_zero, List.setIfInBounds_toArray, List.set_cons_zero, List.set_cons_succ]
      refine wpAnyH_take (i := 1) (v := ?_) rfl (by kernel_rfl) (by kernel_rfl) (by kernel_rfl) (fun _ _ _ h => h) (Or.inl ⟨by rfl, ?_⟩) (by assumption) ?_
      rotate_left 1
      · intro w hSw; (try dsimp only at hSw); go_simp; try with_reducible rfl
      try simp only [Act.put, List.getElem_toArray, List.getElem_cons_succ, List.getElem_cons_zero, List.setIfInBounds_toArray, List.set_cons_zero, List.set_cons_succ]
      refine wpAnyH_take (i := 4) (v := ?_) rfl (by kernel_rfl) (by kernel_rfl) (by kernel_rfl) (fun _ _ _ h => h) (Or.inl ⟨by rfl, ?_⟩) (by assumption) ?_
      rotate_left 1
      · intro w hSw; (try dsimp only at hSw); go_simp; try with_reducible rfl
      try simp only [Act.put, List.getElem_toArray, List.getElem_cons_succ, List.getElem_cons_zero, List.setIfInBounds_toArray, List.set_cons_zero, List.set_cons_succ]
      refine wpAnyH_take (i := 5) (v := ?_) rfl (by kernel_rfl) (by kernel_rfl) (by kernel_rfl) (fun _ _ _ h => h) (Or.inl ⟨by rfl, ?_⟩) (by assumption) ?_
      rotate_left 1
      · intro w hSw; (try dsimp only at hSw); go_simp; try with_reducible rfl
      try simp only [Act.put, List.getElem_toArray, List.getElem_cons_succ, List.getElem_cons_zero, List.setIfInBounds_toArray, List.set_cons_zero, List.set_cons_succ]
      refine wpAnyH_ready (rs := [2]) (by kernel_rfl) (by simp) (AllReadyH.cons rfl (fun K hK => ?_) AllReadyH.nil)
      go_simp
      go_at_call 37
      refine (cT _ (hT.call f0.1)).mono ?_
      rintro e w2 ⟨rfl, b2⟩
      have F2 : Below w.heap.size w w2 ∧ (w2.cell? ⟨w.heap.size, 0, none⟩ = some (.bool p) ∧ w2.cell? ⟨w.heap.size, 1, none⟩ = some (.string i) ∧ w2.cell? ⟨w.heap.size, 2, none⟩ = some (.string s) ∧ w2.cell? ⟨w.heap.size, 3, none⟩ = some (.int .u64 h) ∧ w2.cell? ⟨w.heap.size, 4, none⟩ = some (.int .u64 l)) := ⟨chain f0.1 b2, (AB.call b2).lfat⟩
      try simp only []
      refine hK.out _ _ (F2) (fun hHeld => ?_)
      clear hK K
      try simp only [Act.put, List.getElem_toArray, List.getElem_cons_succ, List.getElem_cons_zero, List.setIfInBounds_toArray, List.set_cons_zero, List.set_cons_succ]
      refine wpAnyH_ready (rs := [3]) (by kernel_rfl) (by simp) (AllReadyH.cons rfl (fun K hK => ?_) AllReadyH.nil)
      go_simp
      go_at_call 36
      refine (cD _ (hTK.call F2.1)).mono ?_
      rintro e w3 ⟨rfl, b3⟩
      have F3 : Below w.heap.size w w3 ∧ (w3.cell? ⟨w.heap.size, 0, none⟩ = some (.bool p) ∧ w3.cell? ⟨w.heap.size, 1, none⟩ = some (.string i) ∧ w3.cell? ⟨w.heap.size, 2, none⟩ = some (.string s) ∧ w3.cell? ⟨w.heap.size, 3, none⟩ = some (.int .u64 h) ∧ w3.cell? ⟨w.heap.size, 4, none⟩ = some (.int .u64 l)) := ⟨chain F2.1 b3, ((AB.call b2).call b3).lfat⟩
      have B3 := (BB.call b2).call b3
      have A3 := (AB.call b2).call b3
      try simp only []
      refine hK.out _ _ (F3) (fun hHeld => ?_)
      clear hK K
      try simp only [Act.put, List.getElem_toArray, List.getElem_cons_succ, List.getElem_cons_zero, List.setIfInBounds_toArray, List.set_cons_zero, List.set_cons_succ]
      refine wpAnyH_take (i := 6) (v := ?_) rfl (by kernel_rfl) (by kernel_rfl) (by kernel_rfl) (fun _ _ _ h => h) (Or.inl ⟨by rfl, ?_⟩) (by assumption) ?_
      rotate_left 1
      · intro w hSw; (try dsimp only at hSw); go_simp; try with_reducible rfl
      try simp only [Act.put, List.getElem_toArray, List.getElem_cons_succ, List.getElem_cons_zero, List.setIfInBounds_toArray, List.set_cons_zero, List.set_cons_succ]
      obtain ⟨⟨y0, y1, y2⟩, g0, g1, g2, hin3⟩ := B3.three0
      refine wpAnyH_ready (rs := [7]) (by kernel_rfl) (by simp) (AllReadyH.cons rfl (fun K hK => ?_) AllReadyH.nil)
      go_simp
      have AX := ((A3.apart (p := ⟨w.heap.size + 1, 0, none⟩) (by simp) (.string D)).apart (p := ⟨w.heap.size + 1, 1, none⟩) (by simp) (.int .u64 h)).apart (p := ⟨w.heap.size + 1, 2, none⟩) (by simp) (.int .u64 l)
      have BX := B3.put3 (.string D) (.int .u64 h) (.int .u64 l)
      have LX := below_put3 (g := w.heap.size + 1) F3.1 (by omega) (.string D) (.int .u64 h) (.int .u64 l)
      generalize World.setCell (World.setCell (World.setCell w3 _ _) _ _) _ _ = X at *
      have FX : Below w.heap.size w X ∧ (X.cell? ⟨w.heap.size, 0, none⟩ = some (.bool p) ∧ X.cell? ⟨w.heap.size, 1, none⟩ = some (.string i) ∧ X.cell? ⟨w.heap.size, 2, none⟩ = some (.string s) ∧ X.cell? ⟨w.heap.size, 3, none⟩ = some (.int .u64 h) ∧ X.cell? ⟨w.heap.size, 4, none⟩ = some (.int .u64 l)) := ⟨LX, AX.lfat⟩
      obtain ⟨⟨x0, x1, x2⟩, -, -, -, hgx⟩ := BX.three0
      refine hK.out _ _ (FX) (fun hHeld => ?_)
      clear hK K
      try simp only [Act.put, List.getElem_toArray, List.getElem_cons_succ, List.getElem_cons_zero, List.setIfInBounds_toArray, List.set_cons_zero, List.set_cons_succ]
      refine wpAnyH_done (by kernel_rfl) ?_ _
      clear y0 y1 y2 g0 g1 g2 hin3 F3 F2 A3 B3
      go_wp2
      exact bodyPost_ret (v := Nd.val ⟨D, h, l⟩) (by simp [results, Tryd.results13, go_sem, Nd.val, x0, x1, x2]) rfl ⟨rfl, LX⟩
end Go.Proofs.YtjndabnegmecmaaDoor
