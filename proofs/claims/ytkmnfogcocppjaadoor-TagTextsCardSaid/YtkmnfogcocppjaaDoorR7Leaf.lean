/-
  paymasterref07's leaves, walked: MayLeaf, LeafText.
-/
import Derived.Test.YtkmnfogcocppjaaDoorR7Id
import Derived.Test.YtkmnfogcocppjaaDoorU7Leaf
import Derived.Test.YtkmnfogcocppjaaDoorR7Bytes
namespace Go.Proofs.YtkmnfogcocppjaaDoor
set_option linter.unusedVariables false
set_option linter.unusedSimpArgs false
set_option maxRecDepth 10000
open Go.RowKit

theorem run_neq_n7 (x y a b : Int) (w : World) : (binOp .neq 24 (.agg #[.int .u64 x, .int .u64 y]) (.agg #[.int .u64 a, .int .u64 b])).run Tryd.prog w = .ok (.bool (!(x == a && y == b))) w := by
  rw [run_neq_struct, equal_n7 9998]
  rfl
theorem Box.put2 {w : World} {g : Nat} {t : TypeId} {a b : Value} (h : Box w g t #[a, b]) (x y : Value) : Box ((w.setCell ⟨g, 0, none⟩ x).setCell ⟨g, 1, none⟩ y) g t #[x, y] := by
  simpa using (h.wrote 0 x).wrote 1 y

set_option maxHeartbeats 4000000 in
theorem rmayLeaf_any (x : Lf) (h1 : x.id.size ≤ 1000000) (h2 : x.salt.size ≤ 1000000) (w : World) : Calls Tryd.prog 18 #[x.val] w (Tells (.bool x.may) w.heap.size w) := by
  obtain ⟨p, i, s, h, l⟩ := x
  simp only at h1 h2
  have H0 : Has w [(w.heap.size + 1, 24, #[.int .u64 0, .int .u64 0]), (w.heap.size, 26, lfB p i s h l)] ((w.alloc (.cells (lfB p i s h l) 26)).alloc (.cells #[.int .u64 0, .int .u64 0] 24)) :=
    ((Has.start w).add 26 (lfB p i s h l)).addAt 24 #[.int .u64 0, .int .u64 0] (by simp)
  obtain ⟨A, hA⟩ : ∃ A, Lf.may ⟨p, i, s, h, l⟩ = A := ⟨_, rfl⟩
  rw [hA]
  rw [may_def] at hA
  have HA := hideIt hA
  clear hA
  show Calls _ _ #[.agg #[.bool p, .string i, .string s, .int .u64 h, .int .u64 l]] _ _
  go_enter Tryd.func18, Tryd.ntmps18
  go_upto_region 2 with fail
  change Code.wp _ _ _ _ ((w.alloc (.cells (lfB p i s h l) 26)).alloc (.cells #[.int .u64 0, .int .u64 0] 24))
  generalize (w.alloc (.cells (lfB p i s h l) 26)).alloc (.cells #[.int .u64 0, .int .u64 0] 24) = W at *
  obtain ⟨⟨y0, y1, y2, y3, y4⟩, -, hin1⟩ := (H0.box 1).five0
  obtain ⟨z0, z1, -, -, hin2⟩ := (H0.box 0).two
  have L0 := H0.below
  have eH := HA.out
  cases p with
  | false =>
    rw [if_neg (by decide)] at eH
    have cI := fun u => rmayId_any i h1 u
    generalize isId i.data.toList = I at *
    cases I with
    | false =>
      rw [Bool.and_false] at eH
      subst eH
      go_wp2_with (first | (go_at_call 14; refine (cI _).mono ?_; rintro e w1 ⟨rfl, rfl⟩))
      go_ret
      exact ⟨rfl, L0⟩
    | true =>
      rw [Bool.and_true] at eH
      have e2 : decide ((s.size : Int) ≤ 32) = A := by rw [← eH]; exact decide_eq_decide.2 (by omega)
      clear eH HA
      go_wp2_with (first | (go_at_call 14; refine (cI _).mono ?_; rintro e w1 ⟨rfl, rfl⟩))
      go_ret
      exact ⟨rfl, L0⟩
  | true =>
    rw [if_pos rfl] at eH
    by_cases hi : i.size = 0
    · rw [decide_eq_true hi, Bool.true_and] at eH
      obtain rfl : i = ⟨#[]⟩ := ba_nil hi
      have hq := fun u : World => run_neq_n7 h l 0 0 u
      have he : (h == 0 && l == 0) = (decide (h = 0) && decide (l = 0)) := by
        by_cases e1 : h = 0 <;> by_cases e2 : l = 0 <;> simp [e1, e2]
      rw [he] at hq
      generalize (decide (h = 0) && decide (l = 0)) = q at *
      cases q with
      | false =>
        rw [Bool.and_false] at eH
        subst eH
        clear he hi HA
        go_wp2
        go_ret
        exact ⟨rfl, L0⟩
      | true =>
        rw [Bool.and_true] at eH
        have e2 : decide ((s.size : Int) ≤ 32) = A := by rw [← eH]; exact decide_eq_decide.2 (by omega)
        clear eH HA he hi
        go_wp2
        go_ret
        exact ⟨rfl, L0⟩
    · rw [decide_eq_false hi, Bool.false_and, Bool.and_false] at eH
      subst eH
      obtain ⟨hE1, hE2⟩ := ne_nil hi
      clear HA
      go_wp2
      go_ret
      exact ⟨rfl, L0⟩

theorem two_bytes (s : ByteArray) : strOfNums [0, (s.size : Int) % 256] ++ s = ⟨#[0]⟩ ++ szB s := by
  apply ba_ext
  have e : ((s.size : Int) % 256).toNat = s.size % 256 := by omega
  rw [ByteArray.data_append, Array.toList_append, ByteArray.data_append, Array.toList_append, szB_list, szL, strOfNums_data]
  show [UInt8.ofNat 0, UInt8.ofNat ((s.size : Int) % 256).toNat] ++ s.data.toList = _
  rw [e, show UInt8.ofNat (s.size % 256) = UInt8.ofNat s.size from UInt8.toNat_inj.1 (by simp)]
  rfl

set_option maxHeartbeats 4000000 in
theorem rleafText_any (x : Lf) (h1 : x.id.size ≤ 1000000) (h2 : x.salt.size ≤ 1000000) (hh : Word x.h) (hl : Word x.l) (w : World) : Calls Tryd.prog 20 #[x.val] w (Tells (.string x.text) w.heap.size w) := by
  have cM := fun u => rmayLeaf_any x (by omega) (by omega) u
  have tN := text_not x
  have tP := text_pad x
  have tA := text_acc x
  obtain ⟨p, i, s, h, l⟩ := x
  simp only at h1 h2 hh hl tP tA
  have B0 : Box (w.alloc (.cells #[.bool p, .string i, .string s, .int .u64 h, .int .u64 l] 26)) w.heap.size 26 (Lf.cells ⟨p, i, s, h, l⟩) := Box.made w _ _
  have L0 : Below w.heap.size w (w.alloc (.cells #[.bool p, .string i, .string s, .int .u64 h, .int .u64 l] 26)) := by repeat (first | exact Below.refl _ _ | apply Below.drew | apply below_drewN | refine Below.alloc ?_ (by simp; try omega) _ | refine Below.setCell ?_ (by simp; try omega) _)
  have ev : Lf.val ⟨p, i, s, h, l⟩ = .agg #[.bool p, .string i, .string s, .int .u64 h, .int .u64 l] := rfl
  rw [ev] at cM ⊢
  clear ev
  have cB := fun u => rubytes_any h l hh hl u
  have zI := szB_size i
  have zS := szB_size s
  have zB := textOf_size h l
  have o1 := one_byte s
  have o2 := two_bytes i
  generalize Lf.text ⟨p, i, s, h, l⟩ = T at *
  generalize Lf.may ⟨p, i, s, h, l⟩ = A at *
  generalize szB i = I at *
  generalize szB s = S at *
  generalize textOf h l = N at *
  have hcs := add_any (strOfNums [(s.size : Int) % 256]) s S o1 (by rw [strOfNums_size]; show 1 ≤ _; omega) (by omega)
  have hcv := fun (u : World) (g : Nat) (b : Box u g 5 #[.int .u8 ((s.size : Int) % 256)]) => run_convert_bytes_arg (P := Tryd.prog) u 66 5 Tryd.underlying66 Tryd.underlying5 g 0 1 1 [(s.size : Int) % 256] rfl (fun k hk => by
    obtain rfl : k = 0 := Nat.lt_one_iff.1 hk
    exact b.read 0) 9 Tryd.underlying9
  have hcv2 := fun (u : World) (g : Nat) (b : Box u g 5 #[.int .u8 0, .int .u8 ((i.size : Int) % 256)]) => run_convert_bytes_arg (P := Tryd.prog) u 66 5 Tryd.underlying66 Tryd.underlying5 g 0 2 2 [0, (i.size : Int) % 256] rfl (fun k hk => by
    rcases (show k = 0 ∨ k = 1 by have : k < 2 := hk; omega) with rfl | rfl
    · exact b.read 0
    · exact b.read 1) 9 Tryd.underlying9
  clear o1
  go_enter Tryd.func20, Tryd.ntmps20
  go_upto_region 1 with fail
  change Code.wp _ _ _ _ (w.alloc (.cells #[.bool p, .string i, .string s, .int .u64 h, .int .u64 l] 26))
  generalize w.alloc (.cells #[.bool p, .string i, .string s, .int .u64 h, .int .u64 l] 26) = W at *
  obtain ⟨r0, r1, r2, r3, r4⟩ := B0.leaf
  simp only at r0 r1 r2 r3 r4
  have hin := B0.inside
  cases A with
  | false =>
    have e := tN rfl
    clear tN tP tA
    subst e
    go_wp2_with (first | (go_at_call 18; refine (cM _).mono ?_; rintro e w1 ⟨rfl, b1⟩))
    go_ret
    exact ⟨rfl, chain L0 b1⟩
  | true =>
    go_upto_region 3 with (first | (go_at_call 18; refine (cM _).mono ?_; rintro e w1 ⟨rfl, b1⟩))
    have B1 := B0.call b1
    obtain ⟨q0, q1, q2, q3, q4⟩ := B1.leaf
    simp only at q0 q1 q2 q3 q4
    have hin1 := B1.inside
    have hcv1 := hcv _ _ (Box.made w1 5 #[.int .u8 ((s.size : Int) % 256)])
    have L1 := chain L0 b1
    have B2 := B1.past (.cells #[.int .u8 ((s.size : Int) % 256)] 5)
    obtain ⟨p0, p1, p2, p3, p4⟩ := B2.leaf
    simp only at p0 p1 p2 p3 p4
    have L2 := chainA L1 (.cells #[.int .u8 ((s.size : Int) % 256)] 5)
    cases p with
    | true =>
      have e := tP (by simp) (by simp)
      clear tN tP tA
      have hcx := add_any ⟨#[2]⟩ S T e.symm (by decide) (by omega)
      clear e
      go_wp2
      go_ret
      exact ⟨rfl, L2⟩
    | false =>
      have e := tA (by simp) (by simp)
      clear tN tP tA
      obtain ⟨X, hX⟩ : ∃ X, (⟨#[0]⟩ : ByteArray) ++ I = X := ⟨_, rfl⟩
      obtain ⟨Y, hY⟩ : ∃ Y, X ++ S = Y := ⟨_, rfl⟩
      rw [hX, hY] at e
      rw [hX] at o2
      have zX : X.size = 1 + I.size := by rw [← hX, ByteArray.size_append]; rfl
      have zY : Y.size = X.size + S.size := by rw [← hY, ByteArray.size_append]
      have hc1 := add_any (strOfNums [0, (i.size : Int) % 256]) i X o2 (by rw [strOfNums_size]; show 2 ≤ _; omega) (by omega)
      have hc2 := add_any X S Y hY (by omega) (by omega)
      have hc3 := add_any Y N T e.symm (by omega) (by omega)
      clear e hX hY o2
      go_upto_region 6 with fail
      have keep : ∀ u, Below (w1.alloc (.cells #[.int .u8 ((s.size : Int) % 256)] 5)).heap.size (w1.alloc (.cells #[.int .u8 ((s.size : Int) % 256)] 5)) u →
          Below w.heap.size w u ∧ (u.cell? ⟨w.heap.size, 0, none⟩ = some (.bool false) ∧ u.cell? ⟨w.heap.size, 1, none⟩ = some (.string i) ∧ u.cell? ⟨w.heap.size, 2, none⟩ = some (.string s) ∧ u.cell? ⟨w.heap.size, 3, none⟩ = some (.int .u64 h) ∧ u.cell? ⟨w.heap.size, 4, none⟩ = some (.int .u64 l)) :=
        fun u hb => ⟨chain L2 hb, (B2.call hb).leaf⟩
      clear hcv hcv1 p0 p1 p2 p3 p4 q0 q1 q2 q3 q4 r0 r1 r2 r3 r4
      change Code.wp _ _ _ _ (w1.alloc (.cells #[.int .u8 ((s.size : Int) % 256)] 5))
      generalize w1.alloc (.cells #[.int .u8 ((s.size : Int) % 256)] 5) = V at *
      have j0 : Below V.heap.size V V.drew := (Below.refl _ V).drew
      have hwi : IntKind.u8.wrap (i.size : Int) = (i.size : Int) % 256 := by rw [IntKind.wrap_u8]
      have f0 := keep _ j0
      refine wp_region_held_drew (S := fun u => Below w.heap.size w u ∧ (u.cell? ⟨w.heap.size, 0, none⟩ = some (.bool false) ∧ u.cell? ⟨w.heap.size, 1, none⟩ = some (.string i) ∧ u.cell? ⟨w.heap.size, 2, none⟩ = some (.string s) ∧ u.cell? ⟨w.heap.size, 3, none⟩ = some (.int .u64 h) ∧ u.cell? ⟨w.heap.size, 4, none⟩ = some (.int .u64 l))) (by kernel_rfl) f0 (fun hHeld => ?_)
      refine wpAnyH_take (i := 0) (v := ?_) rfl (by kernel_rfl) (by kernel_rfl) (by kernel_rfl) (fun _ _ _ h => h) (Or.inl ⟨by rfl, ?_⟩) (by assumption) ?_
      rotate_left 1
      · intro w hSw; (try dsimp only at hSw); go_simp; try with_reducible rfl
      try simp only [Act.put, List.getElem_toArray, List.getElem_cons_succ, List.getElem_cons_zero, List.setIfInBounds_toArray, List.set_cons_zero, List.set_cons_succ]
      refine wpAnyH_take (i := 1) (v := ?_) rfl (by kernel_rfl) (by kernel_rfl) (by kernel_rfl) (fun _ _ _ h => h) (Or.inl ⟨by rfl, ?_⟩) (by assumption) ?_
      rotate_left 1
      · intro w hSw; (try dsimp only at hSw); go_simp; try with_reducible rfl
      try simp only [Act.put, List.getElem_toArray, List.getElem_cons_succ, List.getElem_cons_zero, List.setIfInBounds_toArray, List.set_cons_zero, List.set_cons_succ]
      refine wpAnyH_take (i := 2) (v := ?_) rfl (by kernel_rfl) (by kernel_rfl) (by kernel_rfl) (fun _ _ _ h => h) (Or.inl ⟨by rfl, ?_⟩) (by assumption) ?_
      rotate_left 1
      · intro w hSw; (try dsimp only at hSw); go_simp; try with_reducible rfl
      try simp only [Act.put, List.getElem_toArray, List.getElem_cons_succ, List.getElem_cons_zero, List.setIfInBounds_toArray, List.set_cons_zero, List.set_cons_succ]
      refine wpAnyH_take (i := 3) (v := ?_) rfl (by kernel_rfl) (by kernel_rfl) (by kernel_rfl) (fun _ _ _ h => h) (Or.inl ⟨by rfl, ?_⟩) (by assumption) ?_
      rotate_left 1
      · intro w hSw; (try dsimp only at hSw); go_simp; try with_reducible rfl
      try simp only [Act.put, List.getElem_toArray, List.getElem_cons_succ, List.getElem_cons_zero, List.setIfInBounds_toArray, List.set_cons_zero, List.set_cons_succ]
      refine wpAnyH_take (i := 6) (v := ?_) rfl (by kernel_rfl) (by kernel_rfl) (by kernel_rfl) (fun _ _ _ h => h) (Or.inl ⟨by rfl, ?_⟩) (by assumption) ?_
      rotate_left 1
      · intro w hSw; (try dsimp only at hSw); go_simp; try with_reducible rfl
      try simp only [Act.put, List.getElem_toArray, List.getElem_cons_succ, List.getElem_cons_zero, List.setIfInBounds_toArray, List.set_cons_zero, List.set_cons_succ]
      refine wpAnyH_take (i := 7) (v := ?_) rfl (by kernel_rfl) (by kernel_rfl) (by kernel_rfl) (fun _ _ _ h => h) (Or.inl ⟨by rfl, ?_⟩) (by assumption) ?_
      rotate_left 1
      · intro w hSw; (try dsimp only at hSw); go_simp; try with_reducible rfl
      try simp only [Act.put, List.getElem_toArray, List.getElem_cons_succ, List.getElem_cons_zero, List.setIfInBounds_toArray, List.set_cons_zero, List.set_cons_succ]
      refine wpAnyH_take (i := 9) (v := ?_) rfl (by kernel_rfl) (by kernel_rfl) (by kernel_rfl) (fun _ _ _ h => h) (Or.inl ⟨by rfl, ?_⟩) (by assumption) ?_
      rotate_left 1
      · intro w hSw; (try dsimp only at hSw); go_simp; try with_reducible rfl
      try simp only [Act.put, List.getElem_toArray, List.getElem_cons_succ, List.getElem_cons_zero, List.setIfInBounds_toArray, List.set_cons_zero, List.set_cons_succ]
      refine wpAnyH_take (i := 11) (v := ?_) rfl (by kernel_rfl) (by kernel_rfl) (by kernel_rfl) (fun _ _ _ h => h) (Or.inl ⟨by rfl, ?_⟩) (by assumption) ?_
      rotate_left 1
      · intro w hSw; (try dsimp only at hSw); go_simp; try with_reducible rfl
      try simp only [Act.put, List.getElem_toArray, List.getElem_cons_succ, List.getElem_cons_zero, List.setIfInBounds_toArray, List.set_cons_zero, List.set_cons_succ]
      refine wpAnyH_take (i := 12) (v := ?_) rfl (by kernel_rfl) (by kernel_rfl) (by kernel_rfl) (fun _ _ _ h => h) (Or.inl ⟨by rfl, ?_⟩) (by assumption) ?_
      rotate_left 1
      · intro w hSw; (try dsimp only at hSw); go_simp; try with_reducible rfl
      try simp only [Act.put, List.getElem_toArray, List.getElem_cons_succ, List.getElem_cons_zero, List.setIfInBounds_toArray, List.set_cons_zero, List.set_cons_succ]
      refine wpAnyH_ready (rs := [4, 13]) (by kernel_rfl) (by simp) (AllReadyH.cons rfl (fun K hK => ?_) (AllReadyH.cons rfl (fun K hK => ?_) AllReadyH.nil))
      · go_simp
        have jA : Below V.heap.size V (V.alloc (.cells #[.int .u8 0, .int .u8 ((i.size : Int) % 256)] 5)).drew := ((Below.refl _ V).alloc (Nat.le_refl _) _).drew
        have bA : Box (V.alloc (.cells #[.int .u8 0, .int .u8 ((i.size : Int) % 256)] 5)).drew V.heap.size 5 #[.int .u8 0, .int .u8 ((i.size : Int) % 256)] := Box.made V _ _
        generalize (V.alloc (.cells #[.int .u8 0, .int .u8 ((i.size : Int) % 256)] 5)).drew = U at *
        have cvA := hcv2 _ _ bA
        refine hK.out _ _ (keep _ jA) (fun hHeld => ?_)
        clear hK K
        try simp only [Act.put, List.getElem_toArray, List.getElem_cons_succ, List.getElem_cons_zero, List.setIfInBounds_toArray, List.set_cons_zero, List.set_cons_succ]
        refine wpAnyH_ready (rs := [5, 13]) (by kernel_rfl) (by simp) (AllReadyH.cons rfl (fun K hK => ?_) (AllReadyH.cons rfl (fun K hK => ?_) AllReadyH.nil))
        · go_simp
          refine hK.out _ _ (keep _ jA) (fun hHeld => ?_)
          clear hK K
          try simp only [Act.put, List.getElem_toArray, List.getElem_cons_succ, List.getElem_cons_zero, List.setIfInBounds_toArray, List.set_cons_zero, List.set_cons_succ]
          refine wpAnyH_take (i := 8) (v := ?_) rfl (by kernel_rfl) (by kernel_rfl) (by kernel_rfl) (fun _ _ _ h => h) (Or.inl ⟨by rfl, ?_⟩) (by assumption) ?_
          rotate_left 1
          · intro w hSw; (try dsimp only at hSw); go_simp; try with_reducible rfl
          try simp only [Act.put, List.getElem_toArray, List.getElem_cons_succ, List.getElem_cons_zero, List.setIfInBounds_toArray, List.set_cons_zero, List.set_cons_succ]
          refine wpAnyH_take (i := 10) (v := ?_) rfl (by kernel_rfl) (by kernel_rfl) (by kernel_rfl) (fun _ _ _ h => h) (Or.inl ⟨by rfl, ?_⟩) (by assumption) ?_
          rotate_left 1
          · intro w hSw; (try dsimp only at hSw); go_simp; try with_reducible rfl
          try simp only [Act.put, List.getElem_toArray, List.getElem_cons_succ, List.getElem_cons_zero, List.setIfInBounds_toArray, List.set_cons_zero, List.set_cons_succ]
          refine wpAnyH_ready (rs := [13]) (by kernel_rfl) (by simp) (AllReadyH.cons rfl (fun K hK => ?_) AllReadyH.nil)
          go_simp
          go_at_call 50
          refine (cB _).mono ?_
          rintro e w4 ⟨rfl, b4⟩
          have jB := chain jA b4
          try simp only []
          refine hK.out _ _ (keep _ jB) (fun hHeld => ?_)
          clear hK K
          try simp only [Act.put, List.getElem_toArray, List.getElem_cons_succ, List.getElem_cons_zero, List.setIfInBounds_toArray, List.set_cons_zero, List.set_cons_succ]
          refine wpAnyH_take (i := 14) (v := ?_) rfl (by kernel_rfl) (by kernel_rfl) (by kernel_rfl) (fun _ _ _ h => h) (Or.inl ⟨by rfl, ?_⟩) (by assumption) ?_
          rotate_left 1
          · intro w hSw; (try dsimp only at hSw); go_simp; try with_reducible rfl
          try simp only [Act.put, List.getElem_toArray, List.getElem_cons_succ, List.getElem_cons_zero, List.setIfInBounds_toArray, List.set_cons_zero, List.set_cons_succ]
          refine wpAnyH_take (i := 15) (v := ?_) rfl (by kernel_rfl) (by kernel_rfl) (by kernel_rfl) (fun _ _ _ h => h) (Or.inl ⟨by rfl, ?_⟩) (by assumption) ?_
          rotate_left 1
          · intro w hSw; (try dsimp only at hSw); go_simp; try with_reducible rfl
          try simp only [Act.put, List.getElem_toArray, List.getElem_cons_succ, List.getElem_cons_zero, List.setIfInBounds_toArray, List.set_cons_zero, List.set_cons_succ]
          refine wpAnyH_done (by kernel_rfl) ?_ _
          clear cvA
          go_wp2
          go_ret
          exact ⟨rfl, (keep _ jB).1⟩
        · go_simp
          go_at_call 50
          refine (cB _).mono ?_
          rintro e w4 ⟨rfl, b4⟩
          have jB := chain jA b4
          clear cvA
          have cvA := hcv2 _ _ (bA.call b4)
          try simp only []
          refine hK.out _ _ (keep _ jB) (fun hHeld => ?_)
          clear hK K
          try simp only [Act.put, List.getElem_toArray, List.getElem_cons_succ, List.getElem_cons_zero, List.setIfInBounds_toArray, List.set_cons_zero, List.set_cons_succ]
          refine wpAnyH_ready (rs := [5]) (by kernel_rfl) (by simp) (AllReadyH.cons rfl (fun K hK => ?_) AllReadyH.nil)
          go_simp
          refine hK.out _ _ (keep _ jB) (fun hHeld => ?_)
          clear hK K
          try simp only [Act.put, List.getElem_toArray, List.getElem_cons_succ, List.getElem_cons_zero, List.setIfInBounds_toArray, List.set_cons_zero, List.set_cons_succ]
          refine wpAnyH_take (i := 8) (v := ?_) rfl (by kernel_rfl) (by kernel_rfl) (by kernel_rfl) (fun _ _ _ h => h) (Or.inl ⟨by rfl, ?_⟩) (by assumption) ?_
          rotate_left 1
          · intro w hSw; (try dsimp only at hSw); go_simp; try with_reducible rfl
          try simp only [Act.put, List.getElem_toArray, List.getElem_cons_succ, List.getElem_cons_zero, List.setIfInBounds_toArray, List.set_cons_zero, List.set_cons_succ]
          refine wpAnyH_take (i := 10) (v := ?_) rfl (by kernel_rfl) (by kernel_rfl) (by kernel_rfl) (fun _ _ _ h => h) (Or.inl ⟨by rfl, ?_⟩) (by assumption) ?_
          rotate_left 1
          · intro w hSw; (try dsimp only at hSw); go_simp; try with_reducible rfl
          try simp only [Act.put, List.getElem_toArray, List.getElem_cons_succ, List.getElem_cons_zero, List.setIfInBounds_toArray, List.set_cons_zero, List.set_cons_succ]
          refine wpAnyH_take (i := 14) (v := ?_) rfl (by kernel_rfl) (by kernel_rfl) (by kernel_rfl) (fun _ _ _ h => h) (Or.inl ⟨by rfl, ?_⟩) (by assumption) ?_
          rotate_left 1
          · intro w hSw; (try dsimp only at hSw); go_simp; try with_reducible rfl
          try simp only [Act.put, List.getElem_toArray, List.getElem_cons_succ, List.getElem_cons_zero, List.setIfInBounds_toArray, List.set_cons_zero, List.set_cons_succ]
          refine wpAnyH_take (i := 15) (v := ?_) rfl (by kernel_rfl) (by kernel_rfl) (by kernel_rfl) (fun _ _ _ h => h) (Or.inl ⟨by rfl, ?_⟩) (by assumption) ?_
          rotate_left 1
          · intro w hSw; (try dsimp only at hSw); go_simp; try with_reducible rfl
          try simp only [Act.put, List.getElem_toArray, List.getElem_cons_succ, List.getElem_cons_zero, List.setIfInBounds_toArray, List.set_cons_zero, List.set_cons_succ]
          refine wpAnyH_done (by kernel_rfl) ?_ _
          clear cvA
          go_wp2
          go_ret
          exact ⟨rfl, (keep _ jB).1⟩
      · go_simp
        go_at_call 50
        refine (cB _).mono ?_
        rintro e w3 ⟨rfl, b3⟩
        have jB := chain j0 b3
        try simp only []
        refine hK.out _ _ (keep _ jB) (fun hHeld => ?_)
        clear hK K
        try simp only [Act.put, List.getElem_toArray, List.getElem_cons_succ, List.getElem_cons_zero, List.setIfInBounds_toArray, List.set_cons_zero, List.set_cons_succ]
        refine wpAnyH_ready (rs := [4]) (by kernel_rfl) (by simp) (AllReadyH.cons rfl (fun K hK => ?_) AllReadyH.nil)
        go_simp
        have jA := chainA jB (.cells #[.int .u8 0, .int .u8 ((i.size : Int) % 256)] 5)
        have bA := Box.made w3 5 #[.int .u8 0, .int .u8 ((i.size : Int) % 256)]
        generalize w3.alloc (.cells #[.int .u8 0, .int .u8 ((i.size : Int) % 256)] 5) = U at *
        have cvA := hcv2 _ _ bA
        refine hK.out _ _ (keep _ jA) (fun hHeld => ?_)
        clear hK K
        try simp only [Act.put, List.getElem_toArray, List.getElem_cons_succ, List.getElem_cons_zero, List.setIfInBounds_toArray, List.set_cons_zero, List.set_cons_succ]
        refine wpAnyH_ready (rs := [5]) (by kernel_rfl) (by simp) (AllReadyH.cons rfl (fun K hK => ?_) AllReadyH.nil)
        go_simp
        refine hK.out _ _ (keep _ jA) (fun hHeld => ?_)
        clear hK K
        try simp only [Act.put, List.getElem_toArray, List.getElem_cons_succ, List.getElem_cons_zero, List.setIfInBounds_toArray, List.set_cons_zero, List.set_cons_succ]
        refine wpAnyH_take (i := 8) (v := ?_) rfl (by kernel_rfl) (by kernel_rfl) (by kernel_rfl) (fun _ _ _ h => h) (Or.inl ⟨by rfl, ?_⟩) (by assumption) ?_
        rotate_left 1
        · intro w hSw; (try dsimp only at hSw); go_simp; try with_reducible rfl
        try simp only [Act.put, List.getElem_toArray, List.getElem_cons_succ, List.getElem_cons_zero, List.setIfInBounds_toArray, List.set_cons_zero, List.set_cons_succ]
        refine wpAnyH_take (i := 10) (v := ?_) rfl (by kernel_rfl) (by kernel_rfl) (by kernel_rfl) (fun _ _ _ h => h) (Or.inl ⟨by rfl, ?_⟩) (by assumption) ?_
        rotate_left 1
        · intro w hSw; (try dsimp only at hSw); go_simp; try with_reducible rfl
        try simp only [Act.put, List.getElem_toArray, List.getElem_cons_succ, List.getElem_cons_zero, List.setIfInBounds_toArray, List.set_cons_zero, List.set_cons_succ]
        refine wpAnyH_take (i := 14) (v := ?_) rfl (by kernel_rfl) (by kernel_rfl) (by kernel_rfl) (fun _ _ _ h => h) (Or.inl ⟨by rfl, ?_⟩) (by assumption) ?_
        rotate_left 1
        · intro w hSw; (try dsimp only at hSw); go_simp; try with_reducible rfl
        try simp only [Act.put, List.getElem_toArray, List.getElem_cons_succ, List.getElem_cons_zero, List.setIfInBounds_toArray, List.set_cons_zero, List.set_cons_succ]
        refine wpAnyH_take (i := 15) (v := ?_) rfl (by kernel_rfl) (by kernel_rfl) (by kernel_rfl) (fun _ _ _ h => h) (Or.inl ⟨by rfl, ?_⟩) (by assumption) ?_
        rotate_left 1
        · intro w hSw; (try dsimp only at hSw); go_simp; try with_reducible rfl
        try simp only [Act.put, List.getElem_toArray, List.getElem_cons_succ, List.getElem_cons_zero, List.setIfInBounds_toArray, List.set_cons_zero, List.set_cons_succ]
        refine wpAnyH_done (by kernel_rfl) ?_ _
        clear cvA
        go_wp2
        go_ret
        exact ⟨rfl, (keep _ jA).1⟩
end Go.Proofs.YtkmnfogcocppjaaDoor
