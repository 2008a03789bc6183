/- Several of my texts, laid as one. -/
import Derived.Test.YtkecekfapiegjaaDoorM7Rid
import Derived.Test.YtkecekfapiegjaaDoorM7Wrd
import Derived.Test.YtkecekfapiegjaaDoorM7Ref
import Derived.Test.YtkecekfapiegjaaDoorM5Ref
/-
  paymasterref07's leaves, walked: MayLeaf, LeafText.
-/
namespace Go.Proofs.YtkecekfapiegjaaDoor
set_option linter.unusedVariables false
set_option linter.unusedSimpArgs false
set_option maxRecDepth 10000
open Go.RowKit

theorem run_neq_n7 (x y a b : Int) (w : World) : (binOp .neq 24 (.agg #[.int .u64 x, .int .u64 y]) (.agg #[.int .u64 a, .int .u64 b])).run Tryd.prog w = .ok (.bool (!(x == a && y == b))) w := by
  rw [run_neq_struct, equal_n7 9998]
  rfl
theorem Box.put2 {w : World} {g : Nat} {t : TypeId} {a b : Value} (h : Box w g t #[a, b]) (x y : Value) : Box ((w.setCell ⟨g, 0, none⟩ x).setCell ⟨g, 1, none⟩ y) g t #[x, y] := by
  simpa using (h.wrote 0 x).wrote 1 y

set_option maxHeartbeats 4000000 in
theorem rmayLeaf_any (x : Lf) (h1 : x.id.size ≤ 1000000) (h2 : x.salt.size ≤ 1000000) (w : World) : Calls Tryd.prog 31 #[x.val] w (Tells (.bool x.may) w.heap.size w) := by
  obtain ⟨p, i, s, h, l⟩ := x
  simp only at h1 h2
  have H0 : Has w [(w.heap.size + 1, 24, #[.int .u64 0, .int .u64 0]), (w.heap.size, 34, lfB p i s h l)] ((w.alloc (.cells (lfB p i s h l) 34)).alloc (.cells #[.int .u64 0, .int .u64 0] 24)) :=
    ((Has.start w).add 34 (lfB p i s h l)).addAt 24 #[.int .u64 0, .int .u64 0] (by simp)
  obtain ⟨A, hA⟩ : ∃ A, Lf.may ⟨p, i, s, h, l⟩ = A := ⟨_, rfl⟩
  rw [hA]
  rw [may_def] at hA
  have HA := hideIt hA
  clear hA
  show Calls _ _ #[.agg #[.bool p, .string i, .string s, .int .u64 h, .int .u64 l]] _ _
  go_enter Tryd.func31, Tryd.ntmps31
  go_upto_region 2 with fail
  change Code.wp _ _ _ _ ((w.alloc (.cells (lfB p i s h l) 34)).alloc (.cells #[.int .u64 0, .int .u64 0] 24))
  generalize (w.alloc (.cells (lfB p i s h l) 34)).alloc (.cells #[.int .u64 0, .int .u64 0] 24) = W at *
  obtain ⟨⟨y0, y1, y2, y3, y4⟩, -, hin1⟩ := (H0.box 1).five0
  obtain ⟨z0, z1, -, -, hin2⟩ := (H0.box 0).two
  have L0 := H0.below
  have eH := HA.out
  cases p with
  | false =>
    rw [if_neg (by decide)] at eH
    have cI := fun u => rmayId_any i h1 u
    generalize isId i.data.toList = I at *
    cases I with
    | false =>
      rw [Bool.and_false] at eH
      subst eH
      go_wp2_with (first | (go_at_call 59; refine (cI _).mono ?_; rintro e w1 ⟨rfl, rfl⟩))
      go_ret
      exact ⟨rfl, L0⟩
    | true =>
      rw [Bool.and_true] at eH
      have e2 : decide ((s.size : Int) ≤ 32) = A := by rw [← eH]; exact decide_eq_decide.2 (by omega)
      clear eH HA
      go_wp2_with (first | (go_at_call 59; refine (cI _).mono ?_; rintro e w1 ⟨rfl, rfl⟩))
      go_ret
      exact ⟨rfl, L0⟩
  | true =>
    rw [if_pos rfl] at eH
    by_cases hi : i.size = 0
    · rw [decide_eq_true hi, Bool.true_and] at eH
      obtain rfl : i = ⟨#[]⟩ := ba_nil hi
      have hq := fun u : World => run_neq_n7 h l 0 0 u
      have he : (h == 0 && l == 0) = (decide (h = 0) && decide (l = 0)) := by
        by_cases e1 : h = 0 <;> by_cases e2 : l = 0 <;> simp [e1, e2]
      rw [he] at hq
      generalize (decide (h = 0) && decide (l = 0)) = q at *
      cases q with
      | false =>
        rw [Bool.and_false] at eH
        subst eH
        clear he hi HA
        go_wp2
        go_ret
        exact ⟨rfl, L0⟩
      | true =>
        rw [Bool.and_true] at eH
        have e2 : decide ((s.size : Int) ≤ 32) = A := by rw [← eH]; exact decide_eq_decide.2 (by omega)
        clear eH HA he hi
        go_wp2
        go_ret
        exact ⟨rfl, L0⟩
    · rw [decide_eq_false hi, Bool.false_and, Bool.and_false] at eH
      subst eH
      obtain ⟨hE1, hE2⟩ := ne_nil hi
      clear HA
      go_wp2
      go_ret
      exact ⟨rfl, L0⟩

theorem two_bytes (s : ByteArray) : strOfNums [0, (s.size : Int) % 256] ++ s = ⟨#[0]⟩ ++ szB s := by
  apply ba_ext
  have e : ((s.size : Int) % 256).toNat = s.size % 256 := by omega
  rw [ByteArray.data_append, Array.toList_append, ByteArray.data_append, Array.toList_append, szB_list, szL, strOfNums_data]
  show [UInt8.ofNat 0, UInt8.ofNat ((s.size : Int) % 256).toNat] ++ s.data.toList = _
  rw [e, show UInt8.ofNat (s.size % 256) = UInt8.ofNat s.size from UInt8.toNat_inj.1 (by simp)]
  rfl

set_option maxHeartbeats 4000000 in
theorem rleafText_any (x : Lf) (h1 : x.id.size ≤ 1000000) (h2 : x.salt.size ≤ 1000000) (hh : Word x.h) (hl : Word x.l) (w : World) : Calls Tryd.prog 66 #[x.val] w (Tells (.string x.text) w.heap.size w) := by
  have cM := fun u => rmayLeaf_any x (by omega) (by omega) u
  have tN := text_not x
  have tP := text_pad x
  have tA := text_acc x
  obtain ⟨p, i, s, h, l⟩ := x
  simp only at h1 h2 hh hl tP tA
  have B0 : Box (w.alloc (.cells #[.bool p, .string i, .string s, .int .u64 h, .int .u64 l] 34)) w.heap.size 34 (Lf.cells ⟨p, i, s, h, l⟩) := Box.made w _ _
  have L0 : Below w.heap.size w (w.alloc (.cells #[.bool p, .string i, .string s, .int .u64 h, .int .u64 l] 34)) := by repeat (first | exact Below.refl _ _ | apply Below.drew | apply below_drewN | refine Below.alloc ?_ (by simp; try omega) _ | refine Below.setCell ?_ (by simp; try omega) _)
  have ev : Lf.val ⟨p, i, s, h, l⟩ = .agg #[.bool p, .string i, .string s, .int .u64 h, .int .u64 l] := rfl
  rw [ev] at cM ⊢
  clear ev
  have cB := fun u => rubytes_any h l hh hl u
  have zI := szB_size i
  have zS := szB_size s
  have zB := textOf_size h l
  have o1 := one_byte s
  have o2 := two_bytes i
  generalize Lf.text ⟨p, i, s, h, l⟩ = T at *
  generalize Lf.may ⟨p, i, s, h, l⟩ = A at *
  generalize szB i = I at *
  generalize szB s = S at *
  generalize textOf h l = N at *
  have hcs := adds_any (strOfNums [(s.size : Int) % 256]) s S o1 (by rw [strOfNums_size]; show 1 ≤ _; omega) (by omega)
  have hcv := fun (u : World) (g : Nat) (b : Box u g 5 #[.int .u8 ((s.size : Int) % 256)]) => run_convert_bytes_arg (P := Tryd.prog) u 135 5 Tryd.underlying135 Tryd.underlying5 g 0 1 1 [(s.size : Int) % 256] rfl (fun k hk => by
    obtain rfl : k = 0 := Nat.lt_one_iff.1 hk
    exact b.read 0) 9 Tryd.underlying9
  have hcv2 := fun (u : World) (g : Nat) (b : Box u g 5 #[.int .u8 0, .int .u8 ((i.size : Int) % 256)]) => run_convert_bytes_arg (P := Tryd.prog) u 135 5 Tryd.underlying135 Tryd.underlying5 g 0 2 2 [0, (i.size : Int) % 256] rfl (fun k hk => by
    rcases (show k = 0 ∨ k = 1 by have : k < 2 := hk; omega) with rfl | rfl
    · exact b.read 0
    · exact b.read 1) 9 Tryd.underlying9
  clear o1
  go_enter Tryd.func66, Tryd.ntmps66
  go_upto_region 1 with fail
  change Code.wp _ _ _ _ (w.alloc (.cells #[.bool p, .string i, .string s, .int .u64 h, .int .u64 l] 34))
  generalize w.alloc (.cells #[.bool p, .string i, .string s, .int .u64 h, .int .u64 l] 34) = W at *
  obtain ⟨r0, r1, r2, r3, r4⟩ := B0.leaf
  simp only at r0 r1 r2 r3 r4
  have hin := B0.inside
  cases A with
  | false =>
    have e := tN rfl
    clear tN tP tA
    subst e
    go_wp2_with (first | (go_at_call 31; refine (cM _).mono ?_; rintro e w1 ⟨rfl, b1⟩))
    go_ret
    exact ⟨rfl, chain L0 b1⟩
  | true =>
    go_upto_region 3 with (first | (go_at_call 31; refine (cM _).mono ?_; rintro e w1 ⟨rfl, b1⟩))
    have B1 := B0.call b1
    obtain ⟨q0, q1, q2, q3, q4⟩ := B1.leaf
    simp only at q0 q1 q2 q3 q4
    have hin1 := B1.inside
    have hcv1 := hcv _ _ (Box.made w1 5 #[.int .u8 ((s.size : Int) % 256)])
    have L1 := chain L0 b1
    have B2 := B1.past (.cells #[.int .u8 ((s.size : Int) % 256)] 5)
    obtain ⟨p0, p1, p2, p3, p4⟩ := B2.leaf
    simp only at p0 p1 p2 p3 p4
    have L2 := chainA L1 (.cells #[.int .u8 ((s.size : Int) % 256)] 5)
    cases p with
    | true =>
      have e := tP (by simp) (by simp)
      clear tN tP tA
      have hcx := adds_any ⟨#[2]⟩ S T e.symm (by decide) (by omega)
      clear e
      go_wp2
      go_ret
      exact ⟨rfl, L2⟩
    | false =>
      have e := tA (by simp) (by simp)
      clear tN tP tA
      obtain ⟨X, hX⟩ : ∃ X, (⟨#[0]⟩ : ByteArray) ++ I = X := ⟨_, rfl⟩
      obtain ⟨Y, hY⟩ : ∃ Y, X ++ S = Y := ⟨_, rfl⟩
      rw [hX, hY] at e
      rw [hX] at o2
      have zX : X.size = 1 + I.size := by rw [← hX, ByteArray.size_append]; rfl
      have zY : Y.size = X.size + S.size := by rw [← hY, ByteArray.size_append]
      have hc1 := adds_any (strOfNums [0, (i.size : Int) % 256]) i X o2 (by rw [strOfNums_size]; show 2 ≤ _; omega) (by omega)
      have hc2 := adds_any X S Y hY (by omega) (by omega)
      have hc3 := adds_any Y N T e.symm (by omega) (by omega)
      clear e hX hY o2
      go_upto_region 6 with fail
      have keep : ∀ u, Below (w1.alloc (.cells #[.int .u8 ((s.size : Int) % 256)] 5)).heap.size (w1.alloc (.cells #[.int .u8 ((s.size : Int) % 256)] 5)) u →
          Below w.heap.size w u ∧ (u.cell? ⟨w.heap.size, 0, none⟩ = some (.bool false) ∧ u.cell? ⟨w.heap.size, 1, none⟩ = some (.string i) ∧ u.cell? ⟨w.heap.size, 2, none⟩ = some (.string s) ∧ u.cell? ⟨w.heap.size, 3, none⟩ = some (.int .u64 h) ∧ u.cell? ⟨w.heap.size, 4, none⟩ = some (.int .u64 l)) :=
        fun u hb => ⟨chain L2 hb, (B2.call hb).leaf⟩
      clear hcv hcv1 p0 p1 p2 p3 p4 q0 q1 q2 q3 q4 r0 r1 r2 r3 r4
      change Code.wp _ _ _ _ (w1.alloc (.cells #[.int .u8 ((s.size : Int) % 256)] 5))
      generalize w1.alloc (.cells #[.int .u8 ((s.size : Int) % 256)] 5) = V at *
      have j0 : Below V.heap.size V V.drew := (Below.refl _ V).drew
      have hwi : IntKind.u8.wrap (i.size : Int) = (i.size : Int) % 256 := by rw [IntKind.wrap_u8]
      have f0 := keep _ j0
      refine wp_region_held_drew (S := fun u => Below w.heap.size w u ∧ (u.cell? ⟨w.heap.size, 0, none⟩ = some (.bool false) ∧ u.cell? ⟨w.heap.size, 1, none⟩ = some (.string i) ∧ u.cell? ⟨w.heap.size, 2, none⟩ = some (.string s) ∧ u.cell? ⟨w.heap.size, 3, none⟩ = some (.int .u64 h) ∧ u.cell? ⟨w.heap.size, 4, none⟩ = some (.int .u64 l))) (by kernel_rfl) f0 (fun hHeld => ?_)
      refine wpAnyH_take (i := 0) (v := ?_) rfl (by kernel_rfl) (by kernel_rfl) (by kernel_rfl) (fun _ _ _ h => h) (Or.inl ⟨by rfl, ?_⟩) (by assumption) ?_
      rotate_left 1
      · intro w hSw; (try dsimp only at hSw); go_simp; try with_reducible rfl
      try simp only [Act.put, List.getElem_toArray, List.getElem_cons_succ, List.getElem_cons_zero, List.setIfInBounds_toArray, List.set_cons_zero, List.set_cons_succ]
      refine wpAnyH_take (i := 1) (v := ?_) rfl (by kernel_rfl) (by kernel_rfl) (by kernel_rfl) (fun _ _ _ h => h) (Or.inl ⟨by rfl, ?_⟩) (by assumption) ?_
      rotate_left 1
      · intro w hSw; (try dsimp only at hSw); go_simp; try with_reducible rfl
      try simp only [Act.put, List.getElem_toArray, List.getElem_cons_succ, List.getElem_cons_zero, List.setIfInBounds_toArray, List.set_cons_zero, List.set_cons_succ]
      refine wpAnyH_take (i := 2) (v := ?_) rfl (by kernel_rfl) (by kernel_rfl) (by kernel_rfl) (fun _ _ _ h => h) (Or.inl ⟨by rfl, ?_⟩) (by assumption) ?_
      rotate_left 1
      · intro w hSw; (try dsimp only at hSw); go_simp; try with_reducible rfl
      try simp only [Act.put, List.getElem_toArray, List.getElem_cons_succ, List.getElem_cons_zero, List.setIfInBounds_toArray, List.set_cons_zero, List.set_cons_succ]
      refine wpAnyH_take (i := 3) (v := ?_) rfl (by kernel_rfl) (by kernel_rfl) (by kernel_rfl) (fun _ _ _ h => h) (Or.inl ⟨by rfl, ?_⟩) (by assumption) ?_
      rotate_left 1
      · intro w hSw; (try dsimp only at hSw); go_simp; try with_reducible rfl
      try simp only [Act.put, List.getElem_toArray, List.getElem_cons_succ, List.getElem_cons_zero, List.setIfInBounds_toArray, List.set_cons_zero, List.set_cons_succ]
      refine wpAnyH_take (i := 6) (v := ?_) rfl (by kernel_rfl) (by kernel_rfl) (by kernel_rfl) (fun _ _ _ h => h) (Or.inl ⟨by rfl, ?_⟩) (by assumption) ?_
      rotate_left 1
      · intro w hSw; (try dsimp only at hSw); go_simp; try with_reducible rfl
      try simp only [Act.put, List.getElem_toArray, List.getElem_cons_succ, List.getElem_cons_zero, List.setIfInBounds_toArray, List.set_cons_zero, List.set_cons_succ]
      refine wpAnyH_take (i := 7) (v := ?_) rfl (by kernel_rfl) (by kernel_rfl) (by kernel_rfl) (fun _ _ _ h => h) (Or.inl ⟨by rfl, ?_⟩) (by assumption) ?_
      rotate_left 1
      · intro w hSw; (try dsimp only at hSw); go_simp; try with_reducible rfl
      try simp only [Act.put, List.getElem_toArray, List.getElem_cons_succ, List.getElem_cons_zero, List.setIfInBounds_toArray, List.set_cons_zero, List.set_cons_succ]
      refine wpAnyH_take (i := 9) (v := ?_) rfl (by kernel_rfl) (by kernel_rfl) (by kernel_rfl) (fun _ _ _ h => h) (Or.inl ⟨by rfl, ?_⟩) (by assumption) ?_
      rotate_left 1
      · intro w hSw; (try dsimp only at hSw); go_simp; try with_reducible rfl
      try simp only [Act.put, List.getElem_toArray, List.getElem_cons_succ, List.getElem_cons_zero, List.setIfInBounds_toArray, List.set_cons_zero, List.set_cons_succ]
      refine wpAnyH_take (i := 11) (v := ?_) rfl (by kernel_rfl) (by kernel_rfl) (by kernel_rfl) (fun _ _ _ h => h) (Or.inl ⟨by rfl, ?_⟩) (by assumption) ?_
      rotate_left 1
      · intro w hSw; (try dsimp only at hSw); go_simp; try with_reducible rfl
      try simp only [Act.put, List.getElem_toArray, List.getElem_cons_succ, List.getElem_cons_zero, List.setIfInBounds_toArray, List.set_cons_zero, List.set_cons_succ]
      refine wpAnyH_take (i := 12) (v := ?_) rfl (by kernel_rfl) (by kernel_rfl) (by kernel_rfl) (fun _ _ _ h => h) (Or.inl ⟨by rfl, ?_⟩) (by assumption) ?_
      rotate_left 1
      · intro w hSw; (try dsimp only at hSw); go_simp; try with_reducible rfl
      try simp only [Act.put, List.getElem_toArray, List.getElem_cons_succ, List.getElem_cons_zero, List.setIfInBounds_toArray, List.set_cons_zero, List.set_cons_succ]
      refine wpAnyH_ready (rs := [4, 13]) (by kernel_rfl) (by simp) (AllReadyH.cons rfl (fun K hK => ?_) (AllReadyH.cons rfl (fun K hK => ?_) AllReadyH.nil))
      · go_simp
        have jA : Below V.heap.size V (V.alloc (.cells #[.int .u8 0, .int .u8 ((i.size : Int) % 256)] 5)).drew := ((Below.refl _ V).alloc (Nat.le_refl _) _).drew
        have bA : Box (V.alloc (.cells #[.int .u8 0, .int .u8 ((i.size : Int) % 256)] 5)).drew V.heap.size 5 #[.int .u8 0, .int .u8 ((i.size : Int) % 256)] := Box.made V _ _
        generalize (V.alloc (.cells #[.int .u8 0, .int .u8 ((i.size : Int) % 256)] 5)).drew = U at *
        have cvA := hcv2 _ _ bA
        refine hK.out _ _ (keep _ jA) (fun hHeld => ?_)
        clear hK K
        try simp only [Act.put, List.getElem_toArray, List.getElem_cons_succ, List.getElem_cons_zero, List.setIfInBounds_toArray, List.set_cons_zero, List.set_cons_succ]
        refine wpAnyH_ready (rs := [5, 13]) (by kernel_rfl) (by simp) (AllReadyH.cons rfl (fun K hK => ?_) (AllReadyH.cons rfl (fun K hK => ?_) AllReadyH.nil))
        · go_simp
          refine hK.out _ _ (keep _ jA) (fun hHeld => ?_)
          clear hK K
          try simp only [Act.put, List.getElem_toArray, List.getElem_cons_succ, List.getElem_cons_zero, List.setIfInBounds_toArray, List.set_cons_zero, List.set_cons_succ]
          refine wpAnyH_take (i := 8) (v := ?_) rfl (by kernel_rfl) (by kernel_rfl) (by kernel_rfl) (fun _ _ _ h => h) (Or.inl ⟨by rfl, ?_⟩) (by assumption) ?_
          rotate_left 1
          · intro w hSw; (try dsimp only at hSw); go_simp; try with_reducible rfl
          try simp only [Act.put, List.getElem_toArray, List.getElem_cons_succ, List.getElem_cons_zero, List.setIfInBounds_toArray, List.set_cons_zero, List.set_cons_succ]
          refine wpAnyH_take (i := 10) (v := ?_) rfl (by kernel_rfl) (by kernel_rfl) (by kernel_rfl) (fun _ _ _ h => h) (Or.inl ⟨by rfl, ?_⟩) (by assumption) ?_
          rotate_left 1
          · intro w hSw; (try dsimp only at hSw); go_simp; try with_reducible rfl
          try simp only [Act.put, List.getElem_toArray, List.getElem_cons_succ, List.getElem_cons_zero, List.setIfInBounds_toArray, List.set_cons_zero, List.set_cons_succ]
          refine wpAnyH_ready (rs := [13]) (by kernel_rfl) (by simp) (AllReadyH.cons rfl (fun K hK => ?_) AllReadyH.nil)
          go_simp
          go_at_call 88
          refine (cB _).mono ?_
          rintro e w4 ⟨rfl, b4⟩
          have jB := chain jA b4
          try simp only []
          refine hK.out _ _ (keep _ jB) (fun hHeld => ?_)
          clear hK K
          try simp only [Act.put, List.getElem_toArray, List.getElem_cons_succ, List.getElem_cons_zero, List.setIfInBounds_toArray, List.set_cons_zero, List.set_cons_succ]
          refine wpAnyH_take (i := 14) (v := ?_) rfl (by kernel_rfl) (by kernel_rfl) (by kernel_rfl) (fun _ _ _ h => h) (Or.inl ⟨by rfl, ?_⟩) (by assumption) ?_
          rotate_left 1
          · intro w hSw; (try dsimp only at hSw); go_simp; try with_reducible rfl
          try simp only [Act.put, List.getElem_toArray, List.getElem_cons_succ, List.getElem_cons_zero, List.setIfInBounds_toArray, List.set_cons_zero, List.set_cons_succ]
          refine wpAnyH_take (i := 15) (v := ?_) rfl (by kernel_rfl) (by kernel_rfl) (by kernel_rfl) (fun _ _ _ h => h) (Or.inl ⟨by rfl, ?_⟩) (by assumption) ?_
          rotate_left 1
          · intro w hSw; (try dsimp only at hSw); go_simp; try with_reducible rfl
          try simp only [Act.put, List.getElem_toArray, List.getElem_cons_succ, List.getElem_cons_zero, List.setIfInBounds_toArray, List.set_cons_zero, List.set_cons_succ]
          refine wpAnyH_done (by kernel_rfl) ?_ _
          clear cvA
          go_wp2
          go_ret
          exact ⟨rfl, (keep _ jB).1⟩
        · go_simp
          go_at_call 88
          refine (cB _).mono ?_
          rintro e w4 ⟨rfl, b4⟩
          have jB := chain jA b4
          clear cvA
          have cvA := hcv2 _ _ (bA.call b4)
          try simp only []
          refine hK.out _ _ (keep _ jB) (fun hHeld => ?_)
          clear hK K
          try simp only [Act.put, List.getElem_toArray, List.getElem_cons_succ, List.getElem_cons_zero, List.setIfInBounds_toArray, List.set_cons_zero, List.set_cons_succ]
          refine wpAnyH_ready (rs := [5]) (by kernel_rfl) (by simp) (AllReadyH.cons rfl (fun K hK => ?_) AllReadyH.nil)
          go_simp
          refine hK.out _ _ (keep _ jB) (fun hHeld => ?_)
          clear hK K
          try simp only [Act.put, List.getElem_toArray, List.getElem_cons_succ, List.getElem_cons_zero, List.setIfInBounds_toArray, List.set_cons_zero, List.set_cons_succ]
          refine wpAnyH_take (i := 8) (v := ?_) rfl (by kernel_rfl) (by kernel_rfl) (by kernel_rfl) (fun _ _ _ h => h) (Or.inl ⟨by rfl, ?_⟩) (by assumption) ?_
          rotate_left 1
          · intro w hSw; (try dsimp only at hSw); go_simp; try with_reducible rfl
          try simp only [Act.put, List.getElem_toArray, List.getElem_cons_succ, List.getElem_cons_zero, List.setIfInBounds_toArray, List.set_cons_zero, List.set_cons_succ]
          refine wpAnyH_take (i := 10) (v := ?_) rfl (by kernel_rfl) (by kernel_rfl) (by kernel_rfl) (fun _ _ _ h => h) (Or.inl ⟨by rfl, ?_⟩) (by assumption) ?_
          rotate_left 1
          · intro w hSw; (try dsimp only at hSw); go_simp; try with_reducible rfl
          try simp only [Act.put, List.getElem_toArray, List.getElem_cons_succ, List.getElem_cons_zero, List.setIfInBounds_toArray, List.set_cons_zero, List.set_cons_succ]
          refine wpAnyH_take (i := 14) (v := ?_) rfl (by kernel_rfl) (by kernel_rfl) (by kernel_rfl) (fun _ _ _ h => h) (Or.inl ⟨by rfl, ?_⟩) (by assumption) ?_
          rotate_left 1
          · intro w hSw; (try dsimp only at hSw); go_simp; try with_reducible rfl
          try simp only [Act.put, List.getElem_toArray, List.getElem_cons_succ, List.getElem_cons_zero, List.setIfInBounds_toArray, List.set_cons_zero, List.set_cons_succ]
          refine wpAnyH_take (i := 15) (v := ?_) rfl (by kernel_rfl) (by kernel_rfl) (by kernel_rfl) (fun _ _ _ h => h) (Or.inl ⟨by rfl, ?_⟩) (by assumption) ?_
          rotate_left 1
          · intro w hSw; (try dsimp only at hSw); go_simp; try with_reducible rfl
          try simp only [Act.put, List.getElem_toArray, List.getElem_cons_succ, List.getElem_cons_zero, List.setIfInBounds_toArray, List.set_cons_zero, List.set_cons_succ]
          refine wpAnyH_done (by kernel_rfl) ?_ _
          clear cvA
          go_wp2
          go_ret
          exact ⟨rfl, (keep _ jB).1⟩
      · go_simp
        go_at_call 88
        refine (cB _).mono ?_
        rintro e w3 ⟨rfl, b3⟩
        have jB := chain j0 b3
        try simp only []
        refine hK.out _ _ (keep _ jB) (fun hHeld => ?_)
        clear hK K
        try simp only [Act.put, List.getElem_toArray, List.getElem_cons_succ, List.getElem_cons_zero, List.setIfInBounds_toArray, List.set_cons_zero, List.set_cons_succ]
        refine wpAnyH_ready (rs := [4]) (by kernel_rfl) (by simp) (AllReadyH.cons rfl (fun K hK => ?_) AllReadyH.nil)
        go_simp
        have jA := chainA jB (.cells #[.int .u8 0, .int .u8 ((i.size : Int) % 256)] 5)
        have bA := Box.made w3 5 #[.int .u8 0, .int .u8 ((i.size : Int) % 256)]
        generalize w3.alloc (.cells #[.int .u8 0, .int .u8 ((i.size : Int) % 256)] 5) = U at *
        have cvA := hcv2 _ _ bA
        refine hK.out _ _ (keep _ jA) (fun hHeld => ?_)
        clear hK K
        try simp only [Act.put, List.getElem_toArray, List.getElem_cons_succ, List.getElem_cons_zero, List.setIfInBounds_toArray, List.set_cons_zero, List.set_cons_succ]
        refine wpAnyH_ready (rs := [5]) (by kernel_rfl) (by simp) (AllReadyH.cons rfl (fun K hK => ?_) AllReadyH.nil)
        go_simp
        refine hK.out _ _ (keep _ jA) (fun hHeld => ?_)
        clear hK K
        try simp only [Act.put, List.getElem_toArray, List.getElem_cons_succ, List.getElem_cons_zero, List.setIfInBounds_toArray, List.set_cons_zero, List.set_cons_succ]
        refine wpAnyH_take (i := 8) (v := ?_) rfl (by kernel_rfl) (by kernel_rfl) (by kernel_rfl) (fun _ _ _ h => h) (Or.inl ⟨by rfl, ?_⟩) (by assumption) ?_
        rotate_left 1
        · intro w hSw; (try dsimp only at hSw); go_simp; try with_reducible rfl
        try simp only [Act.put, List.getElem_toArray, List.getElem_cons_succ, List.getElem_cons_zero, List.setIfInBounds_toArray, List.set_cons_zero, List.set_cons_succ]
        refine wpAnyH_take (i := 10) (v := ?_) rfl (by kernel_rfl) (by kernel_rfl) (by kernel_rfl) (fun _ _ _ h => h) (Or.inl ⟨by rfl, ?_⟩) (by assumption) ?_
        rotate_left 1
        · intro w hSw; (try dsimp only at hSw); go_simp; try with_reducible rfl
        try simp only [Act.put, List.getElem_toArray, List.getElem_cons_succ, List.getElem_cons_zero, List.setIfInBounds_toArray, List.set_cons_zero, List.set_cons_succ]
        refine wpAnyH_take (i := 14) (v := ?_) rfl (by kernel_rfl) (by kernel_rfl) (by kernel_rfl) (fun _ _ _ h => h) (Or.inl ⟨by rfl, ?_⟩) (by assumption) ?_
        rotate_left 1
        · intro w hSw; (try dsimp only at hSw); go_simp; try with_reducible rfl
        try simp only [Act.put, List.getElem_toArray, List.getElem_cons_succ, List.getElem_cons_zero, List.setIfInBounds_toArray, List.set_cons_zero, List.set_cons_succ]
        refine wpAnyH_take (i := 15) (v := ?_) rfl (by kernel_rfl) (by kernel_rfl) (by kernel_rfl) (fun _ _ _ h => h) (Or.inl ⟨by rfl, ?_⟩) (by assumption) ?_
        rotate_left 1
        · intro w hSw; (try dsimp only at hSw); go_simp; try with_reducible rfl
        try simp only [Act.put, List.getElem_toArray, List.getElem_cons_succ, List.getElem_cons_zero, List.setIfInBounds_toArray, List.set_cons_zero, List.set_cons_succ]
        refine wpAnyH_done (by kernel_rfl) ?_ _
        clear cvA
        go_wp2
        go_ret
        exact ⟨rfl, (keep _ jA).1⟩
end Go.Proofs.YtkecekfapiegjaaDoor
/-
  paymasterref07's nodes and digests, walked: NodeText, MayWidth, Digest, LeafNode.
-/
namespace Go.Proofs.YtkecekfapiegjaaDoor
set_option linter.unusedVariables false
set_option linter.unusedSimpArgs false
set_option maxRecDepth 10000
open Go.RowKit

set_option maxHeartbeats 4000000 in
theorem rnodeText_any (a b : Nd) (h1 : a.hash.size ≤ 1000000) (h2 : b.hash.size ≤ 1000000) (a1 : Word a.h) (a0 : Word a.l) (b1 : Word b.h) (b0 : Word b.l) (w : World) : Calls Tryd.prog 86 #[a.val, b.val] w (Tells (.string (ndText a b)) w.heap.size w) := by
  obtain ⟨s, h, l⟩ := a
  obtain ⟨z, j, m⟩ := b
  simp only at h1 h2 a1 a0 b1 b0
  have A0 := (Box.made w 49 #[.string s, .int .u64 h, .int .u64 l]).past (.cells #[.string z, .int .u64 j, .int .u64 m] 49)
  have B0 : Box ((w.alloc (.cells #[.string s, .int .u64 h, .int .u64 l] 49)).alloc (.cells #[.string z, .int .u64 j, .int .u64 m] 49)) (w.heap.size + 1) 49 #[.string z, .int .u64 j, .int .u64 m] := by
    have := Box.made (w.alloc (.cells #[.string s, .int .u64 h, .int .u64 l] 49)) 49 #[.string z, .int .u64 j, .int .u64 m]
    simpa using this
  have L0 : Below w.heap.size w ((w.alloc (.cells #[.string s, .int .u64 h, .int .u64 l] 49)).alloc (.cells #[.string z, .int .u64 j, .int .u64 m] 49)) := by repeat (first | exact Below.refl _ _ | apply Below.drew | apply below_drewN | refine Below.alloc ?_ (by simp; try omega) _ | refine Below.setCell ?_ (by simp; try omega) _)
  have cA := fun u => rubytes_any h l a1 a0 u
  have cB := fun u => rubytes_any j m b1 b0 u
  have zA := textOf_size h l
  have zB := textOf_size j m
  have e : ndText ⟨s, h, l⟩ ⟨z, j, m⟩ = (((⟨#[1]⟩ ++ s) ++ textOf h l) ++ z) ++ textOf j m := rfl
  generalize ndText ⟨s, h, l⟩ ⟨z, j, m⟩ = T at *
  generalize textOf h l = A at *
  generalize textOf j m = B at *
  obtain ⟨X, hX⟩ : ∃ X, (⟨#[1]⟩ : ByteArray) ++ s = X := ⟨_, rfl⟩
  obtain ⟨Y, hY⟩ : ∃ Y, X ++ A = Y := ⟨_, rfl⟩
  obtain ⟨Z, hZ⟩ : ∃ Z, Y ++ z = Z := ⟨_, rfl⟩
  rw [hX, hY, hZ] at e
  have zX : X.size = 1 + s.size := by rw [← hX, ByteArray.size_append]; rfl
  have zY : Y.size = X.size + 16 := by rw [← hY, ByteArray.size_append, zA]
  have zZ : Z.size = Y.size + z.size := by rw [← hZ, ByteArray.size_append]
  have hc1 := adds_any ⟨#[1]⟩ s X hX (by decide) (by omega)
  have hc2 := adds_any X A Y hY (by omega) (by omega)
  have hc3 := adds_any Y z Z hZ (by omega) (by omega)
  have hc4 := adds_any Z B T e.symm (by omega) (by omega)
  clear e hX hY hZ zX zY zZ zA zB
  show Calls _ _ #[.agg #[.string s, .int .u64 h, .int .u64 l], .agg #[.string z, .int .u64 j, .int .u64 m]] _ _
  go_enter Tryd.func86, Tryd.ntmps86
  go_upto_region 1 with fail
  change Code.wp _ _ _ _ ((w.alloc (.cells #[.string s, .int .u64 h, .int .u64 l] 49)).alloc (.cells #[.string z, .int .u64 j, .int .u64 m] 49))
  generalize (w.alloc (.cells #[.string s, .int .u64 h, .int .u64 l] 49)).alloc (.cells #[.string z, .int .u64 j, .int .u64 m] 49) = W at *
  obtain ⟨r0, r1, r2⟩ := A0.node
  obtain ⟨q0, q1, q2⟩ := B0.node
  have hinA := A0.inside
  have hinB := B0.inside
  go_region_held3 (fun w' => Below W.heap.size W w' ∧ w'.cell? ⟨w.heap.size, 0, none⟩ = some (.string s) ∧ w'.cell? ⟨w.heap.size, 1, none⟩ = some (.int .u64 h) ∧ w'.cell? ⟨w.heap.size, 2, none⟩ = some (.int .u64 l) ∧
      w'.cell? ⟨w.heap.size + 1, 0, none⟩ = some (.string z) ∧ w'.cell? ⟨w.heap.size + 1, 1, none⟩ = some (.int .u64 j) ∧ w'.cell? ⟨w.heap.size + 1, 2, none⟩ = some (.int .u64 m))
    (first
      | exact keep_first (by assumption) (by assumption) (fun hb => ⟨hb, (A0.call hb).read 0, (A0.call hb).read 1, (A0.call hb).read 2, (B0.call hb).read 0, (B0.call hb).read 1, (B0.call hb).read 2⟩)
      | exact ⟨(Below.refl _ _).drew, r0, r1, r2, q0, q1, q2⟩)
    (first
      | (go_at_call_of 88 (Value.agg #[.int .u64 h, .int .u64 l]); refine (cA _).mono ?_; rintro e v1 ⟨rfl, hv1⟩)
      | (go_at_call_of 88 (Value.agg #[.int .u64 j, .int .u64 m]); refine (cB _).mono ?_; rintro e v2 ⟨rfl, hv2⟩)
      | fail)
  all_goals go_wp2
  all_goals go_ret
  all_goals exact ⟨rfl, chain L0 (And.left (by assumption))⟩

set_option maxHeartbeats 1000000 in
theorem rmayWidth_any (n : Int) (w : World) : Calls Tryd.prog 64 #[.int .i64 n] w (Plain (.bool (mayW n)) w) := by
  unfold mayW
  by_cases h1 : 1 ≤ n
  · obtain ⟨A, hA⟩ : ∃ A, decide (1 ≤ n ∧ n ≤ 32) = A := ⟨_, rfl⟩
    have e : decide (n ≤ 32) = A := by rw [← hA]; exact decide_eq_decide.2 ⟨fun h => ⟨h1, h⟩, fun h => h.2⟩
    rw [hA]
    clear hA
    go_enter Tryd.func64, Tryd.ntmps64
    go_wp2
    go_ret
    exact ⟨rfl, rfl⟩
  · rw [decide_eq_false (show ¬ (1 ≤ n ∧ n ≤ 32) from fun h => h1 h.1)]
    go_enter Tryd.func64, Tryd.ntmps64
    go_wp2
    go_ret
    exact ⟨rfl, rfl⟩
set_option maxHeartbeats 1000000 in
theorem rdigestT_any (n : Int) (t : ByteArray) (ht : t.size ≤ 1000000000) (w : World) : Calls Tryd.prog 65 #[.int .i64 n, .string t] w (Tells (.string (dgB n t)) w.heap.size w) := by
  have cW := fun u => rmayWidth_any n u
  have cS := fun u => rsum_any t (by omega) u
  have zD := digB_size t.data.toList
  unfold dgB
  generalize digB t.data.toList = D at *
  by_cases hw : mayW n = true
  · rw [if_pos hw]
    rw [hw] at cW
    have hn := of_decide_eq_true hw
    obtain ⟨k, rfl⟩ := Int.eq_ofNat_of_zero_le (show 0 ≤ n by omega)
    have k1 : (k : Int) ≤ 32 := by omega
    clear hw hn
    go_enter Tryd.func65, Tryd.ntmps65
    go_wp2_with (first
      | (go_at_call 64; refine (cW _).mono ?_; rintro e w' ⟨rfl, rfl⟩)
      | (go_at_call 87; refine (cS _).mono ?_; rintro e w1 ⟨rfl, b1⟩))
    go_ret
    exact ⟨rfl, b1⟩
  · rw [if_neg hw]
    rw [Bool.not_eq_true] at hw
    rw [hw] at cW
    go_enter Tryd.func65, Tryd.ntmps65
    go_wp2_with (first
      | (go_at_call 64; refine (cW _).mono ?_; rintro e w' ⟨rfl, rfl⟩))
    go_ret
    exact ⟨rfl, Below.refl _ _⟩
set_option maxRecDepth 100000 in
set_option maxHeartbeats 4000000 in
theorem rleafNode_any (n : Int) (x : Lf) (h1 : x.id.size ≤ 1000000) (h2 : x.salt.size ≤ 1000000) (hh : Word x.h) (hl : Word x.l) (w : World) : Calls Tryd.prog 35 #[.int .i64 n, x.val] w (Tells (nodeOf n x).val w.heap.size w) := by
  have cW := fun u => rmayWidth_any n u
  have cM := fun u => rmayLeaf_any x (by omega) (by omega) u
  have cT := fun u => rleafText_any x h1 h2 hh hl u
  have zT := text_bound x h1 h2
  have cD := fun u => rdigestT_any n x.text (by omega) u
  have en : nodeOf n x = if mayW n = true ∧ x.may = true then ⟨dgB n x.text, x.h, x.l⟩ else Nd.zero := rfl
  obtain ⟨p, i, s, h, l⟩ := x
  simp only at hh hl en
  have A0 : Box ((w.alloc (.cells #[.bool p, .string i, .string s, .int .u64 h, .int .u64 l] 34)).alloc (.cells #[.string ⟨#[]⟩, .int .u64 0, .int .u64 0] 49)) w.heap.size 34 #[.bool p, .string i, .string s, .int .u64 h, .int .u64 l] := (Box.made w _ _).past _
  have B0 : Box ((w.alloc (.cells #[.bool p, .string i, .string s, .int .u64 h, .int .u64 l] 34)).alloc (.cells #[.string ⟨#[]⟩, .int .u64 0, .int .u64 0] 49)) (w.heap.size + 1) 49 #[.string ⟨#[]⟩, .int .u64 0, .int .u64 0] := by
    have := Box.made (w.alloc (.cells #[.bool p, .string i, .string s, .int .u64 h, .int .u64 l] 34)) 49 #[.string ⟨#[]⟩, .int .u64 0, .int .u64 0]
    simpa using this
  have L0 : Below w.heap.size w ((w.alloc (.cells #[.bool p, .string i, .string s, .int .u64 h, .int .u64 l] 34)).alloc (.cells #[.string ⟨#[]⟩, .int .u64 0, .int .u64 0] 49)) := by repeat (first | exact Below.refl _ _ | apply Below.drew | apply below_drewN | refine Below.alloc ?_ (by simp; try omega) _ | refine Below.setCell ?_ (by simp; try omega) _)
  have ev : Lf.val ⟨p, i, s, h, l⟩ = .agg #[.bool p, .string i, .string s, .int .u64 h, .int .u64 l] := rfl
  rw [ev] at cM cT ⊢
  clear ev
  generalize Lf.text ⟨p, i, s, h, l⟩ = T at *
  generalize Lf.may ⟨p, i, s, h, l⟩ = M at *
  generalize nodeOf n ⟨p, i, s, h, l⟩ = R at *
  generalize dgB n T = D at *
  generalize mayW n = V at *
  have HN := hideIt en
  clear en
  go_enter Tryd.func35, Tryd.ntmps35
  go_upto_region 1 with fail
  change Code.wp _ _ _ _ ((w.alloc (.cells #[.bool p, .string i, .string s, .int .u64 h, .int .u64 l] 34)).alloc (.cells #[.string ⟨#[]⟩, .int .u64 0, .int .u64 0] 49))
  generalize (w.alloc (.cells #[.bool p, .string i, .string s, .int .u64 h, .int .u64 l] 34)).alloc (.cells #[.string ⟨#[]⟩, .int .u64 0, .int .u64 0] 49) = W at *
  obtain ⟨r0, r1, r2, r3, r4⟩ := A0.lfat
  obtain ⟨⟨q0, q1, q2⟩, f0, f1, f2, hinB⟩ := B0.three0
  have hinA := A0.inside
  cases V with
  | false =>
    have e := HN.out
    rw [if_neg (by simp)] at e
    subst e
    go_wp2_with (first | (go_at_call 64; refine (cW _).mono ?_; rintro e w' ⟨rfl, rfl⟩))
    generalize hX : World.setCell (World.setCell (World.setCell _ _ _) _ _) _ _ = X
    have hbx : Box X (w.heap.size + 1) 49 #[.string ⟨#[]⟩, .int .u64 0, .int .u64 0] := by rw [← hX]; exact Box.put3 B0 _ _ _
    have hbl : Below w.heap.size w X := by rw [← hX]; exact below_put3 L0 (by omega) _ _ _
    clear hX
    obtain ⟨⟨x0, x1, x2⟩, -, -, -, hgx⟩ := hbx.three0
    exact bodyPost_ret (v := Nd.zero.val) (by simp [results, Tryd.results35, go_sem, Nd.val, Nd.zero, x0, x1, x2]) rfl ⟨rfl, hbl⟩
  | true =>
    cases M with
    | false =>
      have e := HN.out
      rw [if_neg (by simp)] at e
      subst e
      go_upto_region 2 with (first
        | (go_at_call 64; refine (cW _).mono ?_; rintro e w' ⟨rfl, rfl⟩)
        | (go_at_call 31; refine (cM _).mono ?_; rintro e w1 ⟨rfl, b1⟩))
      have B1 := B0.call b1
      obtain ⟨⟨y0, y1, y2⟩, g0, g1, g2, hin1⟩ := B1.three0
      go_wp2
      generalize hX : World.setCell (World.setCell (World.setCell _ _ _) _ _) _ _ = X
      have hbx : Box X (w.heap.size + 1) 49 #[.string ⟨#[]⟩, .int .u64 0, .int .u64 0] := by rw [← hX]; exact Box.put3 B1 _ _ _
      have hbl : Below w.heap.size w X := by rw [← hX]; exact below_put3 (chain L0 b1) (by omega) _ _ _
      clear hX
      obtain ⟨⟨x0, x1, x2⟩, -, -, -, hgx⟩ := hbx.three0
      exact bodyPost_ret (v := Nd.zero.val) (by simp [results, Tryd.results35, go_sem, Nd.val, Nd.zero, x0, x1, x2]) rfl ⟨rfl, hbl⟩
    | true =>
      have e := HN.out
      rw [if_pos ⟨rfl, rfl⟩] at e
      subst e
      go_upto_region 3 with (first
        | (go_at_call 64; refine (cW _).mono ?_; rintro e w' ⟨rfl, rfl⟩)
        | (go_at_call 31; refine (cM _).mono ?_; rintro e w1 ⟨rfl, b1⟩))
      have A1 := A0.call b1
      have B1 := B0.call b1
      have f0 : Below w.heap.size w w1.drew ∧ (w1.drew.cell? ⟨w.heap.size, 0, none⟩ = some (.bool p) ∧ w1.drew.cell? ⟨w.heap.size, 1, none⟩ = some (.string i) ∧ w1.drew.cell? ⟨w.heap.size, 2, none⟩ = some (.string s) ∧ w1.drew.cell? ⟨w.heap.size, 3, none⟩ = some (.int .u64 h) ∧ w1.drew.cell? ⟨w.heap.size, 4, none⟩ = some (.int .u64 l)) :=
        ⟨(chain L0 b1).drew, A1.lfat⟩
      have BB : Box w1.drew (w.heap.size + 1) 49 #[.string ⟨#[]⟩, .int .u64 0, .int .u64 0] := B1
      have AB : Box w1.drew w.heap.size 34 #[.bool p, .string i, .string s, .int .u64 h, .int .u64 l] := A1
      refine wp_region_held_drew (S := fun u => Below w.heap.size w u ∧ (u.cell? ⟨w.heap.size, 0, none⟩ = some (.bool p) ∧ u.cell? ⟨w.heap.size, 1, none⟩ = some (.string i) ∧ u.cell? ⟨w.heap.size, 2, none⟩ = some (.string s) ∧ u.cell? ⟨w.heap.size, 3, none⟩ = some (.int .u64 h) ∧ u.cell? ⟨w.heap.size, 4, none⟩ = some (.int .u64 l))) (by kernel_rfl) f0 (fun hHeld => ?_)
      refine wpAnyH_take (i := 0) (v := ?_) rfl (by kernel_rfl) (by kernel_rfl) (by kernel_rfl) (fun _ _ _ h => h) (Or.inl ⟨by rfl, ?_⟩) (by assumption) ?_
      rotate_left 1
      · intro w hSw; (try dsimp only at hSw); go_simp; try with_reducible rfl
      try simp only [Act.put, List.getElem_toArray, List.getElem_cons_succ, List.getElem_cons_zero, List.setIfInBounds_toArray, List.set_cons_zero, List.set_cons_succ]
      refine wpAnyH_take (i := 1) (v := ?_) rfl (by kernel_rfl) (by kernel_rfl) (by kernel_rfl) (fun _ _ _ h => h) (Or.inl ⟨by rfl, ?_⟩) (by assumption) ?_
      rotate_left 1
      · intro w hSw; (try dsimp only at hSw); go_simp; try with_reducible rfl
      try simp only [Act.put, List.getElem_toArray, List.getElem_cons_succ, List.getElem_cons_zero, List.setIfInBounds_toArray, List.set_cons_zero, List.set_cons_succ]
      refine wpAnyH_take (i := 4) (v := ?_) rfl (by kernel_rfl) (by kernel_rfl) (by kernel_rfl) (fun _ _ _ h => h) (Or.inl ⟨by rfl, ?_⟩) (by assumption) ?_
      rotate_left 1
      · intro w hSw; (try dsimp only at hSw); go_simp; try with_reducible rfl
      try simp only [Act.put, List.getElem_toArray, List.getElem_cons_succ, List.getElem_cons_zero, List.setIfInBounds_toArray, List.set_cons_zero, List.set_cons_succ]
      refine wpAnyH_take (i := 5) (v := ?_) rfl (by kernel_rfl) (by kernel_rfl) (by kernel_rfl) (fun _ _ _ h => h) (Or.inl ⟨by rfl, ?_⟩) (by assumption) ?_
      rotate_left 1
      · intro w hSw; (try dsimp only at hSw); go_simp; try with_reducible rfl
      try simp only [Act.put, List.getElem_toArray, List.getElem_cons_succ, List.getElem_cons_zero, List.setIfInBounds_toArray, List.set_cons_zero, List.set_cons_succ]
      refine wpAnyH_ready (rs := [2]) (by kernel_rfl) (by simp) (AllReadyH.cons rfl (fun K hK => ?_) AllReadyH.nil)
      go_simp
      go_at_call 66
      refine (cT _).mono ?_
      rintro e w2 ⟨rfl, b2⟩
      have F2 : Below w.heap.size w w2 ∧ (w2.cell? ⟨w.heap.size, 0, none⟩ = some (.bool p) ∧ w2.cell? ⟨w.heap.size, 1, none⟩ = some (.string i) ∧ w2.cell? ⟨w.heap.size, 2, none⟩ = some (.string s) ∧ w2.cell? ⟨w.heap.size, 3, none⟩ = some (.int .u64 h) ∧ w2.cell? ⟨w.heap.size, 4, none⟩ = some (.int .u64 l)) := ⟨chain f0.1 b2, (AB.call b2).lfat⟩
      try simp only []
      refine hK.out _ _ (F2) (fun hHeld => ?_)
      clear hK K
      try simp only [Act.put, List.getElem_toArray, List.getElem_cons_succ, List.getElem_cons_zero, List.setIfInBounds_toArray, List.set_cons_zero, List.set_cons_succ]
      refine wpAnyH_ready (rs := [3]) (by kernel_rfl) (by simp) (AllReadyH.cons rfl (fun K hK => ?_) AllReadyH.nil)
      go_simp
      go_at_call 65
      refine (cD _).mono ?_
      rintro e w3 ⟨rfl, b3⟩
      have F3 : Below w.heap.size w w3 ∧ (w3.cell? ⟨w.heap.size, 0, none⟩ = some (.bool p) ∧ w3.cell? ⟨w.heap.size, 1, none⟩ = some (.string i) ∧ w3.cell? ⟨w.heap.size, 2, none⟩ = some (.string s) ∧ w3.cell? ⟨w.heap.size, 3, none⟩ = some (.int .u64 h) ∧ w3.cell? ⟨w.heap.size, 4, none⟩ = some (.int .u64 l)) := ⟨chain F2.1 b3, ((AB.call b2).call b3).lfat⟩
      have B3 := (BB.call b2).call b3
      have A3 := (AB.call b2).call b3
      try simp only []
      refine hK.out _ _ (F3) (fun hHeld => ?_)
      clear hK K
      try simp only [Act.put, List.getElem_toArray, List.getElem_cons_succ, List.getElem_cons_zero, List.setIfInBounds_toArray, List.set_cons_zero, List.set_cons_succ]
      refine wpAnyH_take (i := 6) (v := ?_) rfl (by kernel_rfl) (by kernel_rfl) (by kernel_rfl) (fun _ _ _ h => h) (Or.inl ⟨by rfl, ?_⟩) (by assumption) ?_
      rotate_left 1
      · intro w hSw; (try dsimp only at hSw); go_simp; try with_reducible rfl
      try simp only [Act.put, List.getElem_toArray, List.getElem_cons_succ, List.getElem_cons_zero, List.setIfInBounds_toArray, List.set_cons_zero, List.set_cons_succ]
      obtain ⟨⟨y0, y1, y2⟩, g0, g1, g2, hin3⟩ := B3.three0
      refine wpAnyH_ready (rs := [7]) (by kernel_rfl) (by simp) (AllReadyH.cons rfl (fun K hK => ?_) AllReadyH.nil)
      go_simp
      have AX := ((A3.apart (p := ⟨w.heap.size + 1, 0, none⟩) (by simp) (.string D)).apart (p := ⟨w.heap.size + 1, 1, none⟩) (by simp) (.int .u64 h)).apart (p := ⟨w.heap.size + 1, 2, none⟩) (by simp) (.int .u64 l)
      have BX := B3.put3 (.string D) (.int .u64 h) (.int .u64 l)
      have LX := below_put3 (g := w.heap.size + 1) F3.1 (by omega) (.string D) (.int .u64 h) (.int .u64 l)
      generalize World.setCell (World.setCell (World.setCell w3 _ _) _ _) _ _ = X at *
      have FX : Below w.heap.size w X ∧ (X.cell? ⟨w.heap.size, 0, none⟩ = some (.bool p) ∧ X.cell? ⟨w.heap.size, 1, none⟩ = some (.string i) ∧ X.cell? ⟨w.heap.size, 2, none⟩ = some (.string s) ∧ X.cell? ⟨w.heap.size, 3, none⟩ = some (.int .u64 h) ∧ X.cell? ⟨w.heap.size, 4, none⟩ = some (.int .u64 l)) := ⟨LX, AX.lfat⟩
      obtain ⟨⟨x0, x1, x2⟩, -, -, -, hgx⟩ := BX.three0
      refine hK.out _ _ (FX) (fun hHeld => ?_)
      clear hK K
      try simp only [Act.put, List.getElem_toArray, List.getElem_cons_succ, List.getElem_cons_zero, List.setIfInBounds_toArray, List.set_cons_zero, List.set_cons_succ]
      refine wpAnyH_done (by kernel_rfl) ?_ _
      clear y0 y1 y2 g0 g1 g2 hin3 F3 F2 A3 B3
      go_wp2
      exact bodyPost_ret (v := Nd.val ⟨D, h, l⟩) (by simp [results, Tryd.results35, go_sem, Nd.val, x0, x1, x2]) rfl ⟨rfl, LX⟩
end Go.Proofs.YtkecekfapiegjaaDoor
