/-
  The law TagSeeds: salts have 16 bytes, and are macs' beginnings; an account's, a pad's and a slot's are of unlike texts; an Id's first slot is less than 2^height, and of a height less it is the lowest bits of it.
  Conditions: block's table of constants and utf8's two tables hold what their texts lay (tied by the card; one is the form's constant).
-/
import Derived.Test.YtkmnfogcocppjaaDoorU7Awake
import Derived.Test.YtkmnfogcocppjaaDoorW7Laid
namespace Go.Proofs.YtkmnfogcocppjaaDoor
set_option linter.unusedVariables false
set_option linter.unusedSimpArgs false
set_option maxRecDepth 10000
open Go.ChangeShapes Go.WideShapes Go.ChangeAt Go.RowKit

theorem neq_lf_same (x : Lf) (w : World) : (binOp .neq 26 x.val x.val).run Tryd.prog w = .ok (.bool false) w := by rw [run_neq_lf, Lf.same_self]; rfl
set_option maxHeartbeats 1000000 in
theorem seeds_long (seed id : ByteArray) (n k : Int) (h : 300 < seed.size ∨ 300 < id.size) (h1 : seed.size ≤ 9223372036854775807) (h2 : id.size ≤ 9223372036854775807) (w : World) (hK : Tab w) (hT : TabU w) :
    Calls Tryd.prog 9 #[.string seed, .string id, .int .u64 n, .int .i64 k] w (Tells (.bool true) w.heap.size w) := by
  have cA := fun u hu hv => awake7_any u hu hv
  by_cases a1 : (300 : Int) < (seed.size : Int)
  · go_enter Tryd.func9, Tryd.ntmps9
    go_wp2_with (first | (go_at_call 35; refine (cA _ hK hT).mono ?_; rintro e w1 ⟨rfl, j1⟩))
    go_ret
    exact ⟨rfl, j1⟩
  · have a2 : (300 : Int) < (id.size : Int) := by omega
    go_enter Tryd.func9, Tryd.ntmps9
    go_wp2_with (first | (go_at_call 35; refine (cA _ hK hT).mono ?_; rintro e w1 ⟨rfl, j1⟩))
    go_ret
    exact ⟨rfl, j1⟩

theorem low_bits (R : Int) (J : Nat) : R % 2 ^ (J + 1) % 2 ^ J = R % 2 ^ J := Int.emod_emod_of_dvd R ⟨2, by rw [Int.pow_succ]⟩
set_option maxRecDepth 100000 in
set_option maxHeartbeats 8000000 in
theorem seeds_short (seed id : ByteArray) (n k : Int) (U H : Nat) (hU : k % 18446744073709551616 = (U : Int)) (hH : U % 64 = H) (hn : Word n) (h1 : seed.size ≤ 300) (h2 : id.size ≤ 300) (w : World) (hK : Tab w) (hT : TabU w) :
    Calls Tryd.prog 9 #[.string seed, .string id, .int .u64 n, .int .i64 k] w (Tells (.bool true) w.heap.size w) := by
  have cA := fun u hu hv => awake7_any u hu hv
  have a1 : ¬ ((300 : Int) < (seed.size : Int)) := by omega
  have a2 : ¬ ((300 : Int) < (id.size : Int)) := by omega
  have c1 := fun u hu => salt_any seed id (by omega) (by omega) u hu
  have c2 := fun u hu => padSalt_any seed n (by omega) hn u hu
  have c3 := fun u hu => pad_any seed n (by omega) hn u hu
  have zS := saltB_size seed id
  have zP := padSaltB_size seed n
  have c4 := fun u hu => mayLeaf_any (padLf seed n) (by show 0 ≤ _; omega) (by show (padSaltB seed n).size ≤ _; omega) u hu
  have hm : (padLf seed n).may = true := by
    unfold padLf
    rw [may_def, decide_eq_true (by omega)]
    rfl
  rw [hm] at c4
  have hx := fun u => neq_lf_same (padLf seed n) u
  simp only [Lf.val, padLf] at c3 c4 hx
  obtain ⟨X, hX⟩ : ∃ X, (⟨#[3]⟩ : ByteArray) ++ id = X := ⟨_, rfl⟩
  have zX : X.size = 1 + id.size := by rw [← hX, ByteArray.size_append]; rfl
  have hc3 := add_any ⟨#[3]⟩ id X hX (by decide) (by omega)
  have c5 := fun u hu => hfirst_any seed X (by omega) (by omega) 16 (by decide) u hu
  obtain ⟨Y, hY⟩ : ∃ Y, (⟨#[5]⟩ : ByteArray) ++ id = Y := ⟨_, rfl⟩
  have zY : Y.size = 1 + id.size := by rw [← hY, ByteArray.size_append]; rfl
  have hc5 := add_any ⟨#[5]⟩ id Y hY (by decide) (by omega)
  have c6 := fun u hu => hnumber_any seed Y (by omega) (by omega) u hu
  have c7 := fun u hu => first7_any seed id (H : Int) (by omega) (by omega) u hu
  have eS : saltB seed id = firB (macB seed X.data.toList) 16 := by unfold saltB; rw [hX]
  rw [← eS] at c5
  have eN : ∀ j : Nat, j ≤ 63 → firstN seed id (j : Int) = macN seed Y.data.toList % 2 ^ j := fun j hj => by
    unfold firstN
    rw [if_pos (by omega), hY, Int.toNat_natCast]
  have hR := macN_bd seed Y.data.toList
  have hH64 : H < 64 := by omega
  rw [eN H (by omega)] at c7
  have hUw : IntKind.u64.wrap k = (U : Int) := by rw [IntKind.wrap_u64]; exact hU
  have hUH : (U : Int).tmod 64 = (H : Int) := by rw [Int.tmod_eq_emod_of_nonneg (by omega)]; omega
  have c8 : ∀ J : Nat, H = J + 1 → ∀ u, Tab u → Calls Tryd.prog 33 #[.string seed, .string id, .int .i64 J] u (Tells (.int .u64 (macN seed Y.data.toList % 2 ^ J)) u.heap.size u) := fun J hJ u hu => by
    have h := first7_any seed id (J : Int) (by omega) (by omega) u hu
    rw [eN J (by omega)] at h
    exact h
  generalize macN seed Y.data.toList = R at *
  generalize saltB seed id = A at *
  generalize padSaltB seed n = B at *
  have zSi : ((A.size : Int) != 16) = false := by rw [zS]; rfl
  have zPi : ((B.size : Int) != 16) = false := by rw [zP]; rfl
  have hP0 := pow_word H (by omega)
  obtain ⟨P, hP⟩ : ∃ P : Int, 2 ^ H = P := ⟨_, rfl⟩
  obtain ⟨N, hN⟩ : ∃ N : Int, R % 2 ^ H = N := ⟨_, rfl⟩
  have hw : IntKind.u64.wrap ((2 : Int) ^ H) = P := by rw [hP, IntKind.wrap_u64]; rw [hP] at hP0; omega
  have hr : R.tmod P = N := by rw [← hP, ← hN]; exact Int.tmod_eq_emod_of_nonneg hR.1
  have hNP : 0 ≤ N ∧ N < P := by rw [← hN, ← hP]; exact ⟨Int.emod_nonneg _ (by omega), Int.emod_lt_of_pos _ hP0.1⟩
  have hNP2 : ¬ (P ≤ N) := by omega
  rw [hP] at hP0
  have hw2 : ¬ P = 0 := by omega
  have hwN : IntKind.u64.wrap N = N := by rw [IntKind.wrap_u64]; omega
  rw [hN] at c7
  have HN := hideIt hN
  clear hN eN eS hX hY zX zY hm zS zP hU hP
  go_enter Tryd.func9, Tryd.ntmps9
  go_upto_region 3 with (first | (go_at_call 35; refine (cA _ hK hT).mono ?_; rintro e w1 ⟨rfl, j1⟩) | fail)
  go_upto_region 6 with fail
  have T1 := hK.call j1
  have U1 := hT.call j1
  clear hUw hUH hH
  go_upto_region 7 with (first
    | (go_at_call 27; refine (c1 _ (by assumption)).mono ?_; rintro e v ⟨rfl, jv⟩; have Lv : Below w.heap.size w v := chain (by assumption) jv; have Tv := hK.call Lv; have Uv := hT.call Lv)
    | (go_at_call 29; refine (c2 _ (by assumption)).mono ?_; rintro e v ⟨rfl, jv⟩; have Lv : Below w.heap.size w v := chain (by assumption) jv; have Tv := hK.call Lv; have Uv := hT.call Lv)
    | fail)
  go_upto_region 9 with (first
    | (go_at_call 37; refine (c5 _ (by assumption)).mono ?_; rintro e v ⟨rfl, jv⟩; have Lv : Below w.heap.size w v := chain (by assumption) jv; have Tv := hK.call Lv; have Uv := hT.call Lv)
    | (go_at_call 31; refine (c3 _ (by assumption)).mono ?_; rintro e v ⟨rfl, jv⟩; have Lv : Below w.heap.size w v := chain (by assumption) jv; have Tv := hK.call Lv; have Uv := hT.call Lv)
    | (go_at_call 17; refine (c4 _ (by assumption)).mono ?_; rintro e v ⟨rfl, jv⟩; have Lv : Below w.heap.size w v := chain (by assumption) jv; have Tv := hK.call Lv; have Uv := hT.call Lv)
    | fail)
  clear c1 c2 c3 c4 c5 hx hc3
  go_upto_region 10 with (first
    | (go_at_call 33; refine (c7 _ (by assumption)).mono ?_; rintro e v ⟨rfl, jv⟩; have Lv : Below w.heap.size w v := chain (by assumption) jv; have Tv := hK.call Lv; have Uv := hT.call Lv)
    | fail)
  by_cases h63 : (H : Int) < 63
  case pos =>
    go_upto_region 12 with (first
      | (go_at_call 38; refine (c6 _ (by assumption)).mono ?_; rintro e v ⟨rfl, jv⟩; have Lv : Below w.heap.size w v := chain (by assumption) jv; have Tv := hK.call Lv; have Uv := hT.call Lv)
      | fail)
    clear hw hr hw2 hwN hP0 hNP2 c6 c7 hc5 zSi zPi cA j1 T1 U1
    rcases Nat.eq_zero_or_pos H with hz | hz
    · have hzb : ((H : Int) == 0) = true := by rw [hz]; rfl
      clear hz HN c8
      go_quiet (fail)
      go_wp2
      go_ret
      exact ⟨rfl, below_drewN Lv _⟩
    · obtain ⟨J, hJ⟩ : ∃ J, H = J + 1 := ⟨H - 1, by omega⟩
      have hzb : ((H : Int) == 0) = false := by simp; omega
      have hJw : IntKind.i64.wrap ((H : Int) - 1) = (J : Int) := by rw [IntKind.wrap_i64]; omega
      have cF := c8 J hJ
      have hP2 := pow_word J (by omega)
      obtain ⟨P2, hP2e⟩ : ∃ P2 : Int, 2 ^ J = P2 := ⟨_, rfl⟩
      have hZ : N % 2 ^ J = R % 2 ^ J := by rw [← HN.out, hJ]; exact low_bits R J
      obtain ⟨Z, hZe⟩ : ∃ Z : Int, R % 2 ^ J = Z := ⟨_, rfl⟩
      rw [hZe] at cF hZ
      have hw : IntKind.u64.wrap ((2 : Int) ^ J) = P2 := by rw [hP2e, IntKind.wrap_u64]; rw [hP2e] at hP2; omega
      have hr : N.tmod P2 = Z := by rw [← hP2e, ← hZ]; exact Int.tmod_eq_emod_of_nonneg hNP.1
      rw [hP2e] at hP2 hZ
      have hw2 : ¬ P2 = 0 := by omega
      have hwZ : IntKind.u64.wrap Z = Z := by
        have e1 : 0 ≤ Z := by rw [← hZ]; exact Int.emod_nonneg _ hw2
        have e2 : Z < P2 := by rw [← hZ]; exact Int.emod_lt_of_pos _ hP2.1
        rw [IntKind.wrap_u64]; omega
      have hJr : (0 : Int) ≤ (J : Int) ∧ (J : Int) < 64 := by omega
      have hJu : IntKind.u64.wrap (J : Int) = (J : Int) := by rw [IntKind.wrap_u64]; omega
      have hJm : min J 64 = J := by omega
      clear hZ hZe hP2e hJ hz HN c8
      have f0 : Below w.heap.size w v.drew := Lv.drew
      have Tw : Tab v.drew := Tv
      refine wp_region_held_drew (S := fun u => Below w.heap.size w u) (by kernel_rfl) f0 (fun hHeld => ?_)
      refine wpAnyH_take (i := 0) (v := ?_) rfl (by kernel_rfl) (by kernel_rfl) (by kernel_rfl) (fun _ _ _ h => h) (Or.inl ⟨by rfl, ?_⟩) (by assumption) ?_
      rotate_left 1
      · intro w hSw; (try dsimp only at hSw); go_simp; try with_reducible rfl
      try simp only [Act.put, List.getElem_toArray, List.getElem_cons_succ, List.getElem_cons_zero, List.setIfInBounds_toArray, List.set_cons_zero, List.set_cons_succ]
      refine wpAnyH_take (i := 1) (v := ?_) rfl (by kernel_rfl) (by kernel_rfl) (by kernel_rfl) (fun _ _ _ h => h) (Or.inl ⟨by rfl, ?_⟩) (by assumption) ?_
      rotate_left 1
      · intro w hSw; (try dsimp only at hSw); go_simp; try with_reducible rfl
      try simp only [Act.put, List.getElem_toArray, List.getElem_cons_succ, List.getElem_cons_zero, List.setIfInBounds_toArray, List.set_cons_zero, List.set_cons_succ]
      refine wpAnyH_take (i := 2) (v := ?_) rfl (by kernel_rfl) (by kernel_rfl) (by kernel_rfl) (fun _ _ _ h => h) (Or.inl ⟨by rfl, ?_⟩) (by assumption) ?_
      rotate_left 1
      · intro w hSw; (try dsimp only at hSw); go_simp; try with_reducible rfl
      try simp only [Act.put, List.getElem_toArray, List.getElem_cons_succ, List.getElem_cons_zero, List.setIfInBounds_toArray, List.set_cons_zero, List.set_cons_succ]
      refine wpAnyH_take (i := 3) (v := ?_) rfl (by kernel_rfl) (by kernel_rfl) (by kernel_rfl) (fun _ _ _ h => h) (Or.inl ⟨by rfl, ?_⟩) (by assumption) ?_
      rotate_left 1
      · intro w hSw; (try dsimp only at hSw); go_simp; try with_reducible rfl
      try simp only [Act.put, List.getElem_toArray, List.getElem_cons_succ, List.getElem_cons_zero, List.setIfInBounds_toArray, List.set_cons_zero, List.set_cons_succ]
      refine wpAnyH_take (i := 4) (v := ?_) rfl (by kernel_rfl) (by kernel_rfl) (by kernel_rfl) (fun _ _ _ h => h) (Or.inl ⟨by rfl, ?_⟩) (by assumption) ?_
      rotate_left 1
      · intro w hSw; (try dsimp only at hSw); go_simp; try with_reducible rfl
      try simp only [Act.put, List.getElem_toArray, List.getElem_cons_succ, List.getElem_cons_zero, List.setIfInBounds_toArray, List.set_cons_zero, List.set_cons_succ]
      refine wpAnyH_take (i := 5) (v := ?_) rfl (by kernel_rfl) (by kernel_rfl) (by kernel_rfl) (fun _ _ _ h => h) (Or.inl ⟨by rfl, ?_⟩) (by assumption) ?_
      rotate_left 1
      · intro w hSw; (try dsimp only at hSw); go_simp; try with_reducible rfl
      try simp only [Act.put, List.getElem_toArray, List.getElem_cons_succ, List.getElem_cons_zero, List.setIfInBounds_toArray, List.set_cons_zero, List.set_cons_succ]
      refine wpAnyH_take (i := 6) (v := ?_) rfl (by kernel_rfl) (by kernel_rfl) (by kernel_rfl) (fun _ _ _ h => h) (Or.inl ⟨by rfl, ?_⟩) (by assumption) ?_
      rotate_left 1
      · intro w hSw; (try dsimp only at hSw); go_simp; try with_reducible rfl
      try simp only [Act.put, List.getElem_toArray, List.getElem_cons_succ, List.getElem_cons_zero, List.setIfInBounds_toArray, List.set_cons_zero, List.set_cons_succ]
      refine wpAnyH_take (i := 8) (v := ?_) rfl (by kernel_rfl) (by kernel_rfl) (by kernel_rfl) (fun _ _ _ h => h) (Or.inl ⟨by rfl, ?_⟩) (by assumption) ?_
      rotate_left 1
      · intro w hSw; (try dsimp only at hSw); go_simp; try with_reducible rfl
      try simp only [Act.put, List.getElem_toArray, List.getElem_cons_succ, List.getElem_cons_zero, List.setIfInBounds_toArray, List.set_cons_zero, List.set_cons_succ]
      refine wpAnyH_take (i := 9) (v := ?_) rfl (by kernel_rfl) (by kernel_rfl) (by kernel_rfl) (fun _ _ _ h => h) (Or.inl ⟨by rfl, ?_⟩) (by assumption) ?_
      rotate_left 1
      · intro w hSw; (try dsimp only at hSw); go_simp; try with_reducible rfl
      try simp only [Act.put, List.getElem_toArray, List.getElem_cons_succ, List.getElem_cons_zero, List.setIfInBounds_toArray, List.set_cons_zero, List.set_cons_succ]
      refine wpAnyH_take (i := 10) (v := ?_) rfl (by kernel_rfl) (by kernel_rfl) (by kernel_rfl) (fun _ _ _ h => h) (Or.inl ⟨by rfl, ?_⟩) (by assumption) ?_
      rotate_left 1
      · intro w hSw; (try dsimp only at hSw); go_simp; try with_reducible rfl
      try simp only [Act.put, List.getElem_toArray, List.getElem_cons_succ, List.getElem_cons_zero, List.setIfInBounds_toArray, List.set_cons_zero, List.set_cons_succ]
      refine wpAnyH_take (i := 11) (v := ?_) rfl (by kernel_rfl) (by kernel_rfl) (by kernel_rfl) (fun _ _ _ h => h) (Or.inl ⟨by rfl, ?_⟩) (by assumption) ?_
      rotate_left 1
      · intro w hSw; (try dsimp only at hSw); go_simp; try with_reducible rfl
      try simp only [Act.put, List.getElem_toArray, List.getElem_cons_succ, List.getElem_cons_zero, List.setIfInBounds_toArray, List.set_cons_zero, List.set_cons_succ]
      refine wpAnyH_take (i := 12) (v := ?_) rfl (by kernel_rfl) (by kernel_rfl) (by kernel_rfl) (fun _ _ _ h => h) (Or.inl ⟨by rfl, ?_⟩) (by assumption) ?_
      rotate_left 1
      · intro w hSw; (try dsimp only at hSw); go_simp; try with_reducible rfl
      try simp only [Act.put, List.getElem_toArray, List.getElem_cons_succ, List.getElem_cons_zero, List.setIfInBounds_toArray, List.set_cons_zero, List.set_cons_succ]
      refine wpAnyH_ready (rs := [7, 13]) (by kernel_rfl) (by simp) (AllReadyH.cons rfl (fun K hK => ?_) (AllReadyH.cons rfl (fun K hK => ?_) AllReadyH.nil))
      · go_simp
        go_at_call 33
        refine (cF v.drew Tw).mono ?_
        rintro e v2 ⟨rfl, jv2⟩
        have F2 : Below w.heap.size w v2 := chain f0 jv2
        try simp only []
        refine hK.out _ _ (F2) (fun hHeld => ?_)
        clear hK K
        try simp only [Act.put, List.getElem_toArray, List.getElem_cons_succ, List.getElem_cons_zero, List.setIfInBounds_toArray, List.set_cons_zero, List.set_cons_succ]
        refine wpAnyH_ready (rs := [13]) (by kernel_rfl) (by simp) (AllReadyH.cons rfl (fun K hK => ?_) AllReadyH.nil)
        go_simp
        refine hK.out _ _ (F2) (fun hHeld => ?_)
        clear hK K
        try simp only [Act.put, List.getElem_toArray, List.getElem_cons_succ, List.getElem_cons_zero, List.setIfInBounds_toArray, List.set_cons_zero, List.set_cons_succ]
        refine wpAnyH_take (i := 14) (v := ?_) rfl (by kernel_rfl) (by kernel_rfl) (by kernel_rfl) (fun _ _ _ h => h) (Or.inl ⟨by rfl, ?_⟩) (by assumption) ?_
        rotate_left 1
        · intro w hSw; (try dsimp only at hSw); go_simp; try with_reducible rfl
        try simp only [Act.put, List.getElem_toArray, List.getElem_cons_succ, List.getElem_cons_zero, List.setIfInBounds_toArray, List.set_cons_zero, List.set_cons_succ]
        refine wpAnyH_take (i := 15) (v := ?_) rfl (by kernel_rfl) (by kernel_rfl) (by kernel_rfl) (fun _ _ _ h => h) (Or.inl ⟨by rfl, ?_⟩) (by assumption) ?_
        rotate_left 1
        · intro w hSw; (try dsimp only at hSw); go_simp; try with_reducible rfl
        try simp only [Act.put, List.getElem_toArray, List.getElem_cons_succ, List.getElem_cons_zero, List.setIfInBounds_toArray, List.set_cons_zero, List.set_cons_succ]
        refine wpAnyH_take (i := 16) (v := ?_) rfl (by kernel_rfl) (by kernel_rfl) (by kernel_rfl) (fun _ _ _ h => h) (Or.inl ⟨by rfl, ?_⟩) (by assumption) ?_
        rotate_left 1
        · intro w hSw; (try dsimp only at hSw); go_simp; try with_reducible rfl
        try simp only [Act.put, List.getElem_toArray, List.getElem_cons_succ, List.getElem_cons_zero, List.setIfInBounds_toArray, List.set_cons_zero, List.set_cons_succ]
        refine wpAnyH_done (by kernel_rfl) ?_ _
        go_wp2
        go_ret
        exact ⟨rfl, F2⟩
      · go_simp
        refine hK.out _ _ (f0) (fun hHeld => ?_)
        clear hK K
        try simp only [Act.put, List.getElem_toArray, List.getElem_cons_succ, List.getElem_cons_zero, List.setIfInBounds_toArray, List.set_cons_zero, List.set_cons_succ]
        refine wpAnyH_ready (rs := [7]) (by kernel_rfl) (by simp) (AllReadyH.cons rfl (fun K hK => ?_) AllReadyH.nil)
        go_simp
        go_at_call 33
        refine (cF v.drew Tw).mono ?_
        rintro e v2 ⟨rfl, jv2⟩
        have F2 : Below w.heap.size w v2 := chain f0 jv2
        try simp only []
        refine hK.out _ _ (F2) (fun hHeld => ?_)
        clear hK K
        try simp only [Act.put, List.getElem_toArray, List.getElem_cons_succ, List.getElem_cons_zero, List.setIfInBounds_toArray, List.set_cons_zero, List.set_cons_succ]
        refine wpAnyH_take (i := 14) (v := ?_) rfl (by kernel_rfl) (by kernel_rfl) (by kernel_rfl) (fun _ _ _ h => h) (Or.inl ⟨by rfl, ?_⟩) (by assumption) ?_
        rotate_left 1
        · intro w hSw; (try dsimp only at hSw); go_simp; try with_reducible rfl
        try simp only [Act.put, List.getElem_toArray, List.getElem_cons_succ, List.getElem_cons_zero, List.setIfInBounds_toArray, List.set_cons_zero, List.set_cons_succ]
        refine wpAnyH_take (i := 15) (v := ?_) rfl (by kernel_rfl) (by kernel_rfl) (by kernel_rfl) (fun _ _ _ h => h) (Or.inl ⟨by rfl, ?_⟩) (by assumption) ?_
        rotate_left 1
        · intro w hSw; (try dsimp only at hSw); go_simp; try with_reducible rfl
        try simp only [Act.put, List.getElem_toArray, List.getElem_cons_succ, List.getElem_cons_zero, List.setIfInBounds_toArray, List.set_cons_zero, List.set_cons_succ]
        refine wpAnyH_take (i := 16) (v := ?_) rfl (by kernel_rfl) (by kernel_rfl) (by kernel_rfl) (fun _ _ _ h => h) (Or.inl ⟨by rfl, ?_⟩) (by assumption) ?_
        rotate_left 1
        · intro w hSw; (try dsimp only at hSw); go_simp; try with_reducible rfl
        try simp only [Act.put, List.getElem_toArray, List.getElem_cons_succ, List.getElem_cons_zero, List.setIfInBounds_toArray, List.set_cons_zero, List.set_cons_succ]
        refine wpAnyH_done (by kernel_rfl) ?_ _
        go_wp2
        go_ret
        exact ⟨rfl, F2⟩
  case neg =>
    go_upto_region 12 with (first
      | (go_at_call 38; refine (c6 _ (by assumption)).mono ?_; rintro e v ⟨rfl, jv⟩; have Lv : Below w.heap.size w v := chain (by assumption) jv; have Tv := hK.call Lv; have Uv := hT.call Lv)
      | fail)
    clear hw hr hw2 hwN hP0 hNP2 c6 c7 hc5 zSi zPi cA j1 T1 U1
    rcases Nat.eq_zero_or_pos H with hz | hz
    · have hzb : ((H : Int) == 0) = true := by rw [hz]; rfl
      clear hz HN c8
      go_quiet (fail)
      go_wp2
      go_ret
      exact ⟨rfl, below_drewN Lv _⟩
    · obtain ⟨J, hJ⟩ : ∃ J, H = J + 1 := ⟨H - 1, by omega⟩
      have hzb : ((H : Int) == 0) = false := by simp; omega
      have hJw : IntKind.i64.wrap ((H : Int) - 1) = (J : Int) := by rw [IntKind.wrap_i64]; omega
      have cF := c8 J hJ
      have hP2 := pow_word J (by omega)
      obtain ⟨P2, hP2e⟩ : ∃ P2 : Int, 2 ^ J = P2 := ⟨_, rfl⟩
      have hZ : N % 2 ^ J = R % 2 ^ J := by rw [← HN.out, hJ]; exact low_bits R J
      obtain ⟨Z, hZe⟩ : ∃ Z : Int, R % 2 ^ J = Z := ⟨_, rfl⟩
      rw [hZe] at cF hZ
      have hw : IntKind.u64.wrap ((2 : Int) ^ J) = P2 := by rw [hP2e, IntKind.wrap_u64]; rw [hP2e] at hP2; omega
      have hr : N.tmod P2 = Z := by rw [← hP2e, ← hZ]; exact Int.tmod_eq_emod_of_nonneg hNP.1
      rw [hP2e] at hP2 hZ
      have hw2 : ¬ P2 = 0 := by omega
      have hwZ : IntKind.u64.wrap Z = Z := by
        have e1 : 0 ≤ Z := by rw [← hZ]; exact Int.emod_nonneg _ hw2
        have e2 : Z < P2 := by rw [← hZ]; exact Int.emod_lt_of_pos _ hP2.1
        rw [IntKind.wrap_u64]; omega
      have hJr : (0 : Int) ≤ (J : Int) ∧ (J : Int) < 64 := by omega
      have hJu : IntKind.u64.wrap (J : Int) = (J : Int) := by rw [IntKind.wrap_u64]; omega
      have hJm : min J 64 = J := by omega
      clear hZ hZe hP2e hJ hz HN c8
      have f0 : Below w.heap.size w v.drew := Lv.drew
      have Tw : Tab v.drew := Tv
      refine wp_region_held_drew (S := fun u => Below w.heap.size w u) (by kernel_rfl) f0 (fun hHeld => ?_)
      refine wpAnyH_take (i := 0) (v := ?_) rfl (by kernel_rfl) (by kernel_rfl) (by kernel_rfl) (fun _ _ _ h => h) (Or.inl ⟨by rfl, ?_⟩) (by assumption) ?_
      rotate_left 1
      · intro w hSw; (try dsimp only at hSw); go_simp; try with_reducible rfl
      try simp only [Act.put, List.getElem_toArray, List.getElem_cons_succ, List.getElem_cons_zero, List.setIfInBounds_toArray, List.set_cons_zero, List.set_cons_succ]
      refine wpAnyH_take (i := 1) (v := ?_) rfl (by kernel_rfl) (by kernel_rfl) (by kernel_rfl) (fun _ _ _ h => h) (Or.inl ⟨by rfl, ?_⟩) (by assumption) ?_
      rotate_left 1
      · intro w hSw; (try dsimp only at hSw); go_simp; try with_reducible rfl
      try simp only [Act.put, List.getElem_toArray, List.getElem_cons_succ, List.getElem_cons_zero, List.setIfInBounds_toArray, List.set_cons_zero, List.set_cons_succ]
      refine wpAnyH_take (i := 2) (v := ?_) rfl (by kernel_rfl) (by kernel_rfl) (by kernel_rfl) (fun _ _ _ h => h) (Or.inl ⟨by rfl, ?_⟩) (by assumption) ?_
      rotate_left 1
      · intro w hSw; (try dsimp only at hSw); go_simp; try with_reducible rfl
      try simp only [Act.put, List.getElem_toArray, List.getElem_cons_succ, List.getElem_cons_zero, List.setIfInBounds_toArray, List.set_cons_zero, List.set_cons_succ]
      refine wpAnyH_take (i := 3) (v := ?_) rfl (by kernel_rfl) (by kernel_rfl) (by kernel_rfl) (fun _ _ _ h => h) (Or.inl ⟨by rfl, ?_⟩) (by assumption) ?_
      rotate_left 1
      · intro w hSw; (try dsimp only at hSw); go_simp; try with_reducible rfl
      try simp only [Act.put, List.getElem_toArray, List.getElem_cons_succ, List.getElem_cons_zero, List.setIfInBounds_toArray, List.set_cons_zero, List.set_cons_succ]
      refine wpAnyH_take (i := 4) (v := ?_) rfl (by kernel_rfl) (by kernel_rfl) (by kernel_rfl) (fun _ _ _ h => h) (Or.inl ⟨by rfl, ?_⟩) (by assumption) ?_
      rotate_left 1
      · intro w hSw; (try dsimp only at hSw); go_simp; try with_reducible rfl
      try simp only [Act.put, List.getElem_toArray, List.getElem_cons_succ, List.getElem_cons_zero, List.setIfInBounds_toArray, List.set_cons_zero, List.set_cons_succ]
      refine wpAnyH_take (i := 5) (v := ?_) rfl (by kernel_rfl) (by kernel_rfl) (by kernel_rfl) (fun _ _ _ h => h) (Or.inl ⟨by rfl, ?_⟩) (by assumption) ?_
      rotate_left 1
      · intro w hSw; (try dsimp only at hSw); go_simp; try with_reducible rfl
      try simp only [Act.put, List.getElem_toArray, List.getElem_cons_succ, List.getElem_cons_zero, List.setIfInBounds_toArray, List.set_cons_zero, List.set_cons_succ]
      refine wpAnyH_take (i := 6) (v := ?_) rfl (by kernel_rfl) (by kernel_rfl) (by kernel_rfl) (fun _ _ _ h => h) (Or.inl ⟨by rfl, ?_⟩) (by assumption) ?_
      rotate_left 1
      · intro w hSw; (try dsimp only at hSw); go_simp; try with_reducible rfl
      try simp only [Act.put, List.getElem_toArray, List.getElem_cons_succ, List.getElem_cons_zero, List.setIfInBounds_toArray, List.set_cons_zero, List.set_cons_succ]
      refine wpAnyH_take (i := 8) (v := ?_) rfl (by kernel_rfl) (by kernel_rfl) (by kernel_rfl) (fun _ _ _ h => h) (Or.inl ⟨by rfl, ?_⟩) (by assumption) ?_
      rotate_left 1
      · intro w hSw; (try dsimp only at hSw); go_simp; try with_reducible rfl
      try simp only [Act.put, List.getElem_toArray, List.getElem_cons_succ, List.getElem_cons_zero, List.setIfInBounds_toArray, List.set_cons_zero, List.set_cons_succ]
      refine wpAnyH_take (i := 9) (v := ?_) rfl (by kernel_rfl) (by kernel_rfl) (by kernel_rfl) (fun _ _ _ h => h) (Or.inl ⟨by rfl, ?_⟩) (by assumption) ?_
      rotate_left 1
      · intro w hSw; (try dsimp only at hSw); go_simp; try with_reducible rfl
      try simp only [Act.put, List.getElem_toArray, List.getElem_cons_succ, List.getElem_cons_zero, List.setIfInBounds_toArray, List.set_cons_zero, List.set_cons_succ]
      refine wpAnyH_take (i := 10) (v := ?_) rfl (by kernel_rfl) (by kernel_rfl) (by kernel_rfl) (fun _ _ _ h => h) (Or.inl ⟨by rfl, ?_⟩) (by assumption) ?_
      rotate_left 1
      · intro w hSw; (try dsimp only at hSw); go_simp; try with_reducible rfl
      try simp only [Act.put, List.getElem_toArray, List.getElem_cons_succ, List.getElem_cons_zero, List.setIfInBounds_toArray, List.set_cons_zero, List.set_cons_succ]
      refine wpAnyH_take (i := 11) (v := ?_) rfl (by kernel_rfl) (by kernel_rfl) (by kernel_rfl) (fun _ _ _ h => h) (Or.inl ⟨by rfl, ?_⟩) (by assumption) ?_
      rotate_left 1
      · intro w hSw; (try dsimp only at hSw); go_simp; try with_reducible rfl
      try simp only [Act.put, List.getElem_toArray, List.getElem_cons_succ, List.getElem_cons_zero, List.setIfInBounds_toArray, List.set_cons_zero, List.set_cons_succ]
      refine wpAnyH_take (i := 12) (v := ?_) rfl (by kernel_rfl) (by kernel_rfl) (by kernel_rfl) (fun _ _ _ h => h) (Or.inl ⟨by rfl, ?_⟩) (by assumption) ?_
      rotate_left 1
      · intro w hSw; (try dsimp only at hSw); go_simp; try with_reducible rfl
      try simp only [Act.put, List.getElem_toArray, List.getElem_cons_succ, List.getElem_cons_zero, List.setIfInBounds_toArray, List.set_cons_zero, List.set_cons_succ]
      refine wpAnyH_ready (rs := [7, 13]) (by kernel_rfl) (by simp) (AllReadyH.cons rfl (fun K hK => ?_) (AllReadyH.cons rfl (fun K hK => ?_) AllReadyH.nil))
      · go_simp
        go_at_call 33
        refine (cF v.drew Tw).mono ?_
        rintro e v2 ⟨rfl, jv2⟩
        have F2 : Below w.heap.size w v2 := chain f0 jv2
        try simp only []
        refine hK.out _ _ (F2) (fun hHeld => ?_)
        clear hK K
        try simp only [Act.put, List.getElem_toArray, List.getElem_cons_succ, List.getElem_cons_zero, List.setIfInBounds_toArray, List.set_cons_zero, List.set_cons_succ]
        refine wpAnyH_ready (rs := [13]) (by kernel_rfl) (by simp) (AllReadyH.cons rfl (fun K hK => ?_) AllReadyH.nil)
        go_simp
        refine hK.out _ _ (F2) (fun hHeld => ?_)
        clear hK K
        try simp only [Act.put, List.getElem_toArray, List.getElem_cons_succ, List.getElem_cons_zero, List.setIfInBounds_toArray, List.set_cons_zero, List.set_cons_succ]
        refine wpAnyH_take (i := 14) (v := ?_) rfl (by kernel_rfl) (by kernel_rfl) (by kernel_rfl) (fun _ _ _ h => h) (Or.inl ⟨by rfl, ?_⟩) (by assumption) ?_
        rotate_left 1
        · intro w hSw; (try dsimp only at hSw); go_simp; try with_reducible rfl
        try simp only [Act.put, List.getElem_toArray, List.getElem_cons_succ, List.getElem_cons_zero, List.setIfInBounds_toArray, List.set_cons_zero, List.set_cons_succ]
        refine wpAnyH_take (i := 15) (v := ?_) rfl (by kernel_rfl) (by kernel_rfl) (by kernel_rfl) (fun _ _ _ h => h) (Or.inl ⟨by rfl, ?_⟩) (by assumption) ?_
        rotate_left 1
        · intro w hSw; (try dsimp only at hSw); go_simp; try with_reducible rfl
        try simp only [Act.put, List.getElem_toArray, List.getElem_cons_succ, List.getElem_cons_zero, List.setIfInBounds_toArray, List.set_cons_zero, List.set_cons_succ]
        refine wpAnyH_take (i := 16) (v := ?_) rfl (by kernel_rfl) (by kernel_rfl) (by kernel_rfl) (fun _ _ _ h => h) (Or.inl ⟨by rfl, ?_⟩) (by assumption) ?_
        rotate_left 1
        · intro w hSw; (try dsimp only at hSw); go_simp; try with_reducible rfl
        try simp only [Act.put, List.getElem_toArray, List.getElem_cons_succ, List.getElem_cons_zero, List.setIfInBounds_toArray, List.set_cons_zero, List.set_cons_succ]
        refine wpAnyH_done (by kernel_rfl) ?_ _
        go_wp2
        go_ret
        exact ⟨rfl, F2⟩
      · go_simp
        refine hK.out _ _ (f0) (fun hHeld => ?_)
        clear hK K
        try simp only [Act.put, List.getElem_toArray, List.getElem_cons_succ, List.getElem_cons_zero, List.setIfInBounds_toArray, List.set_cons_zero, List.set_cons_succ]
        refine wpAnyH_ready (rs := [7]) (by kernel_rfl) (by simp) (AllReadyH.cons rfl (fun K hK => ?_) AllReadyH.nil)
        go_simp
        go_at_call 33
        refine (cF v.drew Tw).mono ?_
        rintro e v2 ⟨rfl, jv2⟩
        have F2 : Below w.heap.size w v2 := chain f0 jv2
        try simp only []
        refine hK.out _ _ (F2) (fun hHeld => ?_)
        clear hK K
        try simp only [Act.put, List.getElem_toArray, List.getElem_cons_succ, List.getElem_cons_zero, List.setIfInBounds_toArray, List.set_cons_zero, List.set_cons_succ]
        refine wpAnyH_take (i := 14) (v := ?_) rfl (by kernel_rfl) (by kernel_rfl) (by kernel_rfl) (fun _ _ _ h => h) (Or.inl ⟨by rfl, ?_⟩) (by assumption) ?_
        rotate_left 1
        · intro w hSw; (try dsimp only at hSw); go_simp; try with_reducible rfl
        try simp only [Act.put, List.getElem_toArray, List.getElem_cons_succ, List.getElem_cons_zero, List.setIfInBounds_toArray, List.set_cons_zero, List.set_cons_succ]
        refine wpAnyH_take (i := 15) (v := ?_) rfl (by kernel_rfl) (by kernel_rfl) (by kernel_rfl) (fun _ _ _ h => h) (Or.inl ⟨by rfl, ?_⟩) (by assumption) ?_
        rotate_left 1
        · intro w hSw; (try dsimp only at hSw); go_simp; try with_reducible rfl
        try simp only [Act.put, List.getElem_toArray, List.getElem_cons_succ, List.getElem_cons_zero, List.setIfInBounds_toArray, List.set_cons_zero, List.set_cons_succ]
        refine wpAnyH_take (i := 16) (v := ?_) rfl (by kernel_rfl) (by kernel_rfl) (by kernel_rfl) (fun _ _ _ h => h) (Or.inl ⟨by rfl, ?_⟩) (by assumption) ?_
        rotate_left 1
        · intro w hSw; (try dsimp only at hSw); go_simp; try with_reducible rfl
        try simp only [Act.put, List.getElem_toArray, List.getElem_cons_succ, List.getElem_cons_zero, List.setIfInBounds_toArray, List.set_cons_zero, List.set_cons_succ]
        refine wpAnyH_done (by kernel_rfl) ?_ _
        go_wp2
        go_ret
        exact ⟨rfl, F2⟩

theorem tagSeeds_core (H : Type) (enc : TypeId × Value → H) (W : World) (base : Nat) (args : Array Value) (ds gs : List (DataW H)) (before : List MemPlace)
    (hval : ∀ (j : Nat) t v, Tryd.f9.params[j]? = some t → args[j]? = some v → Value.okWide Tryd.prog W .any base t v)
    (hW : DataW.Whole enc Tryd.prog Tryd.f9.params.toList Rows.tagSeedsSpec.vars false W args.toList ds gs before) (hT : Tab W ∧ TabU W) :
    gs = [] ∧ ds.length = 4 ∧ Calls Tryd.prog 9 args W (Tells (.bool true) W.heap.size W) := by
  obtain ⟨p, q, hA, hV, -, -, -⟩ := hW
  obtain ⟨rfl, rfl⟩ := trodVars_none hV
  have hA : DataW.TrodAll enc Tryd.prog W 0 (fun _ => true) true Tryd.f9.params.toList args.toList ds p := hA
  rw [Tryd.params9] at hA hval
  obtain ⟨v0, vs0, d0, ds0, p0, ps0, e0, rfl, -, h0, hA⟩ := trodAll_cons hA
  obtain ⟨v1, vs1, d1, ds1, p1, ps1, rfl, rfl, -, h1, hA⟩ := trodAll_cons hA
  obtain ⟨v2, vs2, d2, ds2, p2, ps2, rfl, rfl, -, h2, hA⟩ := trodAll_cons hA
  obtain ⟨v3, vs3, d3, ds3, p3, ps3, rfl, rfl, -, h3, hA⟩ := trodAll_cons hA
  obtain ⟨rfl, rfl, rfl⟩ := trodAll_nil hA
  obtain rfl : args = #[v0, v1, v2, v3] := Array.ext' e0
  obtain ⟨seed, rfl, rfl, rfl, z1⟩ := Go.ChangeMaps.open_string Tryd.underlying9 (hval 0 9 v0 rfl rfl) h0
  obtain ⟨id, rfl, rfl, rfl, z2⟩ := Go.ChangeMaps.open_string Tryd.underlying9 (hval 1 9 v1 rfl rfl) h1
  obtain ⟨n, rfl, -, -, bn⟩ := open_int Tryd.underlying22 (hval 2 22 v2 rfl rfl) h2
  obtain ⟨k, rfl, -, -, bk⟩ := open_int Tryd.underlying3 (hval 3 3 v3 rfl rfl) h3
  have hn := word_of (x := n) (by simpa using bn)
  refine ⟨rfl, rfl, ?_⟩
  by_cases h : 300 < seed.size ∨ 300 < id.size
  · exact seeds_long seed id n k h z1 z2 W hT.1 hT.2
  · obtain ⟨U, hU⟩ := Int.eq_ofNat_of_zero_le (Int.emod_nonneg k (by decide : (18446744073709551616 : Int) ≠ 0))
    exact seeds_short seed id n k U (U % 64) hU rfl hn (by omega) (by omega) W hT.1 hT.2

set_option maxRecDepth 100000 in
theorem tagSeeds_lifted (os : Os) (started : os.Started) (H : Type) (enc : TypeId × Value → H) :
    ReturnsInHanded {} Tryd.checked os 9 .any (fun w args => (Rows.tagSeedsSpec.pre enc Tryd.prog Tryd.f9 [] false w args ∧ laidMetH Tryd.prog laidA w) ∧ sizedMet enc Tryd.prog Tryd.f9 (OpenSpec.ofChange Rows.tagSeedsSpec) false w args)
      (Rows.tagSeedsSpec.post enc Tryd.prog Tryd.f9 false true false false) := by
  refine returnsInHanded_of_change_and (C := Tryd.checked) (X := fun w _ => laidMetH Tryd.prog laidA w) (fun _ _ _ hh h => h.of_heap hh) own_knob started (by kernel_rfl) Tryd.func9
    (ChangeSpec.witness_shaped (enc := enc) (C := Tryd.checked) (os := os) (X := fun w _ => laidMetH Tryd.prog laidA w) false (World.laidAll Tryd.prog os laidA) #[.string ⟨#[]⟩, .string ⟨#[]⟩, .int .u64 0, .int .i64 0] 8 (World.laidAll_os _ _ _) (World.shaped_of_ZipB (by kernel_rfl) (by kernel_rfl)) (by kernel_rfl) (by kernel_rfl) (by kernel_rfl) (met_A os _)) ?_
  intro W base args ds gs before hval0 hW _ hwt hL _
  have hval : ∀ (j : Nat) t v, Tryd.f9.params[j]? = some t → args[j]? = some v → Value.okWide Tryd.prog W .any base t v := hval0
  obtain ⟨hg, hlen, hc⟩ := tagSeeds_core H enc W base args ds gs before hval hW (tab_of_laidA hL)
  subst hg
  have hr : (Tryd.f9.params.toList.all fun t => Tryd.prog.readableRec t && decide (t < Tryd.prog.types.size)) = true := by kernel_rfl
  have hread : ∀ t ∈ Tryd.f9.params.toList, Tryd.prog.readableRec t = true ∧ t < Tryd.prog.types.size := fun t ht => by
    have h := List.all_eq_true.1 hr t ht
    rw [Bool.and_eq_true, decide_eq_true_eq] at h
    exact h
  refine hc.mono fun e W' ⟨he, hb⟩ => ?_
  subst he
  match ds, hlen with
  | [d0, d1, d2, d3], _ => exact ⟨_, rfl, law_post laid_out Tryd.underlying4 rfl hread rfl hW rfl rfl rfl hb⟩

theorem tagSeeds_holds : Rows.TagSeedsSaid :=
  OpenClaim.holds_of_wide 9 Tryd.f9 rfl rfl rfl rfl rfl rfl rfl ⟨rfl, rfl, rfl, rfl, rfl⟩ rfl rfl rfl rfl rfl (by kernel_rfl) Tryd.func9 (by kernel_rfl)
    (of_decide_eq_true (by kernel_rfl)) (by unfold Func.isWrapper; first | (rw [if_pos (by decide +kernel)]; kernel_rfl) | (rw [if_neg (by decide +kernel)]; exact ⟨rfl, rfl⟩))
    (fun os started H enc _ => tagSeeds_lifted os started H enc)

theorem tagSeeds_card : Rows.TagSeedsCardSaid :=
  Claim7.holds_tied_plain_at .later [] [.data, .data, .pinned] true _ false
    tagSeeds_holds (fun _ h => by cases h) (by kernel_rfl) (fun _ h => by cases h) tagSeeds_row_tie rfl ⟨rfl, rfl⟩ (by kernel_rfl) rfl
    (fun f fn hf hfn => by
      obtain rfl : f = 9 := Option.some.inj ((show Tryd.prog.funcNamed "paymaster/paymasterlaw07.TagSeeds" = some 9 by kernel_rfl).symm.trans hf) |>.symm
      obtain rfl : fn = Tryd.f9 := (Option.some.inj (Tryd.func9.symm.trans hfn)).symm
      exact ⟨by kernel_rfl, fun j t ht => by
        have hm : t ∈ Tryd.f9.params.toList := by simpa using Array.mem_of_getElem? ht
        have hall : (Tryd.f9.params.toList.all fun u => !Tryd.prog.wantsStandIn u) = true := by kernel_rfl
        exact (show Tryd.prog.wantsStandIn t = false by simpa using List.all_eq_true.1 hall t hm)⟩)
    (by kernel_rfl)

end Go.Proofs.YtkmnfogcocppjaaDoor
