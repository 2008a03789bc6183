/-
  The law HmacKeys: of a key, and that with noughts behind up to 64 bytes, macs are the same; and of a longer one, and its digest; a key's block has 64 bytes, and is its own.
  Conditions: block's table of constants holds what the program's text lays (tied by the card).
-/
import Derived.Test.YtnlkhabaidncgaaDoorU6Awake
import Derived.Test.YtnlkhabaidncgaaDoorW4Laid
namespace Go.Proofs.YtnlkhabaidncgaaDoor
set_option linter.unusedVariables false
set_option linter.unusedSimpArgs false
open Go.ChangeShapes Go.WideShapes Go.ChangeAt Go.RowKit

theorem byte_of {x : Int} (h : (Lit.int .u8 x).wf = true) : 0 ≤ x ∧ x < 256 := by
  simp [Lit.wf, IntKind.min, IntKind.max, IntKind.signed, IntKind.bits] at h
  omega
theorem mac_by_block (a b : ByteArray) (h : kblk a = kblk b) (t : List UInt8) : macB a t = macB b t := by
  unfold macB innB maskB
  rw [h]
theorem keyB_short (k : ByteArray) (h : k.size ≤ 64) : keyB k = k := by unfold keyB; rw [if_neg (by omega)]
theorem kblk_own (k : ByteArray) : kblk (kblk k) = kblk k := by
  have h := kblk_size k
  have e : kblkI (kblk k) = kblkI k := by
    rw [kblkI, keyB_short _ (by omega), h, nums_kblk]
    simp
  unfold kblk at e ⊢
  rw [e]
theorem kblk_dig (k : ByteArray) (h : 64 < k.size) : kblk (digB k.data.toList) = kblk k := by
  have e1 : keyB k = digB k.data.toList := by unfold keyB; rw [if_pos h]
  have e2 : keyB (digB k.data.toList) = digB k.data.toList := keyB_short _ (by rw [digB_size]; decide)
  unfold kblk kblkI
  rw [e1, e2]
theorem kblk_begin (k : ByteArray) : (kblk k).extract 0 (keyB k).size = keyB k := by
  apply ByteArray.ext
  apply Array.ext'
  rw [ByteArray.data_extract, Array.toList_extract, List.extract_eq_take_drop, List.drop_zero, Nat.sub_zero]
  have e : (kblk k).data.toList = (keyB k).data.toList ++ (List.replicate (64 - (keyB k).size) (0 : Int)).map (fun n => UInt8.ofNat n.toNat) := by
    have h1 : (kblk k).data.toList = (kblkI k).map fun n => UInt8.ofNat n.toNat := rfl
    have h2 : (keyB k).data.toList = (nums (keyB k)).map fun n => UInt8.ofNat n.toNat := by
      have := congrArg (fun b : ByteArray => b.data.toList) (str_nums (keyB k))
      exact this.symm
    rw [h1, h2, kblkI, List.map_append]
  rw [e, List.take_append_of_le_length (by simp)]
  apply List.take_of_length_le
  simp
/-- A key, and noughts behind. -/
def padK (k : ByteArray) (j : Nat) : ByteArray := strOfNums (nums k ++ List.replicate j 0)
theorem padK_zero (k : ByteArray) : padK k 0 = k := by unfold padK; rw [List.replicate_zero, List.append_nil, str_nums]
theorem padK_size (k : ByteArray) (j : Nat) : (padK k j).size = k.size + j := by unfold padK; rw [strOfNums_size, List.length_append, nums_len, List.length_replicate]
theorem padK_succ (k : ByteArray) (j : Nat) : padK k (j + 1) = padK k j ++ ⟨#[0]⟩ := by
  apply ByteArray.ext
  apply Array.ext'
  rw [ByteArray.data_append, Array.toList_append]
  show ((nums k ++ List.replicate (j + 1) 0).map fun n : Int => UInt8.ofNat n.toNat) = ((nums k ++ List.replicate j 0).map fun n : Int => UInt8.ofNat n.toNat) ++ [0]
  rw [List.replicate_succ', ← List.append_assoc, List.map_append]
  rfl
theorem padK_nums (k : ByteArray) (j : Nat) : nums (padK k j) = nums k ++ List.replicate j 0 := nums_str _ (fun x hx => by
  rcases List.mem_append.1 hx with h | h
  · exact nums_bd _ x h
  · rw [List.eq_of_mem_replicate h]; decide)
theorem kblk_pad (k : ByteArray) (j : Nat) (h : k.size + j ≤ 64) : kblk (padK k j) = kblk k := by
  have hs := padK_size k j
  have e : kblkI (padK k j) = kblkI k := by
    unfold kblkI
    rw [keyB_short _ (by omega), keyB_short k (by omega), hs, padK_nums, List.append_assoc, List.replicate_append_replicate, show j + (64 - (k.size + j)) = 64 - k.size by omega]
  unfold kblk
  rw [e]

set_option maxHeartbeats 1000000 in
theorem keys_long (key text : ByteArray) (b : Int) (h : 1000 < key.size ∨ 1000 < text.size) (hk : key.size ≤ 9223372036854775807) (ht : text.size ≤ 9223372036854775807) (w : World) (hT : Tab w) :
    Calls Tryd.prog 7 #[.string key, .string text, .int .u8 b] w (Tells (.bool true) w.heap.size w) := by
  have cA := awake6_any w hT
  by_cases h1 : (1000 : Int) < (key.size : Int)
  · go_enter Tryd.func7, Tryd.ntmps7
    go_wp2_with (first | (go_at_call 24; refine cA.mono ?_; rintro e w1 ⟨rfl, b1⟩))
    go_ret
    exact ⟨rfl, b1⟩
  · have h2 : (1000 : Int) < (text.size : Int) := by omega
    go_enter Tryd.func7, Tryd.ntmps7
    go_wp2_with (first | (go_at_call 24; refine cA.mono ?_; rintro e w1 ⟨rfl, b1⟩))
    go_ret
    exact ⟨rfl, b1⟩

set_option maxRecDepth 100000 in
set_option maxHeartbeats 4000000 in
theorem keys_great (key text : ByteArray) (b : Int) (h64 : 64 < key.size) (hk : key.size ≤ 1000) (ht : text.size ≤ 1000) (w : World) (hT : Tab w) :
    Calls Tryd.prog 7 #[.string key, .string text, .int .u8 b] w (Tells (.bool true) w.heap.size w) := by
  have cA := awake6_any w hT
  have h1 : ¬ ((1000 : Int) < (key.size : Int)) := by omega
  have h2 : ¬ ((1000 : Int) < (text.size : Int)) := by omega
  have h3 : (64 : Int) < (key.size : Int) := by omega
  have cB := fun u hu => hblock_any key (by omega) u hu
  have cS := fun u hu => hsum_any key text (by omega) (by omega) u hu
  have zB := kblk_size key
  have cB2 := fun u hu => hblock_any (kblk key) (by omega) u hu
  have cS2 := fun u hu => hsum_any (kblk key) text (by omega) (by omega) u hu
  rw [kblk_own] at cB2
  rw [mac_by_block _ _ (kblk_own key)] at cS2
  have cD := fun u hu => sum_any key (by omega) u hu
  have cS3 := fun u hu => hsum_any (digB key.data.toList) text (by rw [digB_size]; decide) (by omega) u hu
  rw [mac_by_block _ _ (kblk_dig key h64)] at cS3
  have hx := kblk_begin key
  rw [show keyB key = digB key.data.toList by unfold keyB; rw [if_pos h64], digB_size] at hx
  generalize macB key text.data.toList = R at *
  generalize kblk key = B at *
  generalize digB key.data.toList = D at *
  go_enter Tryd.func7, Tryd.ntmps7
  go_upto_region 10 with (first
    | (go_at_call 24; refine cA.mono ?_; rintro e w1 ⟨rfl, b1⟩; have t1 := hT.call b1)
    | (go_at_call_of 12 (Value.string key); refine (cB _ t1).mono ?_; rintro e w2 ⟨rfl, b2⟩; have t2 := t1.call b2)
    | (go_at_call_of 11 (Value.string key); refine (cS _ t2).mono ?_; rintro e w3 ⟨rfl, b3⟩; have t3 := t2.call b3)
    | (go_at_call_of 12 (Value.string B); refine (cB2 _ t3).mono ?_; rintro e w4 ⟨rfl, b4⟩; have t4 := t3.call b4)
    | (go_at_call_of 11 (Value.string B); refine (cS2 _ t4).mono ?_; rintro e w5 ⟨rfl, b5⟩; have t5 := t4.call b5))
  have L5 : Below w.heap.size w w5 := chain (chain (chain (chain b1 b2) b3) b4) b5
  clear cA cB cS cB2 cS2 b1 b2 b3 b4 b5 t1 t2 t3 t4
  have f0 : Below w.heap.size w w5.drew ∧ Tab w5.drew := ⟨L5.drew, t5⟩
  have keep : ∀ u u', (Below w.heap.size w u ∧ Tab u) → Below u.heap.size u u' → Below w.heap.size w u' ∧ Tab u' := fun u u' h hb => ⟨chain h.1 hb, h.2.call hb⟩
  refine wp_region_held_drew (S := fun u => Below w.heap.size w u ∧ Tab u) (by kernel_rfl) f0 (fun hHeld => ?_)
  refine wpAnyH_take (i := 0) (v := ?_) rfl (by kernel_rfl) (by kernel_rfl) (by kernel_rfl) (fun _ _ _ h => h) (Or.inl ⟨by rfl, ?_⟩) (by assumption) ?_
  rotate_left 1
  · intro w hSw; (try dsimp only at hSw); go_simp; try with_reducible rfl
  try simp only [Act.put, List.getElem_toArray, List.getElem_cons_succ, List.getElem_cons_zero, List.setIfInBounds_toArray, List.set_cons_zero, List.set_cons_succ]
  refine wpAnyH_take (i := 2) (v := ?_) rfl (by kernel_rfl) (by kernel_rfl) (by kernel_rfl) (fun _ _ _ h => h) (Or.inl ⟨by rfl, ?_⟩) (by assumption) ?_
  rotate_left 1
  · intro w hSw; (try dsimp only at hSw); go_simp; try with_reducible rfl
  try simp only [Act.put, List.getElem_toArray, List.getElem_cons_succ, List.getElem_cons_zero, List.setIfInBounds_toArray, List.set_cons_zero, List.set_cons_succ]
  refine wpAnyH_take (i := 4) (v := ?_) rfl (by kernel_rfl) (by kernel_rfl) (by kernel_rfl) (fun _ _ _ h => h) (Or.inl ⟨by rfl, ?_⟩) (by assumption) ?_
  rotate_left 1
  · intro w hSw; (try dsimp only at hSw); go_simp; try with_reducible rfl
  try simp only [Act.put, List.getElem_toArray, List.getElem_cons_succ, List.getElem_cons_zero, List.setIfInBounds_toArray, List.set_cons_zero, List.set_cons_succ]
  refine wpAnyH_ready (rs := [1]) (by kernel_rfl) (by simp) (AllReadyH.cons rfl (fun K hK => ?_) AllReadyH.nil)
  go_simp
  go_at_call 25
  refine (cD _ f0.2).mono ?_
  rintro e w6 ⟨rfl, b6⟩
  have F6 := keep _ _ f0 b6
  try simp only []
  refine hK.out _ _ (F6) (fun hHeld => ?_)
  clear hK K
  try simp only [Act.put, List.getElem_toArray, List.getElem_cons_succ, List.getElem_cons_zero, List.setIfInBounds_toArray, List.set_cons_zero, List.set_cons_succ]
  refine wpAnyH_ready (rs := [3]) (by kernel_rfl) (by simp) (AllReadyH.cons rfl (fun K hK => ?_) AllReadyH.nil)
  go_simp
  go_at_call 11
  refine (cS3 _ F6.2).mono ?_
  rintro e w7 ⟨rfl, b7⟩
  have F7 := keep _ _ F6 b7
  try simp only []
  refine hK.out _ _ (F7) (fun hHeld => ?_)
  clear hK K
  try simp only [Act.put, List.getElem_toArray, List.getElem_cons_succ, List.getElem_cons_zero, List.setIfInBounds_toArray, List.set_cons_zero, List.set_cons_succ]
  refine wpAnyH_take (i := 5) (v := ?_) rfl (by kernel_rfl) (by kernel_rfl) (by kernel_rfl) (fun _ _ _ h => h) (Or.inl ⟨by rfl, ?_⟩) (by assumption) ?_
  rotate_left 1
  · intro w hSw; (try dsimp only at hSw); go_simp; try with_reducible rfl
  try simp only [Act.put, List.getElem_toArray, List.getElem_cons_succ, List.getElem_cons_zero, List.setIfInBounds_toArray, List.set_cons_zero, List.set_cons_succ]
  refine wpAnyH_take (i := 6) (v := ?_) rfl (by kernel_rfl) (by kernel_rfl) (by kernel_rfl) (fun _ _ _ h => h) (Or.inl ⟨by rfl, ?_⟩) (by assumption) ?_
  rotate_left 1
  · intro w hSw; (try dsimp only at hSw); go_simp; try with_reducible rfl
  try simp only [Act.put, List.getElem_toArray, List.getElem_cons_succ, List.getElem_cons_zero, List.setIfInBounds_toArray, List.set_cons_zero, List.set_cons_succ]
  refine wpAnyH_take (i := 7) (v := ?_) rfl (by kernel_rfl) (by kernel_rfl) (by kernel_rfl) (fun _ _ _ h => h) (Or.inl ⟨by rfl, ?_⟩) (by assumption) ?_
  rotate_left 1
  · intro w hSw; (try dsimp only at hSw); go_simp; try with_reducible rfl
  try simp only [Act.put, List.getElem_toArray, List.getElem_cons_succ, List.getElem_cons_zero, List.setIfInBounds_toArray, List.set_cons_zero, List.set_cons_succ]
  refine wpAnyH_take (i := 8) (v := ?_) rfl (by kernel_rfl) (by kernel_rfl) (by kernel_rfl) (fun _ _ _ h => h) (Or.inl ⟨by rfl, ?_⟩) (by assumption) ?_
  rotate_left 1
  · intro w hSw; (try dsimp only at hSw); go_simp; try with_reducible rfl
  try simp only [Act.put, List.getElem_toArray, List.getElem_cons_succ, List.getElem_cons_zero, List.setIfInBounds_toArray, List.set_cons_zero, List.set_cons_succ]
  refine wpAnyH_take (i := 9) (v := ?_) rfl (by kernel_rfl) (by kernel_rfl) (by kernel_rfl) (fun _ _ _ h => h) (Or.inl ⟨by rfl, ?_⟩) (by assumption) ?_
  rotate_left 1
  · intro w hSw; (try dsimp only at hSw); go_simp; try with_reducible rfl
  try simp only [Act.put, List.getElem_toArray, List.getElem_cons_succ, List.getElem_cons_zero, List.setIfInBounds_toArray, List.set_cons_zero, List.set_cons_succ]
  refine wpAnyH_ready (rs := [10]) (by kernel_rfl) (by simp) (AllReadyH.cons rfl (fun K hK => ?_) AllReadyH.nil)
  go_simp
  go_at_call 25
  refine (cD _ F7.2).mono ?_
  rintro e w8 ⟨rfl, b8⟩
  have F8 := keep _ _ F7 b8
  try simp only []
  refine hK.out _ _ (F8) (fun hHeld => ?_)
  clear hK K
  try simp only [Act.put, List.getElem_toArray, List.getElem_cons_succ, List.getElem_cons_zero, List.setIfInBounds_toArray, List.set_cons_zero, List.set_cons_succ]
  refine wpAnyH_take (i := 11) (v := ?_) rfl (by kernel_rfl) (by kernel_rfl) (by kernel_rfl) (fun _ _ _ h => h) (Or.inl ⟨by rfl, ?_⟩) (by assumption) ?_
  rotate_left 1
  · intro w hSw; (try dsimp only at hSw); go_simp; try with_reducible rfl
  try simp only [Act.put, List.getElem_toArray, List.getElem_cons_succ, List.getElem_cons_zero, List.setIfInBounds_toArray, List.set_cons_zero, List.set_cons_succ]
  refine wpAnyH_take (i := 12) (v := ?_) rfl (by kernel_rfl) (by kernel_rfl) (by kernel_rfl) (fun _ _ _ h => h) (Or.inl ⟨by rfl, ?_⟩) (by assumption) ?_
  rotate_left 1
  · intro w hSw; (try dsimp only at hSw); go_simp; try with_reducible rfl
  try simp only [Act.put, List.getElem_toArray, List.getElem_cons_succ, List.getElem_cons_zero, List.setIfInBounds_toArray, List.set_cons_zero, List.set_cons_succ]
  refine wpAnyH_take (i := 13) (v := ?_) rfl (by kernel_rfl) (by kernel_rfl) (by kernel_rfl) (fun _ _ _ h => h) (Or.inl ⟨by rfl, ?_⟩) (by assumption) ?_
  rotate_left 1
  · intro w hSw; (try dsimp only at hSw); go_simp; try with_reducible rfl
  try simp only [Act.put, List.getElem_toArray, List.getElem_cons_succ, List.getElem_cons_zero, List.setIfInBounds_toArray, List.set_cons_zero, List.set_cons_succ]
  refine wpAnyH_done (by kernel_rfl) ?_ _
  go_wp2
  go_ret
  exact ⟨rfl, F8.1⟩

set_option maxRecDepth 100000 in
set_option maxHeartbeats 400000 in
theorem keys_short (key text : ByteArray) (m : Nat) (hm : m < 256) (hk : key.size ≤ 64) (ht : text.size ≤ 1000) (w : World) (hT : Tab w) :
    Calls Tryd.prog 7 #[.string key, .string text, .int .u8 m] w (Tells (.bool true) w.heap.size w) := by
  have cA := awake6_any w hT
  have h1 : ¬ ((1000 : Int) < (key.size : Int)) := by omega
  have h2 : ¬ ((1000 : Int) < (text.size : Int)) := by omega
  have h3 : ¬ (64 : Int) < (key.size : Int) := by omega
  have cB := fun u hu => hblock_any key (by omega) u hu
  have cS := fun u hu => hsum_any key text (by omega) (by omega) u hu
  have zB := kblk_size key
  have cB2 := fun u hu => hblock_any (kblk key) (by omega) u hu
  have cS2 := fun u hu => hsum_any (kblk key) text (by omega) (by omega) u hu
  rw [kblk_own] at cB2
  rw [mac_by_block _ _ (kblk_own key)] at cS2
  have cS3 : ∀ j, key.size + j ≤ 64 → ∀ u, Tab u → Calls Tryd.prog 11 #[.string (padK key j), .string text] u (Tells (.string (macB key text.data.toList)) u.heap.size u) := fun j hj u hu => by
    have h := hsum_any (padK key j) text (by rw [padK_size]; omega) (by omega) u hu
    rw [mac_by_block _ _ (kblk_pad key j hj)] at h
    exact h
  have hx := kblk_begin key
  rw [keyB_short key hk] at hx
  have hcat : ∀ j, key.size + j ≤ 64 → ∀ u : World, (Op.stringOp .add (padK key j) ⟨#[0]⟩).run Tryd.prog u = .ok (.string (padK key (j + 1))) u := fun j hj u => by
    rw [padK_succ]; exact run_string_add_sum u _ _ (by rw [padK_size]; show key.size + j + 1 ≤ _; omega)
  have hpz := fun j => padK_size key j
  have hp0 := padK_zero key
  obtain ⟨M, hM⟩ : ∃ M, m % 65 = M := ⟨_, rfl⟩
  have hmod : (m : Int).tmod 65 = (M : Int) := by rw [Int.tmod_eq_emod_of_nonneg (by omega)]; omega
  have hM64 : M ≤ 64 := by omega
  generalize macB key text.data.toList = R at *
  generalize kblk key = B at *
  have HS := hideIt cS3
  have HC := hideIt hcat
  have HP := hideIt hpz
  have HK := hideIt hk
  obtain ⟨Y, hY⟩ : ∃ Y, padK key 0 = Y := ⟨_, rfl⟩
  have HY := hideIt hp0
  clear cS3 hcat hpz hM hm hk hY hp0
  go_enter Tryd.func7, Tryd.ntmps7
  go_upto_region 13 with (first
    | (go_at_call 24; refine cA.mono ?_; rintro e w1 ⟨rfl, b1⟩; have t1 := hT.call b1)
    | (go_at_call_of 12 (Value.string key); refine (cB _ t1).mono ?_; rintro e w2 ⟨rfl, b2⟩; have t2 := t1.call b2)
    | (go_at_call_of 11 (Value.string key); refine (cS _ t2).mono ?_; rintro e w3 ⟨rfl, b3⟩; have t3 := t2.call b3)
    | (go_at_call_of 12 (Value.string B); refine (cB2 _ t3).mono ?_; rintro e w4 ⟨rfl, b4⟩; have t4 := t3.call b4)
    | (go_at_call_of 11 (Value.string B); refine (cS2 _ t4).mono ?_; rintro e w5 ⟨rfl, b5⟩; have t5 := t4.call b5))
  have L5 : Below w.heap.size w w5 := chain (chain (chain (chain b1 b2) b3) b4) b5
  clear cA cB cS cB2 cS2 b1 b2 b3 b4 b5 t1 t2 t3 t4
  go_loopg [9, 10] 64 (fun gk v i wr => ∃ j : Nat, key.size + j ≤ 64 ∧ gk = 64 - j ∧ i = .int .i64 j ∧ v = .string (padK key j) ∧ wr = w5)
  case atStart => exact ⟨0, by have := HK.out; omega, rfl, rfl, by rw [HY.out], rfl⟩
  case round =>
    obtain ⟨j, hj, hgk, rfl, rfl, rfl⟩ := hrel
    have HG := hideIt hgk
    clear hgk
    have hz := HP.out j
    have cS3 := HS.out j hj
    have hcat := HC.out j hj
    obtain ⟨P, hP⟩ : ∃ P, padK key j = P := ⟨_, rfl⟩
    obtain ⟨P2, hP2⟩ : ∃ P, padK key (j + 1) = P := ⟨_, rfl⟩
    rw [hP] at hz cS3 hcat ⊢
    rw [hP2] at hcat
    have HP2 := hideIt hP2
    obtain ⟨z, hzz⟩ : ∃ z, P.size = z := ⟨_, rfl⟩
    have HJ := hideIt (And.intro hj (hzz.symm.trans hz))
    clear hP hP2 hz hj
    clear HP HS HC HK HY
    by_cases hlt : j < M
    · have l1 : (j : Int) < (M : Int) := by omega
      by_cases h64 : z < 64
      · have l2 : (z : Int) < 64 := by omega
        go_wp2
        go_roundg (64 - (j + 1))
        case measure => have := HG.out; have := HJ.out; omega
        case rel => exact ⟨j + 1, by have := HJ.out; omega, rfl, by go_num, by rw [HP2.out], rfl⟩
      · have l2 : ¬ (z : Int) < 64 := by omega
        clear HP2 HG hcat
        go_wp2_with (first | (go_at_call 11; refine (cS3 _ t5).mono ?_; rintro e w6 ⟨rfl, b6⟩))
        go_ret
        exact ⟨rfl, chain L5 b6⟩
    · have l1 : ¬ (j : Int) < (M : Int) := by omega
      clear HP2 HG hcat
      go_wp2_with (first | (go_at_call 11; refine (cS3 _ t5).mono ?_; rintro e w6 ⟨rfl, b6⟩))
      go_ret
      exact ⟨rfl, chain L5 b6⟩

theorem hmacKeys_core (H : Type) (enc : TypeId × Value → H) (W : World) (base : Nat) (args : Array Value) (ds gs : List (DataW H)) (before : List MemPlace)
    (hval : ∀ (j : Nat) t v, Tryd.f7.params[j]? = some t → args[j]? = some v → Value.okWide Tryd.prog W .any base t v)
    (hW : DataW.Whole enc Tryd.prog Tryd.f7.params.toList Rows.hmacKeysSpec.vars false W args.toList ds gs before) (hT : Tab W) :
    gs = [] ∧ ds.length = 3 ∧ Calls Tryd.prog 7 args W (Tells (.bool true) W.heap.size W) := by
  obtain ⟨p, q, hA, hV, -, -, -⟩ := hW
  obtain ⟨rfl, rfl⟩ := trodVars_none hV
  have hA : DataW.TrodAll enc Tryd.prog W 0 (fun _ => true) true Tryd.f7.params.toList args.toList ds p := hA
  rw [Tryd.params7] at hA hval
  obtain ⟨v0, vs0, d0, ds0, p0, ps0, e0, rfl, -, h0, hA⟩ := trodAll_cons hA
  obtain ⟨v1, vs1, d1, ds1, p1, ps1, rfl, rfl, -, h1, hA⟩ := trodAll_cons hA
  obtain ⟨v2, vs2, d2, ds2, p2, ps2, rfl, rfl, -, h2, hA⟩ := trodAll_cons hA
  obtain ⟨rfl, rfl, rfl⟩ := trodAll_nil hA
  obtain rfl : args = #[v0, v1, v2] := Array.ext' e0
  obtain ⟨key, rfl, rfl, rfl, hk⟩ := Go.ChangeMaps.open_string Tryd.underlying9 (hval 0 9 v0 rfl rfl) h0
  obtain ⟨text, rfl, rfl, rfl, ht⟩ := Go.ChangeMaps.open_string Tryd.underlying9 (hval 1 9 v1 rfl rfl) h1
  obtain ⟨a, rfl, -, -, ba⟩ := open_int Tryd.underlying5 (hval 2 5 v2 rfl rfl) h2
  have ha := byte_of (x := a) (by simpa using ba)
  obtain ⟨m, rfl⟩ := Int.eq_ofNat_of_zero_le ha.1
  refine ⟨rfl, rfl, ?_⟩
  by_cases h : 1000 < key.size ∨ 1000 < text.size
  · exact keys_long key text _ h hk ht W hT
  · by_cases h64 : 64 < key.size
    · exact keys_great key text _ h64 (by omega) (by omega) W hT
    · exact keys_short key text m (by omega) (by omega) (by omega) W hT

set_option maxRecDepth 100000 in
theorem hmacKeys_lifted (os : Os) (started : os.Started) (H : Type) (enc : TypeId × Value → H) :
    ReturnsInHanded {} Tryd.checked os 7 .any (fun w args => (Rows.hmacKeysSpec.pre enc Tryd.prog Tryd.f7 [] false w args ∧ laidMetH Tryd.prog laidK w) ∧ sizedMet enc Tryd.prog Tryd.f7 (OpenSpec.ofChange Rows.hmacKeysSpec) false w args)
      (Rows.hmacKeysSpec.post enc Tryd.prog Tryd.f7 false true false false) := by
  refine returnsInHanded_of_change_and (C := Tryd.checked) (X := fun w _ => laidMetH Tryd.prog laidK w) (fun _ _ _ hh h => h.of_heap hh) own_knob started (by kernel_rfl) Tryd.func7
    (ChangeSpec.witness_shaped (enc := enc) (C := Tryd.checked) (os := os) (X := fun w _ => laidMetH Tryd.prog laidK w) false (World.doorLaid Tryd.prog 14 os) #[.string ⟨#[]⟩, .string ⟨#[]⟩, .int .u8 0] 8 rfl (World.shaped_of_RefB (by kernel_rfl) (by kernel_rfl)) (by kernel_rfl) (by kernel_rfl) (by kernel_rfl) (door_met os _)) ?_
  intro W base args ds gs before hval0 hW _ hwt hL _
  have hval : ∀ (j : Nat) t v, Tryd.f7.params[j]? = some t → args[j]? = some v → Value.okWide Tryd.prog W .any base t v := hval0
  obtain ⟨hg, hlen, hc⟩ := hmacKeys_core H enc W base args ds gs before hval hW (tab_of_laid hL)
  subst hg
  have hr : (Tryd.f7.params.toList.all fun t => Tryd.prog.readableRec t && decide (t < Tryd.prog.types.size)) = true := by kernel_rfl
  have hread : ∀ t ∈ Tryd.f7.params.toList, Tryd.prog.readableRec t = true ∧ t < Tryd.prog.types.size := fun t ht => by
    have h := List.all_eq_true.1 hr t ht
    rw [Bool.and_eq_true, decide_eq_true_eq] at h
    exact h
  refine hc.mono fun e W' ⟨he, hb⟩ => ?_
  subst he
  match ds, hlen with
  | [d0, d1, d2], _ => exact ⟨_, rfl, law_post laid_out Tryd.underlying4 rfl hread rfl hW rfl rfl rfl hb⟩

theorem hmacKeys_holds : Rows.HmacKeysSaid :=
  OpenClaim.holds_of_wide 7 Tryd.f7 rfl rfl rfl rfl rfl rfl rfl ⟨rfl, rfl, rfl, rfl, rfl⟩ rfl rfl rfl rfl rfl (by kernel_rfl) Tryd.func7 (by kernel_rfl)
    (of_decide_eq_true (by kernel_rfl)) (by unfold Func.isWrapper; first | (rw [if_pos (by decide +kernel)]; kernel_rfl) | (rw [if_neg (by decide +kernel)]; exact ⟨rfl, rfl⟩))
    (fun os started H enc _ => hmacKeys_lifted os started H enc)

theorem hmacKeys_card : Rows.HmacKeysCardSaid :=
  Claim7.holds_tied_plain_at .later [] [.data] true _ false
    hmacKeys_holds (fun _ h => by cases h) (by kernel_rfl) (fun _ h => by cases h) hmacKeys_row_tie rfl ⟨rfl, rfl⟩ (by kernel_rfl) rfl
    (fun f fn hf hfn => by
      obtain rfl : f = 7 := Option.some.inj ((show Tryd.prog.funcNamed "paymaster/paymasterlaw06.HmacKeys" = some 7 by kernel_rfl).symm.trans hf) |>.symm
      obtain rfl : fn = Tryd.f7 := (Option.some.inj (Tryd.func7.symm.trans hfn)).symm
      exact ⟨by kernel_rfl, fun j t ht => by
        have hm : t ∈ Tryd.f7.params.toList := by simpa using Array.mem_of_getElem? ht
        have hall : (Tryd.f7.params.toList.all fun u => !Tryd.prog.wantsStandIn u) = true := by kernel_rfl
        exact (show Tryd.prog.wantsStandIn t = false by simpa using List.all_eq_true.1 hall t hm)⟩)
    (by kernel_rfl)

end Go.Proofs.YtnlkhabaidncgaaDoor
