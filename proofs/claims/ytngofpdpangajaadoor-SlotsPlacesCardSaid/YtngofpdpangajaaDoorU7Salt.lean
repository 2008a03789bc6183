/-
  Package tag's salts and first slots, walked: Salt, PadSalt, Pad, First.
-/
import Derived.Test.YtngofpdpangajaaDoorU7Leaf
import Derived.Test.YtngofpdpangajaaDoorM5Sha
namespace Go.Proofs.YtngofpdpangajaaDoor
set_option linter.unusedVariables false
set_option linter.unusedSimpArgs false
set_option maxRecDepth 10000
open Go.RowKit

def saltB (seed id : ByteArray) : ByteArray := firB (macB seed (⟨#[3]⟩ ++ id).data.toList) 16
def padSaltB (seed : ByteArray) (n : Int) : ByteArray := firB (macB seed (⟨#[4]⟩ ++ (textOf 0 n).extract 8 16).data.toList) 16
def padLf (seed : ByteArray) (n : Int) : Lf := ⟨true, ⟨#[]⟩, padSaltB seed n, 0, 0⟩
def firstN (seed id : ByteArray) (k : Int) : Int := if 0 ≤ k ∧ k ≤ 63 then macN seed (⟨#[5]⟩ ++ id).data.toList % 2 ^ k.toNat else 0
theorem firB_size (R : ByteArray) (n : Int) (h : R.size = 32) : (firB R n).size = min n.toNat 32 := by
  unfold firB cutN
  rw [ByteArray.size_extract, h]; omega
theorem saltB_size (seed id : ByteArray) : (saltB seed id).size = 16 := by rw [saltB, firB_size _ _ (macB_size _ _)]; rfl
theorem padSaltB_size (seed : ByteArray) (n : Int) : (padSaltB seed n).size = 16 := by rw [padSaltB, firB_size _ _ (macB_size _ _)]; rfl

set_option maxHeartbeats 1000000 in
theorem salt_any (seed id : ByteArray) (h1 : seed.size ≤ 100000) (h2 : id.size ≤ 100000) (w : World) (hT : Tab w) : Calls Tryd.prog 30 #[.string seed, .string id] w (Tells (.string (saltB seed id)) w.heap.size w) := by
  unfold saltB
  obtain ⟨X, hX⟩ : ∃ X, (⟨#[3]⟩ : ByteArray) ++ id = X := ⟨_, rfl⟩
  have zX : X.size = 1 + id.size := by rw [← hX, ByteArray.size_append]; rfl
  have hc := adds_any ⟨#[3]⟩ id X hX (by decide) (by omega)
  have cF := fun u hu => hfirst_any seed X (by omega) (by omega) 16 (by decide) u hu
  rw [hX]
  generalize firB (macB seed X.data.toList) 16 = R at *
  clear hX
  go_enter Tryd.func30, Tryd.ntmps30
  go_wp2_with (first | (go_at_call 60; refine (cF _ hT).mono ?_; rintro e w1 ⟨rfl, b1⟩))
  go_ret
  exact ⟨rfl, b1⟩

set_option maxHeartbeats 1000000 in
theorem padSalt_any (seed : ByteArray) (n : Int) (h1 : seed.size ≤ 100000) (hn : Word n) (w : World) (hT : Tab w) : Calls Tryd.prog 63 #[.string seed, .int .u64 n] w (Tells (.string (padSaltB seed n)) w.heap.size w) := by
  unfold padSaltB
  have cO := fun u => of_any n u
  have cB := fun u => ubytes_any 0 n word_zero hn u
  have zB := textOf_size 0 n
  generalize textOf 0 n = B at *
  have zE : (B.extract 8 16).size = 8 := by rw [ByteArray.size_extract, zB]; rfl
  obtain ⟨E, hE⟩ : ∃ E, B.extract 8 16 = E := ⟨_, rfl⟩
  rw [hE] at zE
  obtain ⟨X, hX⟩ : ∃ X, (⟨#[4]⟩ : ByteArray) ++ E = X := ⟨_, rfl⟩
  have zX : X.size = 9 := by rw [← hX, ByteArray.size_append, zE]; rfl
  have hc := adds_any ⟨#[4]⟩ E X hX (by decide) (by omega)
  have cF := fun u hu => hfirst_any seed X (by omega) (by omega) 16 (by decide) u hu
  rw [hE, hX]
  generalize firB (macB seed X.data.toList) 16 = R at *
  clear hX
  go_enter Tryd.func63, Tryd.ntmps63
  go_wp2_with (first
    | (go_at_call 59; refine (cO _).mono ?_; rintro e w1 ⟨rfl, b1⟩)
    | (go_at_call 79; refine (cB _).mono ?_; rintro e w2 ⟨rfl, b2⟩)
    | (go_at_call 60; refine (cF _ (hT.call (chain b1 b2))).mono ?_; rintro e w3 ⟨rfl, b3⟩))
  go_ret
  exact ⟨rfl, chain (chain b1 b2) b3⟩

set_option maxHeartbeats 1000000 in
theorem pad_any (seed : ByteArray) (n : Int) (h1 : seed.size ≤ 100000) (hn : Word n) (w : World) (hT : Tab w) : Calls Tryd.prog 33 #[.string seed, .int .u64 n] w (Tells (padLf seed n).val w.heap.size w) := by
  have cP := fun u hu => padSalt_any seed n h1 hn u hu
  unfold padLf
  generalize padSaltB seed n = R at *
  have B0 := Box.made w 46 #[.bool false, .string ⟨#[]⟩, .string ⟨#[]⟩, .int .u64 0, .int .u64 0]
  have L0 : Below w.heap.size w (w.alloc (.cells #[.bool false, .string ⟨#[]⟩, .string ⟨#[]⟩, .int .u64 0, .int .u64 0] 46)) := by repeat (first | exact Below.refl _ _ | apply Below.drew | apply below_drewN | refine Below.alloc ?_ (by simp; try omega) _ | refine Below.setCell ?_ (by simp; try omega) _)
  go_enter Tryd.func33, Tryd.ntmps33
  go_upto_region 1 with fail
  change Code.wp _ _ _ _ (w.alloc (.cells #[.bool false, .string ⟨#[]⟩, .string ⟨#[]⟩, .int .u64 0, .int .u64 0] 46))
  generalize w.alloc (.cells #[.bool false, .string ⟨#[]⟩, .string ⟨#[]⟩, .int .u64 0, .int .u64 0] 46) = W at *
  go_wp2_with (first
    | (go_at_call 63; refine (cP _ (hT.call L0)).mono ?_; rintro e w1 ⟨rfl, b1⟩
       have B1 := B0.call b1
       obtain ⟨⟨y0, y1, y2, y3, y4⟩, ⟨g0, g1, g2, g3, g4⟩, hin1⟩ := B1.five0))
  have BX := B1.put5 (.bool true) (.string ⟨#[]⟩) (.string R) (.int .u64 0) (.int .u64 0)
  have LX := below_put5 (g := w.heap.size) (chain L0 b1) (by omega) (.bool true) (.string ⟨#[]⟩) (.string R) (.int .u64 0) (.int .u64 0)
  generalize World.setCell (World.setCell (World.setCell (World.setCell (World.setCell w1 _ _) _ _) _ _) _ _) _ _ = X at *
  obtain ⟨⟨x0, x1, x2, x3, x4⟩, -, hgx⟩ := BX.five0
  exact bodyPost_ret (v := Lf.val ⟨true, ⟨#[]⟩, R, 0, 0⟩) (by simp [results, Tryd.results33, go_sem, Lf.val, x0, x1, x2, x3, x4]) rfl ⟨rfl, LX⟩

theorem macN_bd (k : ByteArray) (t : List UInt8) : Word (macN k t) := by
  have hl : ((nums (macB k t)).take 8).length = 8 := by rw [List.length_take, nums_len, macB_size]; rfl
  have h := numB_bd ((nums (macB k t)).take 8) (fun x hx => nums_bd _ x (List.mem_of_mem_take hx))
  rw [hl] at h
  exact ⟨h.1, h.2⟩
theorem pow_word (m : Nat) (h : m ≤ 63) : 0 < (2 : Int) ^ m ∧ (2 : Int) ^ m < 18446744073709551616 := by
  have e : ((2 ^ m : Nat) : Int) = (2 : Int) ^ m := by simp
  have h1 : 2 ^ m ≤ 2 ^ 63 := Nat.pow_le_pow_right (by decide) h
  have h2 : 0 < 2 ^ m := Nat.pow_pos (by decide)
  rw [← e]
  omega
set_option maxHeartbeats 2000000 in
theorem first7_any (seed id : ByteArray) (k : Int) (h1 : seed.size ≤ 100000) (h2 : id.size ≤ 100000) (w : World) (hT : Tab w) : Calls Tryd.prog 31 #[.string seed, .string id, .int .i64 k] w (Tells (.int .u64 (firstN seed id k)) w.heap.size w) := by
  unfold firstN
  by_cases hk : 0 ≤ k ∧ k ≤ 63
  · rw [if_pos hk]
    obtain ⟨m, rfl⟩ := Int.eq_ofNat_of_zero_le hk.1
    have hm : ¬ ((m : Int) < 0) := by omega
    have hm2 : ¬ ((63 : Int) < (m : Int)) := by omega
    obtain ⟨X, hX⟩ : ∃ X, (⟨#[5]⟩ : ByteArray) ++ id = X := ⟨_, rfl⟩
    have zX : X.size = 1 + id.size := by rw [← hX, ByteArray.size_append]; rfl
    have hc := adds_any ⟨#[5]⟩ id X hX (by decide) (by omega)
    have cF := fun u hu => hnumber_any seed X (by omega) (by omega) u hu
    have hR := macN_bd seed X.data.toList
    rw [hX]
    generalize macN seed X.data.toList = R at *
    have hP0 := pow_word m (by omega)
    rw [Int.toNat_natCast]
    obtain ⟨P, hP⟩ : ∃ P : Int, 2 ^ m = P := ⟨_, rfl⟩
    rw [hP] at hP0 ⊢
    have hw : IntKind.u64.wrap ((2 : Int) ^ m) = P := by rw [hP, IntKind.wrap_u64]; omega
    have hw2 : ¬ P = 0 := by omega
    have hr : R.tmod P = R % P := Int.tmod_eq_emod_of_nonneg hR.1
    obtain ⟨Q, hQ⟩ : ∃ Q : Int, R % P = Q := ⟨_, rfl⟩
    have hq : Word Q := by rw [← hQ]; exact ⟨Int.emod_nonneg _ hw2, Int.lt_trans (Int.emod_lt_of_pos _ hP0.1) hP0.2⟩
    have hwq : IntKind.u64.wrap Q = Q := by rw [IntKind.wrap_u64]; have := hq.1; have := hq.2; omega
    rw [hQ] at hr ⊢
    clear hX hP hQ
    go_enter Tryd.func31, Tryd.ntmps31
    go_upto_region 3 with fail
    have f0 : Below w.heap.size w w.drew := (Below.refl _ w).drew
    refine wp_region_held_drew (S := fun u => Below w.heap.size w u) (by kernel_rfl) f0 (fun hHeld => ?_)
    refine wpAnyH_take (i := 0) (v := ?_) rfl (by kernel_rfl) (by kernel_rfl) (by kernel_rfl) (fun _ _ _ h => h) (Or.inl ⟨by rfl, ?_⟩) (by assumption) ?_
    rotate_left 1
    · intro w hSw; (try dsimp only at hSw); go_simp; try with_reducible rfl
    try simp only [Act.put, List.getElem_toArray, List.getElem_cons_succ, List.getElem_cons_zero, List.setIfInBounds_toArray, List.set_cons_zero, List.set_cons_succ]
    refine wpAnyH_take (i := 1) (v := ?_) rfl (by kernel_rfl) (by kernel_rfl) (by kernel_rfl) (fun _ _ _ h => h) (Or.inl ⟨by rfl, ?_⟩) (by assumption) ?_
    rotate_left 1
    · intro w hSw; (try dsimp only at hSw); go_simp; try with_reducible rfl
    try simp only [Act.put, List.getElem_toArray, List.getElem_cons_succ, List.getElem_cons_zero, List.setIfInBounds_toArray, List.set_cons_zero, List.set_cons_succ]
    refine wpAnyH_take (i := 2) (v := ?_) rfl (by kernel_rfl) (by kernel_rfl) (by kernel_rfl) (fun _ _ _ h => h) (Or.inl ⟨by rfl, ?_⟩) (by assumption) ?_
    rotate_left 1
    · intro w hSw; (try dsimp only at hSw); go_simp; try with_reducible rfl
    try simp only [Act.put, List.getElem_toArray, List.getElem_cons_succ, List.getElem_cons_zero, List.setIfInBounds_toArray, List.set_cons_zero, List.set_cons_succ]
    refine wpAnyH_take (i := 4) (v := ?_) rfl (by kernel_rfl) (by kernel_rfl) (by kernel_rfl) (fun _ _ _ h => h) (Or.inl ⟨by rfl, ?_⟩) (by assumption) ?_
    rotate_left 1
    · intro w hSw; (try dsimp only at hSw); go_simp; try with_reducible rfl
    try simp only [Act.put, List.getElem_toArray, List.getElem_cons_succ, List.getElem_cons_zero, List.setIfInBounds_toArray, List.set_cons_zero, List.set_cons_succ]
    refine wpAnyH_take (i := 5) (v := ?_) rfl (by kernel_rfl) (by kernel_rfl) (by kernel_rfl) (fun _ _ _ h => h) (Or.inl ⟨by rfl, ?_⟩) (by assumption) ?_
    rotate_left 1
    · intro w hSw; (try dsimp only at hSw); go_simp; try with_reducible rfl
    try simp only [Act.put, List.getElem_toArray, List.getElem_cons_succ, List.getElem_cons_zero, List.setIfInBounds_toArray, List.set_cons_zero, List.set_cons_succ]
    refine wpAnyH_ready (rs := [3]) (by kernel_rfl) (by simp) (AllReadyH.cons rfl (fun K hK => ?_) AllReadyH.nil)
    go_simp
    go_at_call 61
    refine (cF w.drew hT.drew).mono ?_
    rintro e w1 ⟨rfl, b1⟩
    have F1 : Below w.heap.size w w1 := chain f0 b1
    try simp only []
    refine hK.out _ _ (F1) (fun hHeld => ?_)
    clear hK K
    try simp only [Act.put, List.getElem_toArray, List.getElem_cons_succ, List.getElem_cons_zero, List.setIfInBounds_toArray, List.set_cons_zero, List.set_cons_succ]
    refine wpAnyH_ready (rs := [6]) (by kernel_rfl) (by simp) (AllReadyH.cons rfl (fun K hK => ?_) AllReadyH.nil)
    go_simp
    refine hK.out _ _ (F1) (fun hHeld => ?_)
    clear hK K
    try simp only [Act.put, List.getElem_toArray, List.getElem_cons_succ, List.getElem_cons_zero, List.setIfInBounds_toArray, List.set_cons_zero, List.set_cons_succ]
    refine wpAnyH_take (i := 7) (v := ?_) rfl (by kernel_rfl) (by kernel_rfl) (by kernel_rfl) (fun _ _ _ h => h) (Or.inl ⟨by rfl, ?_⟩) (by assumption) ?_
    rotate_left 1
    · intro w hSw; (try dsimp only at hSw); go_simp; try with_reducible rfl
    try simp only [Act.put, List.getElem_toArray, List.getElem_cons_succ, List.getElem_cons_zero, List.setIfInBounds_toArray, List.set_cons_zero, List.set_cons_succ]
    refine wpAnyH_done (by kernel_rfl) ?_ _
    go_wp2
    go_ret
    exact ⟨rfl, F1⟩
  · rw [if_neg hk]
    by_cases h0 : k < 0
    · go_enter Tryd.func31, Tryd.ntmps31
      go_wp2
      go_ret
      exact ⟨rfl, Below.refl _ _⟩
    · have h3 : (63 : Int) < k := by omega
      go_enter Tryd.func31, Tryd.ntmps31
      go_wp2
      go_ret
      exact ⟨rfl, Below.refl _ _⟩
end Go.Proofs.YtngofpdpangajaaDoor
