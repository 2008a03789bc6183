/-
  Package lines' stands, Kind, wrong, made, walked.
-/
import Derived.Test.YtfnbehijnmbhjaaDoorU9Base
import Derived.Test.YtfnbehijnmbhjaaDoorW1Has
import Derived.Test.YtfnbehijnmbhjaaDoorU5Clone
namespace Go.Proofs.YtfnbehijnmbhjaaDoor
set_option linter.unusedVariables false
set_option linter.unusedSimpArgs false
set_option maxRecDepth 10000
open Go.RowKit Go.Lib

theorem decodeN_stand (n b0 b1 b2 b3 : Nat) (h0 : b0 < 256) (h1 : b1 < 256) (h2 : b2 < 256) (h3 : b3 < 256) (h : (decodeN n b0 b1 b2 b3).1 = 65533) (hz : (decodeN n b0 b1 b2 b3).2 ≠ 1) :
    2 < n ∧ b0 = 239 ∧ b1 = 191 ∧ b2 = 189 := by
  unfold decodeN at h hz
  by_cases c1 : b0 < 128
  · rw [if_pos c1] at h; simp at h; omega
  · rw [if_neg c1] at h hz
    by_cases c2 : b0 / 32 = 6 ∧ (1 < n ∧ b1 / 64 = 2)
    · rw [if_pos c2] at h hz
      split at h
      · simp at h; omega
      · rename_i hx; rw [if_neg hx] at hz; simp at hz
    · rw [if_neg c2] at h hz
      by_cases c3 : b0 / 16 = 14 ∧ (1 < n ∧ b1 / 64 = 2) ∧ (2 < n ∧ b2 / 64 = 2)
      · rw [if_pos c3] at h hz
        split at h
        · simp at h; omega
        · rename_i hx; rw [if_neg hx] at hz; simp at hz
      · rw [if_neg c3] at h hz
        by_cases c4 : b0 / 8 = 30 ∧ (1 < n ∧ b1 / 64 = 2) ∧ (2 < n ∧ b2 / 64 = 2) ∧ (3 < n ∧ b3 / 64 = 2)
        · rw [if_pos c4] at h hz
          split at h
          · simp at h; omega
          · rename_i hx; rw [if_neg hx] at hz; simp at hz
        · rw [if_neg c4] at h hz; simp at hz
theorem u8_eq (b : UInt8) (k : Nat) (h : b.toNat = k) (hk : k < 256) : b = UInt8.ofNat k := by
  apply UInt8.toNat_inj.1
  rw [h, UInt8.toNat_ofNat_of_lt' (by show _ < 256; exact hk)]
theorem stand_iff (l : List UInt8) (h : (decodeL l).1 = 65533) : ([239, 191, 189] : List UInt8).isPrefixOf l = !decide (badR l) := by
  by_cases hb : badR l
  · rw [decide_eq_true hb]
    match l with
    | [] => rfl
    | [a] => simp [List.isPrefixOf]
    | [a, b] => simp [List.isPrefixOf]
    | a :: b :: c :: t =>
      by_cases e : a = 239 ∧ b = 191 ∧ c = 189
      · obtain ⟨rfl, rfl, rfl⟩ := e
        exfalso
        have := hb.2
        rw [decodeL_N] at this
        have e2 : (decodeN (239 :: 191 :: 189 :: t : List UInt8).length 239 191 189 ((239 :: 191 :: 189 :: t : List UInt8).getD 3 0).toNat).2 = 1 := this
        unfold decodeN at e2
        have hl : (239 :: 191 :: 189 :: t : List UInt8).length = t.length + 3 := rfl
        rw [hl] at e2
        rw [if_neg (by decide), if_neg (by omega), if_pos (by omega), if_pos (by decide)] at e2
        simp at e2
      · have : ([239, 191, 189] : List UInt8).isPrefixOf (a :: b :: c :: t) = false := by
          rw [Bool.eq_false_iff]
          intro hp
          apply e
          simp [List.isPrefixOf] at hp
          exact ⟨hp.1.symm, hp.2.1.symm, hp.2.2.symm⟩
        rw [this]; rfl
  · rw [decide_eq_false hb]
    have hz : (decodeL l).2 ≠ 1 := fun e => hb ⟨h, e⟩
    rw [decodeL_N] at h hz
    obtain ⟨h2, a0, a1, a2⟩ := decodeN_stand _ _ _ _ _ (UInt8.toNat_lt _) (UInt8.toNat_lt _) (UInt8.toNat_lt _) (UInt8.toNat_lt _) h hz
    match l, h2 with
    | a :: b :: c :: t, _ =>
      have e0 := u8_eq a 239 a0 (by decide)
      have e1 := u8_eq b 191 a1 (by decide)
      have e2 := u8_eq c 189 a2 (by decide)
      subst e0 e1 e2
      simp [List.isPrefixOf]
set_option maxHeartbeats 2000000 in
theorem stands_any (l : List UInt8) (r : Nat) (hr : (decodeL l).1 = r) (w : World) : Calls Tryd.prog 90 #[.int .i32 r, .string (bA l)] w (Plain (.bool (!decide (badR l))) w) := by
  have cP := fun u => prefix_any (bA l) ⟨#[239, 191, 189]⟩ u
  rw [bA_list] at cP
  by_cases h : r = 65533
  · have e := stand_iff l (by omega)
    have e2 : (({ data := #[239, 191, 189] } : ByteArray).data.toList).isPrefixOf l = !decide (badR l) := e
    rw [e2] at cP
    generalize (!decide (badR l)) = A at *
    subst h
    clear hr e e2
    go_enter Tryd.func90, Tryd.ntmps90
    go_wp2_with (first | (go_at_call 89; refine (cP _).mono ?_; rintro e w' ⟨rfl, rfl⟩))
    go_ret
    exact ⟨rfl, rfl⟩
  · have hb : ¬ badR l := fun hb => h (by have := hb.1; omega)
    rw [decide_eq_false hb]
    have hi : ((r : Int) ≠ 65533) := by omega
    have hi2 : ((r : Int) = 65533) = False := by simp; omega
    clear cP hr hb
    go_enter Tryd.func90, Tryd.ntmps90
    go_wp2
    go_ret
    exact ⟨rfl, rfl⟩

set_option maxHeartbeats 2000000 in
theorem kind_any (s : ByteArray) (w : World) : Calls Tryd.prog 76 #[.string s] w (Plain (.int .u8 (kindL s.data.toList)) w) := by
  have cP := fun u => prefix_any s ⟨#[35]⟩ u
  cases hl : s.data.toList with
  | nil =>
    have e : s = ⟨#[]⟩ := ba_ext (by rw [hl])
    subst e
    clear cP hl
    go_enter Tryd.func76, Tryd.ntmps76
    go_wp2
    go_ret
    exact ⟨rfl, rfl⟩
  | cons c t =>
    have h0 : s.toList.isEmpty = false := by rw [Lib.toList_data, hl]; rfl
    have h1 : (s.toList == []) = false := by rw [Lib.toList_data, hl]; rfl
    have e : ({ data := #[35] } : ByteArray).data.toList.isPrefixOf s.data.toList = decide (c = 35) := by
      rw [hl]
      show ((35 : UInt8) == c && true) = _
      by_cases hc : c = 35
      · subst hc; rfl
      · rw [decide_eq_false hc, Bool.and_true]
        exact beq_false_of_ne fun e => hc e.symm
    rw [e] at cP
    clear e hl
    by_cases hc : c = 35
    · rw [decide_eq_true hc] at cP
      have hk : kindL (c :: t) = 1 := by simp [kindL, hc]
      rw [hk]
      clear hc hk
      go_enter Tryd.func76, Tryd.ntmps76
      go_wp2_with (first | (go_at_call 89; refine (cP _).mono ?_; rintro e w' ⟨rfl, rfl⟩))
      go_ret
      exact ⟨rfl, rfl⟩
    · rw [decide_eq_false hc] at cP
      have hk : kindL (c :: t) = 2 := by simp [kindL, hc]
      rw [hk]
      clear hc hk
      go_enter Tryd.func76, Tryd.ntmps76
      go_wp2_with (first | (go_at_call 89; refine (cP _).mono ?_; rintro e w' ⟨rfl, rfl⟩))
      go_ret
      exact ⟨rfl, rfl⟩

/-- What is wrong with a line, behind k runes of it. -/
def wrongK (k : Nat) (l : List UInt8) : Nat := match runesL l with
  | none => 90
  | some r => if 80 < k + r.length then 91 else 0
theorem wrongK_nil (k : Nat) : wrongK k [] = if 80 < k then 91 else 0 := rfl
theorem wrongK_bad (k : Nat) (l : List UInt8) (hl : l ≠ []) (hb : badR l) : wrongK k l = 90 := by
  unfold wrongK; rw [runesL_bad l hl hb]
theorem wrongK_good (k : Nat) (l : List UInt8) (hl : l ≠ []) (hb : ¬ badR l) : wrongK k l = wrongK (k + 1) (l.drop (decodeL l).2) := by
  unfold wrongK
  rw [runesL_good l hl hb]
  cases runesL (l.drop (decodeL l).2) with
  | none => rfl
  | some r => simp only [Option.map_some, List.length_cons, show k + (r.length + 1) = k + 1 + r.length by omega]
theorem wrongL_K (l : List UInt8) : wrongL l = wrongK 0 l := by
  unfold wrongL wrongK
  cases runesL l with
  | none => rfl
  | some r => simp only [Nat.zero_add]
theorem drop_ne' {s : ByteArray} {pos : Nat} (h : pos < s.size) : s.data.toList.drop pos ≠ [] := by
  intro e
  have := congrArg List.length e
  rw [List.length_drop, ba_size] at this
  simp at this
  omega
set_option maxHeartbeats 2000000 in
theorem wrong_any (s : ByteArray) (hs : s.size ≤ 1000000000) (w : World) : Calls Tryd.prog 77 #[.string s] w (Tells (.int .i64 (wrongL s.data.toList)) w.heap.size w) := by
  obtain ⟨A, hA⟩ : ∃ A : Nat, wrongL s.data.toList = A := ⟨_, rfl⟩
  rw [hA]
  rw [wrongL_K] at hA
  have HA := hideIt hA
  clear hA
  go_enter Tryd.func77, Tryd.ntmps77
  go_wp2
  go_loopw [3, 4, 5] (fun n i r w' => ∃ (pos k : Nat), w' = w.iter s pos ∧ n = .int .i64 k ∧ k ≤ pos ∧ pos ≤ s.size ∧ Hid (wrongK k (s.data.toList.drop pos) = A)) (fun _ _ _ w' => s.size - w'.iterPos w.heap.size)
  case atStart => exact ⟨0, 0, rfl, rfl, by omega, by omega, HA⟩
  case round =>
    obtain ⟨pos, k, rfl, rfl, hk, hps, hid⟩ := hrel
    by_cases hp : pos < s.size
    · have hnx : ∀ ty, (Instr.next (.pointer (some ⟨w.heap.size, 0, none⟩)) true ty).run Tryd.prog (w.iter s pos) = _ := fun ty => run_next_any w s pos ty hp
      have hne := drop_ne' hp
      have hdd := decodeL_drop s pos
      have hw := decodeL_width (s.data.toList.drop pos)
      have hle := decodeL_le _ hne
      rw [List.length_drop, ba_size] at hle
      have cS := fun u => stands_any (s.data.toList.drop pos) _ rfl u
      rw [← bA_ext s pos] at cS
      have hpi : (pos : Int) ≤ (s.size : Int) := by omega
      by_cases hb : badR (s.data.toList.drop pos)
      · rw [decide_eq_true hb] at cS
        have e := hid.out
        rw [wrongK_bad _ _ hne hb] at e
        subst e
        rw [hdd] at cS hle hw
        clear hid hdd hb hne
        generalize Utf8.decode s pos = d at *
        obtain ⟨r, z⟩ := d
        simp only at hnx hw cS hle
        go_wp2_with (first | (go_at_call 90; refine (cS _).mono ?_; rintro e w' ⟨rfl, rfl⟩))
        go_ret
        exact ⟨rfl, chainA (Below.refl _ _) _⟩
      · rw [decide_eq_false hb] at cS
        have e := hid.out
        rw [wrongK_good _ _ hne hb, List.drop_drop] at e
        rw [hdd] at cS hle hw e
        have HE := hideIt e
        clear hid hdd hb hne e
        generalize Utf8.decode s pos = d at *
        obtain ⟨r, z⟩ := d
        simp only at hnx hw cS hle HE
        go_wp2_with (first | (go_at_call 90; refine (cS _).mono ?_; rintro e w' ⟨rfl, rfl⟩))
        go_roundw
        case rel => exact ⟨pos + z, k + 1, rfl, by go_num, by omega, by omega, HE⟩
        case measure => simp; omega
    · have hnx : ∀ ty, (Instr.next (.pointer (some ⟨w.heap.size, 0, none⟩)) true ty).run Tryd.prog (w.iter s pos) = _ := fun ty => run_next_end w s pos ty hp
      have e := hid.out
      rw [List.drop_of_length_le (by rw [ba_size]; omega), wrongK_nil] at e
      clear hid
      by_cases h80 : 80 < k
      · rw [if_pos h80] at e
        subst e
        have h80i : (80 : Int) < (k : Int) := by omega
        go_wp2
        go_ret
        exact ⟨rfl, chainA (Below.refl _ _) _⟩
      · rw [if_neg h80] at e
        subst e
        have h80i : ¬ ((80 : Int) < (k : Int)) := by omega
        go_wp2
        go_ret
        exact ⟨rfl, chainA (Below.refl _ _) _⟩

set_option maxHeartbeats 2000000 in
theorem made_any (n : Int) (s : ByteArray) (hs : s.size ≤ 1000000000) (w : World) : Calls Tryd.prog 60 #[.int .i64 n, .string s] w
    (Tells (.agg #[.int .i64 n, .string s, .int .u8 (kindL s.data.toList), .int .i64 (wrongL s.data.toList)]) w.heap.size w) := by
  have cC := fun u => clone_any s (by omega) u
  have cK := fun u => kind_any s u
  have cW := fun u => wrong_any s hs u
  generalize (wrongL s.data.toList) = A at *
  generalize (kindL s.data.toList) = B at *
  go_enter Tryd.func60, Tryd.ntmps60
  go_upto_region 1 with fail
  have H0 := (Has.start w).add 38 #[.int .i64 0, .string ⟨#[]⟩, .int .u8 0, .int .i64 0]
  have facts : ∀ u, Has w [(w.heap.size, 38, #[.int .i64 0, .string ⟨#[]⟩, .int .u8 0, .int .i64 0])] u →
      u.frozen? ⟨w.heap.size, 0, none⟩ = false ∧ u.frozen? ⟨w.heap.size, 1, none⟩ = false ∧ u.frozen? ⟨w.heap.size, 2, none⟩ = false ∧ u.frozen? ⟨w.heap.size, 3, none⟩ = false ∧
      u.cell? ⟨w.heap.size, 0, none⟩ = some (.int .i64 0) ∧ u.cell? ⟨w.heap.size, 1, none⟩ = some (.string ⟨#[]⟩) ∧ u.cell? ⟨w.heap.size, 2, none⟩ = some (.int .u8 0) ∧ u.cell? ⟨w.heap.size, 3, none⟩ = some (.int .i64 0) ∧ w.heap.size < u.heap.size :=
    fun u h => ⟨(h.box 0).free 0, (h.box 0).free 1, (h.box 0).free 2, (h.box 0).free 3, (h.box 0).read 0, (h.box 0).read 1, (h.box 0).read 2, (h.box 0).read 3, (h.box 0).inside⟩
  generalize World.alloc w _ = W at *
  go_wp2_with (first
    | (go_at_call 29; refine (cC _).mono ?_; rintro e w1 ⟨rfl, b1⟩; have H1 := H0.call b1)
    | (go_at_call 76; refine (cK _).mono ?_; rintro e w' ⟨rfl, rfl⟩)
    | (go_at_call 77; refine (cW _).mono ?_; rintro e w2 ⟨rfl, b2⟩; have H2 := H1.call b2; obtain ⟨f0, f1, f2, f3, c0, c1, c2, c3, hin⟩ := facts _ H2))
  have D := (H2.box 0).wrote 0 (.int .i64 n) |>.wrote 1 (.string s) |>.wrote 2 (.int .u8 B) |>.wrote 3 (.int .i64 A)
  have L := (((H2.below.setCell (p := ⟨w.heap.size, 0, none⟩) (Nat.le_refl _) (.int .i64 n)).setCell (p := ⟨w.heap.size, 1, none⟩) (Nat.le_refl _) (.string s)).setCell (p := ⟨w.heap.size, 2, none⟩) (Nat.le_refl _) (.int .u8 B)).setCell (p := ⟨w.heap.size, 3, none⟩) (Nat.le_refl _) (.int .i64 A)
  clear f0 f1 f2 f3 c0 c1 c2 c3 hin facts H0 H1 H2 cC cK cW b1 b2
  generalize World.setCell (World.setCell (World.setCell (World.setCell _ _ _) _ _) _ _) _ _ = Z at *
  exact bodyPost_ret (results_cell_row rfl _ _ w.heap.size 38 #[.int .i64 n, .string s, .int .u8 B, .int .i64 A] (0, 0) _ rfl D Tryd.underlying38 rfl (by kernel_rfl)) rfl ⟨rfl, L⟩
end Go.Proofs.YtfnbehijnmbhjaaDoor
