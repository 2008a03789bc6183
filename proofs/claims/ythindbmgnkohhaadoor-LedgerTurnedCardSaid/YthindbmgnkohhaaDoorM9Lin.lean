/- Several of my texts, laid as one. -/
import Derived.Test.YthindbmgnkohhaaDoorU9Base
import Derived.Test.YthindbmgnkohhaaDoorW1Has
import Derived.Test.YthindbmgnkohhaaDoorU5Clone
import Derived.RangeFuncNested
import Derived.RangeFuncBound
import Derived.RangeFuncCalls
import Derived.RangeFuncLeaves
import Derived.RangeFuncWrites
import Derived.RangeFuncBox
import Derived.Shelf.Abstract
import Derived.Shelf.RegionOpen
import Derived.OwnWalkIn
import Derived.TacticsInMore
import Derived.LoopNIn
import Derived.LoopIn
import Derived.Test.YthindbmgnkohhaaDoorW0Libs
import Derived.Maps.AppendAt
/-
  Package lines' stands, Kind, wrong, made, walked.
-/
namespace Go.Proofs.YthindbmgnkohhaaDoor
set_option linter.unusedVariables false
set_option linter.unusedSimpArgs false
set_option maxRecDepth 10000
open Go.RowKit Go.Lib

theorem decodeN_stand (n b0 b1 b2 b3 : Nat) (h0 : b0 < 256) (h1 : b1 < 256) (h2 : b2 < 256) (h3 : b3 < 256) (h : (decodeN n b0 b1 b2 b3).1 = 65533) (hz : (decodeN n b0 b1 b2 b3).2 ≠ 1) :
    2 < n ∧ b0 = 239 ∧ b1 = 191 ∧ b2 = 189 := by
  unfold decodeN at h hz
  by_cases c1 : b0 < 128
  · rw [if_pos c1] at h; simp at h; omega
  · rw [if_neg c1] at h hz
    by_cases c2 : b0 / 32 = 6 ∧ (1 < n ∧ b1 / 64 = 2)
    · rw [if_pos c2] at h hz
      split at h
      · simp at h; omega
      · rename_i hx; rw [if_neg hx] at hz; simp at hz
    · rw [if_neg c2] at h hz
      by_cases c3 : b0 / 16 = 14 ∧ (1 < n ∧ b1 / 64 = 2) ∧ (2 < n ∧ b2 / 64 = 2)
      · rw [if_pos c3] at h hz
        split at h
        · simp at h; omega
        · rename_i hx; rw [if_neg hx] at hz; simp at hz
      · rw [if_neg c3] at h hz
        by_cases c4 : b0 / 8 = 30 ∧ (1 < n ∧ b1 / 64 = 2) ∧ (2 < n ∧ b2 / 64 = 2) ∧ (3 < n ∧ b3 / 64 = 2)
        · rw [if_pos c4] at h hz
          split at h
          · simp at h; omega
          · rename_i hx; rw [if_neg hx] at hz; simp at hz
        · rw [if_neg c4] at h hz; simp at hz
theorem u8_eq (b : UInt8) (k : Nat) (h : b.toNat = k) (hk : k < 256) : b = UInt8.ofNat k := by
  apply UInt8.toNat_inj.1
  rw [h, UInt8.toNat_ofNat_of_lt' (by show _ < 256; exact hk)]
theorem stand_iff (l : List UInt8) (h : (decodeL l).1 = 65533) : ([239, 191, 189] : List UInt8).isPrefixOf l = !decide (badR l) := by
  by_cases hb : badR l
  · rw [decide_eq_true hb]
    match l with
    | [] => rfl
    | [a] => simp [List.isPrefixOf]
    | [a, b] => simp [List.isPrefixOf]
    | a :: b :: c :: t =>
      by_cases e : a = 239 ∧ b = 191 ∧ c = 189
      · obtain ⟨rfl, rfl, rfl⟩ := e
        exfalso
        have := hb.2
        rw [decodeL_N] at this
        have e2 : (decodeN (239 :: 191 :: 189 :: t : List UInt8).length 239 191 189 ((239 :: 191 :: 189 :: t : List UInt8).getD 3 0).toNat).2 = 1 := this
        unfold decodeN at e2
        have hl : (239 :: 191 :: 189 :: t : List UInt8).length = t.length + 3 := rfl
        rw [hl] at e2
        rw [if_neg (by decide), if_neg (by omega), if_pos (by omega), if_pos (by decide)] at e2
        simp at e2
      · have : ([239, 191, 189] : List UInt8).isPrefixOf (a :: b :: c :: t) = false := by
          rw [Bool.eq_false_iff]
          intro hp
          apply e
          simp [List.isPrefixOf] at hp
          exact ⟨hp.1.symm, hp.2.1.symm, hp.2.2.symm⟩
        rw [this]; rfl
  · rw [decide_eq_false hb]
    have hz : (decodeL l).2 ≠ 1 := fun e => hb ⟨h, e⟩
    rw [decodeL_N] at h hz
    obtain ⟨h2, a0, a1, a2⟩ := decodeN_stand _ _ _ _ _ (UInt8.toNat_lt _) (UInt8.toNat_lt _) (UInt8.toNat_lt _) (UInt8.toNat_lt _) h hz
    match l, h2 with
    | a :: b :: c :: t, _ =>
      have e0 := u8_eq a 239 a0 (by decide)
      have e1 := u8_eq b 191 a1 (by decide)
      have e2 := u8_eq c 189 a2 (by decide)
      subst e0 e1 e2
      simp [List.isPrefixOf]
set_option maxHeartbeats 2000000 in
theorem stands_any (l : List UInt8) (r : Nat) (hr : (decodeL l).1 = r) (w : World) : Calls Tryd.prog 103 #[.int .i32 r, .string (bA l)] w (Plain (.bool (!decide (badR l))) w) := by
  have cP := fun u => prefix_any (bA l) ⟨#[239, 191, 189]⟩ u
  rw [bA_list] at cP
  by_cases h : r = 65533
  · have e := stand_iff l (by omega)
    have e2 : (({ data := #[239, 191, 189] } : ByteArray).data.toList).isPrefixOf l = !decide (badR l) := e
    rw [e2] at cP
    generalize (!decide (badR l)) = A at *
    subst h
    clear hr e e2
    go_enter Tryd.func103, Tryd.ntmps103
    go_wp2_with (first | (go_at_call 102; refine (cP _).mono ?_; rintro e w' ⟨rfl, rfl⟩))
    go_ret
    exact ⟨rfl, rfl⟩
  · have hb : ¬ badR l := fun hb => h (by have := hb.1; omega)
    rw [decide_eq_false hb]
    have hi : ((r : Int) ≠ 65533) := by omega
    have hi2 : ((r : Int) = 65533) = False := by simp; omega
    clear cP hr hb
    go_enter Tryd.func103, Tryd.ntmps103
    go_wp2
    go_ret
    exact ⟨rfl, rfl⟩

set_option maxHeartbeats 2000000 in
theorem kind_any (s : ByteArray) (w : World) : Calls Tryd.prog 80 #[.string s] w (Plain (.int .u8 (kindL s.data.toList)) w) := by
  have cP := fun u => prefix_any s ⟨#[35]⟩ u
  cases hl : s.data.toList with
  | nil =>
    have e : s = ⟨#[]⟩ := ba_ext (by rw [hl])
    subst e
    clear cP hl
    go_enter Tryd.func80, Tryd.ntmps80
    go_wp2
    go_ret
    exact ⟨rfl, rfl⟩
  | cons c t =>
    have h0 : s.toList.isEmpty = false := by rw [Lib.toList_data, hl]; rfl
    have h1 : (s.toList == []) = false := by rw [Lib.toList_data, hl]; rfl
    have e : ({ data := #[35] } : ByteArray).data.toList.isPrefixOf s.data.toList = decide (c = 35) := by
      rw [hl]
      show ((35 : UInt8) == c && true) = _
      by_cases hc : c = 35
      · subst hc; rfl
      · rw [decide_eq_false hc, Bool.and_true]
        exact beq_false_of_ne fun e => hc e.symm
    rw [e] at cP
    clear e hl
    by_cases hc : c = 35
    · rw [decide_eq_true hc] at cP
      have hk : kindL (c :: t) = 1 := by simp [kindL, hc]
      rw [hk]
      clear hc hk
      go_enter Tryd.func80, Tryd.ntmps80
      go_wp2_with (first | (go_at_call 102; refine (cP _).mono ?_; rintro e w' ⟨rfl, rfl⟩))
      go_ret
      exact ⟨rfl, rfl⟩
    · rw [decide_eq_false hc] at cP
      have hk : kindL (c :: t) = 2 := by simp [kindL, hc]
      rw [hk]
      clear hc hk
      go_enter Tryd.func80, Tryd.ntmps80
      go_wp2_with (first | (go_at_call 102; refine (cP _).mono ?_; rintro e w' ⟨rfl, rfl⟩))
      go_ret
      exact ⟨rfl, rfl⟩

/-- What is wrong with a line, behind k runes of it. -/
def wrongK (k : Nat) (l : List UInt8) : Nat := match runesL l with
  | none => 90
  | some r => if 80 < k + r.length then 91 else 0
theorem wrongK_nil (k : Nat) : wrongK k [] = if 80 < k then 91 else 0 := rfl
theorem wrongK_bad (k : Nat) (l : List UInt8) (hl : l ≠ []) (hb : badR l) : wrongK k l = 90 := by
  unfold wrongK; rw [runesL_bad l hl hb]
theorem wrongK_good (k : Nat) (l : List UInt8) (hl : l ≠ []) (hb : ¬ badR l) : wrongK k l = wrongK (k + 1) (l.drop (decodeL l).2) := by
  unfold wrongK
  rw [runesL_good l hl hb]
  cases runesL (l.drop (decodeL l).2) with
  | none => rfl
  | some r => simp only [Option.map_some, List.length_cons, show k + (r.length + 1) = k + 1 + r.length by omega]
theorem wrongL_K (l : List UInt8) : wrongL l = wrongK 0 l := by
  unfold wrongL wrongK
  cases runesL l with
  | none => rfl
  | some r => simp only [Nat.zero_add]
theorem drop_ne' {s : ByteArray} {pos : Nat} (h : pos < s.size) : s.data.toList.drop pos ≠ [] := by
  intro e
  have := congrArg List.length e
  rw [List.length_drop, ba_size] at this
  simp at this
  omega
set_option maxHeartbeats 2000000 in
theorem wrong_any (s : ByteArray) (hs : s.size ≤ 1000000000) (w : World) : Calls Tryd.prog 81 #[.string s] w (Tells (.int .i64 (wrongL s.data.toList)) w.heap.size w) := by
  obtain ⟨A, hA⟩ : ∃ A : Nat, wrongL s.data.toList = A := ⟨_, rfl⟩
  rw [hA]
  rw [wrongL_K] at hA
  have HA := hideIt hA
  clear hA
  go_enter Tryd.func81, Tryd.ntmps81
  go_wp2
  go_loopw [3, 4, 5] (fun n i r w' => ∃ (pos k : Nat), w' = w.iter s pos ∧ n = .int .i64 k ∧ k ≤ pos ∧ pos ≤ s.size ∧ Hid (wrongK k (s.data.toList.drop pos) = A)) (fun _ _ _ w' => s.size - w'.iterPos w.heap.size)
  case atStart => exact ⟨0, 0, rfl, rfl, by omega, by omega, HA⟩
  case round =>
    obtain ⟨pos, k, rfl, rfl, hk, hps, hid⟩ := hrel
    by_cases hp : pos < s.size
    · have hnx : ∀ ty, (Instr.next (.pointer (some ⟨w.heap.size, 0, none⟩)) true ty).run Tryd.prog (w.iter s pos) = _ := fun ty => run_next_any w s pos ty hp
      have hne := drop_ne' hp
      have hdd := decodeL_drop s pos
      have hw := decodeL_width (s.data.toList.drop pos)
      have hle := decodeL_le _ hne
      rw [List.length_drop, ba_size] at hle
      have cS := fun u => stands_any (s.data.toList.drop pos) _ rfl u
      rw [← bA_ext s pos] at cS
      have hpi : (pos : Int) ≤ (s.size : Int) := by omega
      by_cases hb : badR (s.data.toList.drop pos)
      · rw [decide_eq_true hb] at cS
        have e := hid.out
        rw [wrongK_bad _ _ hne hb] at e
        subst e
        rw [hdd] at cS hle hw
        clear hid hdd hb hne
        generalize Utf8.decode s pos = d at *
        obtain ⟨r, z⟩ := d
        simp only at hnx hw cS hle
        go_wp2_with (first | (go_at_call 103; refine (cS _).mono ?_; rintro e w' ⟨rfl, rfl⟩))
        go_ret
        exact ⟨rfl, chainA (Below.refl _ _) _⟩
      · rw [decide_eq_false hb] at cS
        have e := hid.out
        rw [wrongK_good _ _ hne hb, List.drop_drop] at e
        rw [hdd] at cS hle hw e
        have HE := hideIt e
        clear hid hdd hb hne e
        generalize Utf8.decode s pos = d at *
        obtain ⟨r, z⟩ := d
        simp only at hnx hw cS hle HE
        go_wp2_with (first | (go_at_call 103; refine (cS _).mono ?_; rintro e w' ⟨rfl, rfl⟩))
        go_roundw
        case rel => exact ⟨pos + z, k + 1, rfl, by go_num, by omega, by omega, HE⟩
        case measure => simp; omega
    · have hnx : ∀ ty, (Instr.next (.pointer (some ⟨w.heap.size, 0, none⟩)) true ty).run Tryd.prog (w.iter s pos) = _ := fun ty => run_next_end w s pos ty hp
      have e := hid.out
      rw [List.drop_of_length_le (by rw [ba_size]; omega), wrongK_nil] at e
      clear hid
      by_cases h80 : 80 < k
      · rw [if_pos h80] at e
        subst e
        have h80i : (80 : Int) < (k : Int) := by omega
        go_wp2
        go_ret
        exact ⟨rfl, chainA (Below.refl _ _) _⟩
      · rw [if_neg h80] at e
        subst e
        have h80i : ¬ ((80 : Int) < (k : Int)) := by omega
        go_wp2
        go_ret
        exact ⟨rfl, chainA (Below.refl _ _) _⟩

set_option maxHeartbeats 2000000 in
theorem made_any (n : Int) (s : ByteArray) (hs : s.size ≤ 1000000000) (w : World) : Calls Tryd.prog 58 #[.int .i64 n, .string s] w
    (Tells (.agg #[.int .i64 n, .string s, .int .u8 (kindL s.data.toList), .int .i64 (wrongL s.data.toList)]) w.heap.size w) := by
  have cC := fun u => clone_any s (by omega) u
  have cK := fun u => kind_any s u
  have cW := fun u => wrong_any s hs u
  generalize (wrongL s.data.toList) = A at *
  generalize (kindL s.data.toList) = B at *
  go_enter Tryd.func58, Tryd.ntmps58
  go_upto_region 1 with fail
  have H0 := (Has.start w).add 82 #[.int .i64 0, .string ⟨#[]⟩, .int .u8 0, .int .i64 0]
  have facts : ∀ u, Has w [(w.heap.size, 82, #[.int .i64 0, .string ⟨#[]⟩, .int .u8 0, .int .i64 0])] u →
      u.frozen? ⟨w.heap.size, 0, none⟩ = false ∧ u.frozen? ⟨w.heap.size, 1, none⟩ = false ∧ u.frozen? ⟨w.heap.size, 2, none⟩ = false ∧ u.frozen? ⟨w.heap.size, 3, none⟩ = false ∧
      u.cell? ⟨w.heap.size, 0, none⟩ = some (.int .i64 0) ∧ u.cell? ⟨w.heap.size, 1, none⟩ = some (.string ⟨#[]⟩) ∧ u.cell? ⟨w.heap.size, 2, none⟩ = some (.int .u8 0) ∧ u.cell? ⟨w.heap.size, 3, none⟩ = some (.int .i64 0) ∧ w.heap.size < u.heap.size :=
    fun u h => ⟨(h.box 0).free 0, (h.box 0).free 1, (h.box 0).free 2, (h.box 0).free 3, (h.box 0).read 0, (h.box 0).read 1, (h.box 0).read 2, (h.box 0).read 3, (h.box 0).inside⟩
  generalize World.alloc w _ = W at *
  go_wp2_with (first
    | (go_at_call 42; refine (cC _).mono ?_; rintro e w1 ⟨rfl, b1⟩; have H1 := H0.call b1)
    | (go_at_call 80; refine (cK _).mono ?_; rintro e w' ⟨rfl, rfl⟩)
    | (go_at_call 81; refine (cW _).mono ?_; rintro e w2 ⟨rfl, b2⟩; have H2 := H1.call b2; obtain ⟨f0, f1, f2, f3, c0, c1, c2, c3, hin⟩ := facts _ H2))
  have D := (H2.box 0).wrote 0 (.int .i64 n) |>.wrote 1 (.string s) |>.wrote 2 (.int .u8 B) |>.wrote 3 (.int .i64 A)
  have L := (((H2.below.setCell (p := ⟨w.heap.size, 0, none⟩) (Nat.le_refl _) (.int .i64 n)).setCell (p := ⟨w.heap.size, 1, none⟩) (Nat.le_refl _) (.string s)).setCell (p := ⟨w.heap.size, 2, none⟩) (Nat.le_refl _) (.int .u8 B)).setCell (p := ⟨w.heap.size, 3, none⟩) (Nat.le_refl _) (.int .i64 A)
  clear f0 f1 f2 f3 c0 c1 c2 c3 hin facts H0 H1 H2 cC cK cW b1 b2
  generalize World.setCell (World.setCell (World.setCell (World.setCell _ _ _) _ _) _ _) _ _ = Z at *
  exact bodyPost_ret (results_cell_row rfl _ _ w.heap.size 82 #[.int .i64 n, .string s, .int .u8 B, .int .i64 A] (0, 0) _ rfl D Tryd.underlying82 rfl (by kernel_rfl)) rfl ⟨rfl, L⟩
end Go.Proofs.YthindbmgnkohhaaDoor
/-
  Package lines' Each, walked: the function that is ranged over goes over the text's lines, each with its number, its kind, and what is wrong with it.
-/
namespace Go.Proofs.YthindbmgnkohhaaDoor
set_option linter.unusedVariables false
set_option linter.unusedSimpArgs false
set_option maxRecDepth 10000
open Go.RowKit Go.Shelf
attribute [local go_sem] Oper.semAt_some

theorem made_line (k : Nat) (l : List UInt8) (hs : l.length ≤ 1000000000) (w : World) : Calls Tryd.prog 58 #[.int .i64 k, .string (bA l)] w (Tells (lineV (k, l)) w.heap.size w) := by
  have h := made_any k (bA l) (by rw [bA_size]; exact hs) w
  rw [bA_list] at h
  exact h
/-- The lines of a text, numbered. -/
def linesL (l : List UInt8) : List (Nat × List UInt8) := numb 1 (splitL l)
def leftM : Value → Value → Nat
  | .string s, .bool true => s.size + 1
  | _, _ => 0
theorem abide {J : List (Nat × List UInt8) → World → Prop} {B : Nat} (h : AbidesFrom B J) {s : List (Nat × List UInt8)} {W W' : World} (hs : J s W) (hb : Below W.heap.size W W') : J s W' :=
  h s W W' none hs ⟨hb.os, hb.tape, hb.output, hb.size, fun k hk _ => hb.block k hk⟩ (fun r e => by cases e)
theorem numb_len (k : Nat) (l : List (List UInt8)) : (numb k l).length = l.length := by
  induction l generalizing k with
  | nil => rfl
  | cons x r ih => simp [numb, ih]

set_option maxHeartbeats 1000000 in
theorem each_any (s : ByteArray) (w : World) : Calls Tryd.prog 36 #[.string s] w fun e w' =>
    e = .returned (.func (.func 56) #[] #[.pointer (some ⟨w.heap.size, 0, none⟩)]) ∧ w' = w.alloc (.cells #[.string s] 9) := by
  go_enter Tryd.func36, Tryd.ntmps36
  go_wp2
  go_ret
  exact ⟨rfl, rfl⟩

set_option maxRecDepth 100000 in
set_option maxHeartbeats 2000000 in
theorem each_in (n : Nat) (hn : 1 ≤ n) (l B : Nat) (s : ByteArray) (hs : s.size ≤ 1000000000) (J Jx : List (Nat × List UInt8) → World → Prop) (W : World) (hJ : AbidesFrom W.heap.size J)
    (hY : ∀ pre x W, J pre W → pre.length < (linesL s.data.toList).length → x.2.length ≤ s.size → YieldAt Fence.wide (n - 1) Tryd.prog l #[lineV x] W fun e W' =>
      (e = .returned (.bool true) ∧ J (pre ++ [x]) W' ∧ True) ∨ (e = .returned (.bool false) ∧ Jx (pre ++ [x]) W'))
    (hB : W.cell? ⟨B, 0, none⟩ = some (.string s)) (h0 : J [] W) :
    CallsIn Fence.wide n Tryd.prog 56 #[.func (.yield l) #[] #[], .pointer (some ⟨B, 0, none⟩)] W fun e W' => (∃ v, e = .returned v) ∧
      ((∃ xs, xs = linesL s.data.toList ∧ J xs W') ∨ (∃ pre, pre <+: linesL s.data.toList ∧ Jx pre W')) := by
  obtain ⟨all, hall⟩ : ∃ all, linesL s.data.toList = all := ⟨_, rfl⟩
  rw [hall] at hY ⊢
  have HALL := hideIt hall
  clear hall
  refine callsIn_of_wp Tryd.func56 rfl trivial ?_ rfl
  simp only [Tryd.ntmps56, List.size_toArray, List.length_cons, List.length_nil, Nat.reduceAdd, Nat.reduceSub, Array.replicate_succ, Array.replicate_zero, List.push_toArray, List.append_toArray, List.nil_append, List.cons_append]
  have hnil : ∀ u : World, (binOp .eql 105 (.func (.yield l) #[] #[]) .nilFunc).run Tryd.prog u = .ok (.bool false) u := fun u => by kernel_rfl
  refine wpIn_wide.2 ?_
  go_upto_region 1 with fail
  go_quiet (fail)
  have hw1 : IntKind.i64.wrap 1 = 1 := by decide
  have J0 : J [] (W.drewN nq) := abide hJ h0 (below_drewN (Below.refl _ _) _)
  have bW := below_drewN (Below.refl W.heap.size W) nq
  generalize W.drewN nq = V at *
  go_wp2
  refine (wpIn_wide (n := n)).1 ?_
  gi_loopw [3, 4, 5] (fun k r m wr => ∃ (pre : List (Nat × List UInt8)) (j : Nat), pre.length + 1 = j ∧ k = .int .i64 j ∧ j ≤ s.size + 2 ∧ J pre wr ∧
      ((m = .bool false ∧ Hid (pre = all)) ∨ (m = .bool true ∧ ∃ t : ByteArray, r = .string t ∧ t.size + j ≤ s.size + 1 ∧ Hid (pre ++ numb j (splitL t.data.toList) = all))))
    (fun k r m _ => leftM r m)
  case atStart => exact ⟨[], 1, rfl, rfl, by omega, J0, .inr ⟨rfl, s, rfl, by omega, HALL⟩⟩
  case round =>
    obtain ⟨pre, j, hj, rfl, hjs, hJr, hcase⟩ := hrel
    rcases hcase with ⟨rfl, hfin⟩ | ⟨rfl, t, rfl, htj, hrest⟩
    · gi_wp2
      go_end0
      exact ⟨⟨_, rfl⟩, .inl ⟨pre, hfin.out, hJr⟩⟩
    · have hj1 : IntKind.i64.wrap ((j : Int) + 1) = ((j + 1 : Nat) : Int) := by rw [IntKind.wrap_i64]; omega
      have hall2 := hrest.out
      by_cases hi : Lib.indexByte t.data.toList 10 < 0
      · have cC := fun u => cut_none t hi u
        rw [split_none (index_none hi)] at hall2
        have hlen : pre.length < all.length := by rw [← hall2]; simp [numb]
        have cM := fun u => made_line j t.data.toList (by rw [ba_size]; omega) u
        rw [bA_of] at cM
        have HA := hideIt hall2
        clear hall2 hrest hi
        gi_wp2_with (first
          | (refine ⟨trivial, ?_⟩; gi_at_call 57; refine (callsIn_wide.2 (cC _)).mono ?_; rintro e w1 ⟨rfl, rfl⟩)
          | (refine ⟨trivial, ?_⟩; gi_at_call 58; refine (callsIn_wide.2 (cM _)).mono ?_; rintro e w2 ⟨rfl, b2⟩; obtain ⟨fn, tmps, assign, body, hy, hR⟩ := hY pre (j, t.data.toList) w2 (abide hJ hJr b2) hlen (by simp only [ba_size]; omega)))
        refine hR.mono ?_
        rintro e W3 (⟨rfl, hJ3, -⟩ | ⟨rfl, hJx3⟩)
        · gi_wp2
          go_roundw
          case rel => exact ⟨pre ++ [(j, t.data.toList)], j + 1, by rw [List.length_append]; simp; omega, rfl, by omega, hJ3, .inl ⟨rfl, HA.out⟩⟩
          case measure => simp [leftM]
        · gi_wp2
          refine bodyPost_ret (results_none rfl _ _ _) rfl ?_
          exact ⟨⟨_, rfl⟩, .inr ⟨_, ⟨[], by rw [List.append_nil]; exact HA.out⟩, hJx3⟩⟩
      · obtain ⟨i, hi'⟩ : ∃ i : Nat, Lib.indexByte t.data.toList 10 = (i : Int) := ⟨(Lib.indexByte t.data.toList 10).toNat, by omega⟩
        have cC := fun u => cut_some t i hi' (by omega) u
        obtain ⟨hil, hi1, hi2⟩ := index_some hi'
        rw [ba_size] at hil
        rw [split_some hi1 hi2] at hall2
        obtain ⟨x, hx⟩ : ∃ x, t.data.toList.take i = x := ⟨_, rfl⟩
        obtain ⟨y, hy'⟩ : ∃ y, bA (t.data.toList.drop (i + 1)) = y := ⟨_, rfl⟩
        have hyl : y.data.toList = t.data.toList.drop (i + 1) := by rw [← hy', bA_list]
        have hys : y.size = t.size - (i + 1) := by rw [← ba_size, hyl, List.length_drop, ba_size]
        have hxs : x.length ≤ 1000000000 := by rw [← hx, List.length_take, ba_size]; omega
        have hxt : x.length ≤ s.size := by rw [← hx, List.length_take, ba_size]; omega
        rw [hx, ← hyl] at hall2
        rw [hx, hy'] at cC
        have hlen : pre.length < all.length := by rw [← hall2]; simp [numb]
        have cM := fun u => made_line j x hxs u
        have HA := hideIt hall2
        clear hall2 hrest hi hi' hi1 hi2 hx hy' hyl
        gi_wp2_with (first
          | (refine ⟨trivial, ?_⟩; gi_at_call 57; refine (callsIn_wide.2 (cC _)).mono ?_; rintro e w1 ⟨rfl, b1⟩)
          | (refine ⟨trivial, ?_⟩; gi_at_call 58; refine (callsIn_wide.2 (cM _)).mono ?_; rintro e w2 ⟨rfl, b2⟩; obtain ⟨fn, tmps, assign, body, hy, hR⟩ := hY pre (j, x) w2 (abide hJ hJr (chain b1 b2)) hlen hxt))
        refine hR.mono ?_
        rintro e W3 (⟨rfl, hJ3, -⟩ | ⟨rfl, hJx3⟩)
        · gi_wp2
          go_roundw
          case rel => exact ⟨pre ++ [(j, x)], j + 1, by rw [List.length_append]; simp; omega, rfl, by omega, hJ3, .inr ⟨rfl, y, rfl, by omega, by have := HA.out; rw [← this]; simp [Hid, numb]⟩⟩
          case measure => simp [leftM]; omega
        · gi_wp2
          refine bodyPost_ret (results_none rfl _ _ _) rfl ?_
          exact ⟨⟨_, rfl⟩, .inr ⟨_, ⟨numb (j + 1) (splitL y.data.toList), by have := HA.out; rw [← this]; simp [numb]⟩, hJx3⟩⟩

theorem each_stops (n : Nat) (hn : 1 ≤ n) (B : Nat) (s : ByteArray) (hs : s.size ≤ 1000000000) (w : World) (hB : w.cell? ⟨B, 0, none⟩ = some (.string s)) (hlB : B < w.heap.size) :
    SeqStopsK Fence.wide n Tryd.prog 56 #[.pointer (some ⟨B, 0, none⟩)] (fun x : Nat × List UInt8 => #[lineV x]) (fun _ _ => True) (fun xs => xs = linesL s.data.toList) (fun pre => pre <+: linesL s.data.toList)
      (linesL s.data.toList).length w := fun l J Jx W hW hJ _ hY h0 =>
  each_in n hn l B s hs J Jx W hJ (fun pre x W h1 h2 _ => hY pre x W h1 h2) ((hW.cell (p := ⟨B, 0, none⟩) hlB).trans hB) h0
/-- A line of a text of that size. -/
abbrev LnOf (n : Nat) := { x : Nat × List UInt8 // x.2.length ≤ n }
/-- The same, where who ranges over it is told of each line that it isn't longer than the text. -/
theorem each_stopsB (n : Nat) (hn : 1 ≤ n) (B : Nat) (s : ByteArray) (hs : s.size ≤ 1000000000) (w : World) (hB : w.cell? ⟨B, 0, none⟩ = some (.string s)) (hlB : B < w.heap.size) :
    SeqStopsK Fence.wide n Tryd.prog 56 #[.pointer (some ⟨B, 0, none⟩)] (fun x : LnOf s.size => #[lineV x.1]) (fun _ _ => True) (fun xs => xs.map (·.1) = linesL s.data.toList) (fun pre => pre.map (·.1) <+: linesL s.data.toList)
      (linesL s.data.toList).length w := fun l J Jx W hW hJ hJx hY h0 => by
  refine (each_in n hn l B s hs (fun pre W => ∃ p : List (LnOf s.size), p.map (·.1) = pre ∧ J p W) (fun pre W => ∃ p : List (LnOf s.size), p.map (·.1) = pre ∧ Jx p W) W ?_ ?_ ((hW.cell (p := ⟨B, 0, none⟩) hlB).trans hB) ⟨[], rfl, h0⟩).mono ?_
  · rintro pre W W' row ⟨p, hp, hj⟩ hg hr
    exact ⟨p, hp, hJ p W W' row hj hg hr⟩
  · rintro pre x W1 ⟨p, hp, hj⟩ hlt hx
    obtain ⟨fn, tmps, assign, body, hy, hR⟩ := hY p ⟨x, hx⟩ W1 hj (by rw [← hp, List.length_map] at hlt; exact hlt)
    refine ⟨fn, tmps, assign, body, hy, hR.mono ?_⟩
    rintro e W' (⟨h1, h2, h3⟩ | ⟨h1, h2⟩)
    · exact .inl ⟨h1, ⟨p ++ [⟨x, hx⟩], by rw [List.map_append, hp]; rfl, h2⟩, trivial⟩
    · exact .inr ⟨h1, ⟨p ++ [⟨x, hx⟩], by rw [List.map_append, hp]; rfl, h2⟩⟩
  · rintro e W' ⟨h1, h2⟩
    refine ⟨h1, ?_⟩
    rcases h2 with ⟨xs, e2, p, hp, hj⟩ | ⟨pre, h3, p, hp, hj⟩
    · exact .inl ⟨p, hp.trans e2, hj⟩
    · exact .inr ⟨p, by subst hp; exact h3, hj⟩
end Go.Proofs.YthindbmgnkohhaaDoor
/-
  Package lines' All, walked: slices.Collect and slices.AppendSeq over Each: a row of the call's own that holds the text's lines.
-/
namespace Go.Proofs.YthindbmgnkohhaaDoor
set_option linter.unusedVariables false
set_option linter.unusedSimpArgs false
set_option maxRecDepth 10000
open Go.RowKit Go.Shelf
attribute [local go_sem] Oper.semAt_some

theorem info_line : (Tryd.prog.info? 82).map (fun i => (i.zero, i.size, i.bytes)) = some (some (.agg #[.int .i64 0, .string ⟨#[]⟩, .int .u8 0, .int .i64 0]), 4, 40) := by kernel_rfl
theorem box_own {β : Type} (B : Nat) (t : TypeId) (f : β → Array Value) : Own (fun s W => Box W B t (f s)) := fun s X Y row hs hg hrow =>
  hs.grown hg fun e => by
    obtain ⟨o, ho, hc⟩ := hrow B e.symm
    rw [show X.heap[B]? = _ from hs] at ho
    cases ho
    cases hc
/-- The cells of lines. -/
def lineCs (l : List (Nat × List UInt8)) : List Value := l.flatMap lineC
theorem lineCs_snoc (l : List (Nat × List UInt8)) (x : Nat × List UInt8) : lineCs (l ++ [x]) = lineCs l ++ lineC x := by simp [lineCs]
theorem lineCs_len (l : List (Nat × List UInt8)) : (lineCs l).length = l.length * 4 := by
  induction l with
  | nil => rfl
  | cons x r ih => simp only [lineCs, List.flatMap_cons, List.length_append] at *; rw [ih]; simp [lineC]; omega

theorem keeps_call {W W' : World} (hb : Below W.heap.size W W') : KeepsOthers W W' := ⟨hb.size, fun k o hk _ => (hb.block k (Array.getElem?_eq_some_iff.1 hk).1).trans hk⟩
theorem split_len (l : List UInt8) : (splitL l).length = l.count 10 + 1 := by
  induction l with
  | nil => rfl
  | cons c r ih =>
    rw [splitL]
    by_cases h : c = 10
    · subst h
      rw [if_pos rfl, List.length_cons, ih, List.count_cons_self]
    · rw [if_neg h, List.count_cons_of_ne h]
      cases hs : splitL r with
      | nil => rw [hs] at ih; simp at ih
      | cons x y => rw [hs] at ih; simpa using ih
/-- Between two rounds: the box holds a row of the lines that have come. -/
def Coll (w : World) (pre : List (Nat × List UInt8)) (W : World) : Prop :=
  (∃ v, Boxed W w.heap.size 53 v ∧ W.ownsRow w.heap.size 82 4 v pre.length (lineCs pre) ∧ True) ∧ Below w.heap.size w W
theorem Coll.call {w W W' : World} {pre : List (Nat × List UInt8)} (h : Coll w pre W) (hb : Below W.heap.size W W') : Coll w pre W' := by
  obtain ⟨⟨v, h1, h2, -⟩, h3⟩ := h
  exact ⟨⟨v, (hb.block _ h1.lt).trans h1, own_below h2 hb, trivial⟩, chain h3 hb⟩
theorem coll_own (w : World) (D : Nat) (hD : w.heap.size ≤ D) : OwnFrom D (Coll w) :=
  OwnFrom.and (Own.from (holdsRow_own w.heap.size w.heap.size 53 82 4 (fun pre => pre.length) lineCs (fun _ _ => True)) _) (ownFrom_below (Nat.le_refl _) hD)
theorem lineC_one (x : Nat × List UInt8) : ∀ u ∈ lineC x, u.oneCell' = true := by
  intro u hu
  simp only [lineC, List.mem_cons, List.not_mem_nil, or_false] at hu
  rcases hu with rfl | rfl | rfl | rfl <;> rfl

set_option maxRecDepth 100000 in
set_option maxHeartbeats 2000000 in
theorem appendSeq_any (B : Nat) (s : ByteArray) (hs : s.size ≤ 1000000) (w : World) (hB : w.cell? ⟨B, 0, none⟩ = some (.string s)) (hlB : B < w.heap.size) :
    Calls Tryd.prog 67 #[.slice none 0 0, .func (.func 56) #[] #[.pointer (some ⟨B, 0, none⟩)]] w fun e W =>
      ∃ v, e = .returned v ∧ W.ownsRow w.heap.size 82 4 v (linesL s.data.toList).length (lineCs (linesL s.data.toList)) ∧ Below w.heap.size w W := by
  obtain ⟨i0, hi, hz0, hz1, hz2⟩ := info_parts info_line
  obtain ⟨all, hall⟩ : ∃ all, linesL s.data.toList = all := ⟨_, rfl⟩
  have hseq := fun (n : Nat) (hn : 1 ≤ n) (W : World) (h1 : W.cell? ⟨B, 0, none⟩ = some (.string s)) (h2 : B < W.heap.size) => each_stops n hn B s (by omega) W h1 h2
  rw [hall] at hseq ⊢
  refine (callsIn_wide (n := 9)).1 (callsIn_of_wp_marks Tryd.func67 rfl trivial ?_ rfl)
  simp only [Tryd.ntmps67, List.size_toArray, List.length_cons, List.length_nil, Nat.reduceAdd, Nat.reduceSub, Array.replicate_succ, Array.replicate_zero, List.push_toArray, List.append_toArray, List.nil_append, List.cons_append]
  gi_wp2
  have bO := Boxed.new w 53 (.slice none 0 0)
  have hB0 : Below w.heap.size w (w.alloc (.cells #[.slice none 0 0] 53)) := (Below.refl _ w).alloc (Nat.le_refl _) _
  have hlen : all.length ≤ 1000001 := by
    have h1 := List.count_le_length (l := s.data.toList) (a := (10 : UInt8))
    rw [ba_size] at h1
    rw [← hall, linesL, numb_len, split_len]
    omega
  have HLEN := hideIt hlen
  clear hlen
  refine wpIn_rangeFunc_ownH (F := Fence.wide) (n := 9) rfl (by decide) (gf := 56) (lb := #[.pointer (some ⟨B, 0, none⟩)]) rfl trivial (enters_of Tryd.func56 (by kernel_rfl) rfl)
    (hseq 8 (by decide) _ ((hB0.cell (p := ⟨B, 0, none⟩) hlB).trans hB) (by simp; omega)) (fun _ _ => trivial)
    (fun W l o o' hl h _ _ => trivial) (Below.refl _ _) (fun _ => rfl)
    (Coll w) (fun _ _ _ => False) (coll_own w _ (by simp)) (fun _ _ _ _ _ hs _ _ => hs) ⟨⟨_, bO, World.ownsRow_nil _ _ _ _, trivial⟩, hB0⟩
    (fun x a' W => ∃ Bx, w.heap.size < Bx ∧ Box W Bx 82 #[.int .i64 x.1, .string (bA x.2), .int .u8 (kindL x.2), .int .i64 (wrongL x.2)] ∧
      a' = { tmps := #[.slice none 0 0, .func (.func 56) #[] #[.pointer (some ⟨B, 0, none⟩)], .pointer (some ⟨w.heap.size, 0, none⟩), undef, .slice none 0 0, .pointer (some ⟨Bx, 0, none⟩),
        .func (.func 56) #[] #[.pointer (some ⟨B, 0, none⟩)], lineV x, undef, undef, undef, undef, undef], defers := [] })
    ?hAx ?assign ?body ?done ?stop
  case hAx =>
    rintro x a' s W W' row ⟨Bx, h1, h2, h3⟩ hg hr
    exact ⟨Bx, h1, box_own (β := Unit) Bx _ (fun _ => _) () W W' row h2 hg (fun r e => (hr r e).2), h3⟩
  case assign =>
    rintro l pre ⟨k, t⟩ W K hI hK
    have hb : w.heap.size < W.heap.size := by obtain ⟨⟨v, h1, -⟩, -⟩ := hI; exact h1.lt
    simp only [lineV] at hK ⊢
    gi_wp2
    exact hK _ _ ((KeepsOthers.alloc _ _).from _) trivial (hI.call ((Below.refl _ W).alloc (Nat.le_refl _) _)) ⟨W.heap.size, hb, Box.made _ _ _, rfl⟩
  case body =>
    rintro l pre ⟨k, t⟩ a' W hl ⟨r, hr⟩ hI ⟨Bx, hBx, hbox, rfl⟩ hlt
    obtain ⟨⟨v, hv, hrow, -⟩, hB1⟩ := hI
    have hc := hv.cell
    have r0 : W.cell? ⟨Bx, 0, none⟩ = some (.int .i64 k) := hbox.read 0
    have r1 : W.cell? ⟨Bx, 1, none⟩ = some (.string (bA t)) := hbox.read 1
    have r2 : W.cell? ⟨Bx, 2, none⟩ = some (.int .u8 (kindL t)) := hbox.read 2
    have r3 : W.cell? ⟨Bx, 3, none⟩ = some (.int .i64 (wrongL t)) := hbox.read 3
    have hle := HLEN.out
    have hml : pre.length + 1 ≤ maxLen := by unfold maxLen; omega
    have hpl : (pre.length + 1) * 40 ≤ 140737488355328 := by omega
    gi_wp2_with (first | (gi_at_builtin; refine wpListIn_append_own _ rfl _ _ 53 rfl w.heap.size 82 i0 (.agg #[.int .i64 0, .string ⟨#[]⟩, .int .u8 0, .int .i64 0]) 4 40 Tryd.underlying53 hi hz0 hz1 hz2 rfl (by decide) _ _ _ rfl (hrow.alloc _) ⟨W.heap.size, 0, none⟩ 1 1 (lineC (k, t)) rfl rfl (cells_new4 _ _ _) (lineC_one _) hml hpl (by have := hB1.size; simp; omega) ?_; intro v' w1 hown' hgrow _; obtain ⟨g', cap', rfl⟩ := ownsRow_succ hown'; obtain ⟨hv1, hv2, hr2, hk2, hb2⟩ := hv.appended (by decide) hrow hB1.size (Nat.le_refl _) hown' hgrow; have hc1 := hv1.cell; have hf1 := hv1.frozen))
    exact ⟨hk2.from _, trivial, ⟨_, hv2, by rw [lineCs_snoc, List.length_append]; exact hr2, trivial⟩, hB1.trans hb2⟩
  case done =>
    rintro D ys W hD rfl ⟨⟨v, hv, hrow, -⟩, hB1⟩ hK
    have hc := hv.cell
    gi_wp2
    refine ⟨by simp, .inl ⟨_, _, rfl, run_takeDeferred hK, ?_⟩⟩
    exact ⟨_, results_tmp rfl _ _ _, v, rfl, ownsRow_putObj hrow _ hK rfl, hB1.trans (belowK_b (w := w) (Nat.le_refl _) W D _ _ (by simp at hD; omega) hK rfl rfl)⟩
  case stop =>
    rintro D c pre W _ _ h _
    exact h.elim
/-- What a row of lines is, where it lies in a world. -/
def LineRow (b : Nat) (W : World) (v : Value) (l : List (Nat × List UInt8)) : Prop := ∃ g cap, v = .slice (some ⟨g, 0, none⟩) l.length cap ∧ b ≤ g ∧ g < W.heap.size ∧
  (∀ i x, l[i]? = some x → W.cell? ⟨g, i * 4, none⟩ = some (.int .i64 x.1) ∧ W.cell? ⟨g, i * 4 + 1, none⟩ = some (.string (bA x.2)) ∧ W.cell? ⟨g, i * 4 + 2, none⟩ = some (.int .u8 (kindL x.2)) ∧ W.cell? ⟨g, i * 4 + 3, none⟩ = some (.int .i64 (wrongL x.2)))
theorem lineCs_at (l : List (Nat × List UInt8)) (i : Nat) (x : Nat × List UInt8) (h : l[i]? = some x) (j : Nat) (hj : j < 4) : (lineCs l)[i * 4 + j]? = (lineC x)[j]? := by
  induction l generalizing i with
  | nil => simp at h
  | cons y r ih =>
    cases i with
    | zero =>
      obtain rfl : y = x := by simpa using h
      simp only [lineCs, List.flatMap_cons]
      rw [List.getElem?_append_left (by simp [lineC]; omega)]
      simp
    | succ i =>
      simp only [lineCs, List.flatMap_cons]
      rw [List.getElem?_append_right (by simp [lineC]; omega)]
      have := ih i (by simpa using h)
      rw [← this]
      have e : (lineC y).length = 4 := rfl
      rw [e, show (i + 1) * 4 + j - 4 = i * 4 + j by omega]
      rfl
theorem row_of_own {b : Nat} {W : World} {v : Value} {l : List (Nat × List UInt8)} (h : W.ownsRow b 82 4 v l.length (lineCs l)) (hl : l ≠ []) : LineRow b W v l := by
  have hpos : 0 < l.length := List.length_pos_iff.2 hl
  rcases h.2 with ⟨_, h2⟩ | ⟨g, cap, cur, hv, hg, hh, hc, hm, hsz, hcur⟩
  · omega
  · refine ⟨g, cap, hv, hg, (Array.getElem?_eq_some_iff.1 hh).1, fun i x hx => ?_⟩
    have hil : i < l.length := (List.getElem?_eq_some_iff.1 hx).1
    have key : ∀ j, j < 4 → W.cell? ⟨g, i * 4 + j, none⟩ = (lineC x)[j]? := fun j hj => by
      rw [← lineCs_at l i x hx j hj, ← hcur, List.getElem?_take_of_lt (by omega)]
      rw [cell_of_row W g (i * 4 + j) cur _ _ hh]
      simp
    exact ⟨key 0 (by omega), key 1 (by omega), key 2 (by omega), key 3 (by omega)⟩
theorem LineRow.call {b : Nat} {W W' : World} {v : Value} {l : List (Nat × List UInt8)} (h : LineRow b W v l) (hb : Below W.heap.size W W') : LineRow b W' v l := by
  obtain ⟨g, cap, h1, h2, h3, h4⟩ := h
  exact ⟨g, cap, h1, h2, Nat.lt_of_lt_of_le h3 hb.size, fun i x hx => by
    obtain ⟨a, b, c, d⟩ := h4 i x hx
    exact ⟨(hb.cell (p := ⟨g, _, none⟩) h3).trans a, (hb.cell (p := ⟨g, _, none⟩) h3).trans b, (hb.cell (p := ⟨g, _, none⟩) h3).trans c, (hb.cell (p := ⟨g, _, none⟩) h3).trans d⟩⟩
theorem linesL_ne (l : List UInt8) : linesL l ≠ [] := by
  intro h
  have := congrArg List.length h
  rw [linesL, numb_len, split_len] at this
  simp at this

set_option maxHeartbeats 1000000 in
theorem all_any (s : ByteArray) (hs : s.size ≤ 1000000) (w : World) : Calls Tryd.prog 21 #[.string s] w fun e W => ∃ v, e = .returned v ∧ LineRow w.heap.size W v (linesL s.data.toList) ∧ Below w.heap.size w W := by
  have cE := fun u => each_any s u
  have cA := fun B u h1 h2 => appendSeq_any B s hs u h1 h2
  have cC : ∀ u B, u.cell? ⟨B, 0, none⟩ = some (.string s) → B < u.heap.size → Calls Tryd.prog 45 #[.func (.func 56) #[] #[.pointer (some ⟨B, 0, none⟩)]] u fun e W =>
      ∃ v, e = .returned v ∧ W.ownsRow u.heap.size 82 4 v (linesL s.data.toList).length (lineCs (linesL s.data.toList)) ∧ Below u.heap.size u W := by
    intro u B h1 h2
    go_enter Tryd.func45, Tryd.ntmps45
    go_wp2_with (first | (go_at_call 67; refine (cA B _ h1 h2).mono ?_; rintro e w1 ⟨v, rfl, hr, b1⟩))
    go_ret
    exact ⟨_, rfl, hr, b1⟩
  have b0 := (Below.refl w.heap.size w).alloc (Nat.le_refl _) (.cells #[.string s] 9)
  have bx := Box.made w 9 #[.string s]
  go_enter Tryd.func21, Tryd.ntmps21
  go_wp2_with (first
    | (go_at_call 36; refine (cE _).mono ?_; rintro e w1 ⟨rfl, rfl⟩)
    | (go_at_call 45; refine (cC _ _ (bx.read 0) bx.inside).mono ?_; rintro e w1 ⟨v, rfl, hr, b1⟩))
  go_ret
  exact ⟨_, rfl, row_of_own (own_lower hr (by simp)) (linesL_ne _), chain b0 b1⟩
end Go.Proofs.YthindbmgnkohhaaDoor
/-
  Package lines' Check, walked: the first line with which something is wrong.
-/
namespace Go.Proofs.YthindbmgnkohhaaDoor
set_option linter.unusedVariables false
set_option linter.unusedSimpArgs false
set_option maxRecDepth 10000
open Go.RowKit Go.Shelf
attribute [local go_sem] Oper.semAt_some

/-- The first line with which something is wrong: its number, and what. -/
def firstW : List (Nat × List UInt8) → Nat × Nat
  | [] => (0, 0)
  | x :: r => if wrongL x.2 = 0 then firstW r else (x.1, wrongL x.2)
theorem firstW_good (pre l : List (Nat × List UInt8)) (h : ∀ x ∈ pre, wrongL x.2 = 0) : firstW (pre ++ l) = firstW l := by
  induction pre with
  | nil => rfl
  | cons x r ih =>
    rw [List.cons_append, firstW, if_pos (h x (by simp)), ih fun y hy => h y (by simp [hy])]
theorem firstW_hit (pre l : List (Nat × List UInt8)) (x : Nat × List UInt8) (h : ∀ x ∈ pre, wrongL x.2 = 0) (hx : wrongL x.2 ≠ 0) : firstW (pre ++ x :: l) = (x.1, wrongL x.2) := by
  rw [firstW_good pre _ h, firstW, if_neg hx]
theorem wrongL_cases (l : List UInt8) : wrongL l = 0 ∨ wrongL l = 90 ∨ wrongL l = 91 := by
  unfold wrongL
  split
  · simp
  · split <;> simp
/-- Nothing is wrong with these. -/
def AllOk (pre : List (Nat × List UInt8)) : Prop := ∀ x ∈ pre, wrongL x.2 = 0
theorem AllOk.snoc {pre : List (Nat × List UInt8)} {x : Nat × List UInt8} (h : AllOk pre) (hx : wrongL x.2 = 0) : AllOk (pre ++ [x]) := fun y hy => by
  rcases List.mem_append.1 hy with hy | hy
  · exact h y hy
  · obtain rfl := List.mem_singleton.1 hy; exact hx
/-- The two results' cells. -/
def TwoR (w : World) (a b : Nat) (W : World) : Prop :=
  (Box W w.heap.size 3 #[.int .i64 a] ∧ Box W (w.heap.size + 1) 24 #[.int .i64 b]) ∧ Below w.heap.size w W
theorem TwoR.call {w W W' : World} {a b : Nat} (h : TwoR w a b W) (hb : Below W.heap.size W W') : TwoR w a b W' := ⟨⟨h.1.1.call hb, h.1.2.call hb⟩, chain h.2 hb⟩
theorem twoR_own {β : Type} (w : World) (f g : β → Nat) (D : Nat) (hD : w.heap.size ≤ D) : OwnFrom D (fun s W => TwoR w (f s) (g s) W) :=
  OwnFrom.and (OwnFrom.and (Own.from (box_own _ _ (fun s => #[.int .i64 (f s)])) _) (Own.from (box_own _ _ (fun s => #[.int .i64 (g s)])) _)) (ownFrom_below (Nat.le_refl _) hD)

set_option maxRecDepth 100000 in
set_option maxHeartbeats 4000000 in
theorem check_any (s : ByteArray) (hs : s.size ≤ 1000000) (w : World) :
    Calls Tryd.prog 13 #[.string s] w (Tells (.tuple #[.int .i64 (firstW (linesL s.data.toList)).1, .int .i64 (firstW (linesL s.data.toList)).2]) w.heap.size w) := by
  obtain ⟨all, hall⟩ : ∃ all, linesL s.data.toList = all := ⟨_, rfl⟩
  have hseq := fun (n : Nat) (hn : 1 ≤ n) (B : Nat) (W : World) (h1 : W.cell? ⟨B, 0, none⟩ = some (.string s)) (h2 : B < W.heap.size) => each_stops n hn B s (by omega) W h1 h2
  have cE := fun u => each_any s u
  rw [hall] at hseq ⊢
  clear hall
  refine (callsIn_wide (n := 9)).1 (callsIn_of_wp_marks Tryd.func13 rfl trivial ?_ rfl)
  simp only [Tryd.ntmps13, List.size_toArray, List.length_cons, List.length_nil, Nat.reduceAdd, Nat.reduceSub, Array.replicate_succ, Array.replicate_zero, List.push_toArray, List.append_toArray, List.nil_append, List.cons_append]
  refine wpIn_wide.2 ?_
  go_upto_region 1 with fail
  have T0 : TwoR w 0 0 ((w.alloc (.cells #[.int .i64 0] 3)).alloc (.cells #[.int .i64 0] 24)) :=
    ⟨⟨(Box.made _ _ _).past _, by have h := Box.made (w.alloc (.cells #[.int .i64 0] 3)) 24 #[.int .i64 0]; rw [World.size_alloc] at h; exact h⟩, chainA (chainA (Below.refl _ _) _) _⟩
  have e1 : (w.alloc (.cells #[.int .i64 0] 3)).heap.size = w.heap.size + 1 := by simp
  generalize World.alloc (World.alloc _ _) _ = V at *
  go_wp2_with (first
    | (go_at_call 36; refine (cE _).mono ?_; rintro e w1 ⟨rfl, rfl⟩))
  have T1 := T0.call ((Below.refl _ V).alloc (Nat.le_refl _) (.cells #[.string s] 9))
  have bx := Box.made V 9 #[.string s]
  have hVs : w.heap.size + 1 < V.heap.size := T0.1.2.inside
  have hYs : (V.alloc (.cells #[.string s] 9)).heap.size = V.heap.size + 1 := by simp
  generalize World.alloc V _ = Y at *
  refine (wpIn_wide (n := 9)).1 ?_
  refine wpIn_rangeFunc_ownH (F := Fence.wide) (n := 9) rfl (by decide) (gf := 56) (lb := #[.pointer (some ⟨V.heap.size, 0, none⟩)]) rfl trivial (enters_of Tryd.func56 (by kernel_rfl) rfl)
    (hseq 8 (by decide) V.heap.size Y (bx.read 0) bx.inside) (fun _ _ => trivial)
    (fun W l o o' hl h _ _ => trivial) (Below.refl _ _) (fun _ => rfl)
    (fun pre W => TwoR w 0 0 W ∧ AllOk pre) (fun c pre W => c = .ret ∧ ∃ (q : List (Nat × List UInt8)) (x : Nat × List UInt8), pre = q ++ [x] ∧ AllOk q ∧ wrongL x.2 ≠ 0 ∧ TwoR w x.1 (wrongL x.2) W)
    (OwnFrom.and (twoR_own w (fun _ => 0) (fun _ => 0) _ (by omega)) (fun _ _ _ _ hs _ _ => hs))
    (fun c s W W' row hs hg hr => by
      obtain ⟨hc, q, x, h1, h2, h3, h4⟩ := hs
      exact ⟨hc, q, x, h1, h2, h3, twoR_own (β := Unit) w (fun _ => x.1) (fun _ => wrongL x.2) _ (by omega) () W W' row h4 hg hr⟩)
    ⟨T1, fun x hx => by simp at hx⟩
    (fun x a' W => ∃ Bx, w.heap.size + 1 < Bx ∧ Box W Bx 82 #[.int .i64 x.1, .string (bA x.2), .int .u8 (kindL x.2), .int .i64 (wrongL x.2)] ∧
      a' = { tmps := #[.string s, undef, .pointer (some ⟨w.heap.size, 0, none⟩), .pointer (some ⟨w.heap.size + 1, 0, none⟩), .pointer (some ⟨Bx, 0, none⟩), .string s,
        .func (.func 56) #[] #[.pointer (some ⟨V.heap.size, 0, none⟩)], lineV x, undef, undef, undef, undef, undef, undef, undef], defers := [] })
    ?hAx ?assign ?body ?done ?stop
  case hAx =>
    rintro x a' s W W' row ⟨Bx, h1, h2, h3⟩ hg hr
    exact ⟨Bx, h1, box_own (β := Unit) Bx _ (fun _ => _) () W W' row h2 hg (fun r e => (hr r e).2), h3⟩
  case assign =>
    rintro l pre ⟨k, t⟩ W K ⟨hI, hq⟩ hK
    have hb : w.heap.size + 1 < W.heap.size := hI.1.2.inside
    simp only [lineV] at hK ⊢
    gi_wp2
    exact hK _ _ ((KeepsOthers.alloc _ _).from _) trivial ⟨hI.call ((Below.refl _ W).alloc (Nat.le_refl _) _), hq⟩ ⟨W.heap.size, hb, Box.made _ _ _, rfl⟩
  case body =>
    rintro l pre ⟨k, t⟩ a' W hl ⟨r, hr⟩ ⟨hI, hq⟩ ⟨Bx, hBx, hbox, rfl⟩ hlt
    have r0 : W.cell? ⟨Bx, 0, none⟩ = some (.int .i64 k) := hbox.read 0
    have r3 : W.cell? ⟨Bx, 3, none⟩ = some (.int .i64 (wrongL t)) := hbox.read 3
    have hbi := hbox.inside
    by_cases h0 : wrongL t = 0
    · rw [h0] at r3
      gi_wp2
      exact ⟨KeepsFrom.refl _ _, trivial, hI, hq.snoc h0⟩
    · obtain ⟨A, hA⟩ : ∃ A, wrongL t = A := ⟨_, rfl⟩
      have h0' := h0
      rw [hA] at r3 h0
      have h0i : ¬ ((A : Int) = 0) := by omega
      have i0 := hI.1.1.inside
      have i1 := hI.1.2.inside
      have c0 : W.cell? ⟨w.heap.size, 0, none⟩ = some (.int .i64 0) := hI.1.1.read 0
      have c1 : W.cell? ⟨w.heap.size + 1, 0, none⟩ = some (.int .i64 0) := hI.1.2.read 0
      have f0 := hI.1.1.free 0
      have f1 := hI.1.2.free 0
      have b0 : TwoR w k A (((W.setCell ⟨w.heap.size, 0, none⟩ (.int .i64 k)).setCell ⟨w.heap.size + 1, 0, none⟩ (.int .i64 A)).drew) :=
        ⟨⟨(hI.1.1.wrote 0 (.int .i64 k)).apart (p := ⟨w.heap.size + 1, 0, none⟩) (by simp) _, (hI.1.2.apart (p := ⟨w.heap.size, 0, none⟩) (by simp) _).wrote 0 (.int .i64 A)⟩,
          ((hI.2.setCell (p := ⟨w.heap.size, 0, none⟩) (Nat.le_refl _) _).setCell (p := ⟨w.heap.size + 1, 0, none⟩) (by simp) _).drew⟩
      have k0 : KeepsFrom Y.heap.size W (((W.setCell ⟨w.heap.size, 0, none⟩ (.int .i64 k)).setCell ⟨w.heap.size + 1, 0, none⟩ (.int .i64 A)).drew) :=
        (((KeepsOthers.setCell W _ _).trans (KeepsOthers.setCell _ _ _)).trans (KeepsOthers.drew _)).from _
      have fin_ : KeepsFrom Y.heap.size W (((W.setCell ⟨w.heap.size, 0, none⟩ (.int .i64 k)).setCell ⟨w.heap.size + 1, 0, none⟩ (.int .i64 A)).drew) ∧
          (Code.ret = Code.ret ∧ ∃ (q : List (Nat × List UInt8)) (x : Nat × List UInt8), pre ++ [(k, t)] = q ++ [x] ∧ AllOk q ∧ wrongL x.2 ≠ 0 ∧ TwoR w x.1 (wrongL x.2) (((W.setCell ⟨w.heap.size, 0, none⟩ (.int .i64 k)).setCell ⟨w.heap.size + 1, 0, none⟩ (.int .i64 A)).drew)) :=
        ⟨k0, rfl, pre, (k, t), rfl, hq, h0', by rw [hA]; exact b0⟩
      have FIN := hideIt fin_
      have hmx : Tryd.prog.follows .mixedOrders = true := by kernel_rfl
      clear fin_ b0 k0 hA h0' hq
      gi_wp2
      gi_region_o
      all_goals gi_wp2
      all_goals exact ⟨FIN.out.1, rfl, FIN.out.2.2⟩
  case done =>
    rintro D xs W hD rfl ⟨hI, hq⟩ hK
    have hf : firstW xs = (0, 0) := by have := firstW_good xs [] hq; rw [List.append_nil] at this; exact this
    have i0 := hI.1.1.inside
    have i1 := hI.1.2.inside
    have c0 : W.cell? ⟨w.heap.size, 0, none⟩ = some (.int .i64 0) := hI.1.1.read 0
    have c1 : W.cell? ⟨w.heap.size + 1, 0, none⟩ = some (.int .i64 0) := hI.1.2.read 0
    have f0 := hI.1.1.free 0
    have f1 := hI.1.2.free 0
    have hDw : w.heap.size + 1 < D := by omega
    have b0 : TwoR w 0 0 ((W.setCell ⟨w.heap.size, 0, none⟩ (.int .i64 0)).setCell ⟨w.heap.size + 1, 0, none⟩ (.int .i64 0)) :=
      ⟨⟨(hI.1.1.wrote 0 (.int .i64 0)).apart (p := ⟨w.heap.size + 1, 0, none⟩) (by simp) _, (hI.1.2.apart (p := ⟨w.heap.size, 0, none⟩) (by simp) _).wrote 0 (.int .i64 0)⟩,
        ((hI.2.setCell (p := ⟨w.heap.size, 0, none⟩) (Nat.le_refl _) _).setCell (p := ⟨w.heap.size + 1, 0, none⟩) (by simp) _)⟩
    have hK2 : ((W.setCell ⟨w.heap.size, 0, none⟩ (.int .i64 0)).setCell ⟨w.heap.size + 1, 0, none⟩ (.int .i64 0)).heap[D]? = some (.deferred (some [])) :=
      (Below.heap_setCell _ ⟨w.heap.size + 1, 0, none⟩ _ D (by dsimp only; omega)).trans ((Below.heap_setCell _ ⟨w.heap.size, 0, none⟩ _ D (by dsimp only; omega)).trans hK)
    dsimp only [Exit.inBlock, Exit.then]
    go_wp2
    have T := (twoR_own (β := Unit) w (fun _ => 0) (fun _ => 0) w.heap.size (Nat.le_refl _)).putObj (s := ()) (.deferred none) b0 (by omega : w.heap.size ≤ D) hK2 rfl
    refine ⟨by simp, .inl ⟨_, _, rfl, run_takeDeferred hK2, ?_⟩⟩
    generalize World.putObj _ D _ = Z at *
    have x0 : Z.cell? ⟨w.heap.size, 0, none⟩ = some (.int .i64 0) := T.1.1.read 0
    have x1 : Z.cell? ⟨w.heap.size + 1, 0, none⟩ = some (.int .i64 0) := T.1.2.read 0
    exact ⟨.tuple #[.int .i64 0, .int .i64 0], by simp [results, Tryd.results13, go_sem, x0, x1], by rw [hf]; rfl, T.2⟩
  case stop =>
    rintro D c pre W hD hSp ⟨rfl, q, x, rfl, hq, hx, hT⟩ hK
    obtain ⟨rest, hrest⟩ := hSp
    have hf : firstW all = (x.1, wrongL x.2) := by rw [← hrest, List.append_assoc]; exact firstW_hit q rest x hq hx
    gi_wp2
    have T := (twoR_own (β := Unit) w (fun _ => x.1) (fun _ => wrongL x.2) w.heap.size (Nat.le_refl _)).putObj (s := ()) (.deferred none) hT (by omega : w.heap.size ≤ D) hK rfl
    refine ⟨by simp, .inl ⟨_, _, rfl, run_takeDeferred hK, ?_⟩⟩
    generalize World.putObj _ D _ = Z at *
    have x0 : Z.cell? ⟨w.heap.size, 0, none⟩ = some (.int .i64 x.1) := T.1.1.read 0
    have x1 : Z.cell? ⟨w.heap.size + 1, 0, none⟩ = some (.int .i64 (wrongL x.2)) := T.1.2.read 0
    exact ⟨.tuple #[.int .i64 x.1, .int .i64 (wrongL x.2)], by simp [results, Tryd.results13, go_sem, x0, x1], by rw [hf], T.2⟩
end Go.Proofs.YthindbmgnkohhaaDoor
