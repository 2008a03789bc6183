/- Several of my texts, laid as one. -/
import Derived.Test.YthindbmgnkohhaaDoorU9Runes
import Derived.Test.YthindbmgnkohhaaDoorR7Rune
import Derived.Test.YthindbmgnkohhaaDoorM9Lin
import Derived.Test.YthindbmgnkohhaaDoorU9Join
import Derived.Laws.Concat
/-
  paymasterref09.Runes, Wrong, Kind, walked.
-/
namespace Go.Proofs.YthindbmgnkohhaaDoor
set_option linter.unusedVariables false
set_option linter.unusedSimpArgs false
set_option maxRecDepth 10000
open Go.RowKit Go.Lib

set_option maxRecDepth 100000 in
set_option maxHeartbeats 2000000 in
theorem rrunes_any (s : ByteArray) (hs : s.size ≤ 1000000) (w : World) : Calls Tryd.prog 73 #[.string s] w fun e W =>
    ∃ v err, e = .returned (.tuple #[v, .int .i64 err]) ∧ RunesAre w.heap.size (runesL s.data.toList) v err W ∧ Below w.heap.size w W := by
  obtain ⟨i0, hi, hz0, hz1, hz2⟩ := info_parts info_rune
  obtain ⟨A, hA⟩ : ∃ A, runesL s.data.toList = A := ⟨_, rfl⟩
  rw [hA]
  have HA := hideIt hA
  clear hA
  go_enter Tryd.func73, Tryd.ntmps73
  go_wp2
  go_loopw [4, 5, 6, 7] (fun v a c m wr => ∃ (pos : Nat) (pre : List Nat), a = .int .i64 pos ∧ wr.ownsRow w.heap.size 21 1 v pre.length (runeCs pre) ∧ pre.length ≤ pos ∧ pos ≤ s.size ∧
      Below w.heap.size w wr ∧ Hid ((runesL (s.data.toList.drop pos)).map (pre ++ ·) = A)) (fun _ a _ _ _ => s.size - (RowKit.intOf a).toNat)
  case atStart =>
    refine ⟨0, [], rfl, by exact World.ownsRow_nil _ _ _ _, by simp, by omega, Below.refl _ _, ?_⟩
    have := HA.out
    rw [← this]
    show Option.map _ (runesL s.data.toList) = _
    cases runesL s.data.toList <;> rfl
  case round =>
    obtain ⟨pos, pre, rfl, hown, hpp, hps, hb, hid⟩ := hrel
    by_cases hp : pos < s.size
    · have hpi : (pos : Int) < (s.size : Int) := by omega
      have hne := drop_ne' hp
      have hw := decodeL_width (s.data.toList.drop pos)
      have hle := decodeL_le _ hne
      have hrn := decodeL_rune (s.data.toList.drop pos)
      rw [List.length_drop, ba_size] at hle
      have cR := fun u => rune_any s pos hp hs u
      by_cases hbad : badR (s.data.toList.drop pos)
      · have e0 : runeR (s.data.toList.drop pos) = (0, 0) := if_pos hbad
        rw [e0] at cR
        have e := hid.out
        rw [runesL_bad _ hne hbad] at e
        have e : A = none := e.symm
        subst e
        clear hid hbad hne e0 hw hle hrn
        go_wp2_with (first | (go_at_call 93; refine (cR _).mono ?_; rintro e w' ⟨rfl, rfl⟩))
        go_ret2
        exact ⟨_, _, rfl, ⟨rfl, rfl⟩, hb⟩
      · have e0 : runeR (s.data.toList.drop pos) = decodeL (s.data.toList.drop pos) := if_neg hbad
        rw [e0] at cR
        have e := hid.out
        rw [runesL_good _ hne hbad, List.drop_drop] at e
        have HE := hideIt e
        clear hid hbad hne e e0
        generalize decodeL (s.data.toList.drop pos) = d at *
        obtain ⟨r, z⟩ := d
        simp only at hw cR hle HE hrn
        have hml : pre.length + 1 ≤ maxLen := by unfold maxLen; omega
        have hpl : (pre.length + 1) * 4 ≤ 140737488355328 := by omega
        have hz0i : ¬ ((z : Int) = 0) := by omega
        have hr32 : IntKind.i32.wrap (r : Int) = r := by rw [IntKind.wrap_i32]; omega
        have hzz : IntKind.i64.wrap ((pos : Int) + z) = ((pos + z : Nat) : Int) := by rw [IntKind.wrap_i64]; omega
        go_wp2_with (first
          | (go_at_call 93; refine (cR _).mono ?_; rintro e w' ⟨rfl, rfl⟩)
          | (at_builtin; refine wpList_append_own (w := wr.alloc (.cells #[.int .i32 r] 21)) rfl _ _ 121 rfl w.heap.size 21 i0 (.int .i32 0) 1 4 Tryd.underlying121 hi hz0 hz1 hz2 rfl (by decide) _ _ _ rfl (hown.alloc _) ⟨wr.heap.size, 0, none⟩ 1 1 [.int .i32 r] rfl rfl (one_new _ _ _) (by simp [Value.oneCell']) hml hpl (by have := hb.size; simp; omega) ?_; intro v' w1 hown' hgrow _))
        go_roundw
        case rel =>
          have q2 : w1.ownsRow w.heap.size 21 1 v' (pre ++ [r]).length (runeCs (pre ++ [r])) := by
            have e1 : (pre ++ [r]).length = pre.length + 1 := by simp
            have e2 : runeCs (pre ++ [r]) = runeCs pre ++ [.int .i32 (r : Int)] := by simp [runeCs]
            rw [e1, e2]
            exact hown'
          have q3 : Below w.heap.size w w1 := (chainA hb _).grown hgrow (by have := hb.size; simp; omega) (fun k hk => (hown.lt k hk).1)
          exact ⟨pos + z, pre ++ [r], by go_num, q2, by simp; omega, by omega, q3, by
            have := HE.out
            rw [← this]
            show _ = _
            rw [Option.map_map]
            congr 1
            funext x
            simp⟩
        case measure => simp [RowKit.intOf, hzz]; omega
    · have hpi : ¬ ((pos : Int) < (s.size : Int)) := by omega
      have e := hid.out
      rw [List.drop_of_length_le (by rw [ba_size]; omega), runesL_nil] at e
      have e : A = some pre := by rw [← e]; simp
      subst e
      clear hid
      go_wp2
      go_ret2
      exact ⟨_, _, rfl, ⟨rfl, hown⟩, hb⟩

/-- What a row of runes is told of by: an error, or how long it is. -/
theorem runes_len {b : Nat} {l : List UInt8} {v : Value} {err : Int} {W : World} (h : RunesAre b (runesL l) v err W) :
    (err = 90 ∧ v = .slice none 0 0 ∧ wrongL l = 90 ∧ runesL l = none) ∨ (err = 0 ∧ ∃ r, runesL l = some r ∧ (∃ a c, v = .slice a r.length c) ∧ wrongL l = if 80 < r.length then 91 else 0) := by
  unfold RunesAre at h
  unfold wrongL
  cases hr : runesL l with
  | none => rw [hr] at h; exact .inl ⟨h.2, h.1, rfl, rfl⟩
  | some r =>
    rw [hr] at h
    refine .inr ⟨h.1, r, rfl, ?_, rfl⟩
    rcases h.2.2 with ⟨h1, h2⟩ | ⟨g, cap, cur, h1, -⟩
    · exact ⟨none, 0, by rw [h1, h2]⟩
    · exact ⟨_, _, h1⟩
set_option maxHeartbeats 2000000 in
theorem rwrong_any (s : ByteArray) (hs : s.size ≤ 1000000) (w : World) : Calls Tryd.prog 50 #[.string s] w (Tells (.int .i64 (wrongL s.data.toList)) w.heap.size w) := by
  have cR := fun u => rrunes_any s hs u
  go_enter Tryd.func50, Tryd.ntmps50
  go_upto_region 2 with (first | (go_at_call 73; refine (cR _).mono ?_; rintro e w1 ⟨v, err, rfl, hA, b1⟩))
  rcases runes_len hA with ⟨rfl, rfl, hw, -⟩ | ⟨rfl, r, -, ⟨a, c, rfl⟩, hw⟩
  · have HW := hideIt hw
    clear hA hw cR
    go_wp2
    go_ret
    exact ⟨by rw [HW.out]; rfl, b1⟩
  · have HW := hideIt hw
    clear hA hw cR
    by_cases h80 : 80 < r.length
    · have h80i : (80 : Int) < (r.length : Int) := by omega
      go_wp2
      go_ret
      exact ⟨by rw [HW.out, if_pos h80]; rfl, b1⟩
    · have h80i : ¬ ((80 : Int) < (r.length : Int)) := by omega
      go_wp2
      go_ret
      exact ⟨by rw [HW.out, if_neg h80]; rfl, b1⟩
end Go.Proofs.YthindbmgnkohhaaDoor
/-
  paymasterref09.Split, Check, Join, walked.
-/
namespace Go.Proofs.YthindbmgnkohhaaDoor
set_option linter.unusedVariables false
set_option linter.unusedSimpArgs false
set_option maxRecDepth 10000
open Go.RowKit Go.Lib

theorem info_str : (Tryd.prog.info? 9).map (fun i => (i.zero, i.size, i.bytes)) = some (some (.string ⟨#[]⟩), 1, 16) := by kernel_rfl
def strCs (l : List (List UInt8)) : List Value := l.map fun x => Value.string (bA x)
theorem ext_mid (s : ByteArray) (f k : Nat) : s.extract f k = bA ((s.data.toList.drop f).take (k - f)) := by
  apply ba_ext
  rw [ext_toList, bA_list, List.drop_take]
theorem byte_at (s : ByteArray) (k : Nat) (h : k < s.size) : s.data.toList[k]? = some (s[k]'h) := by
  rw [Array.getElem?_toList]
  exact Array.getElem?_eq_getElem h

set_option maxRecDepth 100000 in
set_option maxHeartbeats 2000000 in
theorem rsplit_any (s : ByteArray) (hs : s.size ≤ 1000000) (w : World) : Calls Tryd.prog 26 #[.string s] w fun e W =>
    ∃ v, e = .returned v ∧ W.ownsRow w.heap.size 9 1 v (splitL s.data.toList).length (strCs (splitL s.data.toList)) ∧ Below w.heap.size w W := by
  obtain ⟨i0, hi, hz0, hz1, hz2⟩ := info_parts info_str
  obtain ⟨A, hA⟩ : ∃ A, splitL s.data.toList = A := ⟨_, rfl⟩
  rw [hA]
  have HA := hideIt hA
  clear hA
  go_enter Tryd.func26, Tryd.ntmps26
  go_wp2
  go_loopw [3, 4, 5] (fun v f i wr => ∃ (k a : Nat) (pre : List (List UInt8)), i = .int .i64 k ∧ f = .int .i64 a ∧ wr.ownsRow w.heap.size 9 1 v pre.length (strCs pre) ∧ pre.length ≤ k ∧ Below w.heap.size w wr ∧
      ((k ≤ s.size ∧ a ≤ k ∧ Hid ((10 : UInt8) ∉ (s.data.toList.drop a).take (k - a)) ∧ Hid (pre ++ splitL (s.data.toList.drop a) = A)) ∨ (k = s.size + 1 ∧ Hid (pre = A)))) (fun _ _ i _ => s.size + 1 - (RowKit.intOf i).toNat)
  case atStart =>
    exact ⟨0, 0, [], rfl, rfl, by exact World.ownsRow_nil _ _ _ _, by simp, Below.refl _ _, .inl ⟨by omega, by omega, by simp [Hid], HA⟩⟩
  case round =>
    obtain ⟨k, a, pre, rfl, rfl, hown, hpk, hb, hcase⟩ := hrel
    rcases hcase with ⟨hk, hak, hno, hall⟩ | ⟨hk, hfin⟩
    · have hki : (k : Int) ≤ (s.size : Int) := by omega
      have hkk : IntKind.i64.wrap ((k : Int) + 1) = ((k + 1 : Nat) : Int) := by rw [IntKind.wrap_i64]; omega
      have hml : pre.length + 1 ≤ maxLen := by unfold maxLen; omega
      have hpl : (pre.length + 1) * 16 ≤ 140737488355328 := by omega
      have haki : (a : Int) ≤ (k : Int) := by omega
      by_cases hke : k = s.size
      · subst hke
        have hfull : (s.data.toList.drop a).take (s.size - a) = s.data.toList.drop a := List.take_of_length_le (by rw [List.length_drop, ba_size]; omega)
        have e1 := hno.out
        rw [hfull] at e1
        have e2 := hall.out
        rw [split_none e1] at e2
        have ex : s.extract a s.size = bA (s.data.toList.drop a) := by rw [ext_mid, hfull]
        have HE := hideIt e2
        clear hno hall hfull e1 e2
        generalize s.data.toList.drop a = q at *
        go_wp2_with (first
          | (at_builtin; refine wpList_append_own (w := wr.alloc (.cells #[.string (bA q)] 9)) rfl _ _ 31 rfl w.heap.size 9 i0 (.string ⟨#[]⟩) 1 16 Tryd.underlying31 hi hz0 hz1 hz2 rfl (by decide) _ _ _ rfl (hown.alloc _) ⟨wr.heap.size, 0, none⟩ 1 1 [.string (bA q)] rfl rfl (one_new _ _ _) (by simp [Value.oneCell']) hml hpl (by have := hb.size; simp; omega) ?_; intro v' w1 hown' hgrow _))
        have q3 : Below w.heap.size w w1 := (chainA hb _).grown hgrow (by have := hb.size; simp; omega) (fun k hk => (hown.lt k hk).1)
        have q2 : w1.ownsRow w.heap.size 9 1 v' (pre ++ [q]).length (strCs (pre ++ [q])) := by
          have e1 : (pre ++ [q]).length = pre.length + 1 := by simp
          have e2 : strCs (pre ++ [q]) = strCs pre ++ [.string (bA q)] := by simp [strCs]
          rw [e1, e2]
          exact hown'
        go_roundw
        case rel => exact ⟨s.size + 1, s.size + 1, pre ++ [q], by go_num, by go_num, q2, by simp; omega, q3, .inr ⟨rfl, HE⟩⟩
        case measure => simp [RowKit.intOf, hkk]
      · have hkl : k < s.size := by omega
        have hkli : (k : Int) < (s.size : Int) := by omega
        have hknei : ¬ ((k : Int) = (s.size : Int)) := by omega
        have hkneb : ((k : Int) == (s.size : Int)) = false := beq_false_of_ne hknei
        have hbk := byte_at s k hkl
        have hkey : (s.data.toList.drop a)[k - a]? = some (s[k]'hkl) := by rw [List.getElem?_drop, show a + (k - a) = k by omega]; exact hbk
        have hts : (s.data.toList.drop a).take (k + 1 - a) = (s.data.toList.drop a).take (k - a) ++ [s[k]'hkl] := by
          rw [show k + 1 - a = k - a + 1 by omega, List.take_add_one, hkey]; rfl
        obtain ⟨b, hbb⟩ : ∃ b, (s[k]'hkl) = b := ⟨_, rfl⟩
        rw [hbb] at hkey hts
        have hbn : (s[k]'hkl).toNat = b.toNat := by rw [hbb]
        by_cases h10 : b = 10
        · subst h10
          have hbn2 : (s[k]'hkl).toNat = 10 := hbn
          have e2 := hall.out
          rw [split_some hkey hno.out, List.drop_drop, show a + (k - a + 1) = k + 1 by omega] at e2
          have ex : s.extract a k = bA ((s.data.toList.drop a).take (k - a)) := ext_mid s a k
          have HE := hideIt e2
          clear hno hall e2 hkey hts hbk hbb hbn
          generalize (s.data.toList.drop a).take (k - a) = q at *
          go_wp2_with (first
            | (at_builtin; refine wpList_append_own (w := wr.alloc (.cells #[.string (bA q)] 9)) rfl _ _ 31 rfl w.heap.size 9 i0 (.string ⟨#[]⟩) 1 16 Tryd.underlying31 hi hz0 hz1 hz2 rfl (by decide) _ _ _ rfl (hown.alloc _) ⟨wr.heap.size, 0, none⟩ 1 1 [.string (bA q)] rfl rfl (one_new _ _ _) (by simp [Value.oneCell']) hml hpl (by have := hb.size; simp; omega) ?_; intro v' w1 hown' hgrow _))
          have q3 : Below w.heap.size w w1 := (chainA hb _).grown hgrow (by have := hb.size; simp; omega) (fun k hk => (hown.lt k hk).1)
          have q2 : w1.ownsRow w.heap.size 9 1 v' (pre ++ [q]).length (strCs (pre ++ [q])) := by
            have e1 : (pre ++ [q]).length = pre.length + 1 := by simp
            have e2 : strCs (pre ++ [q]) = strCs pre ++ [.string (bA q)] := by simp [strCs]
            rw [e1, e2]
            exact hown'
          go_roundw
          case rel => exact ⟨k + 1, k + 1, pre ++ [q], by go_num, by go_num, q2, by simp; omega, q3, .inl ⟨by omega, by omega, by simp [Hid], by have := HE.out; rw [← this]; simp [Hid]⟩⟩
          case measure => simp [RowKit.intOf, hkk]; omega
        · have hb10 : ¬ (b.toNat = 10) := fun h => h10 (u8_eq b 10 h (by decide))
          have hno2 : (10 : UInt8) ∉ (s.data.toList.drop a).take (k + 1 - a) := by
            rw [hts, List.mem_append, List.mem_singleton]
            rintro (h | h)
            · exact hno.out h
            · exact h10 h.symm
          have HN := hideIt hno2
          generalize b.toNat = n at *
          have hb10i : ¬ ((n : Int) = 10) := by omega
          have hb10b : ((n : Int) == 10) = false := beq_false_of_ne hb10i
          clear hno hkey hts hbk hbb hno2 h10
          go_wp2
          go_roundw
          case rel => exact ⟨k + 1, a, pre, by go_num, rfl, hown, by omega, hb, .inl ⟨by omega, by omega, HN, hall⟩⟩
          case measure => simp [RowKit.intOf, hkk]; omega
    · subst hk
      have hki : ¬ (((s.size + 1 : Nat) : Int) ≤ (s.size : Int)) := by omega
      have e := hfin.out
      subst e
      go_wp2
      go_ret
      exact ⟨_, rfl, hown, hb⟩
end Go.Proofs.YthindbmgnkohhaaDoor
/-
  paymasterref09.Check, Join, walked.
-/
namespace Go.Proofs.YthindbmgnkohhaaDoor
set_option linter.unusedVariables false
set_option linter.unusedSimpArgs false
set_option maxRecDepth 10000
open Go.RowKit Go.Lib

theorem split_ne (l : List UInt8) : splitL l ≠ [] := by
  intro h
  have := split_len l
  rw [h] at this
  simp at this
theorem split_mem (l : List UInt8) : ∀ x ∈ splitL l, x.length ≤ l.length := by
  induction l with
  | nil => intro x hx; simp [splitL] at hx; subst hx; simp
  | cons c r ih =>
    intro x hx
    rw [splitL] at hx
    by_cases h : c = 10
    · rw [if_pos h] at hx
      rcases List.mem_cons.1 hx with rfl | hx
      · simp
      · have := ih x hx; simp; omega
    · rw [if_neg h] at hx
      cases hs : splitL r with
      | nil => exact absurd hs (split_ne r)
      | cons y z =>
        rw [hs] at hx ih
        rcases List.mem_cons.1 hx with rfl | hx
        · have := ih y (by simp); simp; omega
        · have := ih x (by simp [hx]); simp; omega
theorem firstW_step (k : Nat) (x : List UInt8) (r : List (List UInt8)) : firstW (numb k (x :: r)) = if wrongL x = 0 then firstW (numb (k + 1) r) else (k, wrongL x) := rfl

theorem split_many (l : List UInt8) : 1 < (splitL l).length ↔ has10 l = true := by
  rw [split_len, has10_iff]
  constructor
  · intro h; exact List.count_pos_iff.1 (by omega)
  · intro h; have := List.count_pos_iff.2 h; omega
theorem slice_of_own {W : World} {b : Nat} {e : TypeId} {v : Value} {n : Nat} {xs : List Value} (h : W.ownsRow b e 1 v n xs) : ∃ a c, v = .slice a n c := by
  rcases h.2 with ⟨h1, h2⟩ | ⟨g, cap, cur, h1, -⟩
  · exact ⟨none, 0, by rw [h1, h2]⟩
  · exact ⟨_, _, h1⟩

end Go.Proofs.YthindbmgnkohhaaDoor
