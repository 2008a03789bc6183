/-
  paymasterref09.Split, Check, Join, walked.
-/
import Derived.Test.YtfnbehijnmbhjaaDoorR9Runes
import Derived.Test.YtfnbehijnmbhjaaDoorU9Check
import Derived.Test.YtfnbehijnmbhjaaDoorU9Join
namespace Go.Proofs.YtfnbehijnmbhjaaDoor
set_option linter.unusedVariables false
set_option linter.unusedSimpArgs false
set_option maxRecDepth 10000
open Go.RowKit Go.Lib

theorem info_str : (Tryd.prog.info? 9).map (fun i => (i.zero, i.size, i.bytes)) = some (some (.string ⟨#[]⟩), 1, 16) := by kernel_rfl
def strCs (l : List (List UInt8)) : List Value := l.map fun x => Value.string (bA x)
theorem ext_mid (s : ByteArray) (f k : Nat) : s.extract f k = bA ((s.data.toList.drop f).take (k - f)) := by
  apply ba_ext
  rw [ext_toList, bA_list, List.drop_take]
theorem byte_at (s : ByteArray) (k : Nat) (h : k < s.size) : s.data.toList[k]? = some (s[k]'h) := by
  rw [Array.getElem?_toList]
  exact Array.getElem?_eq_getElem h

set_option maxRecDepth 100000 in
set_option maxHeartbeats 2000000 in
theorem rsplit_any (s : ByteArray) (hs : s.size ≤ 1000000) (w : World) : Calls Tryd.prog 35 #[.string s] w fun e W =>
    ∃ v, e = .returned v ∧ W.ownsRow w.heap.size 9 1 v (splitL s.data.toList).length (strCs (splitL s.data.toList)) ∧ Below w.heap.size w W := by
  obtain ⟨i0, hi, hz0, hz1, hz2⟩ := info_parts info_str
  obtain ⟨A, hA⟩ : ∃ A, splitL s.data.toList = A := ⟨_, rfl⟩
  rw [hA]
  have HA := hideIt hA
  clear hA
  go_enter Tryd.func35, Tryd.ntmps35
  go_wp2
  go_loopw [3, 4, 5] (fun v f i wr => ∃ (k a : Nat) (pre : List (List UInt8)), i = .int .i64 k ∧ f = .int .i64 a ∧ wr.ownsRow w.heap.size 9 1 v pre.length (strCs pre) ∧ pre.length ≤ k ∧ Below w.heap.size w wr ∧
      ((k ≤ s.size ∧ a ≤ k ∧ Hid ((10 : UInt8) ∉ (s.data.toList.drop a).take (k - a)) ∧ Hid (pre ++ splitL (s.data.toList.drop a) = A)) ∨ (k = s.size + 1 ∧ Hid (pre = A)))) (fun _ _ i _ => s.size + 1 - (RowKit.intOf i).toNat)
  case atStart =>
    exact ⟨0, 0, [], rfl, rfl, by exact World.ownsRow_nil _ _ _ _, by simp, Below.refl _ _, .inl ⟨by omega, by omega, by simp [Hid], HA⟩⟩
  case round =>
    obtain ⟨k, a, pre, rfl, rfl, hown, hpk, hb, hcase⟩ := hrel
    rcases hcase with ⟨hk, hak, hno, hall⟩ | ⟨hk, hfin⟩
    · have hki : (k : Int) ≤ (s.size : Int) := by omega
      have hkk : IntKind.i64.wrap ((k : Int) + 1) = ((k + 1 : Nat) : Int) := by rw [IntKind.wrap_i64]; omega
      have hml : pre.length + 1 ≤ maxLen := by unfold maxLen; omega
      have hpl : (pre.length + 1) * 16 ≤ 140737488355328 := by omega
      have haki : (a : Int) ≤ (k : Int) := by omega
      by_cases hke : k = s.size
      · subst hke
        have hfull : (s.data.toList.drop a).take (s.size - a) = s.data.toList.drop a := List.take_of_length_le (by rw [List.length_drop, ba_size]; omega)
        have e1 := hno.out
        rw [hfull] at e1
        have e2 := hall.out
        rw [split_none e1] at e2
        have ex : s.extract a s.size = bA (s.data.toList.drop a) := by rw [ext_mid, hfull]
        have HE := hideIt e2
        clear hno hall hfull e1 e2
        generalize s.data.toList.drop a = q at *
        go_wp2_with (first
          | (at_builtin; refine wpList_append_own (w := wr.alloc (.cells #[.string (bA q)] 9)) rfl _ _ 59 rfl w.heap.size 9 i0 (.string ⟨#[]⟩) 1 16 Tryd.underlying59 hi hz0 hz1 hz2 rfl (by decide) _ _ _ rfl (hown.alloc _) ⟨wr.heap.size, 0, none⟩ 1 1 [.string (bA q)] rfl rfl (one_new _ _ _) (by simp [Value.oneCell']) hml hpl (by have := hb.size; simp; omega) ?_; intro v' w1 hown' hgrow _))
        have q3 : Below w.heap.size w w1 := (chainA hb _).grown hgrow (by have := hb.size; simp; omega) (fun k hk => (hown.lt k hk).1)
        have q2 : w1.ownsRow w.heap.size 9 1 v' (pre ++ [q]).length (strCs (pre ++ [q])) := by
          have e1 : (pre ++ [q]).length = pre.length + 1 := by simp
          have e2 : strCs (pre ++ [q]) = strCs pre ++ [.string (bA q)] := by simp [strCs]
          rw [e1, e2]
          exact hown'
        go_roundw
        case rel => exact ⟨s.size + 1, s.size + 1, pre ++ [q], by go_num, by go_num, q2, by simp; omega, q3, .inr ⟨rfl, HE⟩⟩
        case measure => simp [RowKit.intOf, hkk]
      · have hkl : k < s.size := by omega
        have hkli : (k : Int) < (s.size : Int) := by omega
        have hknei : ¬ ((k : Int) = (s.size : Int)) := by omega
        have hkneb : ((k : Int) == (s.size : Int)) = false := beq_false_of_ne hknei
        have hbk := byte_at s k hkl
        have hkey : (s.data.toList.drop a)[k - a]? = some (s[k]'hkl) := by rw [List.getElem?_drop, show a + (k - a) = k by omega]; exact hbk
        have hts : (s.data.toList.drop a).take (k + 1 - a) = (s.data.toList.drop a).take (k - a) ++ [s[k]'hkl] := by
          rw [show k + 1 - a = k - a + 1 by omega, List.take_add_one, hkey]; rfl
        obtain ⟨b, hbb⟩ : ∃ b, (s[k]'hkl) = b := ⟨_, rfl⟩
        rw [hbb] at hkey hts
        have hbn : (s[k]'hkl).toNat = b.toNat := by rw [hbb]
        by_cases h10 : b = 10
        · subst h10
          have hbn2 : (s[k]'hkl).toNat = 10 := hbn
          have e2 := hall.out
          rw [split_some hkey hno.out, List.drop_drop, show a + (k - a + 1) = k + 1 by omega] at e2
          have ex : s.extract a k = bA ((s.data.toList.drop a).take (k - a)) := ext_mid s a k
          have HE := hideIt e2
          clear hno hall e2 hkey hts hbk hbb hbn
          generalize (s.data.toList.drop a).take (k - a) = q at *
          go_wp2_with (first
            | (at_builtin; refine wpList_append_own (w := wr.alloc (.cells #[.string (bA q)] 9)) rfl _ _ 59 rfl w.heap.size 9 i0 (.string ⟨#[]⟩) 1 16 Tryd.underlying59 hi hz0 hz1 hz2 rfl (by decide) _ _ _ rfl (hown.alloc _) ⟨wr.heap.size, 0, none⟩ 1 1 [.string (bA q)] rfl rfl (one_new _ _ _) (by simp [Value.oneCell']) hml hpl (by have := hb.size; simp; omega) ?_; intro v' w1 hown' hgrow _))
          have q3 : Below w.heap.size w w1 := (chainA hb _).grown hgrow (by have := hb.size; simp; omega) (fun k hk => (hown.lt k hk).1)
          have q2 : w1.ownsRow w.heap.size 9 1 v' (pre ++ [q]).length (strCs (pre ++ [q])) := by
            have e1 : (pre ++ [q]).length = pre.length + 1 := by simp
            have e2 : strCs (pre ++ [q]) = strCs pre ++ [.string (bA q)] := by simp [strCs]
            rw [e1, e2]
            exact hown'
          go_roundw
          case rel => exact ⟨k + 1, k + 1, pre ++ [q], by go_num, by go_num, q2, by simp; omega, q3, .inl ⟨by omega, by omega, by simp [Hid], by have := HE.out; rw [← this]; simp [Hid]⟩⟩
          case measure => simp [RowKit.intOf, hkk]; omega
        · have hb10 : ¬ (b.toNat = 10) := fun h => h10 (u8_eq b 10 h (by decide))
          have hno2 : (10 : UInt8) ∉ (s.data.toList.drop a).take (k + 1 - a) := by
            rw [hts, List.mem_append, List.mem_singleton]
            rintro (h | h)
            · exact hno.out h
            · exact h10 h.symm
          have HN := hideIt hno2
          generalize b.toNat = n at *
          have hb10i : ¬ ((n : Int) = 10) := by omega
          have hb10b : ((n : Int) == 10) = false := beq_false_of_ne hb10i
          clear hno hkey hts hbk hbb hno2 h10
          go_wp2
          go_roundw
          case rel => exact ⟨k + 1, a, pre, by go_num, rfl, hown, by omega, hb, .inl ⟨by omega, by omega, HN, hall⟩⟩
          case measure => simp [RowKit.intOf, hkk]; omega
    · subst hk
      have hki : ¬ (((s.size + 1 : Nat) : Int) ≤ (s.size : Int)) := by omega
      have e := hfin.out
      subst e
      go_wp2
      go_ret
      exact ⟨_, rfl, hown, hb⟩
end Go.Proofs.YtfnbehijnmbhjaaDoor
