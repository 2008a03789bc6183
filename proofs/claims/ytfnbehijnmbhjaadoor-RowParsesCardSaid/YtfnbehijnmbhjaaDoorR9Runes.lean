/-
  paymasterref09.Runes, Wrong, Kind, walked.
-/
import Derived.Test.YtfnbehijnmbhjaaDoorU9Runes
import Derived.Test.YtfnbehijnmbhjaaDoorR7Rune
namespace Go.Proofs.YtfnbehijnmbhjaaDoor
set_option linter.unusedVariables false
set_option linter.unusedSimpArgs false
set_option maxRecDepth 10000
open Go.RowKit Go.Lib

set_option maxRecDepth 100000 in
set_option maxHeartbeats 2000000 in
theorem rrunes_any (s : ByteArray) (hs : s.size ≤ 1000000) (w : World) : Calls Tryd.prog 40 #[.string s] w fun e W =>
    ∃ v err, e = .returned (.tuple #[v, .int .i64 err]) ∧ RunesAre w.heap.size (runesL s.data.toList) v err W ∧ Below w.heap.size w W := by
  obtain ⟨i0, hi, hz0, hz1, hz2⟩ := info_parts info_rune
  obtain ⟨A, hA⟩ : ∃ A, runesL s.data.toList = A := ⟨_, rfl⟩
  rw [hA]
  have HA := hideIt hA
  clear hA
  go_enter Tryd.func40, Tryd.ntmps40
  go_wp2
  go_loopw [4, 5, 6, 7] (fun v a c m wr => ∃ (pos : Nat) (pre : List Nat), a = .int .i64 pos ∧ wr.ownsRow w.heap.size 21 1 v pre.length (runeCs pre) ∧ pre.length ≤ pos ∧ pos ≤ s.size ∧
      Below w.heap.size w wr ∧ Hid ((runesL (s.data.toList.drop pos)).map (pre ++ ·) = A)) (fun _ a _ _ _ => s.size - (RowKit.intOf a).toNat)
  case atStart =>
    refine ⟨0, [], rfl, by exact World.ownsRow_nil _ _ _ _, by simp, by omega, Below.refl _ _, ?_⟩
    have := HA.out
    rw [← this]
    show Option.map _ (runesL s.data.toList) = _
    cases runesL s.data.toList <;> rfl
  case round =>
    obtain ⟨pos, pre, rfl, hown, hpp, hps, hb, hid⟩ := hrel
    by_cases hp : pos < s.size
    · have hpi : (pos : Int) < (s.size : Int) := by omega
      have hne := drop_ne' hp
      have hw := decodeL_width (s.data.toList.drop pos)
      have hle := decodeL_le _ hne
      have hrn := decodeL_rune (s.data.toList.drop pos)
      rw [List.length_drop, ba_size] at hle
      have cR := fun u => rune_any s pos hp hs u
      by_cases hbad : badR (s.data.toList.drop pos)
      · have e0 : runeR (s.data.toList.drop pos) = (0, 0) := if_pos hbad
        rw [e0] at cR
        have e := hid.out
        rw [runesL_bad _ hne hbad] at e
        have e : A = none := e.symm
        subst e
        clear hid hbad hne e0 hw hle hrn
        go_wp2_with (first | (go_at_call 53; refine (cR _).mono ?_; rintro e w' ⟨rfl, rfl⟩))
        go_ret2
        exact ⟨_, _, rfl, ⟨rfl, rfl⟩, hb⟩
      · have e0 : runeR (s.data.toList.drop pos) = decodeL (s.data.toList.drop pos) := if_neg hbad
        rw [e0] at cR
        have e := hid.out
        rw [runesL_good _ hne hbad, List.drop_drop] at e
        have HE := hideIt e
        clear hid hbad hne e e0
        generalize decodeL (s.data.toList.drop pos) = d at *
        obtain ⟨r, z⟩ := d
        simp only at hw cR hle HE hrn
        have hml : pre.length + 1 ≤ maxLen := by unfold maxLen; omega
        have hpl : (pre.length + 1) * 4 ≤ 140737488355328 := by omega
        have hz0i : ¬ ((z : Int) = 0) := by omega
        have hr32 : IntKind.i32.wrap (r : Int) = r := by rw [IntKind.wrap_i32]; omega
        have hzz : IntKind.i64.wrap ((pos : Int) + z) = ((pos + z : Nat) : Int) := by rw [IntKind.wrap_i64]; omega
        go_wp2_with (first
          | (go_at_call 53; refine (cR _).mono ?_; rintro e w' ⟨rfl, rfl⟩)
          | (at_builtin; refine wpList_append_own (w := wr.alloc (.cells #[.int .i32 r] 21)) rfl _ _ 85 rfl w.heap.size 21 i0 (.int .i32 0) 1 4 Tryd.underlying85 hi hz0 hz1 hz2 rfl (by decide) _ _ _ rfl (hown.alloc _) ⟨wr.heap.size, 0, none⟩ 1 1 [.int .i32 r] rfl rfl (one_new _ _ _) (by simp [Value.oneCell']) hml hpl (by have := hb.size; simp; omega) ?_; intro v' w1 hown' hgrow _))
        go_roundw
        case rel =>
          have q2 : w1.ownsRow w.heap.size 21 1 v' (pre ++ [r]).length (runeCs (pre ++ [r])) := by
            have e1 : (pre ++ [r]).length = pre.length + 1 := by simp
            have e2 : runeCs (pre ++ [r]) = runeCs pre ++ [.int .i32 (r : Int)] := by simp [runeCs]
            rw [e1, e2]
            exact hown'
          have q3 : Below w.heap.size w w1 := (chainA hb _).grown hgrow (by have := hb.size; simp; omega) (fun k hk => (hown.lt k hk).1)
          exact ⟨pos + z, pre ++ [r], by go_num, q2, by simp; omega, by omega, q3, by
            have := HE.out
            rw [← this]
            show _ = _
            rw [Option.map_map]
            congr 1
            funext x
            simp⟩
        case measure => simp [RowKit.intOf, hzz]; omega
    · have hpi : ¬ ((pos : Int) < (s.size : Int)) := by omega
      have e := hid.out
      rw [List.drop_of_length_le (by rw [ba_size]; omega), runesL_nil] at e
      have e : A = some pre := by rw [← e]; simp
      subst e
      clear hid
      go_wp2
      go_ret2
      exact ⟨_, _, rfl, ⟨rfl, hown⟩, hb⟩

/-- What a row of runes is told of by: an error, or how long it is. -/
theorem runes_len {b : Nat} {l : List UInt8} {v : Value} {err : Int} {W : World} (h : RunesAre b (runesL l) v err W) :
    (err = 90 ∧ v = .slice none 0 0 ∧ wrongL l = 90 ∧ runesL l = none) ∨ (err = 0 ∧ ∃ r, runesL l = some r ∧ (∃ a c, v = .slice a r.length c) ∧ wrongL l = if 80 < r.length then 91 else 0) := by
  unfold RunesAre at h
  unfold wrongL
  cases hr : runesL l with
  | none => rw [hr] at h; exact .inl ⟨h.2, h.1, rfl, rfl⟩
  | some r =>
    rw [hr] at h
    refine .inr ⟨h.1, r, rfl, ?_, rfl⟩
    rcases h.2.2 with ⟨h1, h2⟩ | ⟨g, cap, cur, h1, -⟩
    · exact ⟨none, 0, by rw [h1, h2]⟩
    · exact ⟨_, _, h1⟩
set_option maxHeartbeats 2000000 in
theorem rwrong_any (s : ByteArray) (hs : s.size ≤ 1000000) (w : World) : Calls Tryd.prog 61 #[.string s] w (Tells (.int .i64 (wrongL s.data.toList)) w.heap.size w) := by
  have cR := fun u => rrunes_any s hs u
  go_enter Tryd.func61, Tryd.ntmps61
  go_upto_region 2 with (first | (go_at_call 40; refine (cR _).mono ?_; rintro e w1 ⟨v, err, rfl, hA, b1⟩))
  rcases runes_len hA with ⟨rfl, rfl, hw, -⟩ | ⟨rfl, r, -, ⟨a, c, rfl⟩, hw⟩
  · have HW := hideIt hw
    clear hA hw cR
    go_wp2
    go_ret
    exact ⟨by rw [HW.out]; rfl, b1⟩
  · have HW := hideIt hw
    clear hA hw cR
    by_cases h80 : 80 < r.length
    · have h80i : (80 : Int) < (r.length : Int) := by omega
      go_wp2
      go_ret
      exact ⟨by rw [HW.out, if_pos h80]; rfl, b1⟩
    · have h80i : ¬ ((80 : Int) < (r.length : Int)) := by omega
      go_wp2
      go_ret
      exact ⟨by rw [HW.out, if_neg h80]; rfl, b1⟩
end Go.Proofs.YtfnbehijnmbhjaaDoor
