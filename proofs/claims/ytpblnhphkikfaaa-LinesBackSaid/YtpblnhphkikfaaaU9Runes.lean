/-
  Package lines' Runes, walked: a row of the call's own that holds the text's runes.
-/
import Derived.Test.YtpblnhphkikfaaaU9Line
import Derived.Lib.OthersKept
import Derived.Maps.AppendAt
namespace Go.Proofs.Ytpblnhphkikfaaa
set_option linter.unusedVariables false
set_option linter.unusedSimpArgs false
set_option maxRecDepth 10000
open Go.RowKit Go.Lib

theorem info_rune : (Try.prog.info? 21).map (fun i => (i.zero, i.size, i.bytes)) = some (some (.int .i32 0), 1, 4) := by kernel_rfl
def runeCs (l : List Nat) : List Value := l.map fun (c : Nat) => Value.int .i32 (c : Int)
/-- What is told of a text's runes. -/
def RunesAre (b : Nat) (A : Option (List Nat)) (v : Value) (err : Int) (W : World) : Prop := match A with
  | none => v = .slice none 0 0 ∧ err = 90
  | some r => err = 0 ∧ W.ownsRow b 21 1 v r.length (runeCs r)
theorem own_iterAt {w : World} {base size k : Nat} {e : TypeId} {v : Value} {n : Nat} {xs : List Value} (h : w.ownsRow base e size v n xs) (hk : k < base) (s : ByteArray) (pos : Nat) : (w.iterAt k s pos).ownsRow base e size v n xs := by
  refine ⟨h.1, ?_⟩
  rcases h.2 with h2 | ⟨g, cap, cur, hv, hg, hh, r⟩
  · exact .inl h2
  · exact .inr ⟨g, cap, cur, hv, hg, (iterAt_other w k g s pos (by omega)).trans hh, r⟩
theorem own_block {w : World} {base size : Nat} {e : TypeId} {v : Value} {n : Nat} {xs : List Value} (h : w.ownsRow base e size v n xs) (k : Nat) (hk : k < base) : some k ≠ v.ownBlock := by
  intro he
  have := (h.lt k he.symm).1
  omega
theorem one_new (W : World) (t : TypeId) (u : Value) : ∀ j x, [u][j]? = some x → (W.alloc (.cells #[u] t)).cell? ((⟨W.heap.size, 0, none⟩ : Addr).add j) = some x := fun j x hx => by
  have e1 : (⟨W.heap.size, 0, none⟩ : Addr).add j = ⟨W.heap.size, j, none⟩ := by simp [Addr.add]; exact fun hj => hj.symm
  rw [e1, (Box.made W t #[u]).read j]
  simpa using hx

theorem iterPos_at {w : World} {k p : Nat} {s : ByteArray} (h : w.heap[k]? = some (.stringIter s p)) : w.iterPos k = p := by simp [World.iterPos, h]

set_option maxRecDepth 100000 in
set_option maxHeartbeats 2000000 in
theorem runes_any (s : ByteArray) (hs : s.size ≤ 1000000000) (w : World) : Calls Try.prog 17 #[.string s] w fun e W =>
    ∃ v err, e = .returned (.tuple #[v, .int .i64 err]) ∧ RunesAre w.heap.size (runesL s.data.toList) v err W ∧ Below w.heap.size w W := by
  obtain ⟨i0, hi, hz0, hz1, hz2⟩ := info_parts info_rune
  obtain ⟨A, hA⟩ : ∃ A, runesL s.data.toList = A := ⟨_, rfl⟩
  rw [hA]
  have HA := hideIt hA
  clear hA
  go_enter Try.func17, Try.ntmps17
  go_wp2
  go_loopw [4, 5, 6] (fun v i r wr => ∃ (pos : Nat) (pre : List Nat), wr.heap[w.heap.size]? = some (.stringIter s pos) ∧ wr.ownsRow (w.heap.size + 1) 21 1 v pre.length (runeCs pre) ∧ pre.length ≤ pos ∧ pos ≤ s.size ∧
      Below w.heap.size w wr ∧ Hid ((runesL (s.data.toList.drop pos)).map (pre ++ ·) = A)) (fun _ _ _ w' => s.size - w'.iterPos w.heap.size)
  case atStart =>
    refine ⟨0, [], ?_, by exact World.ownsRow_nil _ _ _ _, by simp, by omega, ?_, ?_⟩
    · simp [World.iter_heap]
    · exact chainA (Below.refl _ _) _
    · have := HA.out
      rw [← this]
      show Option.map _ (runesL s.data.toList) = _
      cases runesL s.data.toList <;> rfl
  case round =>
    obtain ⟨pos, pre, hit, hown, hpp, hps, hb, hid⟩ := hrel
    by_cases hp : pos < s.size
    · have hnx : ∀ ty, (Instr.next (.pointer (some ⟨w.heap.size, 0, none⟩)) true ty).run Try.prog wr = _ := fun ty => run_next_any_at wr w.heap.size s pos ty hit hp
      have hne := drop_ne' hp
      have hdd := decodeL_drop s pos
      have hw := decodeL_width (s.data.toList.drop pos)
      have hle := decodeL_le _ hne
      rw [List.length_drop, ba_size] at hle
      have cS := fun u => stands_any (s.data.toList.drop pos) _ rfl u
      rw [← bA_ext s pos] at cS
      have hpi : (pos : Int) ≤ (s.size : Int) := by omega
      by_cases hbad : badR (s.data.toList.drop pos)
      · rw [decide_eq_true hbad] at cS
        have e := hid.out
        rw [runesL_bad _ hne hbad] at e
        have e : A = none := e.symm
        subst e
        rw [hdd] at cS hle hw
        clear hid hdd hbad hne
        generalize Utf8.decode s pos = d at *
        obtain ⟨r, z⟩ := d
        simp only at hnx hw cS hle
        have bI := below_iterAt hb (Nat.le_refl w.heap.size) s (pos + z)
        generalize World.iterAt wr _ _ _ = X at *
        go_wp2_with (first | (go_at_call 31; refine (cS _).mono ?_; rintro e w' ⟨rfl, rfl⟩))
        go_ret2
        exact ⟨_, _, rfl, ⟨rfl, rfl⟩, bI⟩
      · rw [decide_eq_false hbad] at cS
        have e := hid.out
        rw [runesL_good _ hne hbad, List.drop_drop] at e
        rw [hdd] at cS hle hw e
        have HE := hideIt e
        clear hid hdd hbad hne e
        generalize Utf8.decode s pos = d at *
        obtain ⟨r, z⟩ := d
        simp only at hnx hw cS hle HE
        have bI := below_iterAt hb (Nat.le_refl w.heap.size) s (pos + z)
        have iI := iterAt_heap wr w.heap.size s pos (pos + z) hit
        have oI := own_iterAt hown (Nat.lt_succ_self w.heap.size) s (pos + z)
        generalize World.iterAt wr _ _ _ = X at *
        have hml : pre.length + 1 ≤ maxLen := by unfold maxLen; omega
        have hpl : (pre.length + 1) * 4 ≤ 140737488355328 := by omega
        have hXs : w.heap.size < X.heap.size := (Array.getElem?_eq_some_iff.1 iI).1
        go_wp2_with (first
          | (go_at_call 31; refine (cS _).mono ?_; rintro e w' ⟨rfl, rfl⟩)
          | (at_builtin; refine wpList_append_own (w := X.alloc (.cells #[.int .i32 r] 21)) rfl _ _ 39 rfl (w.heap.size + 1) 21 i0 (.int .i32 0) 1 4 Try.underlying39 hi hz0 hz1 hz2 rfl (by decide) _ _ _ rfl (oI.alloc _) ⟨X.heap.size, 0, none⟩ 1 1 [.int .i32 r] rfl rfl (one_new _ _ _) (by simp [Value.oneCell']) hml hpl (by simp; omega) ?_; intro v' w1 hown' hgrow _))
        go_roundw
        case rel =>
          have q1 : w1.heap[w.heap.size]? = some (.stringIter s (pos + z)) :=
            (hgrow.block w.heap.size (by simp; omega) (own_block oI _ (Nat.lt_succ_self _))).trans ((Below.heap_alloc X _ _ hXs).trans iI)
          have q2 : w1.ownsRow (w.heap.size + 1) 21 1 v' (pre ++ [r]).length (runeCs (pre ++ [r])) := by
            have e1 : (pre ++ [r]).length = pre.length + 1 := by simp
            have e2 : runeCs (pre ++ [r]) = runeCs pre ++ [.int .i32 (r : Int)] := by simp [runeCs]
            rw [e1, e2]
            exact hown'
          have q3 : Below w.heap.size w w1 := (chainA bI _).grown hgrow (by simp; omega) (fun k hk => by have := (oI.lt k hk).1; omega)
          exact ⟨pos + z, pre ++ [r], q1, q2, by simp; omega, by omega, q3, by
            have := HE.out
            rw [← this]
            show _ = _
            rw [Option.map_map]
            congr 1
            funext x
            simp⟩
        case measure =>
          have q1 : w1.heap[w.heap.size]? = some (.stringIter s (pos + z)) :=
            (hgrow.block w.heap.size (by simp; omega) (own_block oI _ (Nat.lt_succ_self _))).trans ((Below.heap_alloc X _ _ hXs).trans iI)
          rw [iterPos_at q1, iterPos_at hit]
          omega
    · have hnx : ∀ ty, (Instr.next (.pointer (some ⟨w.heap.size, 0, none⟩)) true ty).run Try.prog wr = _ := fun ty => run_next_end_at wr w.heap.size s pos ty hit hp
      have e := hid.out
      rw [List.drop_of_length_le (by rw [ba_size]; omega), runesL_nil] at e
      have e : A = some pre := by rw [← e]; simp
      subst e
      clear hid
      go_wp2
      go_ret2
      exact ⟨_, _, rfl, ⟨rfl, own_lower hown (by omega)⟩, hb⟩
end Go.Proofs.Ytpblnhphkikfaaa
