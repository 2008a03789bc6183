/-
  The document's key's block, walked.
-/
import Derived.Test.YtkmnfogcocppjaaDoorW6Row
import Derived.Test.YtkmnfogcocppjaaDoorR5Sum
namespace Go.Proofs.YtkmnfogcocppjaaDoor
set_option linter.unusedVariables false
set_option linter.unusedSimpArgs false
set_option maxRecDepth 10000
open Go.RowKit

/-- 'append(s, x...)' on rows of bytes, by what it was shown to do. -/
theorem wpl_append_run {ops : Array Oper} {rest : List Oper} {o : Oper} {a : Act} {w : World} {Q : Exit → Act → World → Prop} (hgd : o.guard = none) (s x : Operand)
    (ho : o.op = .call { callee := .builtin .append, args := #[s, x], argTypes := #[66, 66] }) (v v2 v' : Value) (w' : World) (hs : a.eval s = v) (hx : a.eval x = v2)
    (hrun : ∀ ty, (Builtin.append_ #[66, 66] ty #[v, v2]).run Tryd.prog w = .ok v' w') (h : wpList Tryd.prog ops Q rest (a.put o.dst v') w') : wpList Tryd.prog ops Q (o :: rest) a w := by
  refine wpList_plain hgd fun K hK => ?_
  unfold Oper.wp
  simp [execOp, ho, resolve, invoke, builtin, hs, hx, hrun, Result.andThen]
  exact hK _ _ h

set_option maxHeartbeats 2000000 in
/-- From a key of at most 64 bytes on. -/
theorem rblock_any (key : ByteArray) (hk : key.size ≤ 1000000) (w : World) : Calls Tryd.prog 76 #[.string key] w (Tells (.string (kblk key)) w.heap.size w) := by
  have cS := fun u => rsum_any key (by omega) u
  have hz := keyB_size key
  have hr : kblk key = strOfNums (nums (keyB key) ++ List.replicate (64 - (keyB key).size) 0) := rfl
  by_cases h : 64 < key.size
  · have h1 : (64 : Int) < (key.size : Int) := by omega
    have hK : keyB key = digB key.data.toList := by unfold keyB; rw [if_pos h]
    rw [hK] at hr hz
    obtain ⟨K, hKK⟩ : ∃ K, digB key.data.toList = K := ⟨_, rfl⟩
    rw [hKK] at hr hz cS
    obtain ⟨R, hR⟩ : ∃ R, kblk key = R := ⟨_, rfl⟩
    rw [hR] at hr ⊢
    clear hK hKK hR
    have hcv := fun u => run_bytes_of_string (P := Tryd.prog) u 9 66 5 K Tryd.underlying9 Tryd.underlying66 Tryd.underlying5
    have hrow := fun u hu => rowS_bytes u w.heap.size hu K (by omega)
    have HR := hideIt hr
    clear hr
    go_enter Tryd.func76, Tryd.ntmps76
    go_upto_region 3 with (first
      | (go_at_call 51; refine (cS _).mono ?_; rintro e w1 ⟨rfl, b1⟩))
    have hg1 := b1.size
    have R1 := hrow w1 hg1
    have L1 : Below w.heap.size w (w1.drew.alloc (.cells (bytesRow K (grownCap w1 K.size 0 5)) 5 ((bytesRow K (grownCap w1 K.size 0 5)).size, (bytesRow K (grownCap w1 K.size 0 5)).size + 1))) := chainA (b1.drew) _
    go_upto_region 4 with fail
    change Code.wp _ _ _ _ (w1.drew.alloc (.cells (bytesRow K (grownCap w1 K.size 0 5)) 5 ((bytesRow K (grownCap w1 K.size 0 5)).size, (bytesRow K (grownCap w1 K.size 0 5)).size + 1)))
    generalize w1.drew.alloc _ = W at *
    generalize grownCap w1 K.size 0 5 = cap at *
    generalize w1.heap.size = g at *
    have R2 : RowS W w.heap.size g K.size cap (nums K ++ List.replicate (K.size - K.size) 0) := by rw [Nat.sub_self, List.replicate_zero, List.append_nil]; exact R1
    have HZ := hideIt hz
    clear hcv hrow hz
    obtain ⟨z, hzz⟩ : ∃ z, K.size = z := ⟨_, rfl⟩
    go_loopg [3] (64 - K.size) (fun gk v wr => ∃ (n gg cp : Nat), n ≤ 64 ∧ K.size ≤ n ∧ gk = 64 - n ∧ v = .slice (some ⟨gg, 0, none⟩) n cp ∧ RowS wr w.heap.size gg n cp (nums K ++ List.replicate (n - K.size) 0) ∧ Below w.heap.size w wr)
    case atStart => exact ⟨_, g, cap, HZ.out, Nat.le_refl _, rfl, rfl, R2, L1⟩
    case round =>
      obtain ⟨n, gg, cp, hn, hKn, hgk, rfl, RR, L⟩ := hrel
      clear R1 R2 L1
      have HG := hideIt hgk
      have HKN := hideIt hKn
      have hBw := Nat.le_of_lt (Nat.lt_of_le_of_lt RR.above RR.inside)
      clear hgk hKn hzz
      by_cases hlt : n < 64
      · have l1 : (n : Int) < 64 := by omega
        have b1 := Box.made wr 5 #[.int .u8 0]
        obtain ⟨g', cap', w', hrun, hR', hB'⟩ := row_append (wr.alloc (.cells #[.int .u8 0] 5)) w.heap.size gg n cp _ (RR.past _) wr.heap.size 1 1 [0] rfl (fun j hj => by
          obtain rfl : j = 0 := by omega
          exact b1.read 0) (by omega) (by have := RR.above; have := RR.inside; simp; omega)
        have hl2 : nums K ++ List.replicate (n - K.size) 0 ++ [0] = nums K ++ List.replicate (n + 1 - K.size) 0 := by
          rw [List.append_assoc, ← List.replicate_succ', show n - K.size + 1 = n + 1 - K.size by have := HKN.out; omega]
        rw [hl2] at hR'
        have L2 : Below w.heap.size w w' := (L.alloc hBw _).trans (hB'.below RR.above (by simp; omega))
        clear RR b1 hl2 hB'
        go_wp2_with (first
          | (at_builtin; refine wpl_append_run rfl _ _ rfl _ _ _ _ rfl rfl hrun ?_))
        go_wp2
        go_roundg (64 - (n + 1))
        case measure => have := HG.out; omega
        case rel => exact ⟨n + 1, g', cap', by omega, by have := HKN.out; omega, rfl, rfl, hR', L2⟩
      · have e : n = 64 := by omega
        subst e
        have hcv := RR.conv
        rw [← HR.out] at hcv
        clear HG RR
        go_wp2
        go_ret
        exact ⟨rfl, L⟩
  · have h1 : ¬ ((64 : Int) < (key.size : Int)) := by omega
    have hK : keyB key = key := by unfold keyB; rw [if_neg h]
    rw [hK] at hr hz
    obtain ⟨R, hR⟩ : ∃ R, kblk key = R := ⟨_, rfl⟩
    rw [hR] at hr ⊢
    clear hK hR
    have hcv := fun u => run_bytes_of_string (P := Tryd.prog) u 9 66 5 key Tryd.underlying9 Tryd.underlying66 Tryd.underlying5
    have hrow := fun u hu => rowS_bytes u w.heap.size hu key (by omega)
    have HR := hideIt hr
    clear hr
    go_enter Tryd.func76, Tryd.ntmps76
    go_upto_region 3 with fail
    have R1 := hrow w (Nat.le_refl _)
    have L1 : Below w.heap.size w (w.drew.alloc (.cells (bytesRow key (grownCap w key.size 0 5)) 5 ((bytesRow key (grownCap w key.size 0 5)).size, (bytesRow key (grownCap w key.size 0 5)).size + 1))) := chainA ((Below.refl _ w).drew) _
    go_upto_region 4 with fail
    change Code.wp _ _ _ _ (w.drew.alloc (.cells (bytesRow key (grownCap w key.size 0 5)) 5 ((bytesRow key (grownCap w key.size 0 5)).size, (bytesRow key (grownCap w key.size 0 5)).size + 1)))
    generalize w.drew.alloc _ = W at *
    generalize grownCap w key.size 0 5 = cap at *
    generalize w.heap.size = g at *
    have R2 : RowS W g g key.size cap (nums key ++ List.replicate (key.size - key.size) 0) := by rw [Nat.sub_self, List.replicate_zero, List.append_nil]; exact R1
    have HZ := hideIt hz
    clear hcv hrow hz
    obtain ⟨z, hzz⟩ : ∃ z, key.size = z := ⟨_, rfl⟩
    go_loopg [3] (64 - key.size) (fun gk v wr => ∃ (n gg cp : Nat), n ≤ 64 ∧ key.size ≤ n ∧ gk = 64 - n ∧ v = .slice (some ⟨gg, 0, none⟩) n cp ∧ RowS wr g gg n cp (nums key ++ List.replicate (n - key.size) 0) ∧ Below g w wr)
    case atStart => exact ⟨_, g, cap, HZ.out, Nat.le_refl _, rfl, rfl, R2, L1⟩
    case round =>
      obtain ⟨n, gg, cp, hn, hKn, hgk, rfl, RR, L⟩ := hrel
      clear R1 R2 L1
      have HG := hideIt hgk
      have HKN := hideIt hKn
      have hBw := Nat.le_of_lt (Nat.lt_of_le_of_lt RR.above RR.inside)
      clear hgk hKn hzz
      by_cases hlt : n < 64
      · have l1 : (n : Int) < 64 := by omega
        have b1 := Box.made wr 5 #[.int .u8 0]
        obtain ⟨g', cap', w', hrun, hR', hB'⟩ := row_append (wr.alloc (.cells #[.int .u8 0] 5)) g gg n cp _ (RR.past _) wr.heap.size 1 1 [0] rfl (fun j hj => by
          obtain rfl : j = 0 := by omega
          exact b1.read 0) (by omega) (by have := RR.above; have := RR.inside; simp; omega)
        have hl2 : nums key ++ List.replicate (n - key.size) 0 ++ [0] = nums key ++ List.replicate (n + 1 - key.size) 0 := by
          rw [List.append_assoc, ← List.replicate_succ', show n - key.size + 1 = n + 1 - key.size by have := HKN.out; omega]
        rw [hl2] at hR'
        have L2 : Below g w w' := (L.alloc hBw _).trans (hB'.below RR.above (by simp; omega))
        clear RR b1 hl2 hB'
        go_wp2_with (first
          | (at_builtin; refine wpl_append_run rfl _ _ rfl _ _ _ _ rfl rfl hrun ?_))
        go_wp2
        go_roundg (64 - (n + 1))
        case measure => have := HG.out; omega
        case rel => exact ⟨n + 1, g', cap', by omega, by have := HKN.out; omega, rfl, rfl, hR', L2⟩
      · have e : n = 64 := by omega
        subst e
        have hcv := RR.conv
        rw [← HR.out] at hcv
        clear HG RR
        go_wp2
        go_ret
        exact ⟨rfl, L⟩
end Go.Proofs.YtkmnfogcocppjaaDoor
