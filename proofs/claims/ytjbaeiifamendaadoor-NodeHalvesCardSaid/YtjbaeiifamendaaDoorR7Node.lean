/-
  paymasterref07's nodes and digests, walked: NodeText, MayWidth, Digest, LeafNode.
-/
import Derived.Test.YtjbaeiifamendaaDoorM7Ref
import Derived.Test.YtjbaeiifamendaaDoorW7Node
import Derived.Test.YtjbaeiifamendaaDoorM5Ref
namespace Go.Proofs.YtjbaeiifamendaaDoor
set_option linter.unusedVariables false
set_option linter.unusedSimpArgs false
set_option maxRecDepth 10000
open Go.RowKit

set_option maxHeartbeats 4000000 in
theorem rnodeText_any (a b : Nd) (h1 : a.hash.size ≤ 1000000) (h2 : b.hash.size ≤ 1000000) (a1 : Word a.h) (a0 : Word a.l) (b1 : Word b.h) (b0 : Word b.l) (w : World) : Calls Tryd.prog 24 #[a.val, b.val] w (Tells (.string (ndText a b)) w.heap.size w) := by
  obtain ⟨s, h, l⟩ := a
  obtain ⟨z, j, m⟩ := b
  simp only at h1 h2 a1 a0 b1 b0
  have A0 := (Box.made w 26 #[.string s, .int .u64 h, .int .u64 l]).past (.cells #[.string z, .int .u64 j, .int .u64 m] 26)
  have B0 : Box ((w.alloc (.cells #[.string s, .int .u64 h, .int .u64 l] 26)).alloc (.cells #[.string z, .int .u64 j, .int .u64 m] 26)) (w.heap.size + 1) 26 #[.string z, .int .u64 j, .int .u64 m] := by
    have := Box.made (w.alloc (.cells #[.string s, .int .u64 h, .int .u64 l] 26)) 26 #[.string z, .int .u64 j, .int .u64 m]
    simpa using this
  have L0 : Below w.heap.size w ((w.alloc (.cells #[.string s, .int .u64 h, .int .u64 l] 26)).alloc (.cells #[.string z, .int .u64 j, .int .u64 m] 26)) := by repeat (first | exact Below.refl _ _ | apply Below.drew | apply below_drewN | refine Below.alloc ?_ (by simp; try omega) _ | refine Below.setCell ?_ (by simp; try omega) _)
  have cA := fun u => rubytes_any h l a1 a0 u
  have cB := fun u => rubytes_any j m b1 b0 u
  have zA := textOf_size h l
  have zB := textOf_size j m
  have e : ndText ⟨s, h, l⟩ ⟨z, j, m⟩ = (((⟨#[1]⟩ ++ s) ++ textOf h l) ++ z) ++ textOf j m := rfl
  generalize ndText ⟨s, h, l⟩ ⟨z, j, m⟩ = T at *
  generalize textOf h l = A at *
  generalize textOf j m = B at *
  obtain ⟨X, hX⟩ : ∃ X, (⟨#[1]⟩ : ByteArray) ++ s = X := ⟨_, rfl⟩
  obtain ⟨Y, hY⟩ : ∃ Y, X ++ A = Y := ⟨_, rfl⟩
  obtain ⟨Z, hZ⟩ : ∃ Z, Y ++ z = Z := ⟨_, rfl⟩
  rw [hX, hY, hZ] at e
  have zX : X.size = 1 + s.size := by rw [← hX, ByteArray.size_append]; rfl
  have zY : Y.size = X.size + 16 := by rw [← hY, ByteArray.size_append, zA]
  have zZ : Z.size = Y.size + z.size := by rw [← hZ, ByteArray.size_append]
  have hc1 := adds_any ⟨#[1]⟩ s X hX (by decide) (by omega)
  have hc2 := adds_any X A Y hY (by omega) (by omega)
  have hc3 := adds_any Y z Z hZ (by omega) (by omega)
  have hc4 := adds_any Z B T e.symm (by omega) (by omega)
  clear e hX hY hZ zX zY zZ zA zB
  show Calls _ _ #[.agg #[.string s, .int .u64 h, .int .u64 l], .agg #[.string z, .int .u64 j, .int .u64 m]] _ _
  go_enter Tryd.func24, Tryd.ntmps24
  go_upto_region 1 with fail
  change Code.wp _ _ _ _ ((w.alloc (.cells #[.string s, .int .u64 h, .int .u64 l] 26)).alloc (.cells #[.string z, .int .u64 j, .int .u64 m] 26))
  generalize (w.alloc (.cells #[.string s, .int .u64 h, .int .u64 l] 26)).alloc (.cells #[.string z, .int .u64 j, .int .u64 m] 26) = W at *
  obtain ⟨r0, r1, r2⟩ := A0.node
  obtain ⟨q0, q1, q2⟩ := B0.node
  have hinA := A0.inside
  have hinB := B0.inside
  go_region_held3 (fun w' => Below W.heap.size W w' ∧ w'.cell? ⟨w.heap.size, 0, none⟩ = some (.string s) ∧ w'.cell? ⟨w.heap.size, 1, none⟩ = some (.int .u64 h) ∧ w'.cell? ⟨w.heap.size, 2, none⟩ = some (.int .u64 l) ∧
      w'.cell? ⟨w.heap.size + 1, 0, none⟩ = some (.string z) ∧ w'.cell? ⟨w.heap.size + 1, 1, none⟩ = some (.int .u64 j) ∧ w'.cell? ⟨w.heap.size + 1, 2, none⟩ = some (.int .u64 m))
    (first
      | exact keep_first (by assumption) (by assumption) (fun hb => ⟨hb, (A0.call hb).read 0, (A0.call hb).read 1, (A0.call hb).read 2, (B0.call hb).read 0, (B0.call hb).read 1, (B0.call hb).read 2⟩)
      | exact ⟨(Below.refl _ _).drew, r0, r1, r2, q0, q1, q2⟩)
    (first
      | (go_at_call_of 39 (Value.agg #[.int .u64 h, .int .u64 l]); refine (cA _).mono ?_; rintro e v1 ⟨rfl, hv1⟩)
      | (go_at_call_of 39 (Value.agg #[.int .u64 j, .int .u64 m]); refine (cB _).mono ?_; rintro e v2 ⟨rfl, hv2⟩)
      | fail)
  all_goals go_wp2
  all_goals go_ret
  all_goals exact ⟨rfl, chain L0 (And.left (by assumption))⟩

set_option maxHeartbeats 1000000 in
theorem rmayWidth_any (n : Int) (w : World) : Calls Tryd.prog 37 #[.int .i64 n] w (Plain (.bool (mayW n)) w) := by
  unfold mayW
  by_cases h1 : 1 ≤ n
  · obtain ⟨A, hA⟩ : ∃ A, decide (1 ≤ n ∧ n ≤ 32) = A := ⟨_, rfl⟩
    have e : decide (n ≤ 32) = A := by rw [← hA]; exact decide_eq_decide.2 ⟨fun h => ⟨h1, h⟩, fun h => h.2⟩
    rw [hA]
    clear hA
    go_enter Tryd.func37, Tryd.ntmps37
    go_wp2
    go_ret
    exact ⟨rfl, rfl⟩
  · rw [decide_eq_false (show ¬ (1 ≤ n ∧ n ≤ 32) from fun h => h1 h.1)]
    go_enter Tryd.func37, Tryd.ntmps37
    go_wp2
    go_ret
    exact ⟨rfl, rfl⟩
set_option maxHeartbeats 1000000 in
theorem rdigestT_any (n : Int) (t : ByteArray) (ht : t.size ≤ 1000000000) (w : World) : Calls Tryd.prog 23 #[.int .i64 n, .string t] w (Tells (.string (dgB n t)) w.heap.size w) := by
  have cW := fun u => rmayWidth_any n u
  have cS := fun u => rsum_any t (by omega) u
  have zD := digB_size t.data.toList
  unfold dgB
  generalize digB t.data.toList = D at *
  by_cases hw : mayW n = true
  · rw [if_pos hw]
    rw [hw] at cW
    have hn := of_decide_eq_true hw
    obtain ⟨k, rfl⟩ := Int.eq_ofNat_of_zero_le (show 0 ≤ n by omega)
    have k1 : (k : Int) ≤ 32 := by omega
    clear hw hn
    go_enter Tryd.func23, Tryd.ntmps23
    go_wp2_with (first
      | (go_at_call 37; refine (cW _).mono ?_; rintro e w' ⟨rfl, rfl⟩)
      | (go_at_call 38; refine (cS _).mono ?_; rintro e w1 ⟨rfl, b1⟩))
    go_ret
    exact ⟨rfl, b1⟩
  · rw [if_neg hw]
    rw [Bool.not_eq_true] at hw
    rw [hw] at cW
    go_enter Tryd.func23, Tryd.ntmps23
    go_wp2_with (first
      | (go_at_call 37; refine (cW _).mono ?_; rintro e w' ⟨rfl, rfl⟩))
    go_ret
    exact ⟨rfl, Below.refl _ _⟩
end Go.Proofs.YtjbaeiifamendaaDoor
