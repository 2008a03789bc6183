/- Several of my texts, laid as one. -/
import Derived.Test.YtkecekfapiegjaaDoorU7Id
import Derived.Test.YtkecekfapiegjaaDoorM7Wrd
import Derived.Test.YtkecekfapiegjaaDoorU1Bytes
import Derived.Test.YtkecekfapiegjaaDoorM0Wrd
import Derived.Test.YtkecekfapiegjaaDoorM5Sha
import Derived.Test.YtkecekfapiegjaaDoorM14One
/-
  Package tag's leaves, walked: what may be, a text behind its length, a leaf's text.
-/
namespace Go.Proofs.YtkecekfapiegjaaDoor
set_option linter.unusedVariables false
set_option linter.unusedSimpArgs false
set_option maxRecDepth 10000
open Go.RowKit

set_option maxHeartbeats 4000000 in
theorem mayLeaf_any (x : Lf) (h1 : x.id.size ≤ 9223372036854775807) (h2 : x.salt.size ≤ 9223372036854775807) (w : World) (hT : TabU w) : Calls Tryd.prog 67 #[x.val] w (Tells (.bool x.may) w.heap.size w) := by
  obtain ⟨p, i, s, h, l⟩ := x
  simp only at h1 h2
  have B0 : Box (w.alloc (.cells #[.bool p, .string i, .string s, .int .u64 h, .int .u64 l] 34)) w.heap.size 34 (Lf.cells ⟨p, i, s, h, l⟩) := Box.made w _ _
  have L0 : Below w.heap.size w (w.alloc (.cells #[.bool p, .string i, .string s, .int .u64 h, .int .u64 l] 34)) := by repeat (first | exact Below.refl _ _ | apply Below.drew | apply below_drewN | refine Below.alloc ?_ (by simp; try omega) _ | refine Below.setCell ?_ (by simp; try omega) _)
  have T0 := hT.past (.cells #[.bool p, .string i, .string s, .int .u64 h, .int .u64 l] 34)
  obtain ⟨A, hA⟩ : ∃ A, Lf.may ⟨p, i, s, h, l⟩ = A := ⟨_, rfl⟩
  rw [hA]
  rw [may_def] at hA
  have HA := hideIt hA
  clear hA
  show Calls _ _ #[.agg #[.bool p, .string i, .string s, .int .u64 h, .int .u64 l]] _ _
  go_enter Tryd.func67, Tryd.ntmps67
  go_upto_region 1 with fail
  change Code.wp _ _ _ _ (w.alloc (.cells #[.bool p, .string i, .string s, .int .u64 h, .int .u64 l] 34))
  generalize w.alloc (.cells #[.bool p, .string i, .string s, .int .u64 h, .int .u64 l] 34) = W at *
  obtain ⟨r0, r1, r2, r3, r4⟩ := B0.leaf
  simp only at r0 r1 r2 r3 r4
  have hin := B0.inside
  by_cases hs : (32 : Int) < (s.size : Int)
  · have e := HA.out
    rw [decide_eq_false (show ¬ s.size ≤ 32 by omega), Bool.false_and] at e
    subst e
    go_wp2
    go_ret
    exact ⟨rfl, L0⟩
  · have hA := HA.out
    rw [decide_eq_true (show s.size ≤ 32 by omega), Bool.true_and] at hA
    clear HA
    cases p with
    | false =>
      rw [if_neg (by decide)] at hA
      have cI := fun u hu => mayId_any i h1 u hu
      rw [hA] at cI
      clear hA
      go_wp2_with (first | (go_at_call 90; refine (cI _ T0).mono ?_; rintro e w1 ⟨rfl, b1⟩))
      go_ret
      exact ⟨rfl, chain L0 b1⟩
    | true =>
      rw [if_pos rfl] at hA
      by_cases hi : i.size = 0
      · rw [decide_eq_true hi, Bool.true_and] at hA
        obtain rfl : i = ⟨#[]⟩ := ba_ext (by have := ba_size i; rw [hi] at this; rw [List.length_eq_zero_iff.1 this])
        have hq := fun u : World => run_eql_n7 h l 0 0 u
        have he : (h == 0 && l == 0) = (decide (h = 0) && decide (l = 0)) := by
          by_cases e1 : h = 0 <;> by_cases e2 : l = 0 <;> simp [e1, e2]
        rw [he, hA] at hq
        clear he hA hi
        have cO := fun u => of_any 0 u
        go_upto_region 4 with fail
        go_region_held3 (fun w' => Below W.heap.size W w' ∧ w'.cell? ⟨w.heap.size, 1, none⟩ = some (.string ⟨#[]⟩) ∧ w'.cell? ⟨w.heap.size, 3, none⟩ = some (.int .u64 h) ∧ w'.cell? ⟨w.heap.size, 4, none⟩ = some (.int .u64 l))
          (first
            | exact keep_first (by assumption) (by assumption) (fun hb => ⟨hb, (B0.call hb).read 1, (B0.call hb).read 3, (B0.call hb).read 4⟩)
            | exact ⟨(Below.refl _ _).drew, r1, r3, r4⟩)
          (first
            | (go_at_call 89; refine (cO _).mono ?_; rintro e v3 ⟨rfl, hv3⟩))
        go_wp2
        go_ret
        exact ⟨rfl, chain L0.drew hv3⟩
      · rw [decide_eq_false hi, Bool.false_and] at hA
        subst hA
        have hE := empty_str i
        rw [decide_eq_false hi] at hE
        have hE1 : (i.toList == []) = false := by simpa using hE
        have hE2 : i.toList.isEmpty = false := by simpa using hE
        go_upto_region 4 with fail
        go_quiet (fail)
        go_wp2
        go_ret
        exact ⟨rfl, below_drewN L0 _⟩
set_option maxHeartbeats 1000000 in
theorem sized_any (s : ByteArray) (hs : s.size ≤ 1000000) (w : World) : Calls Tryd.prog 76 #[.string s] w (Tells (.string (szB s)) w.heap.size w) := by
  have B0 := Box.made w 5 #[.int .u8 ((s.size : Int) % 256)]
  have L0 : Below w.heap.size w (w.alloc (.cells #[.int .u8 ((s.size : Int) % 256)] 5)) := by repeat (first | exact Below.refl _ _ | apply Below.drew | apply below_drewN | refine Below.alloc ?_ (by simp; try omega) _ | refine Below.setCell ?_ (by simp; try omega) _)
  have hcv := run_convert_bytes_arg (P := Tryd.prog) (w.alloc (.cells #[.int .u8 ((s.size : Int) % 256)] 5)) 135 5 Tryd.underlying135 Tryd.underlying5 w.heap.size 0 1 1 [(s.size : Int) % 256] rfl (fun i hi => by
    obtain rfl : i = 0 := by simp at hi; omega
    exact B0.read 0) 9 Tryd.underlying9
  have hcx : ∀ u : World, (Op.stringOp .add (strOfNums [(s.size : Int) % 256]) s).run Tryd.prog u = .ok (.string (szB s)) u := fun u => by rw [← one_byte]; exact run_string_add_sum u _ _ (by rw [strOfNums_size]; show 1 + s.size ≤ _; omega)
  go_enter Tryd.func76, Tryd.ntmps76
  go_wp2
  go_ret
  exact ⟨rfl, L0⟩
set_option maxHeartbeats 4000000 in
theorem leafText_any (x : Lf) (h1 : x.id.size ≤ 1000000) (h2 : x.salt.size ≤ 1000000) (hh : Word x.h) (hl : Word x.l) (w : World) (hT : TabU w) : Calls Tryd.prog 49 #[x.val] w (Tells (.string x.text) w.heap.size w) := by
  have cM := fun u hu => mayLeaf_any x (by omega) (by omega) u hu
  have tN := text_not x
  have tP := text_pad x
  have tA := text_acc x
  obtain ⟨p, i, s, h, l⟩ := x
  simp only at h1 h2 hh hl tP tA
  have B0 : Box (w.alloc (.cells #[.bool p, .string i, .string s, .int .u64 h, .int .u64 l] 34)) w.heap.size 34 (Lf.cells ⟨p, i, s, h, l⟩) := Box.made w _ _
  have L0 : Below w.heap.size w (w.alloc (.cells #[.bool p, .string i, .string s, .int .u64 h, .int .u64 l] 34)) := by repeat (first | exact Below.refl _ _ | apply Below.drew | apply below_drewN | refine Below.alloc ?_ (by simp; try omega) _ | refine Below.setCell ?_ (by simp; try omega) _)
  have T0 := hT.past (.cells #[.bool p, .string i, .string s, .int .u64 h, .int .u64 l] 34)
  have ev : Lf.val ⟨p, i, s, h, l⟩ = .agg #[.bool p, .string i, .string s, .int .u64 h, .int .u64 l] := rfl
  rw [ev] at cM ⊢
  clear ev
  have cI := fun u => sized_any i h1 u
  have cS := fun u => sized_any s h2 u
  have cB := fun u => ubytes_any h l hh hl u
  have zI := szB_size i
  have zS := szB_size s
  have zB := textOf_size h l
  generalize Lf.text ⟨p, i, s, h, l⟩ = T at *
  generalize Lf.may ⟨p, i, s, h, l⟩ = A at *
  generalize szB i = I at *
  generalize szB s = S at *
  generalize textOf h l = N at *
  go_enter Tryd.func49, Tryd.ntmps49
  go_upto_region 1 with fail
  change Code.wp _ _ _ _ (w.alloc (.cells #[.bool p, .string i, .string s, .int .u64 h, .int .u64 l] 34))
  generalize w.alloc (.cells #[.bool p, .string i, .string s, .int .u64 h, .int .u64 l] 34) = W at *
  obtain ⟨r0, r1, r2, r3, r4⟩ := B0.leaf
  simp only at r0 r1 r2 r3 r4
  have hin := B0.inside
  cases A with
  | false =>
    have e := tN rfl
    clear tN tP tA
    subst e
    go_wp2_with (first | (go_at_call 67; refine (cM _ T0).mono ?_; rintro e w1 ⟨rfl, b1⟩))
    go_ret
    exact ⟨rfl, chain L0 b1⟩
  | true =>
    cases p with
    | true =>
      have e := tP rfl rfl
      have hcx := adds_any ⟨#[2]⟩ S T e.symm (by decide) (by omega)
      clear e tN tP tA
      go_upto_region 3 with (first | (go_at_call 67; refine (cM _ T0).mono ?_; rintro e w1 ⟨rfl, b1⟩))
      have B1 := B0.call b1
      obtain ⟨q0, q1, q2, q3, q4⟩ := B1.leaf
      simp only at q0 q1 q2 q3 q4
      have hin1 := B1.inside
      go_wp2_with (first | (go_at_call 76; refine (cS _).mono ?_; rintro e w2 ⟨rfl, b2⟩))
      go_ret
      exact ⟨rfl, chain (chain L0 b1) b2⟩
    | false =>
      have e := tA rfl rfl
      clear tN tP tA
      obtain ⟨X, hX⟩ : ∃ X, (⟨#[0]⟩ : ByteArray) ++ I = X := ⟨_, rfl⟩
      obtain ⟨Y, hY⟩ : ∃ Y, X ++ S = Y := ⟨_, rfl⟩
      rw [hX, hY] at e
      have zX : X.size = 1 + I.size := by rw [← hX, ByteArray.size_append]; rfl
      have zY : Y.size = X.size + S.size := by rw [← hY, ByteArray.size_append]
      have hc1 := adds_any ⟨#[0]⟩ I X hX (by decide) (by omega)
      have hc2 := adds_any X S Y hY (by omega) (by omega)
      have hc3 := adds_any Y N T e.symm (by omega) (by omega)
      clear e hX hY
      go_upto_region 3 with (first | (go_at_call 67; refine (cM _ T0).mono ?_; rintro e w1 ⟨rfl, b1⟩))
      have B1 := B0.call b1
      obtain ⟨q0, q1, q2, q3, q4⟩ := B1.leaf
      simp only at q0 q1 q2 q3 q4
      have hin1 := B1.inside
      go_upto_region 5 with fail
      go_region_held3 (fun w' => Below w1.heap.size w1 w' ∧ w'.cell? ⟨w.heap.size, 1, none⟩ = some (.string i) ∧ w'.cell? ⟨w.heap.size, 2, none⟩ = some (.string s) ∧ w'.cell? ⟨w.heap.size, 3, none⟩ = some (.int .u64 h) ∧ w'.cell? ⟨w.heap.size, 4, none⟩ = some (.int .u64 l))
        (first
          | exact keep_first (by assumption) (by assumption) (fun hb => ⟨hb, (B1.call hb).read 1, (B1.call hb).read 2, (B1.call hb).read 3, (B1.call hb).read 4⟩)
          | exact ⟨(Below.refl _ _).drew, q1, q2, q3, q4⟩)
        (first
          | (go_at_call_of 76 (Value.string i); refine (cI _).mono ?_; rintro e v1 ⟨rfl, hv1⟩)
          | (go_at_call_of 76 (Value.string s); refine (cS _).mono ?_; rintro e v2 ⟨rfl, hv2⟩)
          | (go_at_call 77; refine (cB _).mono ?_; rintro e v3 ⟨rfl, hv3⟩)
          | fail)
      all_goals go_wp2
      all_goals go_ret
      all_goals exact ⟨rfl, chain (chain L0 b1) (And.left (by assumption))⟩
end Go.Proofs.YtkecekfapiegjaaDoor
/-
  Package tag's nodes and digests, walked: NodeText, MayWidth, Digest, LeafNode.
-/
namespace Go.Proofs.YtkecekfapiegjaaDoor
set_option linter.unusedVariables false
set_option linter.unusedSimpArgs false
set_option maxRecDepth 10000
open Go.RowKit

set_option maxHeartbeats 4000000 in
theorem nodeText_any (a b : Nd) (h1 : a.hash.size ≤ 1000000) (h2 : b.hash.size ≤ 1000000) (a1 : Word a.h) (a0 : Word a.l) (b1 : Word b.h) (b0 : Word b.l) (w : World) : Calls Tryd.prog 50 #[a.val, b.val] w (Tells (.string (ndText a b)) w.heap.size w) := by
  obtain ⟨s, h, l⟩ := a
  obtain ⟨z, j, m⟩ := b
  simp only at h1 h2 a1 a0 b1 b0
  have A0 := (Box.made w 49 #[.string s, .int .u64 h, .int .u64 l]).past (.cells #[.string z, .int .u64 j, .int .u64 m] 49)
  have B0 : Box ((w.alloc (.cells #[.string s, .int .u64 h, .int .u64 l] 49)).alloc (.cells #[.string z, .int .u64 j, .int .u64 m] 49)) (w.heap.size + 1) 49 #[.string z, .int .u64 j, .int .u64 m] := by
    have := Box.made (w.alloc (.cells #[.string s, .int .u64 h, .int .u64 l] 49)) 49 #[.string z, .int .u64 j, .int .u64 m]
    simpa using this
  have L0 : Below w.heap.size w ((w.alloc (.cells #[.string s, .int .u64 h, .int .u64 l] 49)).alloc (.cells #[.string z, .int .u64 j, .int .u64 m] 49)) := by repeat (first | exact Below.refl _ _ | apply Below.drew | apply below_drewN | refine Below.alloc ?_ (by simp; try omega) _ | refine Below.setCell ?_ (by simp; try omega) _)
  have cA := fun u => ubytes_any h l a1 a0 u
  have cB := fun u => ubytes_any j m b1 b0 u
  have zA := textOf_size h l
  have zB := textOf_size j m
  have e : ndText ⟨s, h, l⟩ ⟨z, j, m⟩ = (((⟨#[1]⟩ ++ s) ++ textOf h l) ++ z) ++ textOf j m := rfl
  generalize ndText ⟨s, h, l⟩ ⟨z, j, m⟩ = T at *
  generalize textOf h l = A at *
  generalize textOf j m = B at *
  obtain ⟨X, hX⟩ : ∃ X, (⟨#[1]⟩ : ByteArray) ++ s = X := ⟨_, rfl⟩
  obtain ⟨Y, hY⟩ : ∃ Y, X ++ A = Y := ⟨_, rfl⟩
  obtain ⟨Z, hZ⟩ : ∃ Z, Y ++ z = Z := ⟨_, rfl⟩
  rw [hX, hY, hZ] at e
  have zX : X.size = 1 + s.size := by rw [← hX, ByteArray.size_append]; rfl
  have zY : Y.size = X.size + 16 := by rw [← hY, ByteArray.size_append, zA]
  have zZ : Z.size = Y.size + z.size := by rw [← hZ, ByteArray.size_append]
  have hc1 := adds_any ⟨#[1]⟩ s X hX (by decide) (by omega)
  have hc2 := adds_any X A Y hY (by omega) (by omega)
  have hc3 := adds_any Y z Z hZ (by omega) (by omega)
  have hc4 := adds_any Z B T e.symm (by omega) (by omega)
  clear e hX hY hZ zX zY zZ zA zB
  show Calls _ _ #[.agg #[.string s, .int .u64 h, .int .u64 l], .agg #[.string z, .int .u64 j, .int .u64 m]] _ _
  go_enter Tryd.func50, Tryd.ntmps50
  go_upto_region 1 with fail
  change Code.wp _ _ _ _ ((w.alloc (.cells #[.string s, .int .u64 h, .int .u64 l] 49)).alloc (.cells #[.string z, .int .u64 j, .int .u64 m] 49))
  generalize (w.alloc (.cells #[.string s, .int .u64 h, .int .u64 l] 49)).alloc (.cells #[.string z, .int .u64 j, .int .u64 m] 49) = W at *
  obtain ⟨r0, r1, r2⟩ := A0.node
  obtain ⟨q0, q1, q2⟩ := B0.node
  have hinA := A0.inside
  have hinB := B0.inside
  go_region_held3 (fun w' => Below W.heap.size W w' ∧ w'.cell? ⟨w.heap.size, 0, none⟩ = some (.string s) ∧ w'.cell? ⟨w.heap.size, 1, none⟩ = some (.int .u64 h) ∧ w'.cell? ⟨w.heap.size, 2, none⟩ = some (.int .u64 l) ∧
      w'.cell? ⟨w.heap.size + 1, 0, none⟩ = some (.string z) ∧ w'.cell? ⟨w.heap.size + 1, 1, none⟩ = some (.int .u64 j) ∧ w'.cell? ⟨w.heap.size + 1, 2, none⟩ = some (.int .u64 m))
    (first
      | exact keep_first (by assumption) (by assumption) (fun hb => ⟨hb, (A0.call hb).read 0, (A0.call hb).read 1, (A0.call hb).read 2, (B0.call hb).read 0, (B0.call hb).read 1, (B0.call hb).read 2⟩)
      | exact ⟨(Below.refl _ _).drew, r0, r1, r2, q0, q1, q2⟩)
    (first
      | (go_at_call_of 77 (Value.agg #[.int .u64 h, .int .u64 l]); refine (cA _).mono ?_; rintro e v1 ⟨rfl, hv1⟩)
      | (go_at_call_of 77 (Value.agg #[.int .u64 j, .int .u64 m]); refine (cB _).mono ?_; rintro e v2 ⟨rfl, hv2⟩)
      | fail)
  all_goals go_wp2
  all_goals go_ret
  all_goals exact ⟨rfl, chain L0 (And.left (by assumption))⟩

set_option maxHeartbeats 1000000 in
theorem digestT_any (n : Int) (t : ByteArray) (ht : t.size ≤ 1000000000) (w : World) (hT : Tab w) : Calls Tryd.prog 27 #[.int .i64 n, .string t] w (Tells (.string (dgB n t)) w.heap.size w) := by
  have cW := fun u => mayWidth_any n u
  have cS := fun u hu => sum_any t (by omega) u hu
  have zD := digB_size t.data.toList
  unfold dgB
  generalize digB t.data.toList = D at *
  by_cases hw : mayW n = true
  · rw [if_pos hw]
    rw [hw] at cW
    have hn := of_decide_eq_true hw
    obtain ⟨k, rfl⟩ := Int.eq_ofNat_of_zero_le (show 0 ≤ n by omega)
    have k1 : (k : Int) ≤ 32 := by omega
    clear hw hn
    go_enter Tryd.func27, Tryd.ntmps27
    go_wp2_with (first
      | (go_at_call 51; refine (cW _).mono ?_; rintro e w' ⟨rfl, rfl⟩)
      | (go_at_call 52; refine (cS _ hT).mono ?_; rintro e w1 ⟨rfl, b1⟩))
    go_ret
    exact ⟨rfl, b1⟩
  · rw [if_neg hw]
    rw [Bool.not_eq_true] at hw
    rw [hw] at cW
    go_enter Tryd.func27, Tryd.ntmps27
    go_wp2_with (first
      | (go_at_call 51; refine (cW _).mono ?_; rintro e w' ⟨rfl, rfl⟩))
    go_ret
    exact ⟨rfl, Below.refl _ _⟩
set_option maxRecDepth 100000 in
set_option maxHeartbeats 4000000 in
theorem leafNode_any (n : Int) (x : Lf) (h1 : x.id.size ≤ 1000000) (h2 : x.salt.size ≤ 1000000) (hh : Word x.h) (hl : Word x.l) (w : World) (hTK : Tab w) (hT : TabU w) : Calls Tryd.prog 36 #[.int .i64 n, x.val] w (Tells (nodeOf n x).val w.heap.size w) := by
  have cW := fun u => mayWidth_any n u
  have cM := fun u hu => mayLeaf_any x (by omega) (by omega) u hu
  have cT := fun u hu => leafText_any x h1 h2 hh hl u hu
  have zT := text_bound x h1 h2
  have cD := fun u hu => digestT_any n x.text (by omega) u hu
  have en : nodeOf n x = if mayW n = true ∧ x.may = true then ⟨dgB n x.text, x.h, x.l⟩ else Nd.zero := rfl
  obtain ⟨p, i, s, h, l⟩ := x
  simp only at hh hl en
  have A0 : Box ((w.alloc (.cells #[.bool p, .string i, .string s, .int .u64 h, .int .u64 l] 34)).alloc (.cells #[.string ⟨#[]⟩, .int .u64 0, .int .u64 0] 49)) w.heap.size 34 #[.bool p, .string i, .string s, .int .u64 h, .int .u64 l] := (Box.made w _ _).past _
  have B0 : Box ((w.alloc (.cells #[.bool p, .string i, .string s, .int .u64 h, .int .u64 l] 34)).alloc (.cells #[.string ⟨#[]⟩, .int .u64 0, .int .u64 0] 49)) (w.heap.size + 1) 49 #[.string ⟨#[]⟩, .int .u64 0, .int .u64 0] := by
    have := Box.made (w.alloc (.cells #[.bool p, .string i, .string s, .int .u64 h, .int .u64 l] 34)) 49 #[.string ⟨#[]⟩, .int .u64 0, .int .u64 0]
    simpa using this
  have L0 : Below w.heap.size w ((w.alloc (.cells #[.bool p, .string i, .string s, .int .u64 h, .int .u64 l] 34)).alloc (.cells #[.string ⟨#[]⟩, .int .u64 0, .int .u64 0] 49)) := by repeat (first | exact Below.refl _ _ | apply Below.drew | apply below_drewN | refine Below.alloc ?_ (by simp; try omega) _ | refine Below.setCell ?_ (by simp; try omega) _)
  have ev : Lf.val ⟨p, i, s, h, l⟩ = .agg #[.bool p, .string i, .string s, .int .u64 h, .int .u64 l] := rfl
  rw [ev] at cM cT ⊢
  clear ev
  generalize Lf.text ⟨p, i, s, h, l⟩ = T at *
  generalize Lf.may ⟨p, i, s, h, l⟩ = M at *
  generalize nodeOf n ⟨p, i, s, h, l⟩ = R at *
  generalize dgB n T = D at *
  generalize mayW n = V at *
  have HN := hideIt en
  clear en
  go_enter Tryd.func36, Tryd.ntmps36
  go_upto_region 1 with fail
  change Code.wp _ _ _ _ ((w.alloc (.cells #[.bool p, .string i, .string s, .int .u64 h, .int .u64 l] 34)).alloc (.cells #[.string ⟨#[]⟩, .int .u64 0, .int .u64 0] 49))
  generalize (w.alloc (.cells #[.bool p, .string i, .string s, .int .u64 h, .int .u64 l] 34)).alloc (.cells #[.string ⟨#[]⟩, .int .u64 0, .int .u64 0] 49) = W at *
  obtain ⟨r0, r1, r2, r3, r4⟩ := A0.lfat
  obtain ⟨⟨q0, q1, q2⟩, f0, f1, f2, hinB⟩ := B0.three0
  have hinA := A0.inside
  cases V with
  | false =>
    have e := HN.out
    rw [if_neg (by simp)] at e
    subst e
    go_wp2_with (first | (go_at_call 51; refine (cW _).mono ?_; rintro e w' ⟨rfl, rfl⟩))
    generalize hX : World.setCell (World.setCell (World.setCell _ _ _) _ _) _ _ = X
    have hbx : Box X (w.heap.size + 1) 49 #[.string ⟨#[]⟩, .int .u64 0, .int .u64 0] := by rw [← hX]; exact Box.put3 B0 _ _ _
    have hbl : Below w.heap.size w X := by rw [← hX]; exact below_put3 L0 (by omega) _ _ _
    clear hX
    obtain ⟨⟨x0, x1, x2⟩, -, -, -, hgx⟩ := hbx.three0
    exact bodyPost_ret (v := Nd.zero.val) (by simp [results, Tryd.results36, go_sem, Nd.val, Nd.zero, x0, x1, x2]) rfl ⟨rfl, hbl⟩
  | true =>
    cases M with
    | false =>
      have e := HN.out
      rw [if_neg (by simp)] at e
      subst e
      go_upto_region 2 with (first
        | (go_at_call 51; refine (cW _).mono ?_; rintro e w' ⟨rfl, rfl⟩)
        | (go_at_call 67; refine (cM _ (hT.call L0)).mono ?_; rintro e w1 ⟨rfl, b1⟩))
      have B1 := B0.call b1
      obtain ⟨⟨y0, y1, y2⟩, g0, g1, g2, hin1⟩ := B1.three0
      go_wp2
      generalize hX : World.setCell (World.setCell (World.setCell _ _ _) _ _) _ _ = X
      have hbx : Box X (w.heap.size + 1) 49 #[.string ⟨#[]⟩, .int .u64 0, .int .u64 0] := by rw [← hX]; exact Box.put3 B1 _ _ _
      have hbl : Below w.heap.size w X := by rw [← hX]; exact below_put3 (chain L0 b1) (by omega) _ _ _
      clear hX
      obtain ⟨⟨x0, x1, x2⟩, -, -, -, hgx⟩ := hbx.three0
      exact bodyPost_ret (v := Nd.zero.val) (by simp [results, Tryd.results36, go_sem, Nd.val, Nd.zero, x0, x1, x2]) rfl ⟨rfl, hbl⟩
    | true =>
      have e := HN.out
      rw [if_pos ⟨rfl, rfl⟩] at e
      subst e
      go_upto_region 3 with (first
        | (go_at_call 51; refine (cW _).mono ?_; rintro e w' ⟨rfl, rfl⟩)
        | (go_at_call 67; refine (cM _ (hT.call L0)).mono ?_; rintro e w1 ⟨rfl, b1⟩))
      have A1 := A0.call b1
      have B1 := B0.call b1
      have f0 : Below w.heap.size w w1.drew ∧ (w1.drew.cell? ⟨w.heap.size, 0, none⟩ = some (.bool p) ∧ w1.drew.cell? ⟨w.heap.size, 1, none⟩ = some (.string i) ∧ w1.drew.cell? ⟨w.heap.size, 2, none⟩ = some (.string s) ∧ w1.drew.cell? ⟨w.heap.size, 3, none⟩ = some (.int .u64 h) ∧ w1.drew.cell? ⟨w.heap.size, 4, none⟩ = some (.int .u64 l)) :=
        ⟨(chain L0 b1).drew, A1.lfat⟩
      have BB : Box w1.drew (w.heap.size + 1) 49 #[.string ⟨#[]⟩, .int .u64 0, .int .u64 0] := B1
      have AB : Box w1.drew w.heap.size 34 #[.bool p, .string i, .string s, .int .u64 h, .int .u64 l] := A1
      refine wp_region_held_drew (S := fun u => Below w.heap.size w u ∧ (u.cell? ⟨w.heap.size, 0, none⟩ = some (.bool p) ∧ u.cell? ⟨w.heap.size, 1, none⟩ = some (.string i) ∧ u.cell? ⟨w.heap.size, 2, none⟩ = some (.string s) ∧ u.cell? ⟨w.heap.size, 3, none⟩ = some (.int .u64 h) ∧ u.cell? ⟨w.heap.size, 4, none⟩ = some (.int .u64 l))) (by kernel_rfl) f0 (fun hHeld => ?_)
      refine wpAnyH_take (i := 0) (v := ?_) rfl (by kernel_rfl) (by kernel_rfl) (by kernel_rfl) (fun _ _ _ h => h) (Or.inl ⟨by rfl, ?_⟩) (by assumption) ?_
      rotate_left 1
      · intro w hSw; (try dsimp only at hSw); go_simp; try with_reducible rfl
      try simp only [Act.put, List.getElem_toArray, List.getElem_cons_succ, List.getElem_cons_zero, List.setIfInBounds_toArray, List.set_cons_zero, List.set_cons_succ]
      refine wpAnyH_take (i := 1) (v := ?_) rfl (by kernel_rfl) (by kernel_rfl) (by kernel_rfl) (fun _ _ _ h => h) (Or.inl ⟨by rfl, ?_⟩) (by assumption) ?_
      rotate_left 1
      · intro w hSw; (try dsimp only at hSw); go_simp; try with_reducible rfl
      try simp only [Act.put, List.getElem_toArray, List.getElem_cons_succ, List.getElem_cons_zero, List.setIfInBounds_toArray, List.set_cons_zero, List.set_cons_succ]
      refine wpAnyH_take (i := 4) (v := ?_) rfl (by kernel_rfl) (by kernel_rfl) (by kernel_rfl) (fun _ _ _ h => h) (Or.inl ⟨by rfl, ?_⟩) (by assumption) ?_
      rotate_left 1
      · intro w hSw; (try dsimp only at hSw); go_simp; try with_reducible rfl
      try simp only [Act.put, List.getElem_toArray, List.getElem_cons_succ, List.getElem_cons_zero, List.setIfInBounds_toArray, List.set_cons_zero, List.set_cons_succ]
      refine wpAnyH_take (i := 5) (v := ?_) rfl (by kernel_rfl) (by kernel_rfl) (by kernel_rfl) (fun _ _ _ h => h) (Or.inl ⟨by rfl, ?_⟩) (by assumption) ?_
      rotate_left 1
      · intro w hSw; (try dsimp only at hSw); go_simp; try with_reducible rfl
      try simp only [Act.put, List.getElem_toArray, List.getElem_cons_succ, List.getElem_cons_zero, List.setIfInBounds_toArray, List.set_cons_zero, List.set_cons_succ]
      refine wpAnyH_ready (rs := [2]) (by kernel_rfl) (by simp) (AllReadyH.cons rfl (fun K hK => ?_) AllReadyH.nil)
      go_simp
      go_at_call 49
      refine (cT _ (hT.call f0.1)).mono ?_
      rintro e w2 ⟨rfl, b2⟩
      have F2 : Below w.heap.size w w2 ∧ (w2.cell? ⟨w.heap.size, 0, none⟩ = some (.bool p) ∧ w2.cell? ⟨w.heap.size, 1, none⟩ = some (.string i) ∧ w2.cell? ⟨w.heap.size, 2, none⟩ = some (.string s) ∧ w2.cell? ⟨w.heap.size, 3, none⟩ = some (.int .u64 h) ∧ w2.cell? ⟨w.heap.size, 4, none⟩ = some (.int .u64 l)) := ⟨chain f0.1 b2, (AB.call b2).lfat⟩
      try simp only []
      refine hK.out _ _ (F2) (fun hHeld => ?_)
      clear hK K
      try simp only [Act.put, List.getElem_toArray, List.getElem_cons_succ, List.getElem_cons_zero, List.setIfInBounds_toArray, List.set_cons_zero, List.set_cons_succ]
      refine wpAnyH_ready (rs := [3]) (by kernel_rfl) (by simp) (AllReadyH.cons rfl (fun K hK => ?_) AllReadyH.nil)
      go_simp
      go_at_call 27
      refine (cD _ (hTK.call F2.1)).mono ?_
      rintro e w3 ⟨rfl, b3⟩
      have F3 : Below w.heap.size w w3 ∧ (w3.cell? ⟨w.heap.size, 0, none⟩ = some (.bool p) ∧ w3.cell? ⟨w.heap.size, 1, none⟩ = some (.string i) ∧ w3.cell? ⟨w.heap.size, 2, none⟩ = some (.string s) ∧ w3.cell? ⟨w.heap.size, 3, none⟩ = some (.int .u64 h) ∧ w3.cell? ⟨w.heap.size, 4, none⟩ = some (.int .u64 l)) := ⟨chain F2.1 b3, ((AB.call b2).call b3).lfat⟩
      have B3 := (BB.call b2).call b3
      have A3 := (AB.call b2).call b3
      try simp only []
      refine hK.out _ _ (F3) (fun hHeld => ?_)
      clear hK K
      try simp only [Act.put, List.getElem_toArray, List.getElem_cons_succ, List.getElem_cons_zero, List.setIfInBounds_toArray, List.set_cons_zero, List.set_cons_succ]
      refine wpAnyH_take (i := 6) (v := ?_) rfl (by kernel_rfl) (by kernel_rfl) (by kernel_rfl) (fun _ _ _ h => h) (Or.inl ⟨by rfl, ?_⟩) (by assumption) ?_
      rotate_left 1
      · intro w hSw; (try dsimp only at hSw); go_simp; try with_reducible rfl
      try simp only [Act.put, List.getElem_toArray, List.getElem_cons_succ, List.getElem_cons_zero, List.setIfInBounds_toArray, List.set_cons_zero, List.set_cons_succ]
      obtain ⟨⟨y0, y1, y2⟩, g0, g1, g2, hin3⟩ := B3.three0
      refine wpAnyH_ready (rs := [7]) (by kernel_rfl) (by simp) (AllReadyH.cons rfl (fun K hK => ?_) AllReadyH.nil)
      go_simp
      have AX := ((A3.apart (p := ⟨w.heap.size + 1, 0, none⟩) (by simp) (.string D)).apart (p := ⟨w.heap.size + 1, 1, none⟩) (by simp) (.int .u64 h)).apart (p := ⟨w.heap.size + 1, 2, none⟩) (by simp) (.int .u64 l)
      have BX := B3.put3 (.string D) (.int .u64 h) (.int .u64 l)
      have LX := below_put3 (g := w.heap.size + 1) F3.1 (by omega) (.string D) (.int .u64 h) (.int .u64 l)
      generalize World.setCell (World.setCell (World.setCell w3 _ _) _ _) _ _ = X at *
      have FX : Below w.heap.size w X ∧ (X.cell? ⟨w.heap.size, 0, none⟩ = some (.bool p) ∧ X.cell? ⟨w.heap.size, 1, none⟩ = some (.string i) ∧ X.cell? ⟨w.heap.size, 2, none⟩ = some (.string s) ∧ X.cell? ⟨w.heap.size, 3, none⟩ = some (.int .u64 h) ∧ X.cell? ⟨w.heap.size, 4, none⟩ = some (.int .u64 l)) := ⟨LX, AX.lfat⟩
      obtain ⟨⟨x0, x1, x2⟩, -, -, -, hgx⟩ := BX.three0
      refine hK.out _ _ (FX) (fun hHeld => ?_)
      clear hK K
      try simp only [Act.put, List.getElem_toArray, List.getElem_cons_succ, List.getElem_cons_zero, List.setIfInBounds_toArray, List.set_cons_zero, List.set_cons_succ]
      refine wpAnyH_done (by kernel_rfl) ?_ _
      clear y0 y1 y2 g0 g1 g2 hin3 F3 F2 A3 B3
      go_wp2
      exact bodyPost_ret (v := Nd.val ⟨D, h, l⟩) (by simp [results, Tryd.results36, go_sem, Nd.val, x0, x1, x2]) rfl ⟨rfl, LX⟩
end Go.Proofs.YtkecekfapiegjaaDoor
