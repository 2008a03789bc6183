/-
  Package tag's leaves, walked: what may be, a text behind its length, a leaf's text.
-/
import Derived.Test.YtjndabnegmecmaaDoorU7Id
import Derived.Test.YtjndabnegmecmaaDoorE7Same
import Derived.Test.YtjndabnegmecmaaDoorW7Leaf
import Derived.Test.YtjndabnegmecmaaDoorU1Bytes
import Derived.Test.YtjndabnegmecmaaDoorW1Has
namespace Go.Proofs.YtjndabnegmecmaaDoor
set_option linter.unusedVariables false
set_option linter.unusedSimpArgs false
set_option maxRecDepth 10000
open Go.RowKit

set_option maxHeartbeats 4000000 in
theorem mayLeaf_any (x : Lf) (h1 : x.id.size ≤ 9223372036854775807) (h2 : x.salt.size ≤ 9223372036854775807) (w : World) (hT : TabU w) : Calls Tryd.prog 35 #[x.val] w (Tells (.bool x.may) w.heap.size w) := by
  obtain ⟨p, i, s, h, l⟩ := x
  simp only at h1 h2
  have B0 : Box (w.alloc (.cells #[.bool p, .string i, .string s, .int .u64 h, .int .u64 l] 36)) w.heap.size 36 (Lf.cells ⟨p, i, s, h, l⟩) := Box.made w _ _
  have L0 : Below w.heap.size w (w.alloc (.cells #[.bool p, .string i, .string s, .int .u64 h, .int .u64 l] 36)) := by repeat (first | exact Below.refl _ _ | apply Below.drew | apply below_drewN | refine Below.alloc ?_ (by simp; try omega) _ | refine Below.setCell ?_ (by simp; try omega) _)
  have T0 := hT.past (.cells #[.bool p, .string i, .string s, .int .u64 h, .int .u64 l] 36)
  obtain ⟨A, hA⟩ : ∃ A, Lf.may ⟨p, i, s, h, l⟩ = A := ⟨_, rfl⟩
  rw [hA]
  rw [may_def] at hA
  have HA := hideIt hA
  clear hA
  show Calls _ _ #[.agg #[.bool p, .string i, .string s, .int .u64 h, .int .u64 l]] _ _
  go_enter Tryd.func35, Tryd.ntmps35
  go_upto_region 1 with fail
  change Code.wp _ _ _ _ (w.alloc (.cells #[.bool p, .string i, .string s, .int .u64 h, .int .u64 l] 36))
  generalize w.alloc (.cells #[.bool p, .string i, .string s, .int .u64 h, .int .u64 l] 36) = W at *
  obtain ⟨r0, r1, r2, r3, r4⟩ := B0.leaf
  simp only at r0 r1 r2 r3 r4
  have hin := B0.inside
  by_cases hs : (32 : Int) < (s.size : Int)
  · have e := HA.out
    rw [decide_eq_false (show ¬ s.size ≤ 32 by omega), Bool.false_and] at e
    subst e
    go_wp2
    go_ret
    exact ⟨rfl, L0⟩
  · have hA := HA.out
    rw [decide_eq_true (show s.size ≤ 32 by omega), Bool.true_and] at hA
    clear HA
    cases p with
    | false =>
      rw [if_neg (by decide)] at hA
      have cI := fun u hu => mayId_any i h1 u hu
      rw [hA] at cI
      clear hA
      go_wp2_with (first | (go_at_call 55; refine (cI _ T0).mono ?_; rintro e w1 ⟨rfl, b1⟩))
      go_ret
      exact ⟨rfl, chain L0 b1⟩
    | true =>
      rw [if_pos rfl] at hA
      by_cases hi : i.size = 0
      · rw [decide_eq_true hi, Bool.true_and] at hA
        obtain rfl : i = ⟨#[]⟩ := ba_ext (by have := ba_size i; rw [hi] at this; rw [List.length_eq_zero_iff.1 this])
        have hq := fun u : World => run_eql_n7 h l 0 0 u
        have he : (h == 0 && l == 0) = (decide (h = 0) && decide (l = 0)) := by
          by_cases e1 : h = 0 <;> by_cases e2 : l = 0 <;> simp [e1, e2]
        rw [he, hA] at hq
        clear he hA hi
        have cO := fun u => of_any 0 u
        go_upto_region 4 with fail
        go_region_held3 (fun w' => Below W.heap.size W w' ∧ w'.cell? ⟨w.heap.size, 1, none⟩ = some (.string ⟨#[]⟩) ∧ w'.cell? ⟨w.heap.size, 3, none⟩ = some (.int .u64 h) ∧ w'.cell? ⟨w.heap.size, 4, none⟩ = some (.int .u64 l))
          (first
            | exact keep_first (by assumption) (by assumption) (fun hb => ⟨hb, (B0.call hb).read 1, (B0.call hb).read 3, (B0.call hb).read 4⟩)
            | exact ⟨(Below.refl _ _).drew, r1, r3, r4⟩)
          (first
            | (go_at_call 54; refine (cO _).mono ?_; rintro e v3 ⟨rfl, hv3⟩))
        go_wp2
        go_ret
        exact ⟨rfl, chain L0.drew hv3⟩
      · rw [decide_eq_false hi, Bool.false_and] at hA
        subst hA
        have hE := empty_str i
        rw [decide_eq_false hi] at hE
        have hE1 : (i.toList == []) = false := by simpa using hE
        have hE2 : i.toList.isEmpty = false := by simpa using hE
        go_upto_region 4 with fail
        go_quiet (fail)
        go_wp2
        go_ret
        exact ⟨rfl, below_drewN L0 _⟩
set_option maxHeartbeats 1000000 in
theorem sized_any (s : ByteArray) (hs : s.size ≤ 1000000) (w : World) : Calls Tryd.prog 57 #[.string s] w (Tells (.string (szB s)) w.heap.size w) := by
  have B0 := Box.made w 5 #[.int .u8 ((s.size : Int) % 256)]
  have L0 : Below w.heap.size w (w.alloc (.cells #[.int .u8 ((s.size : Int) % 256)] 5)) := by repeat (first | exact Below.refl _ _ | apply Below.drew | apply below_drewN | refine Below.alloc ?_ (by simp; try omega) _ | refine Below.setCell ?_ (by simp; try omega) _)
  have hcv := run_convert_bytes_arg (P := Tryd.prog) (w.alloc (.cells #[.int .u8 ((s.size : Int) % 256)] 5)) 60 5 Tryd.underlying60 Tryd.underlying5 w.heap.size 0 1 1 [(s.size : Int) % 256] rfl (fun i hi => by
    obtain rfl : i = 0 := by simp at hi; omega
    exact B0.read 0) 9 Tryd.underlying9
  have hcx : ∀ u : World, (Op.stringOp .add (strOfNums [(s.size : Int) % 256]) s).run Tryd.prog u = .ok (.string (szB s)) u := fun u => by rw [← one_byte]; exact run_string_add_sum u _ _ (by rw [strOfNums_size]; show 1 + s.size ≤ _; omega)
  go_enter Tryd.func57, Tryd.ntmps57
  go_wp2
  go_ret
  exact ⟨rfl, L0⟩
set_option maxHeartbeats 4000000 in
theorem leafText_any (x : Lf) (h1 : x.id.size ≤ 1000000) (h2 : x.salt.size ≤ 1000000) (hh : Word x.h) (hl : Word x.l) (w : World) (hT : TabU w) : Calls Tryd.prog 37 #[x.val] w (Tells (.string x.text) w.heap.size w) := by
  have cM := fun u hu => mayLeaf_any x (by omega) (by omega) u hu
  have tN := text_not x
  have tP := text_pad x
  have tA := text_acc x
  obtain ⟨p, i, s, h, l⟩ := x
  simp only at h1 h2 hh hl tP tA
  have B0 : Box (w.alloc (.cells #[.bool p, .string i, .string s, .int .u64 h, .int .u64 l] 36)) w.heap.size 36 (Lf.cells ⟨p, i, s, h, l⟩) := Box.made w _ _
  have L0 : Below w.heap.size w (w.alloc (.cells #[.bool p, .string i, .string s, .int .u64 h, .int .u64 l] 36)) := by repeat (first | exact Below.refl _ _ | apply Below.drew | apply below_drewN | refine Below.alloc ?_ (by simp; try omega) _ | refine Below.setCell ?_ (by simp; try omega) _)
  have T0 := hT.past (.cells #[.bool p, .string i, .string s, .int .u64 h, .int .u64 l] 36)
  have ev : Lf.val ⟨p, i, s, h, l⟩ = .agg #[.bool p, .string i, .string s, .int .u64 h, .int .u64 l] := rfl
  rw [ev] at cM ⊢
  clear ev
  have cI := fun u => sized_any i h1 u
  have cS := fun u => sized_any s h2 u
  have cB := fun u => ubytes_any h l hh hl u
  have zI := szB_size i
  have zS := szB_size s
  have zB := textOf_size h l
  generalize Lf.text ⟨p, i, s, h, l⟩ = T at *
  generalize Lf.may ⟨p, i, s, h, l⟩ = A at *
  generalize szB i = I at *
  generalize szB s = S at *
  generalize textOf h l = N at *
  go_enter Tryd.func37, Tryd.ntmps37
  go_upto_region 1 with fail
  change Code.wp _ _ _ _ (w.alloc (.cells #[.bool p, .string i, .string s, .int .u64 h, .int .u64 l] 36))
  generalize w.alloc (.cells #[.bool p, .string i, .string s, .int .u64 h, .int .u64 l] 36) = W at *
  obtain ⟨r0, r1, r2, r3, r4⟩ := B0.leaf
  simp only at r0 r1 r2 r3 r4
  have hin := B0.inside
  cases A with
  | false =>
    have e := tN rfl
    clear tN tP tA
    subst e
    go_wp2_with (first | (go_at_call 35; refine (cM _ T0).mono ?_; rintro e w1 ⟨rfl, b1⟩))
    go_ret
    exact ⟨rfl, chain L0 b1⟩
  | true =>
    cases p with
    | true =>
      have e := tP rfl rfl
      have hcx := adds_any ⟨#[2]⟩ S T e.symm (by decide) (by omega)
      clear e tN tP tA
      go_upto_region 3 with (first | (go_at_call 35; refine (cM _ T0).mono ?_; rintro e w1 ⟨rfl, b1⟩))
      have B1 := B0.call b1
      obtain ⟨q0, q1, q2, q3, q4⟩ := B1.leaf
      simp only at q0 q1 q2 q3 q4
      have hin1 := B1.inside
      go_wp2_with (first | (go_at_call 57; refine (cS _).mono ?_; rintro e w2 ⟨rfl, b2⟩))
      go_ret
      exact ⟨rfl, chain (chain L0 b1) b2⟩
    | false =>
      have e := tA rfl rfl
      clear tN tP tA
      obtain ⟨X, hX⟩ : ∃ X, (⟨#[0]⟩ : ByteArray) ++ I = X := ⟨_, rfl⟩
      obtain ⟨Y, hY⟩ : ∃ Y, X ++ S = Y := ⟨_, rfl⟩
      rw [hX, hY] at e
      have zX : X.size = 1 + I.size := by rw [← hX, ByteArray.size_append]; rfl
      have zY : Y.size = X.size + S.size := by rw [← hY, ByteArray.size_append]
      have hc1 := adds_any ⟨#[0]⟩ I X hX (by decide) (by omega)
      have hc2 := adds_any X S Y hY (by omega) (by omega)
      have hc3 := adds_any Y N T e.symm (by omega) (by omega)
      clear e hX hY
      go_upto_region 3 with (first | (go_at_call 35; refine (cM _ T0).mono ?_; rintro e w1 ⟨rfl, b1⟩))
      have B1 := B0.call b1
      obtain ⟨q0, q1, q2, q3, q4⟩ := B1.leaf
      simp only at q0 q1 q2 q3 q4
      have hin1 := B1.inside
      go_upto_region 5 with fail
      go_region_held3 (fun w' => Below w1.heap.size w1 w' ∧ w'.cell? ⟨w.heap.size, 1, none⟩ = some (.string i) ∧ w'.cell? ⟨w.heap.size, 2, none⟩ = some (.string s) ∧ w'.cell? ⟨w.heap.size, 3, none⟩ = some (.int .u64 h) ∧ w'.cell? ⟨w.heap.size, 4, none⟩ = some (.int .u64 l))
        (first
          | exact keep_first (by assumption) (by assumption) (fun hb => ⟨hb, (B1.call hb).read 1, (B1.call hb).read 2, (B1.call hb).read 3, (B1.call hb).read 4⟩)
          | exact ⟨(Below.refl _ _).drew, q1, q2, q3, q4⟩)
        (first
          | (go_at_call_of 57 (Value.string i); refine (cI _).mono ?_; rintro e v1 ⟨rfl, hv1⟩)
          | (go_at_call_of 57 (Value.string s); refine (cS _).mono ?_; rintro e v2 ⟨rfl, hv2⟩)
          | (go_at_call 58; refine (cB _).mono ?_; rintro e v3 ⟨rfl, hv3⟩)
          | fail)
      all_goals go_wp2
      all_goals go_ret
      all_goals exact ⟨rfl, chain (chain L0 b1) (And.left (by assumption))⟩
end Go.Proofs.YtjndabnegmecmaaDoor
