/-
  paymasterlaw07.awake, walked: the chapter's examples are answered as the chapter has them.
-/
import Derived.Test.YtkmnfogcocppjaaDoorU7Salt
import Derived.Test.YtkmnfogcocppjaaDoorU7Node
import Derived.Test.YtkmnfogcocppjaaDoorU7Read
import Derived.Test.YtkmnfogcocppjaaDoorU7Long
namespace Go.Proofs.YtkmnfogcocppjaaDoor
set_option linter.unusedVariables false
set_option linter.unusedSimpArgs false
set_option maxRecDepth 10000
open Go.RowKit

/-- The example's leaf, and a pad of no salt. -/
abbrev lfA : Lf := ⟨false, ⟨#[97]⟩, ⟨#[115]⟩, 0, 5⟩
abbrev lfP : Lf := ⟨true, ⟨#[]⟩, ⟨#[]⟩, 0, 0⟩
theorem lfA_may : lfA.may = true := by decide +kernel
theorem lfP_may : lfP.may = true := by decide +kernel
theorem lfA_text : lfA.text = ⟨#[0, 1, 97, 1, 115, 0, 0, 0, 0, 0, 0, 0, 0, 0, 0, 0, 0, 0, 0, 0, 5]⟩ := by decide +kernel
theorem lfP_text : lfP.text = ⟨#[2, 0]⟩ := by decide +kernel
theorem five_word : Word 5 := ⟨by decide, by decide⟩
theorem rd_pad : rd ⟨#[2, 0]⟩ = some lfP := by
  have h := rd_text lfP lfP_may word_zero word_zero
  rw [lfP_text] at h
  exact h
theorem aw_read (w : World) (hT : TabU w) : Calls Tryd.prog 11 #[.string ⟨#[2, 0]⟩] w (Tells (.tuple #[.agg #[.bool true, .string ⟨#[]⟩, .string ⟨#[]⟩, .int .u64 0, .int .u64 0], .bool true]) w.heap.size w) := by
  have h := read_any ⟨#[2, 0]⟩ (by decide) w hT
  unfold rdV rdL at h
  rw [rd_pad] at h
  exact h
theorem aw_node (w : World) (hK : Tab w) (hT : TabU w) : ∃ D : ByteArray, D.size = 2 ∧ ∀ u, Tab u → TabU u → Calls Tryd.prog 25 #[.int .i64 2, .agg #[.bool false, .string ⟨#[97]⟩, .string ⟨#[115]⟩, .int .u64 0, .int .u64 5]] u (Tells (.agg #[.string D, .int .u64 0, .int .u64 5]) u.heap.size u) := by
  refine ⟨dgB 2 lfA.text, ?_, fun u hu hv => ?_⟩
  · unfold dgB
    rw [if_pos (by decide), ByteArray.size_extract, digB_size]
    rfl
  · have h := leafNode_any 2 lfA (by decide) (by decide) word_zero five_word u hu hv
    have e : nodeOf 2 lfA = ⟨dgB 2 lfA.text, 0, 5⟩ := if_pos ⟨by decide, lfA_may⟩
    rw [e] at h
    exact h
theorem aw_textP (w : World) (hT : TabU w) : Calls Tryd.prog 19 #[.agg #[.bool true, .string ⟨#[]⟩, .string ⟨#[]⟩, .int .u64 0, .int .u64 0]] w (Tells (.string ⟨#[2, 0]⟩) w.heap.size w) := by
  have h := leafText_any lfP (by decide) (by decide) word_zero word_zero w hT
  rw [lfP_text] at h
  exact h
theorem aw_textA (w : World) (hT : TabU w) : Calls Tryd.prog 19 #[.agg #[.bool false, .string ⟨#[97]⟩, .string ⟨#[115]⟩, .int .u64 0, .int .u64 5]] w (Tells (.string ⟨#[0, 1, 97, 1, 115, 0, 0, 0, 0, 0, 0, 0, 0, 0, 0, 0, 0, 0, 0, 0, 5]⟩) w.heap.size w) := by
  have h := leafText_any lfA (by decide) (by decide) word_zero five_word w hT
  rw [lfA_text] at h
  exact h
theorem aw_id (l : Array UInt8) (b : Bool) (hl : l.size ≤ 100) (h : isId l.toList = b) (w : World) (hT : TabU w) : Calls Tryd.prog 13 #[.string ⟨l⟩] w (Tells (.bool b) w.heap.size w) := by
  have c := mayId_any ⟨l⟩ (show l.size ≤ _ by omega) w hT
  rw [show (⟨l⟩ : ByteArray).data.toList = l.toList from rfl, h] at c
  exact c
theorem aw_first (w : World) (hK : Tab w) : Calls Tryd.prog 33 #[.string ⟨#[107]⟩, .string ⟨#[97]⟩, .int .i64 0] w (Tells (.int .u64 0) w.heap.size w) := by
  have h := first7_any ⟨#[107]⟩ ⟨#[97]⟩ 0 (by decide) (by decide) w hK
  have e : firstN ⟨#[107]⟩ ⟨#[97]⟩ 0 = 0 := by
    unfold firstN
    rw [if_pos (by decide)]
    exact Int.emod_one _
  rw [e] at h
  exact h
theorem id_1 : isId [97, 32, 98] = false := by decide +kernel
theorem id_2 : isId [] = false := by decide +kernel
theorem id_3 : isId [97, 97, 97, 97, 97, 97, 97, 97, 97, 97, 97, 97, 97, 97, 97, 97, 97, 97, 97, 97, 97, 97, 97, 97, 97] = false := by decide +kernel
theorem id_4 : isId [97, 97, 97, 97, 97, 97, 97, 97, 97, 97, 97, 97, 97, 97, 97, 97, 97, 97, 97, 97, 97, 97, 97, 97] = true := by decide +kernel
theorem id_5 : isId [195, 164, 45, 49] = true := by decide +kernel
set_option maxRecDepth 100000 in
set_option maxHeartbeats 8000000 in
theorem awake7_any (w : World) (hK : Tab w) (hT : TabU w) : Calls Tryd.prog 35 #[] w (Tells (.bool true) w.heap.size w) := by
  have c1 := fun u hu => aw_read u hu
  obtain ⟨D, hD, c2⟩ := aw_node w hK hT
  have c3 := fun u hu => aw_textP u hu
  have c4 := fun u hu => aw_textA u hu
  have c5 := fun u hu => aw_id #[97, 32, 98] false (by decide) id_1 u hu
  have c6 := fun u hu => aw_id #[] false (by decide) id_2 u hu
  have c7 := fun u hu => aw_id #[97, 97, 97, 97, 97, 97, 97, 97, 97, 97, 97, 97, 97, 97, 97, 97, 97, 97, 97, 97, 97, 97, 97, 97, 97] false (by decide) id_3 u hu
  have c8 := fun u hu => aw_id #[97, 97, 97, 97, 97, 97, 97, 97, 97, 97, 97, 97, 97, 97, 97, 97, 97, 97, 97, 97, 97, 97, 97, 97] true (by decide) id_4 u hu
  have c9 := fun u hu => aw_id #[195, 164, 45, 49] true (by decide) id_5 u hu
  have c10 := fun u hu => aw_first u hu
  have hDi : ((D.size : Int) == 2) = true := by rw [hD]; rfl
  have B0 : Box (w.alloc (.cells (lfB false ⟨#[97]⟩ ⟨#[115]⟩ 0 5) 26)) w.heap.size 26 (lfB false ⟨#[97]⟩ ⟨#[115]⟩ 0 5) := Box.made w _ _
  have L0 : Below w.heap.size w (w.alloc (.cells (lfB false ⟨#[97]⟩ ⟨#[115]⟩ 0 5) 26)) := by repeat (first | exact Below.refl _ _ | apply Below.drew | apply below_drewN | refine Below.alloc ?_ (by simp; try omega) _ | refine Below.setCell ?_ (by simp; try omega) _)
  have H0 := Has.one B0 L0
  go_enter Tryd.func35, Tryd.ntmps35
  go_upto_region 2 with fail
  change Code.wp _ _ _ _ (w.alloc (.cells (lfB false ⟨#[97]⟩ ⟨#[115]⟩ 0 5) 26))
  generalize w.alloc (.cells (lfB false ⟨#[97]⟩ ⟨#[115]⟩ 0 5) 26) = W at *
  go_upto_region 3 with (first
    | (go_at_call 11; refine (c1 _ (hT.call L0)).mono ?_; rintro e w1 ⟨rfl, j1⟩)
    | fail)
  have H1 := (H0.call j1).add 26 (lfB true ⟨#[]⟩ ⟨#[]⟩ 0 0)
  change Code.wp _ _ _ _ (w1.alloc (.cells (lfB true ⟨#[]⟩ ⟨#[]⟩ 0 0) 26))
  generalize w1.heap.size = ga at *
  generalize w1.alloc (.cells (lfB true ⟨#[]⟩ ⟨#[]⟩ 0 0) 26) = W1 at *
  obtain ⟨⟨y0, y1, y2, y3, y4⟩, -, hin1⟩ := (H1.box 1).five0
  go_upto_region 4 with (first
    | (go_at_call 25; refine (c2 _ (hK.call H1.below) (hT.call H1.below)).mono ?_; rintro e w2 ⟨rfl, j2⟩)
    | fail)
  have H2 := (H1.call j2).add 35 #[.string D, .int .u64 0, .int .u64 5]
  change Code.wp _ _ _ _ (w2.alloc (.cells #[.string D, .int .u64 0, .int .u64 5] 35))
  generalize w2.heap.size = gb at *
  generalize w2.alloc (.cells #[.string D, .int .u64 0, .int .u64 5] 35) = W2 at *
  clear y0 y1 y2 y3 y4 hin1 H1 H0 j1 j2 B0 L0 c1 c2
  have fact : ∀ u, Below w.heap.size w u ∧ (Box u w.heap.size 26 (lfB false ⟨#[97]⟩ ⟨#[115]⟩ 0 5) ∧ Box u ga 26 (lfB true ⟨#[]⟩ ⟨#[]⟩ 0 0) ∧ Box u gb 35 #[.string D, .int .u64 0, .int .u64 5]) → ∀ v, Below u.heap.size u v →
      Below w.heap.size w v ∧ (Box v w.heap.size 26 (lfB false ⟨#[97]⟩ ⟨#[115]⟩ 0 5) ∧ Box v ga 26 (lfB true ⟨#[]⟩ ⟨#[]⟩ 0 0) ∧ Box v gb 35 #[.string D, .int .u64 0, .int .u64 5]) :=
    fun u h v hb => ⟨chain h.1 hb, h.2.1.call hb, h.2.2.1.call hb, h.2.2.2.call hb⟩
  have M2 : Below w.heap.size w W2 ∧ (Box W2 w.heap.size 26 (lfB false ⟨#[97]⟩ ⟨#[115]⟩ 0 5) ∧ Box W2 ga 26 (lfB true ⟨#[]⟩ ⟨#[]⟩ 0 0) ∧ Box W2 gb 35 #[.string D, .int .u64 0, .int .u64 5]) := ⟨H2.below, H2.box 2, H2.box 1, H2.box 0⟩
  clear H2
  have ex : ∀ u, (binOp .eql 26 (.agg #[.bool true, .string ⟨#[]⟩, .string ⟨#[]⟩, .int .u64 0, .int .u64 0]) (.agg #[.bool true, .string ⟨#[]⟩, .string ⟨#[]⟩, .int .u64 0, .int .u64 0])).run Tryd.prog u = .ok (.bool true) u := fun u => eql_lf_same lfP u
  have eq : ∀ u, (binOp .eql 24 (.agg #[.int .u64 0, .int .u64 5]) (.agg #[.int .u64 0, .int .u64 5])).run Tryd.prog u = .ok (.bool true) u := fun u => by rw [run_eql_n7]; rfl
  go_wp2_with (first
    | (go_at_call 19; (with_reducible refine (c3 _ (hT.call M2.1)).mono ?_); rintro e w3 ⟨rfl, j3⟩
       have M3 := fact _ M2 _ j3
       obtain ⟨⟨y0, y1, y2, y3, y4⟩, -, hin1⟩ := M3.2.1.five0)
    | (go_at_call 19; (with_reducible refine (c4 _ (hT.call M3.1)).mono ?_); rintro e w4 ⟨rfl, j4⟩
       have M4 := fact _ M3 _ j4
       clear y0 y1 y2 y3 y4 hin1)
    | (go_at_call 13; (with_reducible refine (c5 _ (hT.call M4.1)).mono ?_); rintro e w5 ⟨rfl, j5⟩
       have M5 := fact _ M4 _ j5)
    | (go_at_call 13; (with_reducible refine (c7 _ (hT.call M6.1)).mono ?_); rintro e w7 ⟨rfl, j7⟩
       have M7 := fact _ M6 _ j7)
    | (go_at_call 13; (with_reducible refine (c8 _ (hT.call M7.1)).mono ?_); rintro e w8 ⟨rfl, j8⟩
       have M8 := fact _ M7 _ j8)
    | (go_at_call 13; (with_reducible refine (c9 _ (hT.call M8.1)).mono ?_); rintro e w9 ⟨rfl, j9⟩
       have M9 := fact _ M8 _ j9
       obtain ⟨⟨y0, y1, y2, y3, y4⟩, -, hin1⟩ := M9.2.1.five0
       obtain ⟨⟨z0, z1, z2, z3, z4⟩, -, hin2⟩ := M9.2.2.1.five0
       obtain ⟨⟨n0, n1, n2⟩, -, -, -, hin3⟩ := M9.2.2.2.three0)
    | (go_at_call 33; (with_reducible refine (c10 _ (hK.call M9.1)).mono ?_); rintro e w10 ⟨rfl, j10⟩
       have M10 := fact _ M9 _ j10)
    | (go_at_call_of 13 (Value.string ⟨#[]⟩); refine (c6 _ (hT.call M5.1)).mono ?_; rintro e w6 ⟨rfl, j6⟩
       have M6 := fact _ M5 _ j6))
  go_ret
  exact ⟨rfl, M10.1⟩
end Go.Proofs.YtkmnfogcocppjaaDoor
