/-
  hmac.Block and hmac.mask, walked: a key's block, each byte of it put together with another one.
-/
import Derived.Test.YtkmnfogcocppjaaDoorU5Dig
import Derived.Test.YtkmnfogcocppjaaDoorD6Hmac
import Derived.Lib.BufferWrite
import Derived.Laws.CopyOwn
namespace Go.Proofs.YtkmnfogcocppjaaDoor
set_option linter.unusedVariables false
set_option linter.unusedSimpArgs false
set_option maxRecDepth 10000
open Go.RowKit

/-- A block of bytes as a text. -/
theorem Box.conv {w : World} {g : Nat} {t : TypeId} {l : List Int} (h : Box w g t (b8s l)) (n cap : Nat) (hn : l.length = n) : (convert 66 9 (.slice (some ⟨g, 0, none⟩) n cap)).run Tryd.prog w = .ok (.string (strOfNums l)) w :=
  run_convert_bytes_arg (P := Tryd.prog) w 66 5 Tryd.underlying66 Tryd.underlying5 g 0 n cap l hn (fun i hi => by
    rw [Nat.zero_add, h.read i]; exact b8s_at l i (by omega)) 9 Tryd.underlying9
/-- What a text's bytes are, as a row. -/
def rowOf (l : ByteArray) : List Int := nums l ++ List.replicate (64 - l.size) 0
theorem rowOf_len (l : ByteArray) (h : l.size ≤ 64) : (rowOf l).length = 64 := by unfold rowOf; rw [List.length_append, nums_len, List.length_replicate]; omega
theorem kblk_row (k : ByteArray) : kblk k = strOfNums (rowOf (keyB k)) := rfl
theorem copied (l : ByteArray) (h : l.size ≤ 64) : ((b8s n64).toList.take 0 ++ Lib.byteCells l.data.toList ++ (b8s n64).toList.drop (0 + l.size)).toArray = b8s (rowOf l) := by
  apply Array.ext'
  have e1 : (b8s n64).toList.drop l.size = u8s (List.replicate (64 - l.size) 0) := by rw [u8s_b8s]; unfold n64 u8s; rw [← List.map_drop, List.drop_replicate]
  have e2 : Lib.byteCells l.data.toList = u8s (nums l) := by simp [Lib.byteCells, u8s, nums]
  show (List.take 0 (b8s n64).toList ++ Lib.byteCells l.data.toList ++ List.drop (0 + l.size) (b8s n64).toList) = (b8s (rowOf l)).toList
  rw [Nat.zero_add, e1, e2, rowOf, u8s_b8s (nums l ++ _), u8s_app]
  rfl

set_option maxHeartbeats 2000000 in
theorem hblock_any (key : ByteArray) (hk : key.size ≤ 1000000) (w : World) (hT : Tab w) : Calls Tryd.prog 81 #[.string key] w (Tells (.string (kblk key)) w.heap.size w) := by
  have cS := fun u hu => sum_any key (by omega) u hu
  have hr := kblk_row key
  have hz := keyB_size key
  by_cases h : 64 < key.size
  · have h1 : (64 : Int) < (key.size : Int) := by omega
    have hK : keyB key = digB key.data.toList := by unfold keyB; rw [if_pos h]
    rw [hK] at hr hz
    obtain ⟨K, hKK⟩ : ∃ K, digB key.data.toList = K := ⟨_, rfl⟩
    rw [hKK] at hr hz cS
    rw [hr]
    clear hK hKK hr
    go_enter Tryd.func81, Tryd.ntmps81
    go_upto_region 3 with (first
      | (go_at_call 36; refine (cS _ hT).mono ?_; rintro e w1 ⟨rfl, b1⟩))
    have B1 := Box.made w1 112 (b8s n64)
    have L1 := chainA b1 (.cells (b8s n64) 112)
    have hg1 := b1.size
    go_upto_region 4 with fail
    change Code.wp _ _ _ _ (w1.alloc (.cells (b8s n64) 112))
    generalize w1.alloc (.cells (b8s n64) 112) = W at *
    generalize w1.heap.size = g at *
    have hcp := Lib.run_copy_row_string (P := Tryd.prog) W 66 9 3 5 g 0 64 64 K (b8s n64) 112 Tryd.underlying66 (by kernel_rfl) B1 hz (by rw [b8s_size]; simp [n64]; omega)
    rw [copied K hz] at hcp
    have hin := B1.inside
    have B2 : Box (W.setRow g (b8s (rowOf K))) g 112 (b8s (rowOf K)) := setRow_heap W g _ _ _ _ B1
    have L2 : Below w.heap.size w (W.setRow g (b8s (rowOf K))) := below_setRow L1 hg1 _
    have hcv := B2.conv 64 64 (rowOf_len K hz)
    have hin2 := B2.inside
    clear B1 L1 B2
    go_wp2
    go_ret
    exact ⟨rfl, L2⟩
  · have h1 : ¬ ((64 : Int) < (key.size : Int)) := by omega
    have hK : keyB key = key := by unfold keyB; rw [if_neg h]
    rw [hK] at hr hz
    rw [hr]
    clear hK hr
    have b1 := Below.refl w.heap.size w
    go_enter Tryd.func81, Tryd.ntmps81
    go_upto_region 3 with fail
    have B1 := Box.made w 112 (b8s n64)
    have L1 := chainA b1 (.cells (b8s n64) 112)
    have hg1 := b1.size
    go_upto_region 4 with fail
    change Code.wp _ _ _ _ (w.alloc (.cells (b8s n64) 112))
    generalize w.alloc (.cells (b8s n64) 112) = W at *
    generalize w.heap.size = g at *
    have hcp := Lib.run_copy_row_string (P := Tryd.prog) W 66 9 3 5 g 0 64 64 key (b8s n64) 112 Tryd.underlying66 (by kernel_rfl) B1 hz (by rw [b8s_size]; simp [n64]; omega)
    rw [copied key hz] at hcp
    have hin := B1.inside
    have B2 : Box (W.setRow g (b8s (rowOf key))) g 112 (b8s (rowOf key)) := setRow_heap W g _ _ _ _ B1
    have L2 : Below g w (W.setRow g (b8s (rowOf key))) := below_setRow L1 hg1 _
    have hcv := B2.conv 64 64 (rowOf_len key hz)
    have hin2 := B2.inside
    clear B1 L1 B2
    go_wp2
    go_ret
    exact ⟨rfl, L2⟩

/-- The block of a text that was made bytes. -/
theorem row_of_bytes (w : World) (e : TypeId) (s : ByteArray) : RowF (w.drew.alloc (.cells (bytesRow s (grownCap w s.size 0 e)) e ((bytesRow s (grownCap w s.size 0 e)).size, (bytesRow s (grownCap w s.size 0 e)).size + 1))) w.heap.size (nums s) := by
  intro i hi
  rw [nums_len] at hi
  have hb : (w.drew.alloc (.cells (bytesRow s (grownCap w s.size 0 e)) e ((bytesRow s (grownCap w s.size 0 e)).size, (bytesRow s (grownCap w s.size 0 e)).size + 1))).heap[w.heap.size]? =
      some (.cells (bytesRow s (grownCap w s.size 0 e)) e ((bytesRow s (grownCap w s.size 0 e)).size, (bytesRow s (grownCap w s.size 0 e)).size + 1)) := by
    show (w.heap.push _)[w.heap.size]? = _
    simp
  have hl : i < (bytesRow s (grownCap w s.size 0 e)).size := by unfold bytesRow; rw [Array.size_append, Array.size_map]; have : s.data.size = s.size := rfl; omega
  refine ⟨?_, ?_⟩
  · rw [cell_of_row _ _ _ _ _ _ hb, nums_at s i hi]
    unfold bytesRow
    rw [Array.getElem?_append_left (by rw [Array.size_map]; exact hi)]
    simp
    exact ⟨_, Array.getElem?_eq_getElem (show i < s.data.size from hi), rfl⟩
  · unfold World.frozen?
    simp only [hb]
    simp
    omega

set_option maxHeartbeats 2000000 in
theorem mask_any (key : ByteArray) (hk : key.size ≤ 1000000) (c : Int) (hc : 0 ≤ c ∧ c < 256) (w : World) (hT : Tab w) : Calls Tryd.prog 74 #[.string key, .int .u8 c] w (Tells (.string (maskB c key)) w.heap.size w) := by
  have cB := fun u hu => hblock_any key hk u hu
  have hs := kblk_size key
  have hM : maskB c key = strOfNums (maskI c (nums (kblk key))) := rfl
  generalize maskB c key = M at *
  generalize kblk key = K at *
  have hlen : (nums K).length = 64 := by rw [nums_len]; exact hs
  have hbd := nums_bd K
  have hcv := fun u => run_bytes_of_string (P := Tryd.prog) u 9 66 5 K Tryd.underlying9 Tryd.underlying66 Tryd.underlying5
  have hrow := fun u => row_of_bytes u 5 K
  simp only [hs] at hrow hcv
  go_enter Tryd.func74, Tryd.ntmps74
  go_upto_region 2 with (first
    | (go_at_call 81; refine (cB _ hT).mono ?_; rintro e w1 ⟨rfl, b1⟩))
  have R1 := hrow w1
  have L1 : Below w.heap.size w (w1.drew.alloc (.cells (bytesRow K (grownCap w1 64 0 5)) 5 ((bytesRow K (grownCap w1 64 0 5)).size, (bytesRow K (grownCap w1 64 0 5)).size + 1))) := chainA (b1.drew) _
  have hg1 := b1.size
  change Code.wp _ _ _ _ (w1.drew.alloc (.cells (bytesRow K (grownCap w1 64 0 5)) 5 ((bytesRow K (grownCap w1 64 0 5)).size, (bytesRow K (grownCap w1 64 0 5)).size + 1)))
  generalize w1.drew.alloc _ = W at *
  generalize grownCap w1 64 0 5 = cap at *
  generalize w1.heap.size = g at *
  clear hcv hrow cB b1
  rw [← mixI_zero c (nums K)] at R1
  generalize nums K = l at *
  have HM := hideIt hM
  clear hM
  go_wp2
  go_loopg [12] 64 (fun gk i wr => ∃ k : Nat, k ≤ 64 ∧ gk = 64 - k ∧ i = .int .i64 k ∧ RowF wr g (mixI c l k) ∧ Below w.heap.size w wr)
  case atStart => exact ⟨0, by omega, rfl, rfl, R1, L1⟩
  case round =>
    clear R1 L1
    obtain ⟨k, hk, hgk, rfl, R, L⟩ := hrel
    have HG := hideIt hgk
    clear hgk
    have hin := R.inside (by rw [mixI_len]; omega)
    by_cases hlt : k < 64
    · have b1 : (k : Int) < 64 := by omega
      have hk2 : k < (mixI c l k).length := by rw [mixI_len]; omega
      obtain ⟨hr, hf⟩ := R k hk2
      rw [mixI_at c l k (by omega)] at hr
      have R2 := R.set_ k hk2 (xorI (l.getD k 0) c)
      rw [mixI_step c l k (by omega)] at R2
      have hx := bits_xorI (l.getD k 0) c (getD_bd l hbd k) hc
      have L2 := L.setCell (p := ⟨g, k, none⟩) hg1 (.int .u8 (xorI (l.getD k 0) c))
      generalize l.getD k 0 = x at *
      clear hk2 R L
      go_wp2
      go_roundg (64 - (k + 1))
      case measure => have := HG.out; omega
      case rel => exact ⟨k + 1, by omega, rfl, by go_num, R2, L2⟩
    · have e : k = 64 := by omega
      subst e
      rw [mixI_all c l 64 hlen] at R
      have hcv := R.conv (P := Tryd.prog) Tryd.underlying66 Tryd.underlying5 Tryd.underlying9 64 cap (by rw [maskI_len]; exact hlen)
      rw [← HM.out] at hcv
      clear HG R
      go_wp2
      go_ret
      exact ⟨rfl, L⟩
end Go.Proofs.YtkmnfogcocppjaaDoor
