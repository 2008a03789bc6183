/-
  hmac.Sum, First, Number, Is, walked.
-/
import Derived.Test.YtkmnfogcocppjaaDoorU6Block
namespace Go.Proofs.YtkmnfogcocppjaaDoor
set_option linter.unusedVariables false
set_option linter.unusedSimpArgs false
set_option maxRecDepth 10000
open Go.RowKit

set_option maxHeartbeats 2000000 in
theorem hsum_any (key text : ByteArray) (hk : key.size ≤ 1000000) (ht : text.size ≤ 1000000) (w : World) (hT : Tab w) : Calls Tryd.prog 57 #[.string key, .string text] w (Tells (.string (macB key text.data.toList)) w.heap.size w) := by
  have cO := fun u hu => mask_any key hk 92 (by decide) u hu
  have cI := fun u hu => mask_any key hk 54 (by decide) u hu
  have zO := maskB_size 92 key
  have zI := maskB_size 54 key
  have zD := innB_size key text.data.toList
  have eI := innB_text key text
  have eO : macB key text.data.toList = digB (maskB 92 key ++ innB key text.data.toList).data.toList := rfl
  generalize macB key text.data.toList = R at *
  generalize innB key text.data.toList = D at *
  generalize maskB 92 key = O at *
  generalize maskB 54 key = I at *
  obtain ⟨X, hX⟩ : ∃ X, I ++ text = X := ⟨_, rfl⟩
  obtain ⟨Y, hY⟩ : ∃ Y, O ++ D = Y := ⟨_, rfl⟩
  have sX : X.size = 64 + text.size := by rw [← hX, ByteArray.size_append, zI]
  have sY : Y.size = 96 := by rw [← hY, ByteArray.size_append, zO, zD]
  have hcX : ∀ u : World, (Op.stringOp .add I text).run Tryd.prog u = .ok (.string X) u := fun u => by rw [← hX]; exact run_string_add_sum u _ _ (by omega)
  have hcY : ∀ u : World, (Op.stringOp .add O D).run Tryd.prog u = .ok (.string Y) u := fun u => by rw [← hY]; exact run_string_add_sum u _ _ (by omega)
  have cX := fun u hu => sum_any X (by omega) u hu
  have cY := fun u hu => sum_any Y (by omega) u hu
  rw [hX] at eI
  rw [hY] at eO
  rw [← eI] at cX
  rw [← eO] at cY
  clear eI eO hX hY zO zI sX sY
  go_enter Tryd.func57, Tryd.ntmps57
  go_wp2_with (first
    | (go_at_call_of 74 (Value.int .u8 92); refine (cO _ hT).mono ?_; rintro e w1 ⟨rfl, b1⟩; have t1 := hT.call b1)
    | (go_at_call_of 74 (Value.int .u8 54); refine (cI _ t1).mono ?_; rintro e w2 ⟨rfl, b2⟩; have t2 := t1.call b2)
    | (go_at_call_of 36 (Value.string X); refine (cX _ t2).mono ?_; rintro e w3 ⟨rfl, b3⟩; have t3 := t2.call b3)
    | (go_at_call_of 36 (Value.string Y); refine (cY _ t3).mono ?_; rintro e w4 ⟨rfl, b4⟩))
  go_ret
  exact ⟨rfl, chain (chain (chain b1 b2) b3) b4⟩

/-- How many of a mac's bytes are told. -/
def cutN (n : Int) : Nat := min n.toNat 32
/-- A mac's first bytes. -/
def firB (R : ByteArray) (n : Int) : ByteArray := R.extract 0 (cutN n)
set_option maxHeartbeats 2000000 in
theorem hfirst_any (key text : ByteArray) (hk : key.size ≤ 1000000) (ht : text.size ≤ 1000000) (n : Int) (hn : -9223372036854775808 ≤ n ∧ n ≤ 9223372036854775807) (w : World) (hT : Tab w) :
    Calls Tryd.prog 37 #[.string key, .string text, .int .i64 n] w (Tells (.string (firB (macB key text.data.toList) n)) w.heap.size w) := by
  have cS := fun u hu => hsum_any key text hk ht u hu
  have zR := macB_size key text.data.toList
  generalize macB key text.data.toList = R at *
  obtain ⟨F, hF⟩ : ∃ F, cutN n = F := ⟨_, rfl⟩
  obtain ⟨A, hA⟩ : ∃ A : Nat, n.toNat = A := ⟨_, rfl⟩
  have hmx : max n 0 = (A : Int) := by omega
  have hmx2 : max 0 n = (A : Int) := by omega
  have hmn : min (A : Int) 32 = (F : Int) := by unfold cutN at hF; omega
  have hF1 : (F : Int) ≤ 32 := by omega
  have hrx : firB R n = R.extract 0 F := by unfold firB; rw [hF]
  rw [hrx]
  clear hrx hF hA
  go_enter Tryd.func37, Tryd.ntmps37
  go_wp2_with (first
    | (go_at_call 57; refine (cS _ hT).mono ?_; rintro e w1 ⟨rfl, b1⟩))
  go_ret
  exact ⟨rfl, b1⟩

theorem or_byte6 (n b : Int) (hn : 0 ≤ n ∧ n < 72057594037927936) (hb : 0 ≤ b ∧ b < 256) : bits .or .u64 (n * 256) b = n * 256 + b := by
  obtain ⟨m, rfl⟩ := Int.eq_ofNat_of_zero_le hn.1
  obtain ⟨c, rfl⟩ := Int.eq_ofNat_of_zero_le hb.1
  have e := Nat.shiftLeft_add_eq_or_of_lt (i := 8) (b := c) (by omega) m
  rw [Nat.shiftLeft_eq] at e
  have h := u64_or_nat (m * 256) c (by omega) (by omega)
  rw [← e] at h
  have e2 : ((m : Int) * 256) = ((m * 256 : Nat) : Int) := by omega
  rw [e2, h]
  omega
theorem numB_step (l : List Int) (hl : ∀ x ∈ l, 0 ≤ x ∧ x < 256) (k : Nat) (hk : k < l.length) : numB (l.take (k + 1)) = numB (l.take k) * 256 + l.getD k 0 := by
  rw [List.take_add_one, List.getElem?_eq_getElem hk, List.getD_eq_getElem?_getD, List.getElem?_eq_getElem hk]
  exact numB_snoc _ _
theorem numB_bd8 (l : List Int) (hl : ∀ x ∈ l, 0 ≤ x ∧ x < 256) (k : Nat) (hk : k < 8) : 0 ≤ numB (l.take k) ∧ numB (l.take k) < 72057594037927936 := by
  have h := numB_bd (l.take k) (fun x hx => hl x (List.mem_of_mem_take hx))
  refine ⟨h.1, Int.lt_of_lt_of_le h.2 ?_⟩
  have hle : (l.take k).length ≤ 7 := by rw [List.length_take]; omega
  have aux : ∀ n : Nat, n ≤ 7 → (256 : Int) ^ n ≤ 72057594037927936 := by
    intro n hn
    rcases (by omega : n = 0 ∨ n = 1 ∨ n = 2 ∨ n = 3 ∨ n = 4 ∨ n = 5 ∨ n = 6 ∨ n = 7) with rfl | rfl | rfl | rfl | rfl | rfl | rfl | rfl <;> decide
  exact aux _ hle

set_option maxHeartbeats 2000000 in
theorem hnumber_any (key text : ByteArray) (hk : key.size ≤ 1000000) (ht : text.size ≤ 1000000) (w : World) (hT : Tab w) :
    Calls Tryd.prog 38 #[.string key, .string text] w (Tells (.int .u64 (macN key text.data.toList)) w.heap.size w) := by
  have cF := fun u hu => hfirst_any key text hk ht 8 (by decide) u hu
  have zR := macB_size key text.data.toList
  have hN : macN key text.data.toList = numB ((nums (macB key text.data.toList)).take 8) := rfl
  generalize macB key text.data.toList = R at *
  obtain ⟨T, hTT⟩ : ∃ T, firB R 8 = T := ⟨_, rfl⟩
  have hx : T = R.extract 0 8 := by rw [← hTT]; rfl
  have zT : T.size = 8 := by rw [hx, ByteArray.size_extract]; omega
  have hl : (nums R).take 8 = nums T := by
    rw [hx]; unfold nums
    rw [ByteArray.data_extract, Array.toList_extract, List.extract_eq_take_drop, ← List.map_take]; rfl
  rw [hl] at hN
  rw [hTT] at cF
  have hbd := nums_bd T
  have hlen : (nums T).length = 8 := by rw [nums_len]; exact zT
  have hix : ∀ k, (h : k < T.size) → (T[k].toNat : Int) = (nums T).getD k 0 := fun k h => (nums_at T k h).symm
  rw [hN]
  clear hx hl hTT hN zR
  generalize nums T = l at *
  have HB := hideIt hbd
  have HL := hideIt hlen
  clear hbd hlen
  go_enter Tryd.func38, Tryd.ntmps38
  go_upto_region 4 with (first
    | (go_at_call 37; refine (cF _ hT).mono ?_; rintro e w1 ⟨rfl, b1⟩))
  go_loopg [6, 13] 8 (fun gk v i wr => ∃ k : Nat, k ≤ 8 ∧ gk = 8 - k ∧ i = .int .i64 k ∧ v = .int .u64 (numB (l.take k)) ∧ wr = w1)
  case atStart => exact ⟨0, by omega, rfl, rfl, rfl, rfl⟩
  case round =>
    obtain ⟨k, hk, hgk, rfl, rfl, rfl⟩ := hrel
    have HG := hideIt hgk
    clear hgk
    by_cases hlt : k < 8
    · have b2 : (k : Int) < 8 := by omega
      have hs := numB_step l HB.out k (by have := HL.out; omega)
      have hn := numB_bd8 l HB.out k hlt
      have hb := getD_bd l HB.out k
      have hi := hix k (by omega)
      have ho := or_byte6 (numB (l.take k)) (l.getD k 0) hn hb
      rw [← hs] at ho
      obtain ⟨N2, hN2⟩ : ∃ N2, numB (l.take (k + 1)) = N2 := ⟨_, rfl⟩
      rw [hN2] at hs ho
      have HN2 := hideIt hN2
      clear hN2
      generalize numB (l.take k) = N1 at *
      generalize l.getD k 0 = x at *
      have hw : IntKind.u64.wrap (N1 * 256) = N1 * 256 := by rw [IntKind.wrap_u64]; omega
      have hwx : IntKind.u64.wrap x = x := by rw [IntKind.wrap_u64]; omega
      clear hix hs
      go_wp2
      go_roundg (8 - (k + 1))
      case measure => have := HG.out; omega
      case rel => exact ⟨k + 1, by omega, rfl, by go_num, by rw [HN2.out], rfl⟩
    · have e : k = 8 := by omega
      subst e
      rw [List.take_of_length_le (by have := HL.out; omega)]
      clear HG
      go_wp2
      go_ret
      exact ⟨rfl, b1⟩
end Go.Proofs.YtkmnfogcocppjaaDoor
