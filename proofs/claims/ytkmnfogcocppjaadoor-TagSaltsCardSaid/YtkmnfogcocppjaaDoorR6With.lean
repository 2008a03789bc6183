/-
  The document's putting together, bit by bit, walked; its Sum, First, Number.
-/
import Derived.Test.YtkmnfogcocppjaaDoorR6Block
import Derived.Test.YtkmnfogcocppjaaDoorU6Sum
import Derived.Deep.QuietTactic
namespace Go.Proofs.YtkmnfogcocppjaaDoor
set_option linter.unusedVariables false
set_option linter.unusedSimpArgs false
set_option maxRecDepth 10000
open Go.RowKit

/-- The first k bits of two bytes put together. -/
def partI (x c : Int) (k : Nat) : Int := (((x.toNat ^^^ c.toNat) % 2 ^ k : Nat) : Int)
/-- The bit at place k; behind the last one it is nought. -/
def bitP (k : Nat) : Int := if k < 8 then 2 ^ k else 0
theorem partI_zero (x c : Int) : partI x c 0 = 0 := by simp [partI, Nat.mod_one]
theorem partI_all (x c : Int) (hx : 0 ≤ x ∧ x < 256) (hc : 0 ≤ c ∧ c < 256) : partI x c 8 = xorI x c := by
  unfold partI xorI
  have := Nat.xor_lt_two_pow (n := 8) (x := x.toNat) (y := c.toNat) (by omega) (by omega)
  rw [Nat.mod_eq_of_lt this]
theorem xor_bit (a c k : Nat) : (a ^^^ c) / 2 ^ k % 2 = (a / 2 ^ k % 2 + c / 2 ^ k % 2) % 2 := by
  have h := Nat.testBit_xor a c k
  rw [Nat.testBit_eq_decide_div_mod_eq, Nat.testBit_eq_decide_div_mod_eq, Nat.testBit_eq_decide_div_mod_eq] at h
  have h1 := Nat.mod_two_eq_zero_or_one (a / 2 ^ k)
  have h2 := Nat.mod_two_eq_zero_or_one (c / 2 ^ k)
  have h3 := Nat.mod_two_eq_zero_or_one ((a ^^^ c) / 2 ^ k)
  rcases h1 with h1 | h1 <;> rcases h2 with h2 | h2 <;> rcases h3 with h3 | h3 <;> rw [h1, h2, h3] at h <;> simp at h <;> omega
theorem partI_step (x c : Int) (hx : 0 ≤ x) (hc : 0 ≤ c) (k : Nat) : partI x c (k + 1) = partI x c k + (if x / 2 ^ k % 2 = c / 2 ^ k % 2 then 0 else 2 ^ k) := by
  obtain ⟨a, rfl⟩ := Int.eq_ofNat_of_zero_le hx
  obtain ⟨b, rfl⟩ := Int.eq_ofNat_of_zero_le hc
  unfold partI
  rw [Nat.mod_pow_succ, Int.toNat_natCast, Int.toNat_natCast, xor_bit]
  have e1 : ((a : Int) / 2 ^ k % 2) = ((a / 2 ^ k % 2 : Nat) : Int) := by simp
  have e2 : ((b : Int) / 2 ^ k % 2) = ((b / 2 ^ k % 2 : Nat) : Int) := by simp
  rw [e1, e2]
  have h1 := Nat.mod_two_eq_zero_or_one (a / 2 ^ k)
  have h2 := Nat.mod_two_eq_zero_or_one (b / 2 ^ k)
  rcases h1 with h1 | h1 <;> rcases h2 with h2 | h2 <;> rw [h1, h2] <;> simp
theorem partI_bd (x c : Int) (k : Nat) (hk : k ≤ 8) : 0 ≤ partI x c k ∧ partI x c k < 256 := by
  unfold partI
  have h := Nat.mod_lt (x.toNat ^^^ c.toNat) (show 0 < 2 ^ k from Nat.two_pow_pos k)
  have h2 : 2 ^ k ≤ 2 ^ 8 := Nat.pow_le_pow_right (by decide) hk
  omega
theorem bitP_at (k : Nat) (hk : k < 8) : 0 < (2 : Int) ^ k ∧ (2 : Int) ^ k < 256 ∧ bitP k = 2 ^ k ∧ IntKind.u8.wrap ((2 : Int) ^ k * 2) = bitP (k + 1) := by
  rcases (by omega : k = 0 ∨ k = 1 ∨ k = 2 ∨ k = 3 ∨ k = 4 ∨ k = 5 ∨ k = 6 ∨ k = 7) with rfl | rfl | rfl | rfl | rfl | rfl | rfl | rfl <;> decide

set_option maxRecDepth 100000 in
set_option maxHeartbeats 1000000 in
theorem rwith_any (s : ByteArray) (hs : s.size = 64) (c : Int) (hc : 0 ≤ c ∧ c < 256) (w : World) : Calls Tryd.prog 77 #[.string s, .int .u8 c] w (Tells (.string (maskS c s)) w.heap.size w) := by
  obtain ⟨i0, hi, hzi0, hzi1, hzi2⟩ := info_parts info_u8
  have hM : maskS c s = strOfNums (maskI c (nums s)) := rfl
  have hbd := nums_bd s
  have hlen : (nums s).length = 64 := by rw [nums_len]; exact hs
  have hix : ∀ k, (h : k < s.size) → (s[k].toNat : Int) = (nums s).getD k 0 := fun k h => (nums_at s k h).symm
  obtain ⟨M, hMM⟩ : ∃ M, maskS c s = M := ⟨_, rfl⟩
  rw [hMM] at hM ⊢
  clear hMM
  generalize nums s = l at *
  have HM := hideIt hM
  have HB := hideIt hbd
  have HL := hideIt hlen
  have HC := hideIt hc
  clear hM hbd hlen hc
  go_enter Tryd.func77, Tryd.ntmps77
  go_upto_region 3 with fail
  go_loopg [5, 6] 64 (fun gk v i wr => ∃ n : Nat, n ≤ 64 ∧ gk = 64 - n ∧ i = .int .i64 n ∧ wr.ownsRow w.heap.size 5 1 v n (u8s ((maskI c l).take n)) ∧ Below w.heap.size w wr)
  case atStart => exact ⟨0, by omega, rfl, rfl, World.ownsRow_nil _ _ _ _, Below.refl _ _⟩
  case round =>
    obtain ⟨n, hn, hgk, rfl, hown, L⟩ := hrel
    have HG := hideIt hgk
    clear hgk
    by_cases hlt : n < 64
    · have l1 : (n : Int) < 64 := by omega
      have hx := hix n (by omega)
      have hxb := getD_bd l HB.out n
      have hst : (maskI c l).take (n + 1) = (maskI c l).take n ++ [xorI (l.getD n 0) c] := by
        rw [List.take_add_one, List.getElem?_eq_getElem (by rw [maskI_len, HL.out]; exact hlt)]
        simp [maskI, List.getD_eq_getElem?_getD, HL.out, hlt]
      have hp8 := partI_all (l.getD n 0) c hxb HC.out
      have HST := hideIt hst
      have HX := hideIt hxb
      have HP8 := hideIt hp8
      clear hst hp8 hxb hix
      go_upto_region 8 with fail
      generalize l.getD n 0 = x at *
      go_loopg [7, 8, 9] 8 (fun gk2 u b i wr2 => ∃ k : Nat, k ≤ 8 ∧ gk2 = 8 - k ∧ i = .int .i64 k ∧ u = .int .u8 (partI x c k) ∧ b = .int .u8 (bitP k) ∧ wr2.ownsRow w.heap.size 5 1 u5 n (u8s ((maskI c l).take n)) ∧ Below w.heap.size w wr2)
      case atStart => exact ⟨0, by omega, rfl, rfl, by rw [partI_zero], rfl, hown, L⟩
      case round =>
        obtain ⟨k, hk, hgk, rfl, rfl, rfl, hown, L⟩ := hrel
        have HG2 := hideIt hgk
        clear hgk
        by_cases hlt2 : k < 8
        · have l2 : (k : Int) < 8 := by omega
          obtain ⟨p0, p1, p2, p3⟩ := bitP_at k hlt2
          have hs1 := partI_step x c HX.out.1 HC.out.1 k
          have hpb := partI_bd x c k (by omega)
          have hpb2 := partI_bd x c (k + 1) (by omega)
          rw [p2]
          generalize (2 : Int) ^ k = b at *
          obtain ⟨b2, hb2⟩ : ∃ b2, bitP (k + 1) = b2 := ⟨_, rfl⟩
          rw [hb2] at p3
          have HB2 := hideIt hb2
          clear hb2
          obtain ⟨N2, hN2⟩ : ∃ N, partI x c (k + 1) = N := ⟨_, rfl⟩
          rw [hN2] at hs1 hpb2
          have HN2 := hideIt hN2
          clear hN2 p2
          generalize partI x c k = N1 at *
          have hxx := HX.out
          have hcc := HC.out
          obtain ⟨q1, h1⟩ : ∃ q, x / b = q := ⟨_, rfl⟩
          obtain ⟨q2, h2⟩ : ∃ q, c / b = q := ⟨_, rfl⟩
          obtain ⟨r1, h3⟩ : ∃ q, q1 % 2 = q := ⟨_, rfl⟩
          obtain ⟨r2, h4⟩ : ∃ q, q2 % 2 = q := ⟨_, rfl⟩
          rw [h1, h2, h3, h4] at hs1
          have q1b : 0 ≤ q1 ∧ q1 < 256 := by rw [← h1]; exact ⟨Int.ediv_nonneg hxx.1 (by omega), Int.lt_of_le_of_lt (Int.ediv_le_self _ hxx.1) hxx.2⟩
          have q2b : 0 ≤ q2 ∧ q2 < 256 := by rw [← h2]; exact ⟨Int.ediv_nonneg hcc.1 (by omega), Int.lt_of_le_of_lt (Int.ediv_le_self _ hcc.1) hcc.2⟩
          have a1 : x.tdiv b = q1 := by rw [Int.tdiv_eq_ediv_of_nonneg hxx.1]; exact h1
          have a2 : c.tdiv b = q2 := by rw [Int.tdiv_eq_ediv_of_nonneg hcc.1]; exact h2
          have a3 : q1.tmod 2 = r1 := by rw [Int.tmod_eq_emod_of_nonneg q1b.1]; exact h3
          have a4 : q2.tmod 2 = r2 := by rw [Int.tmod_eq_emod_of_nonneg q2b.1]; exact h4
          have v1 : IntKind.u8.wrap q1 = q1 := by rw [IntKind.wrap_u8']; omega
          have v2 : IntKind.u8.wrap q2 = q2 := by rw [IntKind.wrap_u8']; omega
          have v3 : IntKind.u8.wrap r1 = r1 := by rw [IntKind.wrap_u8']; omega
          have v4 : IntKind.u8.wrap r2 = r2 := by rw [IntKind.wrap_u8']; omega
          have nb : ¬ b = 0 := by omega
          by_cases hrr : r1 = r2
          · rw [if_pos hrr] at hs1
            have hs2 : N2 = N1 := by omega
            subst hrr
            clear hs1 hpb hpb2 hxx hcc h1 h2 h3 h4 q1b q2b p0 p1
            go_upto_region 10 with fail
            go_quiet (fail)
            have hown3 := own_draws hown nq
            have L3 := below_drewN L nq
            generalize World.drewN _ _ = W3 at *
            go_wp2
            go_roundg (8 - (k + 1))
            case measure => have := HG2.out; omega
            case rel => exact ⟨k + 1, by omega, rfl, by go_num, by rw [HN2.out, hs2], by rw [HB2.out], hown3, L3⟩
          · rw [if_neg hrr] at hs1
            have w1 : IntKind.u8.wrap (N1 + b) = N2 := by rw [IntKind.wrap_u8']; omega
            clear hs1 hpb hpb2 hxx hcc h1 h2 h3 h4 q1b q2b p0 p1
            go_upto_region 10 with fail
            go_quiet (fail)
            have hown3 := own_draws hown nq
            have L3 := below_drewN L nq
            generalize World.drewN _ _ = W3 at *
            go_wp2
            go_roundg (8 - (k + 1))
            case measure => have := HG2.out; omega
            case rel => exact ⟨k + 1, by omega, rfl, by go_num, by rw [HN2.out], by rw [HB2.out], hown3, L3⟩
        · have e : k = 8 := by omega
          subst e
          rw [HP8.out]
          have hlx := HST.out
          have hyb := xorI_bd x c HX.out HC.out
          generalize xorI x c = y at *
          have hBw := L.size
          clear hlx
          go_wp2_with (first
            | (at_builtin; refine wp_append_new rfl _ _ 66 rfl w.heap.size 5 i0 (.int .u8 0) 1 Tryd.underlying66 hi hzi0 hzi1 hzi2 rfl _ _ _ rfl hown (b8s [y]) rfl (by rw [u8s_b8s]; exact u8s_one _) (by show (n + 1) * 8 ≤ _; omega) (by omega) hBw ?_))
          intro v2 w3 hown2 hb2 hk2
          have L3 := L.trans (hb2 _ (Nat.le_refl _))
          rw [u8s_b8s, ← u8s_app, ← HST.out] at hown2
          clear hk2 hb2 hown hyb
          go_wp2
          go_roundg (64 - (n + 1))
          case measure => have := HG.out; omega
          case rel => exact ⟨n + 1, by omega, rfl, by go_num, hown2, L3⟩
    · have e : n = 64 := by omega
      subst e
      rw [List.take_of_length_le (by rw [maskI_len, HL.out]; exact Nat.le_refl _)] at hown
      have hcv := conv_row hown (by omega)
      rw [← HM.out] at hcv
      clear HG hown
      go_wp2
      go_ret
      exact ⟨rfl, L⟩

set_option maxHeartbeats 2000000 in
theorem rhsum_any (key text : ByteArray) (hk : key.size ≤ 1000000) (ht : text.size ≤ 1000000) (w : World) : Calls Tryd.prog 68 #[.string key, .string text] w (Tells (.string (macB key text.data.toList)) w.heap.size w) := by
  have cB := fun u => rblock_any key hk u
  have cO := fun u => rwith_any (kblk key) (kblk_size key) 92 (by decide) u
  have cI := fun u => rwith_any (kblk key) (kblk_size key) 54 (by decide) u
  rw [show maskS 92 (kblk key) = maskB 92 key from rfl] at cO
  rw [show maskS 54 (kblk key) = maskB 54 key from rfl] at cI
  have zO := maskB_size 92 key
  have zI := maskB_size 54 key
  have zD := innB_size key text.data.toList
  have eI := innB_text key text
  have eO : macB key text.data.toList = digB (maskB 92 key ++ innB key text.data.toList).data.toList := rfl
  generalize macB key text.data.toList = R at *
  generalize innB key text.data.toList = D at *
  generalize maskB 92 key = O at *
  generalize maskB 54 key = I at *
  generalize kblk key = B at *
  obtain ⟨X, hX⟩ : ∃ X, I ++ text = X := ⟨_, rfl⟩
  obtain ⟨Y, hY⟩ : ∃ Y, O ++ D = Y := ⟨_, rfl⟩
  have sX : X.size = 64 + text.size := by rw [← hX, ByteArray.size_append, zI]
  have sY : Y.size = 96 := by rw [← hY, ByteArray.size_append, zO, zD]
  have hcX : ∀ u : World, (Op.stringOp .add I text).run Tryd.prog u = .ok (.string X) u := fun u => by rw [← hX]; exact run_string_add_sum u _ _ (by omega)
  have hcY : ∀ u : World, (Op.stringOp .add O D).run Tryd.prog u = .ok (.string Y) u := fun u => by rw [← hY]; exact run_string_add_sum u _ _ (by omega)
  have cX := fun u => rsum_any X (by omega) u
  have cY := fun u => rsum_any Y (by omega) u
  rw [hX] at eI
  rw [hY] at eO
  rw [← eI] at cX
  rw [← eO] at cY
  clear eI eO hX hY zO zI sX sY
  go_enter Tryd.func68, Tryd.ntmps68
  go_wp2_with (first
    | (go_at_call 76; refine (cB _).mono ?_; rintro e w0 ⟨rfl, b0⟩)
    | (go_at_call_of 77 (Value.int .u8 92); refine (cO _).mono ?_; rintro e w1 ⟨rfl, b1⟩)
    | (go_at_call_of 77 (Value.int .u8 54); refine (cI _).mono ?_; rintro e w2 ⟨rfl, b2⟩)
    | (go_at_call_of 51 (Value.string X); refine (cX _).mono ?_; rintro e w3 ⟨rfl, b3⟩)
    | (go_at_call_of 51 (Value.string Y); refine (cY _).mono ?_; rintro e w4 ⟨rfl, b4⟩))
  go_ret
  exact ⟨rfl, chain (chain (chain (chain b0 b1) b2) b3) b4⟩

theorem cut_none (R : ByteArray) (n : Int) (h : n < 0) : firB R n = ⟨#[]⟩ := by
  unfold firB cutN
  rw [show min n.toNat 32 = 0 by omega]
  apply ByteArray.ext
  apply Array.ext'
  rw [ByteArray.data_extract, Array.toList_extract, List.extract_eq_take_drop]
  simp
theorem cut_all (R : ByteArray) (hR : R.size = 32) (n : Int) (h : 32 < n) : firB R n = R := by
  unfold firB cutN
  rw [show min n.toNat 32 = R.size by omega]
  apply ByteArray.ext
  apply Array.ext'
  rw [ByteArray.data_extract, Array.toList_extract, List.extract_eq_take_drop, List.drop_zero, Nat.sub_zero]
  exact List.take_of_length_le (Nat.le_of_eq (by simp))
theorem cut_some (R : ByteArray) (n : Nat) (h : n ≤ 32) : firB R n = R.extract 0 n := by
  unfold firB cutN
  rw [show min (n : Int).toNat 32 = n by omega]

set_option maxHeartbeats 2000000 in
theorem rhfirst_any (key text : ByteArray) (hk : key.size ≤ 1000000) (ht : text.size ≤ 1000000) (n : Int) (w : World) :
    Calls Tryd.prog 52 #[.string key, .string text, .int .i64 n] w (Tells (.string (firB (macB key text.data.toList) n)) w.heap.size w) := by
  have cS := fun u => rhsum_any key text hk ht u
  have zR := macB_size key text.data.toList
  generalize macB key text.data.toList = R at *
  by_cases h1 : n < 0
  · rw [cut_none R n h1]
    go_enter Tryd.func52, Tryd.ntmps52
    go_wp2_with (first | (go_at_call 68; refine (cS _).mono ?_; rintro e w1 ⟨rfl, b1⟩))
    go_ret
    exact ⟨rfl, b1⟩
  · by_cases h2 : 32 < n
    · rw [cut_all R zR n h2]
      go_enter Tryd.func52, Tryd.ntmps52
      go_wp2_with (first | (go_at_call 68; refine (cS _).mono ?_; rintro e w1 ⟨rfl, b1⟩))
      go_ret
      exact ⟨rfl, b1⟩
    · obtain ⟨m, rfl⟩ := Int.eq_ofNat_of_zero_le (show 0 ≤ n by omega)
      rw [cut_some R m (by omega)]
      have h3 : (m : Int) ≤ 32 := by omega
      clear h1
      go_enter Tryd.func52, Tryd.ntmps52
      go_wp2_with (first | (go_at_call 68; refine (cS _).mono ?_; rintro e w1 ⟨rfl, b1⟩))
      go_ret
      exact ⟨rfl, b1⟩

set_option maxHeartbeats 2000000 in
theorem rhnumber_any (key text : ByteArray) (hk : key.size ≤ 1000000) (ht : text.size ≤ 1000000) (w : World) :
    Calls Tryd.prog 53 #[.string key, .string text] w (Tells (.int .u64 (macN key text.data.toList)) w.heap.size w) := by
  have cF := fun u => rhsum_any key text hk ht u
  have zR := macB_size key text.data.toList
  have hN : macN key text.data.toList = numB ((nums (macB key text.data.toList)).take 8) := rfl
  generalize macB key text.data.toList = R at *
  have hbd := nums_bd R
  have hlen : (nums R).length = 32 := by rw [nums_len]; exact zR
  have hix : ∀ k, (h : k < R.size) → (R[k].toNat : Int) = (nums R).getD k 0 := fun k h => (nums_at R k h).symm
  rw [hN]
  clear hN
  generalize nums R = l at *
  have HB := hideIt hbd
  have HL := hideIt hlen
  clear hbd hlen
  go_enter Tryd.func53, Tryd.ntmps53
  go_upto_region 4 with (first
    | (go_at_call 68; refine (cF _).mono ?_; rintro e w1 ⟨rfl, b1⟩))
  go_loopg [6, 7] 8 (fun gk v i wr => ∃ k : Nat, k ≤ 8 ∧ gk = 8 - k ∧ i = .int .i64 k ∧ v = .int .u64 (numB (l.take k)) ∧ wr = w1)
  case atStart => exact ⟨0, by omega, rfl, rfl, rfl, rfl⟩
  case round =>
    obtain ⟨k, hk, hgk, rfl, rfl, rfl⟩ := hrel
    have HG := hideIt hgk
    clear hgk
    by_cases hlt : k < 8
    · have b2 : (k : Int) < 8 := by omega
      have hs := numB_step l HB.out k (by have := HL.out; omega)
      have hn := numB_bd8 l HB.out k hlt
      have hb := getD_bd l HB.out k
      have hi := hix k (by omega)
      have hi32 : (k : Int) < 32 := by omega
      obtain ⟨N2, hN2⟩ : ∃ N2, numB (l.take (k + 1)) = N2 := ⟨_, rfl⟩
      rw [hN2] at hs
      have HN2 := hideIt hN2
      clear hN2
      generalize numB (l.take k) = N1 at *
      generalize l.getD k 0 = x at *
      have hw : IntKind.u64.wrap (256 * N1) = 256 * N1 := by rw [IntKind.wrap_u64]; omega
      have hw2 : IntKind.u64.wrap (256 * N1 + x) = N2 := by rw [IntKind.wrap_u64]; omega
      have hwx : IntKind.u64.wrap x = x := by rw [IntKind.wrap_u64]; omega
      clear hix hs
      go_wp2
      go_roundg (8 - (k + 1))
      case measure => have := HG.out; omega
      case rel => exact ⟨k + 1, by omega, rfl, by go_num, by rw [HN2.out], rfl⟩
    · have e : k = 8 := by omega
      subst e
      clear HG
      go_wp2
      go_ret
      exact ⟨rfl, b1⟩
end Go.Proofs.YtkmnfogcocppjaaDoor
